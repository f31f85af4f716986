/-
  UnionOrder: the walk of the statement.
-/
import Derived.Test.YtfnidfbogkfaeaaUo1
import Derived.Test.YtfnidfbogkfaeaaUo2
import Derived.Test.YtfnidfbogkfaeaaUo3
namespace Go.Proofs.Ytfnidfbogkfaeaa
open Go.RowKit Go.Deep
set_option linter.unusedVariables false

theorem one_ne_zero : rt [] (1 : Int).toNat ≠ rt [] (0 : Int).toNat := by decide

/-- The pairs of the first steps made these parts; the other union is as it was. -/
def UpX (w0 : World) (n gv : Nat) (G : Nat → Prop) (f : Nat → Int × Int) (m : Nat) (w : World) (F : Nat → Prop) (L : List (Nat × Nat)) : Prop :=
  (∃ E, Gen n E L ∧ ∀ a b, (a, b) ∈ E ↔ ∃ i, i < m ∧ f i = (a, b)) ∧ UAt w0.heap.size n w gv G [] ∧ ∀ k, F k → ¬ G k

theorem upX_keep (w0 : World) (n g gv : Nat) (G : Nat → Prop) (f : Nat → Int × Int) (la : Nat) : oaX w0 n g f la (UpX w0 n gv G f) := by
  intro m w F L w' F' L' _ _ hx hu hm hu' hj
  obtain ⟨⟨E, hE, hmem⟩, hv, ha⟩ := hx
  obtain ⟨hv', ha'⟩ := hv.apart hm ha
  refine ⟨⟨((f m).1, (f m).2) :: E, hE.step hj, fun a b => ?_⟩, hv', ha'⟩
  rw [List.mem_cons, hmem]
  constructor
  · rintro (h | ⟨i, hi, h⟩)
    · exact ⟨m, by omega, by rw [h]⟩
    · exact ⟨i, by omega, h⟩
  · rintro ⟨i, hi, h⟩
    by_cases e : i = m
    · subst e; exact Or.inl (by rw [h])
    · exact Or.inr ⟨i, by omega, h⟩

/-- The pairs of the last steps made these parts, the other way round. -/
def DownX (w0 : World) (n g : Nat) (F : Nat → Prop) (L : List (Nat × Nat)) (f : Nat → Int × Int) (la : Nat) (j : Nat) (w : World) (G : Nat → Prop) (M : List (Nat × Nat)) : Prop :=
  (∃ E, Gen n E M ∧ ∀ a b, (a, b) ∈ E ↔ ∃ i, j ≤ i ∧ i < la ∧ i < 60 ∧ f i = (b, a)) ∧ UAt w0.heap.size n w g F L ∧ ∀ k, G k → ¬ F k

theorem downX_keep (w0 : World) (n g gv : Nat) (F : Nat → Prop) (L : List (Nat × Nat)) (f : Nat → Int × Int) (la : Nat) : odX w0 n gv f la (DownX w0 n g F L f la) := by
  intro m w G M w' G' M' hla h60 hx hu hm hu' hj
  obtain ⟨⟨E, hE, hmem⟩, hv, ha⟩ := hx
  obtain ⟨hv', ha'⟩ := hv.apart hm ha
  refine ⟨⟨((f m).2, (f m).1) :: E, hE.step hj, fun a b => ?_⟩, hv', ha'⟩
  rw [List.mem_cons, hmem]
  constructor
  · rintro (h | ⟨i, hi, h1, h2, h⟩)
    · refine ⟨m, by omega, hla, h60, ?_⟩
      simp only [Prod.mk.injEq] at h
      rw [h.1, h.2]
    · exact ⟨i, by omega, h1, h2, h⟩
  · rintro ⟨i, hi, h1, h2, h⟩
    by_cases e : i = m
    · subst e; exact Or.inl (by rw [h])
    · exact Or.inr ⟨i, by omega, h1, h2, h⟩

theorem downX_pass (w0 : World) (n g : Nat) (F : Nat → Prop) (L : List (Nat × Nat)) (f : Nat → Int × Int) (la : Nat) (m : Nat) (w : World) (G : Nat → Prop) (M : List (Nat × Nat)) (hm : m < la) (h60 : ¬ m < 60) (hx : DownX w0 n g F L f la (m + 1) w G M) : DownX w0 n g F L f la m w G M := by
  obtain ⟨⟨E, hE, hmem⟩, hv, ha⟩ := hx
  refine ⟨⟨E, hE, fun a b => ?_⟩, hv, ha⟩
  rw [hmem]
  constructor
  · rintro ⟨i, hi, h1, h2, h⟩
    exact ⟨i, by omega, h1, h2, h⟩
  · rintro ⟨i, hi, h1, h2, h⟩
    exact ⟨i, by omega, h1, h2, h⟩

set_option maxRecDepth 100000 in
set_option maxHeartbeats 4000000 in
theorem order_no {a : Option Addr} {la ca : Nat} {w : World} (n : Int) (hn : n < 1 ∨ 60 < n) :
    Calls Try.prog 6 #[.int .i64 n, .slice a la ca] w fun e w' => e = .returned (.bool true) ∧ Below w.heap.size w w' := by
  go_enter Try.func6, Try.ntmps6
  go_wp2_with fail
  refine (new_u (base := w.heap.size) (Nat.le_refl _) 2 (by omega) (by omega)).mono ?_
  rintro e w1 ⟨gz, Fz, rfl, hB, hu, _⟩
  go_wp2_with fail
  refine (join_u hu hB.size 1 0).mono ?_
  rintro e w2 ⟨x, err, F2, L2, rfl, hu2, hm2, hj, hx⟩
  have hy := hx ⟨by omega, by omega, by omega, by omega⟩
  clear hx
  obtain ⟨rfl, hz⟩ := hy
  obtain rfl := hz.2 one_ne_zero
  have hB2 := Moves.below hB hB.size (fun k hk => (hu.lt hk).2) hm2
  clear hz hB hm2 hu hj hu2
  go_wp2_with fail
  refine (new_no n hn).mono ?_
  rintro e w5 ⟨rfl, rfl⟩
  go_wp2_with fail
  refine (new_no n hn).mono ?_
  rintro e w5 ⟨rfl, rfl⟩
  go_wp2_with fail
  go_ret
  exact ⟨rfl, hB2⟩

set_option maxRecDepth 100000 in
set_option maxHeartbeats 8000000 in
theorem order_yes {a : Option Addr} {la ca : Nat} {w : World} {f : Nat → Int × Int} (hs : ScriptAt w a la f) (hla : la ≤ 9223372036854775807) (n : Nat) (h1 : 1 ≤ n) (h2 : n ≤ 60) :
    Calls Try.prog 6 #[.int .i64 (n : Nat), .slice a la ca] w fun e w' => e = .returned (.bool true) ∧ Below w.heap.size w w' := by
  go_enter Try.func6, Try.ntmps6
  go_wp2_with fail
  refine (new_u (base := w.heap.size) (Nat.le_refl _) 2 (by omega) (by omega)).mono ?_
  rintro e w1 ⟨gz, Fz, rfl, hB, hu, _⟩
  go_wp2_with fail
  refine (join_u hu hB.size 1 0).mono ?_
  rintro e w2 ⟨x, err, F2, L2, rfl, hu2, hm2, hj, hx⟩
  have hy := hx ⟨by omega, by omega, by omega, by omega⟩
  clear hx
  obtain ⟨rfl, hz⟩ := hy
  obtain rfl := hz.2 one_ne_zero
  have hB2 := Moves.below hB hB.size (fun k hk => (hu.lt hk).2) hm2
  clear hz hB hm2 hu hj hu2
  go_wp2_with fail
  refine (new_u hB2.size n h1 h2).mono ?_
  rintro e w3 ⟨g, F, rfl, hB3, hu, _⟩
  replace hB2 := below_step hB2 hB3
  clear hB3
  go_wp2_with fail
  refine (new_u hB2.size n h1 h2).mono ?_
  rintro e w4 ⟨gv, G, rfl, hB4, hv, hG⟩
  have hap : ∀ k, F k → ¬ G k := fun k h1 h2 => by have := (hu.lt h1).1; have := hG k h2; omega
  replace hu := hu.below hB4
  replace hB2 := below_step hB2 hB4
  clear hB4 hG
  have hX : UpX w n gv G f 0 w4 F [] := ⟨⟨[], Gen.start n, fun a b => ⟨fun h => absurd h (by simp), fun ⟨i, hi, _⟩ => absurd hi (Nat.not_lt_zero _)⟩⟩, hv, hap⟩
  clear hv hap
  go_wp2_with fail
  refine oa_loop (X := UpX w n gv G f) hs (upX_keep w n g gv G f la) hu hB2 hX _ ?_ rfl
  clear hu hB2 hX
  rintro m A w5 hm ⟨U, F, L, hm1, hm2, hu, hB, hX, rfl⟩
  obtain ⟨⟨E, hE, hmem⟩, hv, hap⟩ := hX
  have hY : DownX w n g F L f la la w5 G [] := ⟨⟨[], Gen.start n, fun a b => ⟨fun h => absurd h (by simp), fun ⟨i, hi, h, _⟩ => by omega⟩⟩, hu, fun k h1 h2 => hap k h2 h1⟩
  clear hu hap
  have HE : Hid (Gen n E L ∧ ∀ a b, (a, b) ∈ E ↔ ∃ i, i < m ∧ f i = (a, b)) := ⟨hE, hmem⟩
  have HM : Hid ((m = la ∨ m = 60) ∧ m ≤ la ∧ m ≤ 60) := ⟨hm, hm1, hm2⟩
  clear hE hmem hm hm1 hm2
  go_wp2_with fail
  refine od_loop (X := DownX w n g F L f la) hs (downX_keep w n g gv F L f la) (downX_pass w n g F L f la) hla hv hB hY _ ?_ rfl
  clear hv hB hY
  rintro A w6 ⟨U, G, M, _, hv, hB, ⟨⟨E2, hE2, hmem2⟩, hu, _⟩, rfl⟩
  have hsame : ∀ i j, rt L i = rt L j ↔ rt M i = rt M j := HE.out.1.same hE2 fun a b => by
    rw [HE.out.2, hmem2]
    obtain ⟨q1, q2, q3⟩ := HM.out
    constructor
    · rintro ⟨i, hi, h⟩
      exact ⟨i, Nat.zero_le _, by omega, by omega, h⟩
    · rintro ⟨i, _, h1, h2, h⟩
      exact ⟨i, by omega, h⟩
  have hlen : L.length = M.length := links_same hu.linked.1 hv.linked.1 hsame
  have hf : TW w n g gv F G L M w6 := ⟨hu, hv, hB⟩
  have HL : Hid (L.length = M.length) := hlen
  have hl := links_lt hu.linked.1 h1
  clear HE HM hE2 hmem2 hu hv hB hlen
  go_wp2_with fail
  refine oo_loop hsame h2 hf _ ?_ rfl
  clear hf hsame
  rintro A w7 ⟨U, _, hf, rfl⟩
  go_wp2_with fail
  refine (parts_u hf.u).mono ?_
  rintro e w8 ⟨rfl, hB⟩
  replace hf := hf.step hB
  clear hB
  go_wp2_with fail
  refine (parts_u hf.v).mono ?_
  rintro e w9 ⟨rfl, hB⟩
  replace hf := hf.step hB
  clear hB
  rw [← HL.out]
  go_wp2_with fail
  refine (mark_u hf.u).mono ?_
  rintro e w10 ⟨rfl, rfl⟩
  go_wp2_with fail
  refine (mark_u hf.v).mono ?_
  rintro e w11 ⟨rfl, rfl⟩
  rw [← HL.out]
  go_wp2_with fail
  go_ret
  exact ⟨rfl, hf.below⟩

theorem order_all {a : Option Addr} {la ca : Nat} {w : World} {f : Nat → Int × Int} (hs : ScriptAt w a la f) (hla : la ≤ 9223372036854775807) (n : Int) :
    Calls Try.prog 6 #[.int .i64 n, .slice a la ca] w fun e w' => e = .returned (.bool true) ∧ Below w.heap.size w w' := by
  by_cases hn : 1 ≤ n ∧ n ≤ 60
  · obtain ⟨k, rfl⟩ := Int.eq_ofNat_of_zero_le (by omega : 0 ≤ n)
    exact order_yes hs hla k (by omega) (by omega)
  · exact order_no n (by omega)

end Go.Proofs.Ytfnidfbogkfaeaa
