/-
  The statements' own answer: a list without a place.
-/
import Derived.Test.YtdlnbeoccakleaaGreatDoorQc
namespace Go.Proofs.YtdlnbeoccakleaaGreatDoor
open Go.RowKit Go.Deep
set_option linter.unusedVariables false

variable {w w' : World} {p p' : Nat → Nat} {E E' : List (Nat × Nat)}

theorem edges_cells {b : Nat} (h : EdgesAt w (some ⟨b, 0, none⟩) E) (j : Nat) (u : Value) (hu : (twos E)[j]? = some u) : w.cell? ⟨b, j, none⟩ = some u := by
  have hj : j < E.length * 2 := by rw [← twos_len]; exact (List.getElem?_eq_some_iff.1 hu).1
  rw [twos_get E j hj] at hu
  obtain ⟨b', e, h1, h2⟩ := h.cell (j / 2) (by omega)
  simp only [Option.some.injEq, Addr.mk.injEq, and_true] at e
  subst e
  generalize E.getD (j / 2) (0, 0) = x at *
  rcases Nat.mod_two_eq_zero_or_one j with c | c
  · rw [c] at hu
    rw [show j / 2 * 2 = j by omega] at h1
    rw [h1, ← hu]; rfl
  · rw [c] at hu
    rw [show j / 2 * 2 + 1 = j by omega] at h2
    rw [h2, ← hu]; rfl

theorem two_one (l : List (Nat × Nat)) : ∀ u ∈ twos l, u.oneCell' = true := fun u hu => by
  simp only [twos, List.mem_flatMap, two, List.mem_cons, List.not_mem_nil, or_false] at hu
  obtain ⟨e, _, rfl | rfl⟩ := hu <;> rfl

theorem add_at (b i j : Nat) : (⟨b, i, none⟩ : Addr).add j = ⟨b, i + j, none⟩ := by unfold Addr.add; split <;> simp_all

theorem twos_app (A B : List (Nat × Nat)) : twos (A ++ B) = twos A ++ twos B := by simp [twos]

set_option maxRecDepth 100000 in
set_option maxHeartbeats 4000000 in
theorem out_any {b m c k : Nat} {x : Nat × Nat} {A B : List (Nat × Nat)} (hE : EdgesAt w (some ⟨b, 0, none⟩) (A ++ x :: B)) (hn : (A ++ B).length = m) (hc : m + 1 ≤ c) (hc2 : c ≤ maxLen) (hn2 : m < 1000000) (hk : A.length = k) :
    Calls Tryz.prog 12 #[.slice (some ⟨b, 0, none⟩) (m + 1) c, .int .i64 (k : Nat)] w fun e w' => ∃ a c', e = .returned (.slice a m c') ∧ Below w.heap.size w w' ∧ There w' w.heap.size a m c' (A ++ B) := by
  obtain ⟨z0, hi0, hz0, hz1, hz2⟩ := info_parts Tryz.infoEdge
  obtain ⟨r, hr⟩ : ∃ r, B.length = r := ⟨_, rfl⟩
  have hkr : m = k + r := by rw [← hn, ← hk, ← hr]; simp
  have HA : Hid (∀ j u, (twos A)[j]? = some u → w.cell? ((⟨b, 0, none⟩ : Addr).add j) = some u) := fun j u hu => by
    have := edges_cells hE j u (by rw [twos_app, List.getElem?_append_left (List.getElem?_eq_some_iff.1 hu).1]; exact hu)
    rw [add_at, Nat.zero_add]; exact this
  have HB : Hid (∀ j u, (twos B)[j]? = some u → w.cell? ⟨b, (k + 1) * 2 + j, none⟩ = some u) := fun j u hu => by
    refine edges_cells hE ((k + 1) * 2 + j) u ?_
    rw [show A ++ x :: B = (A ++ [x]) ++ B by simp, twos_app, List.getElem?_append_right (by rw [twos_len]; simp; omega), twos_len, show (k + 1) * 2 + j - (A ++ [x]).length * 2 = j by simp; omega]
    exact hu
  have HL : Hid ((A ++ B).length = m ∧ A.length = k ∧ B.length = r) := ⟨hn, hk, hr⟩
  clear hE hn hk hr
  have hm2 : maxLen = maxLen := rfl
  go_enter Tryz.func12, Tryz.ntmps12
  have k0 : (0 : Int) ≤ (k : Int) := by omega
  have k1 : (k : Int) ≤ (m + 1 : Nat) := by omega
  have k2 : (k : Int) ≤ (c : Int) := by omega
  go_wp2_with (first
    | (at_builtin; refine wpList_append_own _ rfl (.tmp 6) (.tmp 9) 31 rfl w.heap.size 60 z0 (.agg #[.int .i64 0, .int .i64 0]) 2 16 Tryz.underlying31 hi0 hz0 hz1 hz2 rfl (by decide) (.slice none 0 0) 0 [] rfl (World.ownsRow_nil ..) ⟨b, 0, none⟩ k c (twos A) rfl (by rw [twos_len, HL.out.2.1]) HA.out (two_one A) ?c3 ?c4 ?c5 ?_))
  case c3 => unfold maxLen; omega
  case c4 => omega
  intro v1 w1 hown1 hgrow1 hv1
  have hb1 : Below w.heap.size w w1 := Below.grown (Below.refl _ _) hgrow1 (Nat.le_refl _) (fun k e => by cases e)
  have hs1 := hb1.size
  have HO1 : Hid (w1.ownsRow w.heap.size 60 2 v1 k (twos A)) := hown1
  have HB1 : Hid (Below w.heap.size w w1) := hb1
  clear hown1 hgrow1 hv1 hb1
  have k3 : IntKind.i64.wrap ((k : Int) + 1) = (k : Int) + 1 := by rw [IntKind.wrap_i64]; omega
  have k4 : (0 : Int) ≤ (k : Int) + 1 := by omega
  have k5 : (k : Int) + 1 ≤ ((k + r + 1 : Nat) : Int) := by omega
  obtain ⟨ad, HAd, HC2⟩ : ∃ ad : Addr, Hid (Value.slice (if c = k + 1 then some ⟨b, 0, none⟩ else some ⟨b, (k + 1) * 2, none⟩) r (c - (k + 1)) = .slice (some ad) r (c - (k + 1))) ∧ Hid (∀ j u, (twos B)[j]? = some u → w1.cell? (ad.add j) = some u) := by
    by_cases hck : c = k + 1
    · refine ⟨⟨b, 0, none⟩, show _ = _ by rw [if_pos hck], fun j u hu => ?_⟩
      have h1 : B = [] := List.length_eq_zero_iff.1 (by rw [HL.out.2.2]; omega)
      rw [h1] at hu
      cases hu
    · exact ⟨⟨b, (k + 1) * 2, none⟩, show _ = _ by rw [if_neg hck], fun j u hu => by rw [add_at]; exact cell_keep HB1.out (HB.out j u hu)⟩
  go_wp2_with (first
    | (at_builtin; refine wpList_append_own _ rfl (.tmp 11) (.tmp 15) 31 rfl w.heap.size 60 z0 (.agg #[.int .i64 0, .int .i64 0]) 2 16 Tryz.underlying31 hi0 hz0 hz1 hz2 rfl (by decide) v1 k (twos A) rfl HO1.out ad r (c - (k + 1)) (twos B) HAd.out (by rw [twos_len, HL.out.2.2]) HC2.out (two_one B) ?c3 ?c4 hs1 ?_))
  all_goals first
    | (unfold maxLen; omega)
    | omega
    | skip
  all_goals
    intro v2 w2 hown2 hgrow2 hv2
    have hb2 : Below w.heap.size w w2 := HB1.out.grown hgrow2 hs1 (fun k e => (HO1.out.lt k e).1)
    have hown3 : w2.ownsRow w.heap.size 60 2 v2 m (twos (A ++ B)) := by rw [twos_app, hkr]; exact hown2
    obtain ⟨a9, c9, e9, t9⟩ := own_there hown3 HL.out.1
    subst e9
    have HT : Hid (There w2 w.heap.size a9 m c9 (A ++ B)) := t9
    clear hown2 hgrow2 hv2 hown3 t9
    go_wp2_with fail
    go_ret
    exact ⟨_, _, rfl, hb2, HT.out⟩

end Go.Proofs.YtdlnbeoccakleaaGreatDoor
