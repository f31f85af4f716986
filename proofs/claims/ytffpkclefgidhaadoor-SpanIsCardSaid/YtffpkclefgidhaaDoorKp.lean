/-
  SpanIs: the span, its weight and the neck are what the statement's own answer says.
-/
import Derived.Test.YtffpkclefgidhaaDoorKn
namespace Go.Proofs.YtffpkclefgidhaaDoor.Sp
open Go.RowKit Go.Deep
open Go.Proofs.YtffpkclefgidhaaDoor.Un
open Go.RowKit (Below)
set_option linter.unusedVariables false

variable {m : Nat} {hv : Nat → Int × Int × Int} {w : World}

theorem places_nil (w : World) : PlacesAt w (.slice none 0 0) [] := ⟨none, 0, rfl, Nat.le_refl _, fun j hj => absurd hj (Nat.not_lt_zero _)⟩

set_option maxHeartbeats 1000000 in
theorem ints_same {v v' : Value} {l : List Nat} (h : PlacesAt w v l) (h' : PlacesAt w v' l) (hn : l.length < 1000000) :
    Calls Tryd.prog 11 #[v, v'] w fun e w' => e = .returned (.bool true) ∧ Below w.heap.size w w' := by
  obtain ⟨a, c, rfl, -, h⟩ := h
  obtain ⟨a', c', rfl, -, h'⟩ := h'
  generalize l.length = n at *
  go_enter Tryd.func11, Tryd.ntmps11
  go_wp2_with fail
  go_loopw [5] (fun i wr => ∃ k : Nat, k ≤ n ∧ i = .int .i64 k ∧ Below w.heap.size w wr) (fun i _ => n - (intOf i).toNat)
  case atStart => exact ⟨0, Nat.zero_le _, rfl, Below.refl _ _⟩
  case round =>
    obtain ⟨k, hk, rfl, hb⟩ := hrel
    by_cases hlt : k < n
    · obtain ⟨b, rfl, hc⟩ := h k hlt
      obtain ⟨b', rfl, hc'⟩ := h' k hlt
      have q1 := Un.cell_keep hb hc
      have q2 := Un.cell_keep hb hc'
      generalize l.getD k 0 = x at *
      have i0 : (0 : Int) ≤ (k : Int) := by omega
      have i1 : (k : Int) < (n : Int) := by omega
      clear h h' hc hc'
      go_wp2_with fail
      go_region_held3 (fun W => W.cell? ⟨b, k, none⟩ = some (.int .i64 (x : Nat)) ∧ W.cell? ⟨b', k, none⟩ = some (.int .i64 (x : Nat))) (exact ⟨q1, q2⟩) (fail)
      go_wp2_with fail
      go_roundw
      case rel => exact ⟨k + 1, by omega, by go_num, hb.drew⟩
      case measure => simp [intOf]; omega
    · go_wp2_with fail
      go_ret
      exact ⟨rfl, hb⟩

theorem errIs (e : Int) : ErrIs (errV e) e := by
  by_cases h : e = 0
  · subst h; exact ⟨Or.inl ⟨errV_none, rfl⟩⟩
  · exact ⟨Or.inr (errV_some h)⟩

/-- The neck is what the statement's own answer says. -/
theorem necks_ref {n a b y e z : Int} {ok : Bool} {n' a' b' : Nat} (hA : Answers n m hv a b n' a' b') (h : Necks n m hv a b y e) (hr : NeckRef m (edOf hv) (wtOf hv) a' b' z ok) : (ok = true ∧ e = 0 ∧ y = z) ∨ (ok = false ∧ e = 4 ∧ y = 0) := by
  rcases h with ⟨k, hf, he, hx⟩ | ⟨hf, hn, hx, he⟩ | ⟨n2, a2, b2, hf, h1, h2, h3, h4, h5, h6, hx, he⟩ | ⟨n2, a2, b2, W, hf, h1, h2, h3, h4, h5, h6, h7, hx, he⟩
  · exact absurd (hf.one hA.fault).2 he
  · exact absurd hA.inside hn
  · obtain ⟨q1, q2, q3⟩ := hA.one ⟨hf, h1, h2, h3, h4, h5⟩
    subst q1 q2 q3
    rcases hr with ⟨q4, _⟩ | ⟨_, hb, q5⟩
    · exact absurd (by rw [q4]; exact (conn_eqv _).refl _) h6
    · rcases hb with ⟨q6, _⟩ | ⟨V, q6, hc, _⟩
      · exact Or.inr ⟨by rw [q5, q6]; decide, he, hx⟩
      · exact absurd (upto_all hc) h6
  · obtain ⟨q1, q2, q3⟩ := hA.one ⟨hf, h1, h2, h3, h4, h5⟩
    subst q1 q2 q3
    rcases hr with ⟨q4, q5, q6⟩ | ⟨hne, hb, q5⟩
    · subst q4
      exact Or.inl ⟨q6, he, by rw [hx, q5, h6.one (neck_self _)]; rfl⟩
    · rcases h7 with q7 | ⟨i, hi, q7⟩
      · exact absurd q7 hne
      · subst q7
        rcases hb with ⟨q8, hl⟩ | ⟨V, q8, hc, hl⟩
        · exact absurd h6.way (hl i hi)
        · have h8 := hl i hi h6.way
          have h9 := h6.least hc
          exact Or.inl ⟨by rw [q5, q8]; simp, he, by rw [hx, q8, Nat.le_antisymm h9 h8]⟩

set_option maxRecDepth 100000 in
set_option maxHeartbeats 4000000 in
theorem spanIs_wrong {ad : Option Addr} {cp : Nat} (hg : ErrType w) (h : HeavyAt w ad m hv) (n a b : Int) {k : Nat} {e : Int} (hF : Fault n m hv k e) (he : e ≠ 0) :
    Calls Tryd.prog 4 #[.int .i64 n, .slice ad m cp, .int .i64 a, .int .i64 b] w fun e w' => e = .returned (.bool true) ∧ Below w.heap.size w w' := by
  obtain ⟨t, ht⟩ := tells_some m (edOf hv) (wtOf hv)
  have HH : Hid (HeavyAt w ad m hv ∧ ErrType w ∧ Tells m (edOf hv) (wtOf hv) t) := ⟨h, hg, ht⟩
  have HF : Hid (Fault n m hv k e) := hF
  have HE : Hid (e ≠ 0) := he
  have hhf := heavyFault_any (c := cp) h n
  have he0 : (e == 0) = false := by rw [beq_eq_false_iff_ne]; exact he
  have hkk : (((k : Nat) : Int) != ((k : Nat) : Int)) = false := by simp
  clear h hg ht hF he
  go_enter Tryd.func4, Tryd.ntmps4
  go_wp2_with fail
  refine hhf.mono ?_
  rintro e1 w1 ⟨k1, x1, rfl, hF1, hb1⟩
  clear hhf
  obtain ⟨rfl, rfl⟩ := HF.out.one hF1
  clear hF1
  have hch := check_any (c := cp) (HH.out.1.below hb1) n
  go_wp2_with fail
  refine hch.mono ?_
  rintro e1 w2 ⟨k2, x2, rfl, hF2, hb2⟩
  clear hch
  obtain ⟨rfl, rfl⟩ := HF.out.one hF2
  clear hF2
  replace hb2 := Un.below_step hb1 hb2
  clear hb1
  have her := error_any (errIs e) (HH.out.2.1.below hb2)
  go_wp2_with fail
  refine her.mono ?_
  rintro e1 w3 ⟨rfl, hb3⟩
  clear her
  replace hb3 := Un.below_step hb2 hb3
  clear hb2
  go_wp2_with fail
  refine wp_loop_rounds 1 ?_
  rw [rounds_succ]
  have hsp := span_any (c := cp) (HH.out.1.below hb3) HH.out.2.2 n
  go_wp2_with fail
  refine hsp.mono ?_
  rintro e1 w4 ⟨v4, x4, k4, rfl, hb4, hF4, hor4⟩
  clear hsp
  obtain ⟨rfl, rfl⟩ := HF.out.one hF4
  obtain rfl : v4 = .slice none 0 0 := by
    rcases hor4 with ⟨_, h⟩ | ⟨h, _⟩
    · exact h
    · exact absurd h HE.out
  clear hF4 hor4
  replace hb4 := Un.below_step hb3 hb4
  clear hb3
  have her := error_any (errIs e) (HH.out.2.1.below hb4)
  go_wp2_with fail
  refine her.mono ?_
  rintro e1 w5 ⟨rfl, hb5⟩
  clear her
  replace hb5 := Un.below_step hb4 hb5
  clear hb4
  have hin := ints_same (places_nil w5) (places_nil w5) (by decide)
  go_wp2_with fail
  refine hin.mono ?_
  rintro e1 w6 ⟨rfl, hb6⟩
  clear hin
  replace hb6 := Un.below_step hb5 hb6
  clear hb5
  have hwe := weight_any (c := cp) (HH.out.1.below hb6) HH.out.2.2 n
  go_wp2_with fail
  refine hwe.mono ?_
  rintro e1 w7 ⟨x7, y7, k7, rfl, hb7, hF7, hor7⟩
  clear hwe
  obtain ⟨rfl, rfl⟩ := HF.out.one hF7
  obtain rfl : x7 = 0 := by
    rcases hor7 with ⟨_, h⟩ | ⟨h, _⟩
    · exact h
    · exact absurd h HE.out
  clear hF7 hor7
  replace hb7 := Un.below_step hb6 hb7
  clear hb6
  have her := error_any (errIs e) (HH.out.2.1.below hb7)
  go_wp2_with fail
  refine her.mono ?_
  rintro e1 w8 ⟨rfl, hb8⟩
  clear her
  replace hb8 := Un.below_step hb7 hb8
  clear hb7
  obtain ⟨p, hp⟩ : ∃ p : Bool, p = true ↔ (0 ≤ a ∧ a < n) := ⟨decide (0 ≤ a ∧ a < n), decide_eq_true_iff⟩
  obtain ⟨q, hq⟩ : ∃ q : Bool, q = true ↔ (0 ≤ b ∧ b < n) := ⟨decide (0 ≤ b ∧ b < n), decide_eq_true_iff⟩
  have hn1 := fun W => node_any n a W p hp
  have hn2 := fun W => node_any n b W q hq
  clear hp hq
  go_wp2_with fail
  refine (hn1 _).mono ?_
  rintro e1 w9 ⟨rfl, rfl⟩
  clear hn1
  go_wp2_with fail
  refine (hn2 _).mono ?_
  rintro e1 w9 ⟨rfl, rfl⟩
  clear hn2
  have hnk := neck_any (c := cp) (HH.out.1.below hb8) n a b
  go_wp2_with fail
  refine hnk.mono ?_
  rintro e1 w10 ⟨x9, y9, rfl, hN, hb9⟩
  clear hnk
  obtain ⟨rfl, rfl⟩ := hN.one (.wrong k e HF.out HE.out)
  clear hN
  replace hb9 := Un.below_step hb8 hb9
  clear hb8
  have her := error_any (errIs y9) (HH.out.2.1.below hb9)
  go_wp2_with fail
  refine her.mono ?_
  rintro e1 w11 ⟨rfl, hb10⟩
  clear her
  replace hb10 := Un.below_step hb9 hb10
  clear hb9
  go_wp2_with fail
  go_ret
  exact ⟨rfl, hb10⟩

end Go.Proofs.YtffpkclefgidhaaDoor.Sp
