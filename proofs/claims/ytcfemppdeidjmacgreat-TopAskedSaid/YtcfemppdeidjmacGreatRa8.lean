/-
  solve, solved and Answers of package asks, whole.
-/
import Derived.Test.YtcfemppdeidjmacGreatRa7
import Derived.Test.YtcfemppdeidjmacGreatOp
namespace Go.Proofs.YtcfemppdeidjmacGreat.As
open Go.RowKit Go.Deep
open Go.RowKit (Below)
set_option linter.unusedVariables false

variable {w w' w'' w0 : World} {base n gs g m c : Nat} {F F' : Nat → Prop} {L L' : List (Nat × Nat)} {a : Option Addr} {v v' : Value} {l l' : List Bool} {f : Nat → Int × Int × Int}

/-- Solve, of stretches that are not longer. -/
def Solves (w0 : World) (n gs g : Nat) (a : Option Addr) (m c : Nat) (f : Nat → Int × Int × Int) (d : Nat) : Prop :=
  ∀ {w : World} {F : Nat → Prop} {L : List (Nat × Nat)} {v : Value} {l : List Bool} {P : List Nat} {S : List (Nat × Nat)} {vs : Value} {low high : Nat}, high - low ≤ d → Asked w0 w n gs g F L a m c f v l P S vs low high →
    Calls Tryz.prog 113 #[.pointer (some ⟨gs, 0, none⟩), .int .i64 (low : Nat), .int .i64 (high : Nat), vs] w (Solved w0 w n gs g F L a m c f v high)

set_option maxRecDepth 100000 in
set_option maxHeartbeats 1000000 in
theorem solve_more {P : List Nat} {S : List (Nat × Nat)} {vs : Value} {low high d : Nat} (hm : m ≤ 120) (hmay : ∀ k, k < m → May n f k) (hrec : Solves w0 n gs g a m c f d) (hd : high - low ≤ d + 1) (h2 : low + 2 ≤ high) (h : Asked w0 w n gs g F L a m c f v l P S vs low high) :
    Calls Tryz.prog 113 #[.pointer (some ⟨gs, 0, none⟩), .int .i64 (low : Nat), .int .i64 (high : Nat), vs] w (Solved w0 w n gs g F L a m c f v high) := by
  obtain ⟨ax, cs, rfl, -, -, -⟩ := own_edges h.own rfl
  have hwh := whole_any h.sw h.own rfl h.few hmay (fun s hs => ⟨(h.cov.sin s hs).1, (h.cov.sin s hs).2.1⟩) hm (low := low) (high := high) (by have := h.top; omega) (by have := h.top; omega) h.gen
  have hmk := Un.mark_u h.sw.s.u
  have k0 := h.sw.c0
  have HA : Hid (Asked w0 w n gs g F L a m c f v l P S (.slice ax S.length cs) low high) := h
  have HRec : Hid (Solves w0 n gs g a m c f d) := hrec
  have hhm : high ≤ 120 := by have := h.top; omega
  obtain ⟨mid, hmid⟩ : ∃ mid, mid = low + (high - low) / 2 := ⟨_, rfl⟩
  have HMid : Hid (low ≤ mid ∧ mid ≤ high ∧ mid - low ≤ d ∧ high - mid ≤ d) := show _ ∧ _ by omega
  have m1 : (((high : Int) - (low : Int)) == 1) = false := by rw [beq_eq_false_iff_ne]; omega
  have m2 : (1 : Int) < (high : Int) - (low : Int) := by omega
  have m3 : (low : Int) + ((high : Int) - (low : Int)) / 2 = (mid : Int) := by omega
  clear h hmay hrec hd h2 hmid
  go_enter Tryz.func113, Tryz.ntmps113
  go_wp2_with fail
  refine hmk.mono ?_
  rintro e w1 ⟨rfl, rfl⟩
  go_wp2_with fail
  refine hwh.mono ?_
  rintro e w2 ⟨rest, rfl, hJ⟩
  obtain ⟨F2, L2, P2, hW, hMo, hG, hP, M, hM⟩ := hJ.st
  have hown := hJ.own
  rw [List.take_length] at hP hown
  have HW : Hid (SW w0 w2 n gs g F2 L2 a m c f v l ∧ Un.Moves (SF F gs v) w1 w2 (SF F2 gs v) ∧ L2 = M ++ L) := ⟨hW, hMo, hM⟩
  have hA1 : Asked w0 w2 n gs g F2 L2 a m c f v l P2 (S.filter (piece low high)) rest low mid := ⟨hW, own_lower hown HA.out.sw.below.size, Nat.le_trans (List.length_filter_le _ _) HA.out.few, HMid.out.1, Nat.le_trans HMid.out.2.1 HA.out.top, (HA.out.cov.down hP).sub (Nat.le_refl _) HMid.out.2.1, hG, HA.out.ans⟩
  have HA1 : Hid (Asked w0 w2 n gs g F2 L2 a m c f v l P2 (S.filter (piece low high)) rest low mid) := hA1
  have HCov : Hid (Cov f m P2 (S.filter (piece low high)) mid high) := (HA.out.cov.down hP).sub HMid.out.1 (Nat.le_refl _)
  have hs1 := HRec.out HMid.out.2.2.1 hA1
  clear hJ hW hMo hG hP hM hmk hwh hown hA1 k0
  go_wp2_with fail
  clear m3
  refine hs1.mono ?_
  rintro e w3 ⟨r3, F3, v3, l3, rfl, hW3, hM3, hA3⟩
  have hA2 : Asked w0 w3 n gs g F3 L2 a m c f v3 l3 P2 (S.filter (piece low high)) rest mid high := ⟨hW3, HA1.out.sw.two HA1.out.own hM3, HA1.out.few, HMid.out.2.1, HA.out.top, HCov.out, HA1.out.gen, hA3⟩
  have hs2 := HRec.out HMid.out.2.2.2 hA2
  have HM3 : Hid (Un.Moves (SF F gs v) w1 w3 (SF F3 gs v3)) := HW.out.2.1.trans hM3
  clear hs1 hW3 hM3 hA3 hA2 HA1
  go_wp2_with fail
  refine hs2.mono ?_
  rintro e w4 ⟨r4, F4, v4, l4, rfl, hW4, hM4, hA4⟩
  have HW4 : Hid (SW w0 w4 n gs g F4 L2 a m c f v4 l4 ∧ Un.Moves (SF F gs v) w1 w4 (SF F4 gs v4) ∧ L2 = M ++ L ∧ Ans f high l4) := ⟨hW4, HM3.out.trans hM4, HW.out.2.2, hA4⟩
  have hbk := Un.back_u hW4.s.u L.length (by rw [HW.out.2.2]; simp)
  have k0 := hW4.c0
  clear hs2 hW4 hM4 hA4 HW HM3
  go_wp2_with fail
  refine hbk.mono ?_
  rintro e w5 ⟨F5, M5, L5, rfl, h1, h2, h3, h4⟩
  obtain ⟨hW, hMo, hM, hA⟩ := HW4.out
  obtain rfl := back_same hM h1 h2
  obtain ⟨q1, q2⟩ := hW.moved h3 h4
  have HR : Hid (SW w0 w5 n gs g F5 L5 a m c f v4 l4 ∧ Un.Moves (SF F gs v) w1 w5 (SF F5 gs v4) ∧ Ans f high l4) := ⟨q1, hMo.trans q2, hA⟩
  clear hbk h1 h2 h3 h4 hW hMo hM q1 q2 HW4 hA
  go_wp2_with fail
  go_end0
  exact ⟨_, _, _, _, rfl, HR.out⟩

theorem solve_all (hm : m ≤ 120) (hmay : ∀ k, k < m → May n f k) : ∀ d, Solves w0 n gs g a m c f d := by
  intro d
  induction d with
  | zero =>
    intro w F L v l P S vs low high hd h
    obtain rfl : high = low := by have := h.le; omega
    exact solve_none hm hmay h
  | succ d ih =>
    intro w F L v l P S vs low high hd h
    have hle := h.le
    by_cases h0 : high = low
    · subst h0
      exact solve_none hm hmay h
    · by_cases h1 : high = low + 1
      · exact solve_one h1 hm hmay h
      · exact solve_more hm hmay ih hd (by omega) h

set_option maxRecDepth 100000 in
theorem Tryz.zeroSolver (w : World) : (zeroValue 185).run Tryz.prog w = .ok (.agg #[.pointer none, .slice none 0 0, .slice none 0 0]) w := by kernel_rfl

set_option maxRecDepth 100000 in
set_option maxHeartbeats 1000000 in
theorem solved_any {vs : Value} (h : EvAt w0 a m f) (h1 : 1 ≤ n) (h60 : n ≤ 60) (hm : m ≤ 120) (hmay : ∀ k, k < m → May n f k) (hb : Below w0.heap.size w0 w) (hS : w.ownsRow w0.heap.size 233 2 vs (spans f m m).length (twos (spans f m m))) :
    Calls Tryz.prog 80 #[.int .i64 (n : Nat), .slice a m c, vs] w fun e w' => ∃ v l, e = .returned (.tuple #[v, .nilIface]) ∧ Ans f m l ∧ w'.ownsRow w0.heap.size 4 1 v l.length (bools l) ∧ Below w0.heap.size w0 w' := by
  have hnew := Un.new_u (w := w) hb.size n h1 h60
  have HH : Hid (EvAt w0 a m f) := h
  have HMay : Hid (∀ k, k < m → May n f k) := hmay
  have HB : Hid (Below w0.heap.size w0 w) := hb
  have HS : Hid (w.ownsRow w0.heap.size 233 2 vs (spans f m m).length (twos (spans f m m))) := hS
  have hbuild : ∀ (g : Nat) (W : World), (Instr.build 185 #[(0, .pointer (some ⟨g, 0, none⟩)), (1, .slice a m c)]).run Tryz.prog W = .ok (.agg #[.pointer (some ⟨g, 0, none⟩), .slice a m c, .slice none 0 0]) W := fun g W => run_build W 185 _ _ (by kernel_rfl)
  clear h hmay hb hS
  go_enter Tryz.func80, Tryz.ntmps80
  go_wp2_with fail
  refine hnew.mono ?_
  rintro e w1 ⟨g, F, rfl, hb1, hu1, hF1⟩
  clear hnew
  have hbA : Below w1.heap.size w1 (w1.alloc (.cells #[.pointer (some ⟨g, 0, none⟩), .slice a m c, .slice none 0 0] 185)) := (Below.refl _ _).alloc (Nat.le_refl _) _
  have hB1 : Below w0.heap.size w0 w1 := HB.out.trans (hb1.mono HB.out.size)
  have hst := World.rowIs_alloc w1 #[.pointer (some ⟨g, 0, none⟩), .slice a m c, .slice none 0 0] 185 (cells3 g a m c (.slice none 0 0)) (fun i hi => by
    match i, hi with
    | 0, _ => rfl
    | 1, _ => rfl
    | 2, _ => rfl)
  have hsw : SW w0 (w1.alloc (.cells #[.pointer (some ⟨g, 0, none⟩), .slice a m c, .slice none 0 0] 185)) n w1.heap.size g F [] a m c f (.slice none 0 0) [] := ⟨⟨hu1.below hbA, hst, World.ownsRow_nil .., hB1.size⟩, hB1.alloc hB1.size _, HH.out⟩
  have hask : Asked w0 (w1.alloc (.cells #[.pointer (some ⟨g, 0, none⟩), .slice a m c, .slice none 0 0] 185)) n w1.heap.size g F [] a m c f (.slice none 0 0) [] [] (spans f m m) vs 0 m :=
    ⟨hsw, own_same HS.out fun k hk => by rw [hbA.block k (Nat.lt_of_lt_of_le (own_bound HS.out hk).2 hb1.size)]; exact hb1.block k (own_bound HS.out hk).2, Nat.le_trans (by rw [← sofar_end, sofar_len]; exact places_len f 1 m) hm, Nat.zero_le _, Nat.le_refl _, Cov.start HMay.out, Gen.start n, Ans.nil f⟩
  have hsol := solve_all (w0 := w0) (gs := w1.heap.size) (g := g) (a := a) (c := c) hm HMay.out m (Nat.sub_le m 0) hask
  clear hask hsw hst hbA hb1 hu1 hF1 hB1
  obtain ⟨gs, hgs⟩ : ∃ gs, w1.heap.size = gs := ⟨_, rfl⟩
  rw [hgs] at hsol
  go_wp2_with fail
  refine hsol.mono ?_
  rintro e w2 ⟨r2, F2, v2, l2, rfl, hW2, hM2, hA2⟩
  have k2 := hW2.c2
  have HR : Hid (Ans f m l2 ∧ w2.ownsRow w0.heap.size 4 1 v2 l2.length (bools l2) ∧ Below w0.heap.size w0 w2) := ⟨hA2, hW2.s.ans, hW2.below⟩
  clear hsol hW2 hM2 hA2 hgs
  go_wp2_with fail
  go_ret2
  exact ⟨v2, l2, rfl, HR.out⟩

set_option maxRecDepth 100000 in
set_option maxHeartbeats 1000000 in
theorem answers_bad (h : EvAt w a m f) (hfit : Fits f m) (n : Int) (k : Nat) (x : Int) (hE : EFault n m f k x) (hx : x ≠ 0) :
    Calls Tryz.prog 33 #[.int .i64 n, .slice a m c] w fun e w' => e = .returned (.tuple #[.slice none 0 0, .iface 102 (.int .i64 x)]) ∧ Below w.heap.size w w' := by
  have hs := aspans_any (c := c) n h hfit
  have HE : Hid (EFault n m f k x ∧ x ≠ 0) := ⟨hE, hx⟩
  clear h hfit hE hx
  go_enter Tryz.func33, Tryz.ntmps33
  go_wp2_with fail
  refine hs.mono ?_
  rintro e w1 ⟨v, k', x', rfl, hE, hb, h1, h2⟩
  obtain ⟨rfl, rfl⟩ := hE.one HE.out.1
  rw [show errOf x' = .iface 102 (.int .i64 x') from if_neg HE.out.2]
  have HB : Hid (Below w.heap.size w w1) := hb
  clear hs hE hb h1 h2
  go_wp2_with fail
  go_ret2
  exact ⟨rfl, HB.out⟩

set_option maxRecDepth 100000 in
set_option maxHeartbeats 1000000 in
theorem answers_right (h : EvAt w a m f) (h1 : 1 ≤ n) (h60 : n ≤ 60) (hm : m ≤ 120) (hmay : ∀ k, k < m → May n f k) :
    Calls Tryz.prog 33 #[.int .i64 (n : Nat), .slice a m c] w fun e w' => ∃ v l, e = .returned (.tuple #[v, .nilIface]) ∧ Ans f m l ∧ w'.ownsRow w.heap.size 4 1 v l.length (bools l) ∧ Below w.heap.size w w' := by
  have hs := aspans_any (c := c) (n : Nat) h (Fits.of_may h60 hmay)
  have HE : Hid (EFault (n : Nat) m f 0 0) := Or.inr (Or.inr (Or.inr ⟨by omega, hm, by simpa using hmay, rfl, rfl⟩))
  have HH : Hid (EvAt w a m f) := h
  have HMay : Hid (∀ k, k < m → May n f k) := hmay
  clear h hmay
  go_enter Tryz.func33, Tryz.ntmps33
  go_wp2_with fail
  refine hs.mono ?_
  rintro e w1 ⟨v, k', x', rfl, hE, hb, h3, h2⟩
  obtain ⟨rfl, rfl⟩ := hE.one HE.out
  rw [show errOf 0 = .nilIface from if_pos rfl]
  have hsol := solved_any (c := c) HH.out h1 h60 hm HMay.out hb (h2 rfl)
  clear hs hE hb h3 h2
  go_wp2_with fail
  refine hsol.mono ?_
  rintro e w2 ⟨v2, l2, rfl, h4, h5, h6⟩
  have HR : Hid (Ans f m l2 ∧ w2.ownsRow w.heap.size 4 1 v2 l2.length (bools l2) ∧ Below w.heap.size w w2) := ⟨h4, h5, h6⟩
  clear hsol h4 h5 h6
  go_wp2_with fail
  go_ret2
  exact ⟨v2, l2, rfl, HR.out⟩

theorem efault_any (n : Int) (m : Nat) (f : Nat → Int × Int × Int) (h : ¬ Valid n m f) : ∃ k x, EFault n m f k x ∧ x ≠ 0 := by
  by_cases h1 : n < 1 ∨ 60 < n
  · exact ⟨0, 1, Or.inl ⟨h1, rfl, rfl⟩, by decide⟩
  by_cases h2 : 120 < m
  · exact ⟨0, 3, Or.inr (Or.inl ⟨by omega, h2, rfl, rfl⟩), by decide⟩
  have key : ∀ t, t ≤ m → (∃ k x, k < t ∧ (∀ j, j < k → May n.toNat f j) ∧ Bad n.toNat f k x) ∨ ∀ j, j < t → May n.toNat f j := by
    intro t
    induction t with
    | zero => exact fun _ => Or.inr fun j hj => absurd hj (Nat.not_lt_zero _)
    | succ t ih =>
      intro ht
      rcases ih (by omega) with ⟨k, x, q1, q2, q3⟩ | hall
      · exact Or.inl ⟨k, x, by omega, q2, q3⟩
      · rcases Classical.em (eOf f t ∈ here f t) with hin | hin
        · rcases badOf_is (n := n.toNat) (f := f) (k := t) (t := true) (fun _ => by simp [hin]) with ⟨_, hmt⟩ | ⟨_, hb⟩
          · refine Or.inr fun j hj => ?_
            rcases Nat.lt_or_ge j t with q | q
            · exact hall j q
            · obtain rfl : j = t := by omega
              exact hmt
          · exact Or.inl ⟨t, _, by omega, hall, hb⟩
        · rcases badOf_is (n := n.toNat) (f := f) (k := t) (t := false) (fun _ => by simp [hin]) with ⟨_, hmt⟩ | ⟨_, hb⟩
          · refine Or.inr fun j hj => ?_
            rcases Nat.lt_or_ge j t with q | q
            · exact hall j q
            · obtain rfl : j = t := by omega
              exact hmt
          · exact Or.inl ⟨t, _, by omega, hall, hb⟩
  rcases key m (Nat.le_refl _) with ⟨k, x, q1, q2, q3⟩ | hall
  · exact ⟨k, x, Or.inr (Or.inr (Or.inl ⟨by omega, by omega, q1, q2, q3⟩)), q3.pos⟩
  · exact absurd ⟨by omega, by omega, hall⟩ h

/-- What Answers is to answer, it answers. -/
theorem ans_ok : AnsOk where
  no := by
    intro w a m c f n h hfit hv
    obtain ⟨k, x, hE, hx⟩ := efault_any n m f hv
    refine (answers_bad h hfit n k x hE hx).mono ?_
    rintro e w' ⟨rfl, hb⟩
    exact ⟨_, _, _, rfl, hb⟩
  ok := by
    intro w a m c f n h hv
    obtain ⟨k, rfl⟩ := Int.eq_ofNat_of_zero_le (show 0 ≤ n by have := hv.1; omega)
    exact answers_right h (by have := hv.1; omega) (by have := hv.1; omega) hv.2.1 (by simpa using hv.2.2)

end Go.Proofs.YtcfemppdeidjmacGreat.As
