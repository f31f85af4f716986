/-
  solve, solved and Answers of package asks.
-/
import Derived.Test.YthhojlbfnffdeabGreatSc
namespace Go.Proofs.YthhojlbfnffdeabGreat.As
open Go.RowKit Go.Deep
open Go.RowKit (Below)
set_option linter.unusedVariables false

variable {w w' w'' w0 : World} {base n gs g m c : Nat} {F F' : Nat → Prop} {L L' : List (Nat × Nat)} {a : Option Addr} {v v' : Value} {l l' : List Bool} {f : Nat → Int × Int × Int}

/-- What solve comes to. -/
def Solved (w0 w : World) (n gs g : Nat) (F : Nat → Prop) (L : List (Nat × Nat)) (a : Option Addr) (m c : Nat) (f : Nat → Int × Int × Int) (v : Value) (high : Nat) (e : Ending) (w' : World) : Prop :=
  ∃ r F' v' l', e = .returned r ∧ SW w0 w' n gs g F' L a m c f v' l' ∧ Un.Moves (SF F gs v) w w' (SF F' gs v') ∧ Ans f high l'

/-- All that solve is called with. -/
structure Asked (w0 w : World) (n gs g : Nat) (F : Nat → Prop) (L : List (Nat × Nat)) (a : Option Addr) (m c : Nat) (f : Nat → Int × Int × Int) (v : Value) (l : List Bool) (P : List Nat) (S : List (Nat × Nat)) (vs : Value) (low high : Nat) : Prop where
  sw : SW w0 w n gs g F L a m c f v l
  own : w.ownsRow w0.heap.size 133 2 vs S.length (twos S)
  few : S.length ≤ 120
  le : low ≤ high
  top : high ≤ m
  cov : Cov f m P S low high
  gen : Gen n (prs f P) L
  ans : Ans f low l

/-- Back to the mark: the links are as they were. -/
theorem back_same {M M' L1 L L' : List (Nat × Nat)} (h : L1 = M ++ L) (h' : L1 = M' ++ L') (hl : L'.length = L.length) : L' = L := same_end (h'.symm.trans h) hl

set_option maxRecDepth 100000 in
set_option maxHeartbeats 2000000 in
theorem solve_none {P : List Nat} {S : List (Nat × Nat)} {vs : Value} {low : Nat} (hm : m ≤ 120) (hmay : ∀ k, k < m → May n f k) (h : Asked w0 w n gs g F L a m c f v l P S vs low low) :
    Calls Tryz.prog 59 #[.pointer (some ⟨gs, 0, none⟩), .int .i64 (low : Nat), .int .i64 (low : Nat), vs] w (Solved w0 w n gs g F L a m c f v low) := by
  obtain ⟨ax, cs, rfl, -, -, -⟩ := own_edges h.own rfl
  have hwh := whole_any h.sw h.own rfl h.few hmay (fun s hs => ⟨(h.cov.sin s hs).1, (h.cov.sin s hs).2.1⟩) hm (low := low) (high := low) (by have := h.top; omega) (by have := h.top; omega) h.gen
  have hmk := Un.mark_u h.sw.s.u
  have k0 := h.sw.c0
  have HA : Hid (Asked w0 w n gs g F L a m c f v l P S (.slice ax S.length cs) low low) := h
  have hlow : low ≤ 120 := by have := h.top; omega
  clear h hmay
  go_enter Tryz.func59, Tryz.ntmps59
  go_wp2_with fail
  refine hmk.mono ?_
  rintro e w1 ⟨rfl, rfl⟩
  go_wp2_with fail
  refine hwh.mono ?_
  rintro e w2 ⟨rest, rfl, hJ⟩
  obtain ⟨F2, L2, P2, hW, hMo, hG, hP, M, hM⟩ := hJ.st
  have HW : Hid (SW w0 w2 n gs g F2 L2 a m c f v l ∧ Un.Moves (SF F gs v) w1 w2 (SF F2 gs v) ∧ L2 = M ++ L) := ⟨hW, hMo, hM⟩
  have hbk := Un.back_u hW.s.u L.length (by rw [hM]; simp)
  replace k0 := hW.c0
  clear hJ hW hMo hG hP hM hmk hwh
  go_wp2_with fail
  refine hbk.mono ?_
  rintro e w3 ⟨F3, M3, L3, rfl, h1, h2, h3, h4⟩
  obtain ⟨hW, hMo, hM⟩ := HW.out
  obtain rfl := back_same hM h1 h2
  obtain ⟨q1, q2⟩ := hW.moved h3 h4
  have HR : Hid (SW w0 w3 n gs g F3 L3 a m c f v l ∧ Un.Moves (SF F gs v) w1 w3 (SF F3 gs v)) := ⟨q1, hMo.trans q2⟩
  clear hbk h1 h2 h3 h4 hW hMo hM q1 q2 HW
  go_wp2_with fail
  go_end0
  exact ⟨_, _, _, _, rfl, HR.out.1, HR.out.2, HA.out.ans⟩

set_option maxRecDepth 100000 in
set_option maxHeartbeats 700000 in
theorem solve_one {P : List Nat} {S : List (Nat × Nat)} {vs : Value} {low high : Nat} (hh : high = low + 1) (hm : m ≤ 120) (hmay : ∀ k, k < m → May n f k) (h : Asked w0 w n gs g F L a m c f v l P S vs low high) :
    Calls Tryz.prog 59 #[.pointer (some ⟨gs, 0, none⟩), .int .i64 (low : Nat), .int .i64 (high : Nat), vs] w (Solved w0 w n gs g F L a m c f v high) := by
  obtain ⟨ax, cs, rfl, -, -, -⟩ := own_edges h.own rfl
  have hwh := whole_any h.sw h.own rfl h.few hmay (fun s hs => ⟨(h.cov.sin s hs).1, (h.cov.sin s hs).2.1⟩) hm (low := low) (high := high) (by have := h.top; omega) (by have := h.top; omega) h.gen
  have hmk := Un.mark_u h.sw.s.u
  have k0 := h.sw.c0
  have HA : Hid (Asked w0 w n gs g F L a m c f v l P S (.slice ax S.length cs) low high) := h
  have HMay : Hid (∀ k, k < m → May n f k) := hmay
  have hlow : low < m := by have := h.top; omega
  have hsub : (high : Int) - (low : Int) = 1 := by omega
  have HHH : Hid (high = low + 1) := hh
  have hsubW : IntKind.i64.wrap ((high : Int) - (low : Int)) = 1 := by rw [IntKind.wrap_i64]; omega
  have hh120 : high ≤ 120 := by have := h.top; omega
  clear h hmay hh
  go_enter Tryz.func59, Tryz.ntmps59
  go_wp2_with fail
  refine hmk.mono ?_
  rintro e w1 ⟨rfl, rfl⟩
  go_wp2_with fail
  refine hwh.mono ?_
  rintro e w2 ⟨rest, rfl, hJ⟩
  obtain ⟨F2, L2, P2, hW, hMo, hG, hP, M, hM⟩ := hJ.st
  rw [List.take_length] at hP
  have HW : Hid (SW w0 w2 n gs g F2 L2 a m c f v l ∧ Un.Moves (SF F gs v) w1 w2 (SF F2 gs v) ∧ L2 = M ++ L) := ⟨hW, hMo, hM⟩
  have HL : Hid ((f low).1 = 3 → ∀ i j, rt L2 i = rt L2 j ↔ Conn (here f low) i j) := fun h3 i j => by
    have hd := HA.out.cov.down hP
    rw [HHH.out] at hd
    exact hd.leaf HMay.out hG h3 i j
  replace k0 := hW.c0
  have k1 := hW.c1
  obtain ⟨b, o, rfl, c1, c2, c3⟩ := hW.ev.below hW.below low hlow
  have i0 : (0 : Int) ≤ (low : Int) := by omega
  have i1 : (low : Int) < (m : Int) := by omega
  have HCall : Hid (Calls Tryz.prog 80 #[.pointer (some ⟨gs, 0, none⟩), .agg #[.int .i64 (f low).1, .int .i64 (f low).2.1, .int .i64 (f low).2.2]] w2 fun e w' => ∃ r v' l', e = .returned r ∧ SW w0 w' n gs g F2 L2 (some ⟨b, o, none⟩) m c f v' l' ∧ Un.Moves (SF F2 gs v) w2 w' (SF F2 gs v') ∧ Ans f high l') := by
    by_cases h3 : (f low).1 = 3
    · have hmy := HMay.out low hlow
      obtain ⟨x, hx⟩ := Int.eq_ofNat_of_zero_le hmy.a.1
      obtain ⟨y, hy⟩ := Int.eq_ofNat_of_zero_le hmy.b.1
      have hmx := hmy.a.2
      have hmyy := hmy.b.2
      rw [hx] at hmx
      rw [hy] at hmyy
      rw [h3, hx, hy]
      have hll := HA.out.ans.len
      have hpl := places_len f 3 low
      refine (answer_ask hW x y (by omega) (by omega) (by omega)).mono ?_
      rintro e w' ⟨r, v', rfl, q1, q2⟩
      rw [HHH.out]
      refine ⟨r, v', _, rfl, q1, q2, HA.out.ans.ask h3 ?_⟩
      rw [decide_eq_true_iff, HL.out h3 x y, hx, hy]
      simp
    · refine (answer_no hW _ _ _ h3).mono ?_
      rintro e w' ⟨r, v', rfl, q1, q2⟩
      rw [HHH.out]
      exact ⟨r, v', _, rfl, q1, q2, HA.out.ans.other h3⟩
  obtain ⟨qe, hqe⟩ : ∃ qe, (f low).1 = qe := ⟨_, rfl⟩
  obtain ⟨xe, hxe⟩ : ∃ xe, (f low).2.1 = xe := ⟨_, rfl⟩
  obtain ⟨ye, hye⟩ : ∃ ye, (f low).2.2 = ye := ⟨_, rfl⟩
  rw [hqe] at c1
  rw [hxe] at c2
  rw [hye] at c3
  rw [hqe, hxe, hye] at HCall
  clear hJ hW hMo hG hP hM hmk hwh hqe hxe hye HL
  go_wp2_with fail
  refine HCall.out.mono ?_
  rintro e w3 ⟨r3, v3, l3, rfl, hW3, hM3, hA3⟩
  obtain ⟨hW, hMo, hM⟩ := HW.out
  have HW3 : Hid (SW w0 w3 n gs g F2 L2 (some ⟨b, o, none⟩) m c f v3 l3 ∧ Un.Moves (SF F gs v) w1 w3 (SF F2 gs v3) ∧ L2 = M ++ L ∧ Ans f high l3) := ⟨hW3, hMo.trans hM3, hM, hA3⟩
  have hbk := Un.back_u hW3.s.u L.length (by rw [hM]; simp)
  replace k0 := hW3.c0
  clear HCall k1 c1 c2 c3 hW3 hM3 hA3 hW hMo hM HW
  go_wp2_with fail
  refine hbk.mono ?_
  rintro e w4 ⟨F4, M4, L4, rfl, h1, h2, h3, h4⟩
  obtain ⟨hW, hMo, hM, hA⟩ := HW3.out
  obtain rfl := back_same hM h1 h2
  obtain ⟨q1, q2⟩ := hW.moved h3 h4
  have HR : Hid (SW w0 w4 n gs g F4 L4 (some ⟨b, o, none⟩) m c f v3 l3 ∧ Un.Moves (SF F gs v) w1 w4 (SF F4 gs v3) ∧ Ans f high l3) := ⟨q1, hMo.trans q2, hA⟩
  clear hbk h1 h2 h3 h4 hW hMo hM q1 q2 HW3 hA
  go_wp2_with fail
  go_end0
  exact ⟨_, _, _, _, rfl, HR.out⟩

end Go.Proofs.YthhojlbfnffdeabGreat.As
