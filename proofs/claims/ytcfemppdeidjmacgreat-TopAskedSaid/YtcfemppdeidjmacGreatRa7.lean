/-
  answer of package asks.
  solve, solved and Answers of package asks.
-/
import Derived.Test.YtcfemppdeidjmacGreatRa6
namespace Go.Proofs.YtcfemppdeidjmacGreat.As
open Go.RowKit Go.Deep
open Go.RowKit (Below)
set_option linter.unusedVariables false

variable {w w' w'' w0 : World} {base n gs g m c : Nat} {F F' : Nat → Prop} {L L' : List (Nat × Nat)} {a : Option Addr} {v v' : Value} {l l' : List Bool} {f : Nat → Int × Int × Int}

/-- What answer comes to. -/
def Answered (w0 w : World) (n gs g : Nat) (F : Nat → Prop) (L : List (Nat × Nat)) (a : Option Addr) (m c : Nat) (f : Nat → Int × Int × Int) (v : Value) (l' : List Bool) (e : Ending) (w' : World) : Prop :=
  ∃ r v', e = .returned r ∧ SW w0 w' n gs g F L a m c f v' l' ∧ Un.Moves (SF F gs v) w w' (SF F gs v')

set_option maxRecDepth 100000 in
set_option maxHeartbeats 1000000 in
theorem answer_no (h : SW w0 w n gs g F L a m c f v l) (q x y : Int) (hq : q ≠ 3) :
    Calls Tryz.prog 162 #[.pointer (some ⟨gs, 0, none⟩), .agg #[.int .i64 q, .int .i64 x, .int .i64 y]] w (Answered w0 w n gs g F L a m c f v l) := by
  have hb : Below w.heap.size w (w.alloc (.cells #[.int .i64 q, .int .i64 x, .int .i64 y] 80)) := (Below.refl _ _).alloc (Nat.le_refl _) _
  have HE : Hid (SW w0 (w.alloc (.cells #[.int .i64 q, .int .i64 x, .int .i64 y] 80)) n gs g F L a m c f v l ∧ Un.Moves (SF F gs v) w (w.alloc (.cells #[.int .i64 q, .int .i64 x, .int .i64 y] 80)) (SF F gs v)) := ⟨h.step hb, Un.Moves.of_below hb⟩
  have t1 : (q != 3) = true := by rw [bne_iff_ne]; exact hq
  clear h hb hq
  go_enter Tryz.func162, Tryz.ntmps162
  go_wp2_with fail
  go_end0
  exact ⟨_, v, rfl, HE.out⟩

/-- The answers have grown, and are put in their place. -/
theorem SW.answer {wA w6 : World} {g1 K cap : Nat} {d : Bool} (h : SW w0 wA n gs g F L a m c f v l) (hm : Un.Moves (SF F gs v) w wA (SF F gs v)) (hK : l.length = K)
    (hown : w6.ownsRow w0.heap.size 4 1 (.slice (some ⟨g1, 0, none⟩) (K + 1) cap) (K + 1) (bools l ++ [.bool d])) (hg : wA.grownBy w6 v.ownBlock) (hat : v.ownBlock = some g1 ∨ g1 = wA.heap.size) :
    (w6.cell? ⟨gs, 2, none⟩ = some v ∧ w6.frozen? ⟨gs, 2, none⟩ = false) ∧ SW w0 (w6.setCell ⟨gs, 2, none⟩ (.slice (some ⟨g1, 0, none⟩) (K + 1) cap)) n gs g F L a m c f (.slice (some ⟨g1, 0, none⟩) (K + 1) cap) (l ++ [d]) ∧
      Un.Moves (SF F gs v) w (w6.setCell ⟨gs, 2, none⟩ (.slice (some ⟨g1, 0, none⟩) (K + 1) cap)) (SF F gs (.slice (some ⟨g1, 0, none⟩) (K + 1) cap)) := by
  have hgs := h.s.st.lt
  have hne : g1 ≠ gs := by
    rcases hat with e | e
    · exact (h.s.v_off e).2
    · omega
  have hst : w6.rowIs gs 185 3 (cells3 g a m c v) := h.s.st.of_block (hg.block gs hgs fun e => (h.s.v_off e.symm).2 rfl)
  have hb6 : Below w0.heap.size w0 w6 := h.below.grown hg h.below.size fun k e => (own_bound h.s.ans e).1
  refine ⟨⟨hst.cell (i := 2) (by omega), hst.frozen 2⟩, ⟨⟨?_, ?_, ?_, h.s.bg⟩, hb6.setCell h.s.bg _, h.ev⟩, ?_⟩
  · obtain ⟨ba, bs, vj, hL, hF⟩ := h.s.u
    refine ⟨ba, bs, vj, hL.keep fun k hk => ?_, hF⟩
    have hFk := (hF k).2 hk
    rw [Below.heap_setCell _ _ _ _ (fun e => h.s.gs_off (by have e' : k = gs := e; rw [← e']; exact hFk))]
    exact hg.block k (h.s.u.lt hFk).1 fun e => (h.s.v_off e.symm).1 hFk
  · refine (hst.set 2 _).congr fun i hi => ?_
    match i, hi with
    | 0, _ => rfl
    | 1, _ => rfl
    | 2, _ => rfl
  · rw [bools_snoc, List.length_append, hK]
    exact ownsRow_setCell_other hown (a := ⟨gs, 2, none⟩) (by simp [Value.ownBlock]; exact hne) _
  · have hsz := hg.size
    refine ⟨hg.os.trans hm.os, hg.tape.trans hm.tape, hg.output.trans hm.output, Nat.le_trans hm.size (by simpa [World.setCell] using hsz), fun k hk hn => ?_, fun k hk => ?_⟩
    · rw [Below.heap_setCell _ _ _ _ (fun e => hn (Or.inr (Or.inl e))), hg.block k (Nat.lt_of_lt_of_le hk hm.size) (fun e => hn (Or.inr (Or.inr e.symm)))]
      exact hm.block k hk hn
    · rcases hk with e | e | e
      · exact Or.inl (Or.inl e)
      · exact Or.inl (Or.inr (Or.inl e))
      · cases e
        rcases hat with e | e
        · exact Or.inl (Or.inr (Or.inr e))
        · exact Or.inr (by have := hm.size; show w.heap.size ≤ g1; omega)

set_option maxRecDepth 100000 in
set_option maxHeartbeats 2000000 in
theorem answer_ask (h : SW w0 w n gs g F L a m c f v l) (x y : Nat) (hx : x < n) (hy : y < n) (hl : l.length ≤ 120) :
    Calls Tryz.prog 162 #[.pointer (some ⟨gs, 0, none⟩), .agg #[.int .i64 3, .int .i64 (x : Nat), .int .i64 (y : Nat)]] w (Answered w0 w n gs g F L a m c f v (l ++ [decide (rt L x = rt L y)])) := by
  obtain ⟨y0, hj0, hy0, hy1, hy2⟩ := info_parts Tryz.infoBool
  have hb : Below w.heap.size w (w.alloc (.cells #[.int .i64 3, .int .i64 (x : Int), .int .i64 (y : Int)] 80)) := (Below.refl _ _).alloc (Nat.le_refl _) _
  have HA : Hid (SW w0 (w.alloc (.cells #[.int .i64 3, .int .i64 (x : Int), .int .i64 (y : Int)] 80)) n gs g F L a m c f v l ∧ Un.Moves (SF F gs v) w (w.alloc (.cells #[.int .i64 3, .int .i64 (x : Int), .int .i64 (y : Int)] 80)) (SF F gs v)) := ⟨h.step hb, Un.Moves.of_below hb⟩
  obtain ⟨W1, hW1⟩ : ∃ W1, w.alloc (.cells #[.int .i64 3, .int .i64 (x : Int), .int .i64 (y : Int)] 80) = W1 := ⟨_, rfl⟩
  obtain ⟨eb, heb⟩ : ∃ eb, w.heap.size = eb := ⟨_, rfl⟩
  have e0 : W1.cell? ⟨eb, 0, none⟩ = some (.int .i64 3) := by rw [← hW1, ← heb]; simp
  have e1 : W1.cell? ⟨eb, 1, none⟩ = some (.int .i64 (x : Int)) := by rw [← hW1, ← heb]; simp
  have e2 : W1.cell? ⟨eb, 2, none⟩ = some (.int .i64 (y : Int)) := by rw [← hW1, ← heb]; simp
  rw [hW1] at HA
  obtain ⟨d, hd⟩ : ∃ d, decide (rt L x = rt L y) = d := ⟨_, rfl⟩
  rw [hd]
  have HC : Hid (∀ W, Below W1.heap.size W1 W → Calls Tryz.prog 19 #[.pointer (some ⟨g, 0, none⟩), .int .i64 (x : Nat), .int .i64 (y : Nat)] W fun e w' => e = .returned (.tuple #[.bool d, .nilIface]) ∧ Below W.heap.size W w') := fun W hW => by
    have := Un.same_u (HA.out.1.step hW).s.u x y hx hy
    rw [hd] at this
    exact this
  have k0 := HA.out.1.c0
  have HKeep : Hid (∀ W, Below W1.heap.size W1 W → (W.cell? ⟨gs, 0, none⟩ = some (.pointer (some ⟨g, 0, none⟩)) ∧ W.cell? ⟨eb, 1, none⟩ = some (.int .i64 (x : Int)) ∧ W.cell? ⟨eb, 2, none⟩ = some (.int .i64 (y : Int)))) := fun W hW => ⟨cell_keep hW k0, cell_keep hW e1, cell_keep hW e2⟩
  clear h hb hd hx hy
  go_enter Tryz.func162, Tryz.ntmps162
  go_wp2_with (first | rw [hW1])
  go_region_held3 (fun V => V.cell? ⟨gs, 0, none⟩ = some (.pointer (some ⟨g, 0, none⟩)) ∧ V.cell? ⟨eb, 1, none⟩ = some (.int .i64 (x : Int)) ∧ V.cell? ⟨eb, 2, none⟩ = some (.int .i64 (y : Int))) (first | (go_keep; done) | exact ⟨k0, e1, e2⟩ | exact HKeep.out _ hB)
    (first
      | (go_at_call 19; refine (HC.out W1 (Below.refl _ _)).mono ?_; rintro e w5 ⟨rfl, hb5⟩; have hB : Below W1.heap.size W1 w5 := hb5)
      | (go_at_call 19; refine (HC.out W1.drew (Below.refl _ _).drew).mono ?_; rintro e w5 ⟨rfl, hb5⟩; have hB : Below W1.heap.size W1 w5 := below_step (Below.refl _ _).drew hb5))
  have HW5 : Hid (SW w0 w5 n gs g F L a m c f v l ∧ Un.Moves (SF F gs v) w w5 (SF F gs v)) := ⟨HA.out.1.step hB, HA.out.2.trans (Un.Moves.of_below hB)⟩
  have g2 := HW5.out.1.c2
  have hv := HW5.out.1.s.ans
  obtain ⟨K, hK⟩ : ∃ K, l.length = K := ⟨_, rfl⟩
  rw [hK] at hv hl
  have HV : Hid (w5.ownsRow w0.heap.size 4 1 v K (bools l)) := hv
  have hs5 : w0.heap.size ≤ w5.heap.size := HW5.out.1.below.size
  have HK : Hid (l.length = K) := hK
  clear hv hK hb5 hB HC HKeep k0 e0 e1 e2 HA hW1 heb
  go_wp2_with (first
    | (at_builtin; refine wpList_append_lies _ rfl (.tmp 25) (.tmp 27) 60 rfl w0.heap.size 4 y0 (.bool false) 1 1 Tryz.underlying60 hj0 hy0 hy1 hy2 rfl (by decide) v K (bools l) rfl (HV.out.alloc _) ⟨w5.heap.size, 0, none⟩ 1 1 [.bool d] rfl rfl (cell_one_new _ _ _) ?c2 (by decide) ?c3 ?c4 ?c5 _ rfl ?_))
  case c2 => intro z hz; simp at hz; subst hz; rfl
  case c3 => unfold maxLen; omega
  case c4 => omega
  case c5 => simp; omega
  intro g1 cap1 w6 hown hgrow hat hlt2
  have hbA : Below w5.heap.size w5 (w5.alloc (.cells #[.bool d] 4)) := (Below.refl _ _).alloc (Nat.le_refl _) _
  obtain ⟨⟨k2, fz⟩, hR1, hR2⟩ := (HW5.out.1.step hbA).answer (HW5.out.2.trans (Un.Moves.of_below hbA)) HK.out hown hgrow (by simpa using hat)
  have HR : Hid (SW w0 (w6.setCell ⟨gs, 2, none⟩ (.slice (some ⟨g1, 0, none⟩) (K + 1) cap1)) n gs g F L a m c f (.slice (some ⟨g1, 0, none⟩) (K + 1) cap1) (l ++ [d]) ∧ Un.Moves (SF F gs v) w (w6.setCell ⟨gs, 2, none⟩ (.slice (some ⟨g1, 0, none⟩) (K + 1) cap1)) (SF F gs (.slice (some ⟨g1, 0, none⟩) (K + 1) cap1))) := ⟨hR1, hR2⟩
  clear hown hgrow hat hlt2 hbA hR1 hR2 HW5 HV g2
  go_wp2_with fail
  go_end0
  exact ⟨_, _, rfl, HR.out⟩

end Go.Proofs.YtcfemppdeidjmacGreat.As

namespace Go.Proofs.YtcfemppdeidjmacGreat.As
open Go.RowKit Go.Deep
open Go.RowKit (Below)
set_option linter.unusedVariables false

variable {w w' w'' w0 : World} {base n gs g m c : Nat} {F F' : Nat → Prop} {L L' : List (Nat × Nat)} {a : Option Addr} {v v' : Value} {l l' : List Bool} {f : Nat → Int × Int × Int}

/-- What solve comes to. -/
def Solved (w0 w : World) (n gs g : Nat) (F : Nat → Prop) (L : List (Nat × Nat)) (a : Option Addr) (m c : Nat) (f : Nat → Int × Int × Int) (v : Value) (high : Nat) (e : Ending) (w' : World) : Prop :=
  ∃ r F' v' l', e = .returned r ∧ SW w0 w' n gs g F' L a m c f v' l' ∧ Un.Moves (SF F gs v) w w' (SF F' gs v') ∧ Ans f high l'

/-- All that solve is called with. -/
structure Asked (w0 w : World) (n gs g : Nat) (F : Nat → Prop) (L : List (Nat × Nat)) (a : Option Addr) (m c : Nat) (f : Nat → Int × Int × Int) (v : Value) (l : List Bool) (P : List Nat) (S : List (Nat × Nat)) (vs : Value) (low high : Nat) : Prop where
  sw : SW w0 w n gs g F L a m c f v l
  own : w.ownsRow w0.heap.size 233 2 vs S.length (twos S)
  few : S.length ≤ 120
  le : low ≤ high
  top : high ≤ m
  cov : Cov f m P S low high
  gen : Gen n (prs f P) L
  ans : Ans f low l

/-- Back to the mark: the links are as they were. -/
theorem back_same {M M' L1 L L' : List (Nat × Nat)} (h : L1 = M ++ L) (h' : L1 = M' ++ L') (hl : L'.length = L.length) : L' = L := same_end (h'.symm.trans h) hl

set_option maxRecDepth 100000 in
set_option maxHeartbeats 2000000 in
theorem solve_none {P : List Nat} {S : List (Nat × Nat)} {vs : Value} {low : Nat} (hm : m ≤ 120) (hmay : ∀ k, k < m → May n f k) (h : Asked w0 w n gs g F L a m c f v l P S vs low low) :
    Calls Tryz.prog 113 #[.pointer (some ⟨gs, 0, none⟩), .int .i64 (low : Nat), .int .i64 (low : Nat), vs] w (Solved w0 w n gs g F L a m c f v low) := by
  obtain ⟨ax, cs, rfl, -, -, -⟩ := own_edges h.own rfl
  have hwh := whole_any h.sw h.own rfl h.few hmay (fun s hs => ⟨(h.cov.sin s hs).1, (h.cov.sin s hs).2.1⟩) hm (low := low) (high := low) (by have := h.top; omega) (by have := h.top; omega) h.gen
  have hmk := Un.mark_u h.sw.s.u
  have k0 := h.sw.c0
  have HA : Hid (Asked w0 w n gs g F L a m c f v l P S (.slice ax S.length cs) low low) := h
  have hlow : low ≤ 120 := by have := h.top; omega
  clear h hmay
  go_enter Tryz.func113, Tryz.ntmps113
  go_wp2_with fail
  refine hmk.mono ?_
  rintro e w1 ⟨rfl, rfl⟩
  go_wp2_with fail
  refine hwh.mono ?_
  rintro e w2 ⟨rest, rfl, hJ⟩
  obtain ⟨F2, L2, P2, hW, hMo, hG, hP, M, hM⟩ := hJ.st
  have HW : Hid (SW w0 w2 n gs g F2 L2 a m c f v l ∧ Un.Moves (SF F gs v) w1 w2 (SF F2 gs v) ∧ L2 = M ++ L) := ⟨hW, hMo, hM⟩
  have hbk := Un.back_u hW.s.u L.length (by rw [hM]; simp)
  replace k0 := hW.c0
  clear hJ hW hMo hG hP hM hmk hwh
  go_wp2_with fail
  refine hbk.mono ?_
  rintro e w3 ⟨F3, M3, L3, rfl, h1, h2, h3, h4⟩
  obtain ⟨hW, hMo, hM⟩ := HW.out
  obtain rfl := back_same hM h1 h2
  obtain ⟨q1, q2⟩ := hW.moved h3 h4
  have HR : Hid (SW w0 w3 n gs g F3 L3 a m c f v l ∧ Un.Moves (SF F gs v) w1 w3 (SF F3 gs v)) := ⟨q1, hMo.trans q2⟩
  clear hbk h1 h2 h3 h4 hW hMo hM q1 q2 HW
  go_wp2_with fail
  go_end0
  exact ⟨_, _, _, _, rfl, HR.out.1, HR.out.2, HA.out.ans⟩

set_option maxRecDepth 100000 in
set_option maxHeartbeats 700000 in
theorem solve_one {P : List Nat} {S : List (Nat × Nat)} {vs : Value} {low high : Nat} (hh : high = low + 1) (hm : m ≤ 120) (hmay : ∀ k, k < m → May n f k) (h : Asked w0 w n gs g F L a m c f v l P S vs low high) :
    Calls Tryz.prog 113 #[.pointer (some ⟨gs, 0, none⟩), .int .i64 (low : Nat), .int .i64 (high : Nat), vs] w (Solved w0 w n gs g F L a m c f v high) := by
  obtain ⟨ax, cs, rfl, -, -, -⟩ := own_edges h.own rfl
  have hwh := whole_any h.sw h.own rfl h.few hmay (fun s hs => ⟨(h.cov.sin s hs).1, (h.cov.sin s hs).2.1⟩) hm (low := low) (high := high) (by have := h.top; omega) (by have := h.top; omega) h.gen
  have hmk := Un.mark_u h.sw.s.u
  have k0 := h.sw.c0
  have HA : Hid (Asked w0 w n gs g F L a m c f v l P S (.slice ax S.length cs) low high) := h
  have HMay : Hid (∀ k, k < m → May n f k) := hmay
  have hlow : low < m := by have := h.top; omega
  have hsub : (high : Int) - (low : Int) = 1 := by omega
  have HHH : Hid (high = low + 1) := hh
  have hsubW : IntKind.i64.wrap ((high : Int) - (low : Int)) = 1 := by rw [IntKind.wrap_i64]; omega
  have hh120 : high ≤ 120 := by have := h.top; omega
  clear h hmay hh
  go_enter Tryz.func113, Tryz.ntmps113
  go_wp2_with fail
  refine hmk.mono ?_
  rintro e w1 ⟨rfl, rfl⟩
  go_wp2_with fail
  refine hwh.mono ?_
  rintro e w2 ⟨rest, rfl, hJ⟩
  obtain ⟨F2, L2, P2, hW, hMo, hG, hP, M, hM⟩ := hJ.st
  rw [List.take_length] at hP
  have HW : Hid (SW w0 w2 n gs g F2 L2 a m c f v l ∧ Un.Moves (SF F gs v) w1 w2 (SF F2 gs v) ∧ L2 = M ++ L) := ⟨hW, hMo, hM⟩
  have HL : Hid ((f low).1 = 3 → ∀ i j, rt L2 i = rt L2 j ↔ Conn (here f low) i j) := fun h3 i j => by
    have hd := HA.out.cov.down hP
    rw [HHH.out] at hd
    exact hd.leaf HMay.out hG h3 i j
  replace k0 := hW.c0
  have k1 := hW.c1
  obtain ⟨b, o, rfl, c1, c2, c3⟩ := hW.ev.below hW.below low hlow
  have i0 : (0 : Int) ≤ (low : Int) := by omega
  have i1 : (low : Int) < (m : Int) := by omega
  have HCall : Hid (Calls Tryz.prog 162 #[.pointer (some ⟨gs, 0, none⟩), .agg #[.int .i64 (f low).1, .int .i64 (f low).2.1, .int .i64 (f low).2.2]] w2 fun e w' => ∃ r v' l', e = .returned r ∧ SW w0 w' n gs g F2 L2 (some ⟨b, o, none⟩) m c f v' l' ∧ Un.Moves (SF F2 gs v) w2 w' (SF F2 gs v') ∧ Ans f high l') := by
    by_cases h3 : (f low).1 = 3
    · have hmy := HMay.out low hlow
      obtain ⟨x, hx⟩ := Int.eq_ofNat_of_zero_le hmy.a.1
      obtain ⟨y, hy⟩ := Int.eq_ofNat_of_zero_le hmy.b.1
      have hmx := hmy.a.2
      have hmyy := hmy.b.2
      rw [hx] at hmx
      rw [hy] at hmyy
      rw [h3, hx, hy]
      have hll := HA.out.ans.len
      have hpl := places_len f 3 low
      refine (answer_ask hW x y (by omega) (by omega) (by omega)).mono ?_
      rintro e w' ⟨r, v', rfl, q1, q2⟩
      rw [HHH.out]
      refine ⟨r, v', _, rfl, q1, q2, HA.out.ans.ask h3 ?_⟩
      rw [decide_eq_true_iff, HL.out h3 x y, hx, hy]
      simp
    · refine (answer_no hW _ _ _ h3).mono ?_
      rintro e w' ⟨r, v', rfl, q1, q2⟩
      rw [HHH.out]
      exact ⟨r, v', _, rfl, q1, q2, HA.out.ans.other h3⟩
  obtain ⟨qe, hqe⟩ : ∃ qe, (f low).1 = qe := ⟨_, rfl⟩
  obtain ⟨xe, hxe⟩ : ∃ xe, (f low).2.1 = xe := ⟨_, rfl⟩
  obtain ⟨ye, hye⟩ : ∃ ye, (f low).2.2 = ye := ⟨_, rfl⟩
  rw [hqe] at c1
  rw [hxe] at c2
  rw [hye] at c3
  rw [hqe, hxe, hye] at HCall
  clear hJ hW hMo hG hP hM hmk hwh hqe hxe hye HL
  go_wp2_with fail
  refine HCall.out.mono ?_
  rintro e w3 ⟨r3, v3, l3, rfl, hW3, hM3, hA3⟩
  obtain ⟨hW, hMo, hM⟩ := HW.out
  have HW3 : Hid (SW w0 w3 n gs g F2 L2 (some ⟨b, o, none⟩) m c f v3 l3 ∧ Un.Moves (SF F gs v) w1 w3 (SF F2 gs v3) ∧ L2 = M ++ L ∧ Ans f high l3) := ⟨hW3, hMo.trans hM3, hM, hA3⟩
  have hbk := Un.back_u hW3.s.u L.length (by rw [hM]; simp)
  replace k0 := hW3.c0
  clear HCall k1 c1 c2 c3 hW3 hM3 hA3 hW hMo hM HW
  go_wp2_with fail
  refine hbk.mono ?_
  rintro e w4 ⟨F4, M4, L4, rfl, h1, h2, h3, h4⟩
  obtain ⟨hW, hMo, hM, hA⟩ := HW3.out
  obtain rfl := back_same hM h1 h2
  obtain ⟨q1, q2⟩ := hW.moved h3 h4
  have HR : Hid (SW w0 w4 n gs g F4 L4 (some ⟨b, o, none⟩) m c f v3 l3 ∧ Un.Moves (SF F gs v) w1 w4 (SF F4 gs v3) ∧ Ans f high l3) := ⟨q1, hMo.trans q2, hA⟩
  clear hbk h1 h2 h3 h4 hW hMo hM q1 q2 HW3 hA
  go_wp2_with fail
  go_end0
  exact ⟨_, _, _, _, rfl, HR.out⟩

end Go.Proofs.YtcfemppdeidjmacGreat.As
