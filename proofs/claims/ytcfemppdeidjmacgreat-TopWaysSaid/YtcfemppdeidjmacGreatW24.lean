/-
  Uw5 Uk Xu
-/
import Derived.Test.YtcfemppdeidjmacGreatW23
import Derived.Deep.LoopGhost
import Derived.Test.YtcfemppdeidjmacGreatW16
namespace Go.Proofs.YtcfemppdeidjmacGreat.Un
open Go.RowKit Go.Deep
set_option linter.unusedVariables false

structure Half (base n : Nat) (w : World) (g ba bs : Nat) (vj : Value) (l q : Nat) (L : List (Nat × Nat)) : Prop where
  st : w.rowIs g 104 3 (parts3 n ba bs vj)
  above : w.rowIs ba 3 n (fun i => .int .i64 (ab ((l, q) :: L) i : Nat))
  size : w.rowIs bs 3 n (fun i => .int .i64 (cz ((l, q) :: L) i : Nat))
  joined : w.ownsRow base 3 1 vj L.length (fell L)
  linked : Lnkd n ((l, q) :: L)
  n1 : 1 ≤ n
  n60 : n ≤ 60
  ne1 : g ≠ ba
  ne2 : g ≠ bs
  ne3 : ba ≠ bs
  apart : ∀ k, vj.ownBlock = some k → k ≠ g ∧ k ≠ ba ∧ k ≠ bs
  bg : base ≤ g
  bb : base ≤ ba
  bz : base ≤ bs

theorem Lays.half {base n : Nat} {w : World} {g ba bs : Nat} {vj : Value} {L : List (Nat × Nat)} (h : Lays base n w g ba bs vj L) {l q : Nat} (hl : Lnkd n ((l, q) :: L)) :
    Half base n ((w.setCell ⟨ba, l, none⟩ (.int .i64 (q : Nat))).setCell ⟨bs, q, none⟩ (.int .i64 (((cz L q : Nat) : Int) + ((cz L l : Nat) : Int)))) g ba bs vj l q L := by
  refine ⟨(h.st.setOther (a := ⟨ba, l, none⟩) (by exact h.ne1) _).setOther (a := ⟨bs, q, none⟩) (by exact h.ne2) _, ?_, ?_, ?_, hl, h.n1, h.n60, h.ne1, h.ne2, h.ne3, h.apart, h.bg, h.bb, h.bz⟩
  · refine ((h.above.set l _).setOther (a := ⟨bs, q, none⟩) (by exact h.ne3) _).congr fun i hi => ?_
    by_cases e : i = l
    · subst e; simp [ab]
    · simp [e, ab]
  · refine ((h.size.setOther (a := ⟨ba, l, none⟩) (fun e => h.ne3 e.symm) _).set q _).congr fun i hi => ?_
    by_cases e : i = q
    · subst e; simp [cz]
    · simp [e, cz]
  · exact ownsRow_setCell_other (ownsRow_setCell_other h.joined (a := ⟨ba, l, none⟩) (fun e => (h.apart ba e).2.1 rfl) _) (a := ⟨bs, q, none⟩) (fun e => (h.apart bs e).2.2 rfl) _

theorem Half.keep {base n : Nat} {w w' : World} {g ba bs : Nat} {vj : Value} {l q : Nat} {L : List (Nat × Nat)} (h : Half base n w g ba bs vj l q L) (hk : ∀ k, Foot g ba bs vj k → w'.heap[k]? = w.heap[k]?) : Half base n w' g ba bs vj l q L :=
  ⟨h.st.of_block (hk _ (Or.inl rfl)), h.above.of_block (hk _ (Or.inr (Or.inl rfl))), h.size.of_block (hk _ (Or.inr (Or.inr (Or.inl rfl)))), ownsRow_keep h.joined (fun k e => hk k (Or.inr (Or.inr (Or.inr e)))),
    h.linked, h.n1, h.n60, h.ne1, h.ne2, h.ne3, h.apart, h.bg, h.bb, h.bz⟩

theorem Half.lt {base n : Nat} {w : World} {g ba bs : Nat} {vj : Value} {l q : Nat} {L : List (Nat × Nat)} (h : Half base n w g ba bs vj l q L) {k : Nat} (hk : Foot g ba bs vj k) : k < w.heap.size := by
  rcases hk with rfl | rfl | rfl | hk
  · exact h.st.lt
  · exact h.above.lt
  · exact h.size.lt
  · exact (own_heap h.joined hk).2

theorem Half.below {base n : Nat} {w w' : World} {g ba bs : Nat} {vj : Value} {l q : Nat} {L : List (Nat × Nat)} (h : Half base n w g ba bs vj l q L) (hb : Below w.heap.size w w') : Half base n w' g ba bs vj l q L :=
  h.keep fun k hk => hb.block k (h.lt hk)

theorem Half.done {base n : Nat} {w w' : World} {g ba bs : Nat} {vj : Value} {l q : Nat} {L : List (Nat × Nat)} (h : Half base n w g ba bs vj l q L) {gj cap : Nat}
    (ho : w'.ownsRow base 3 1 (.slice (some ⟨gj, 0, none⟩) (L.length + 1) cap) (L.length + 1) (fell L ++ [.int .i64 (l : Nat)])) (hg : w.grownBy w' vj.ownBlock) (hj : vj.ownBlock = some gj ∨ gj = w.heap.size) :
    Lays base n (w'.setCell ⟨g, 2, none⟩ (.slice (some ⟨gj, 0, none⟩) (L.length + 1) cap)) g ba bs (.slice (some ⟨gj, 0, none⟩) (L.length + 1) cap) ((l, q) :: L) := by
  have e1 : w'.heap[g]? = w.heap[g]? := hg.block g h.st.lt (fun e => (h.apart g e.symm).1 rfl)
  have e2 : w'.heap[ba]? = w.heap[ba]? := hg.block ba h.above.lt (fun e => (h.apart ba e.symm).2.1 rfl)
  have e3 : w'.heap[bs]? = w.heap[bs]? := hg.block bs h.size.lt (fun e => (h.apart bs e.symm).2.2 rfl)
  have ap : gj ≠ g ∧ gj ≠ ba ∧ gj ≠ bs := by
    rcases hj with hj | rfl
    · exact h.apart gj hj
    · have q1 := h.st.lt
      have q2 := h.above.lt
      have q3 := h.size.lt
      refine ⟨?_, ?_, ?_⟩ <;> omega
  refine ⟨?_, (h.above.of_block e2).setOther (a := ⟨g, 2, none⟩) (fun e => h.ne1 e.symm) _, (h.size.of_block e3).setOther (a := ⟨g, 2, none⟩) (fun e => h.ne2 e.symm) _, ?_, h.linked, h.n1, h.n60, h.ne1, h.ne2, h.ne3, (fun k e => by cases e; exact ap), h.bg, h.bb, h.bz⟩
  · refine ((h.st.of_block e1).set 2 _).congr fun i hi => ?_
    by_cases e : i = 2
    · subst e; rfl
    · simp only [if_neg e]
      unfold parts3
      have : i = 0 ∨ i = 1 := by omega
      rcases this with rfl | rfl <;> rfl
  · rw [fell_cons]
    exact ownsRow_setCell_other ho (a := ⟨g, 2, none⟩) (by simp [Value.ownBlock]; exact ap.1) _

theorem Moves.set {F : Nat → Prop} (w : World) {a : Addr} (hF : F a.block) (v : Value) : Moves F w (w.setCell a v) F :=
  ⟨rfl, rfl, rfl, by simp [World.setCell], fun k _ hn => Below.heap_setCell _ _ _ _ (fun e => hn (by rw [e]; exact hF)), fun _ h => Or.inl h⟩

theorem Moves.grown {F : Nat → Prop} {w w' : World} {row : Option Nat} (hg : w.grownBy w' row) (hF : ∀ k, row = some k → F k) : Moves F w w' F :=
  ⟨hg.os, hg.tape, hg.output, hg.size, fun k hk hn => hg.block k hk (fun e => hn (hF k e.symm)), fun _ h => Or.inl h⟩

theorem Moves.refoot {F F' F'' : Nat → Prop} {w w' : World} (h : Moves F w w' F') (hk : ∀ k, F'' k → F k ∨ w.heap.size ≤ k) : Moves F w w' F'' := ⟨h.os, h.tape, h.output, h.size, h.block, hk⟩

def JoinOut (base n : Nat) (w : World) (g ba bs : Nat) (vj : Value) (L : List (Nat × Nat)) (a b : Int) (e : Ending) (w' : World) : Prop :=
  ∃ x err vj' L', e = .returned (.tuple #[.bool x, err]) ∧ Lays base n w' g ba bs vj' L' ∧ Moves (Foot g ba bs vj) w w' (Foot g ba bs vj') ∧ Joins n a b L L' ∧ (Nodes n a b → err = .nilIface ∧ (x = true ↔ rt L a.toNat ≠ rt L b.toNat))

set_option maxHeartbeats 1000000 in
theorem join_bad {base n : Nat} {w : World} {g ba bs : Nat} {vj : Value} {L : List (Nat × Nat)} (h : Lays base n w g ba bs vj L) (a b : Int) (hab : ¬ Nodes n a b) :
    Calls Tryz.prog 17 #[.pointer (some ⟨g, 0, none⟩), .int .i64 a, .int .i64 b] w (JoinOut base n w g ba bs vj L a b) := by
  have h1 := h.below (below_one w (.cells #[.int .i64 a, .int .i64 b] 3))
  have HT : Hid (allIn n [a, b] = false) := nodes_not hab
  go_enter Tryz.func17, Tryz.ntmps17
  go_wp2_with fail
  refine (has_any h1 w.heap.size [a, b] (two_cells w a b) (by simp) 2).mono ?_
  rintro e w' ⟨rfl, rfl⟩
  rw [HT.out]
  go_wp2_with fail
  go_ret2
  exact ⟨_, _, vj, L, rfl, h1, Moves.of_below (below_one _ _), Or.inl ⟨hab, rfl⟩, fun h => absurd h hab⟩

set_option maxHeartbeats 1000000 in
theorem join_one {base n : Nat} {w : World} {g ba bs : Nat} {vj : Value} {L : List (Nat × Nat)} (h : Lays base n w g ba bs vj L) (i j : Nat) (hi : i < n) (hj : j < n) (he : rt L i = rt L j) :
    Calls Tryz.prog 17 #[.pointer (some ⟨g, 0, none⟩), .int .i64 (i : Nat), .int .i64 (j : Nat)] w (JoinOut base n w g ba bs vj L i j) := by
  have h1 := h.below (below_one w (.cells #[.int .i64 (i : Nat), .int .i64 (j : Nat)] 3))
  have hab : Nodes n (i : Int) (j : Int) := ⟨by omega, by omega, by omega, by omega⟩
  have HT : Hid (allIn n [(i : Int), (j : Int)] = true) := nodes_two.2 hab
  have HE : Hid (rt L i = rt L j) := he
  have t : (((rt L i : Nat) : Int) == ((rt L j : Nat) : Int)) = true := by rw [he]; simp
  clear he
  go_enter Tryz.func17, Tryz.ntmps17
  go_wp2_with fail
  refine (has_any h1 w.heap.size [(i : Int), (j : Int)] (two_cells w i j) (by simp) 2).mono ?_
  rintro e w' ⟨rfl, rfl⟩
  rw [HT.out]
  go_wp2_with fail
  refine (root_any h1 i hi).mono ?_
  rintro e w' ⟨rfl, rfl⟩
  go_wp2_with fail
  refine (root_any h1 j hj).mono ?_
  rintro e w' ⟨rfl, rfl⟩
  go_wp2_with fail
  go_ret2
  exact ⟨_, _, vj, L, rfl, h1, Moves.of_below (below_one _ _), Or.inr (Or.inl ⟨hab, HE.out, rfl⟩), fun _ => ⟨rfl, by simp [HE.out]⟩⟩

theorem cell_one_new (w : World) (v : Value) (t : TypeId) : ∀ k u, [v][k]? = some u → (w.alloc (.cells #[v] t)).cell? (Addr.add ⟨w.heap.size, 0, none⟩ k) = some u
  | 0, u, h => by simp at h; subst h; simp [Addr.add]
  | k + 1, u, h => by simp at h

set_option maxHeartbeats 2000000 in
theorem join_keep {base n : Nat} {w : World} {g ba bs : Nat} {vj : Value} {L : List (Nat × Nat)} (h : Lays base n w g ba bs vj L) (i j : Nat) (hi : i < n) (hj : j < n) (he : rt L i ≠ rt L j) (hs : cz L (rt L j) ≤ cz L (rt L i)) (hbs : base ≤ w.heap.size) :
    Calls Tryz.prog 17 #[.pointer (some ⟨g, 0, none⟩), .int .i64 (i : Nat), .int .i64 (j : Nat)] w (JoinOut base n w g ba bs vj L i j) := by
  have h1 := h.below (below_one w (.cells #[.int .i64 (i : Nat), .int .i64 (j : Nat)] 3))
  have hab : Nodes n (i : Int) (j : Int) := ⟨by omega, by omega, by omega, by omega⟩
  have HT : Hid (allIn n [(i : Int), (j : Int)] = true) := nodes_two.2 hab
  have HJ : Hid (Joins n i j L ((rt L j, rt L i) :: L)) := Or.inr (Or.inr ⟨hab, he, Or.inr rfl⟩)
  have HE : Hid (rt L i ≠ rt L j) := he
  have t : (((rt L i : Nat) : Int) == ((rt L j : Nat) : Int)) = false := by rw [beq_eq_false_iff_ne]; omega
  have ri := rt_lt h.linked i hi
  have rj := rt_lt h.linked j hj
  have b1 := cz_two h.linked ri rj (rt_rt h.linked i) (rt_rt h.linked j) he
  have hn := h.n60
  have hlk : Lnkd n ((rt L j, rt L i) :: L) := HJ.out.linked h.linked
  have hlen : L.length < 60 := by have := links_lt h.linked h.n1; omega
  obtain ⟨i0, hi0, hz0, hz1, hz2⟩ := info_parts Tryz.infoInt
  go_enter Tryz.func17, Tryz.ntmps17
  go_wp2_with fail
  refine (has_any h1 w.heap.size [(i : Int), (j : Int)] (two_cells w i j) (by simp) 2).mono ?_
  rintro e w' ⟨rfl, rfl⟩
  rw [HT.out]
  go_wp2_with fail
  refine (root_any h1 i hi).mono ?_
  rintro e w' ⟨rfl, rfl⟩
  go_wp2_with fail
  refine (root_any h1 j hj).mono ?_
  rintro e w' ⟨rfl, rfl⟩
  have hB : Below w.heap.size w (w.alloc (.cells #[.int .i64 (i : Nat), .int .i64 (j : Nat)] 3)) := below_one _ _
  have hb1 : base ≤ (w.alloc (.cells #[.int .i64 (i : Nat), .int .i64 (j : Nat)] 3)).heap.size := by simp; omega
  clear h he
  generalize w.alloc (.cells #[.int .i64 (i : Nat), .int .i64 (j : Nat)] 3) = w1 at *
  have c1 := h1.c1
  have z1 := h1.size.cell (i := rt L i) (by omega)
  have z2 := h1.size.cell (i := rt L j) (by omega)
  have p0 : (0 : Int) ≤ ((rt L i : Nat) : Int) := by omega
  have p1 : ((rt L i : Nat) : Int) < (n : Int) := by omega
  have p2 : (0 : Int) ≤ ((rt L j : Nat) : Int) := by omega
  have p3 : ((rt L j : Nat) : Int) < (n : Int) := by omega
  have tt : (((cz L (rt L i) : Nat) : Int) < ((cz L (rt L j) : Nat) : Int)) = False := by simp; omega
  go_wp2_with fail
  go_quiet (fail)
  replace h1 : Lays base n (w1.drewN nq) g ba bs vj L := h1.below (below_drewN rfl)
  replace hB : Below w.heap.size w (w1.drewN nq) := below_step hB (below_drewN rfl)
  replace hb1 : base ≤ (w1.drewN nq).heap.size := hb1
  clear c1 z1 z2
  generalize w1.drewN nq = w2 at *
  have c0 := h1.c0
  have a1 := h1.above.cell (i := rt L j) (by omega)
  have f1 := h1.above.frozen (rt L j)
  have HH := h1.half hlk
  have M1 : Moves (Foot g ba bs vj) w ((w2.setCell ⟨ba, rt L j, none⟩ (.int .i64 (rt L i : Nat))).setCell ⟨bs, rt L i, none⟩ (.int .i64 (((cz L (rt L i) : Nat) : Int) + ((cz L (rt L j) : Nat) : Int)))) (Foot g ba bs vj) :=
    (Moves.of_below hB).trans ((Moves.set w2 (F := Foot g ba bs vj) (a := ⟨ba, rt L j, none⟩) (Or.inr (Or.inl rfl)) _).trans (Moves.set _ (F := Foot g ba bs vj) (a := ⟨bs, rt L i, none⟩) (Or.inr (Or.inr (Or.inl rfl))) _))
  have hb3 : base ≤ ((w2.setCell ⟨ba, rt L j, none⟩ (.int .i64 (rt L i : Nat))).setCell ⟨bs, rt L i, none⟩ (.int .i64 (((cz L (rt L i) : Nat) : Int) + ((cz L (rt L j) : Nat) : Int)))).heap.size := by simp [World.setCell]; exact hb1
  have rs := h1.st.setOther (a := ⟨ba, rt L j, none⟩) (by exact h1.ne1) (.int .i64 (rt L i : Nat))
  have rz := h1.size.setOther (a := ⟨ba, rt L j, none⟩) (fun e => h1.ne3 e.symm) (.int .i64 (rt L i : Nat))
  have d1 : (w2.setCell ⟨ba, rt L j, none⟩ (.int .i64 (rt L i : Nat))).cell? ⟨g, 1, none⟩ = some (.slice (some ⟨bs, 0, none⟩) n n) := rs.cell (i := 1) (by omega)
  have y1 := rz.cell (i := rt L i) (by omega)
  have y2 := rz.cell (i := rt L j) (by omega)
  have f2 := rz.frozen (rt L i)
  clear rs rz h1
  go_wp2_with fail
  generalize w2.setCell ⟨ba, rt L j, none⟩ (.int .i64 (rt L i : Nat)) = w3 at *
  go_region
  all_goals
    clear d1 y1 y2 f2 c0 a1 f1
    generalize w3.setCell ⟨bs, rt L i, none⟩ (.int .i64 (((cz L (rt L i) : Nat) : Int) + ((cz L (rt L j) : Nat) : Int))) = w4 at *
    replace HH := HH.below (Below.refl _ _).drew
    replace M1 := M1.trans (Moves.of_below (F := Foot g ba bs vj) (w' := w4.drew) (Below.refl _ _).drew)
    replace hb3 : base ≤ w4.drew.heap.size := hb3
    generalize w4.drew = w5 at *
    have c2 : w5.cell? ⟨g, 2, none⟩ = some vj := HH.st.cell (i := 2) (by omega)
    replace HH := HH.below (below_one w5 (.cells #[.int .i64 (rt L j : Nat)] 3))
    replace M1 := M1.trans (Moves.of_below (F := Foot g ba bs vj) (below_one w5 (.cells #[.int .i64 (rt L j : Nat)] 3)))
    go_wp2_with (first
      | (at_builtin; refine wpList_append_lies _ rfl (.tmp 70) (.tmp 72) 33 rfl base 3 i0 (.int .i64 0) 1 8 Tryz.underlying33 hi0 hz0 hz1 hz2 rfl (by decide) vj L.length (fell L) rfl HH.joined ⟨w5.heap.size, 0, none⟩ 1 1 [.int .i64 (rt L j : Nat)] rfl rfl ?c1 ?c2 (by decide) ?c3 ?c4 ?c5 _ rfl ?_))
    case c1 => exact cell_one_new _ _ _
    case c2 => intro u hu; simp at hu; subst hu; rfl
    case c3 => unfold maxLen; omega
    case c4 => omega
    case c5 => simp; omega
    intro gj cap w6 hown hgrow hat hlt
    have HD := HH.done hown hgrow (by simpa using hat)
    have M2 := M1.trans (Moves.grown (F := Foot g ba bs vj) hgrow (fun k e => Or.inr (Or.inr (Or.inr e))))
    have M3 := M2.trans (Moves.set w6 (F := Foot g ba bs vj) (a := ⟨g, 2, none⟩) (Or.inl rfl) (.slice (some ⟨gj, 0, none⟩) (L.length + 1) cap))
    have M4 := M3.refoot (F'' := Foot g ba bs (.slice (some ⟨gj, 0, none⟩) (L.length + 1) cap)) (fun k hk => by
      rcases hk with hk | hk | hk | hk
      · exact Or.inl (Or.inl hk)
      · exact Or.inl (Or.inr (Or.inl hk))
      · exact Or.inl (Or.inr (Or.inr (Or.inl hk)))
      · obtain rfl : gj = k := by simpa [Value.ownBlock] using hk
        rcases hat with hat | rfl
        · exact Or.inl (Or.inr (Or.inr (Or.inr hat)))
        · exact Or.inr (by have := M1.size; simpa using this))
    have fz : w6.frozen? ⟨g, 2, none⟩ = false := (World.frozen?_of_block (w := w5.alloc (.cells #[.int .i64 (rt L j : Nat)] 3)) (a := ⟨g, 2, none⟩) (hgrow.block g HH.st.lt (fun e => (HH.apart g e.symm).1 rfl))).trans (HH.st.frozen 2)
    have c3 : w6.cell? ⟨g, 2, none⟩ = some vj := (World.cell?_of_block (w := w5.alloc (.cells #[.int .i64 (rt L j : Nat)] 3)) (a := ⟨g, 2, none⟩) (hgrow.block g HH.st.lt (fun e => (HH.apart g e.symm).1 rfl))).trans (HH.st.cell (i := 2) (by omega))
    clear hown hgrow hat hlt HH M1 M2 M3 c2
    go_wp2_with fail
    go_ret2
    exact ⟨_, _, _, _, rfl, HD, M4, HJ.out, fun _ => ⟨rfl, by simpa using HE.out⟩⟩

set_option maxHeartbeats 2000000 in
theorem join_turn {base n : Nat} {w : World} {g ba bs : Nat} {vj : Value} {L : List (Nat × Nat)} (h : Lays base n w g ba bs vj L) (i j : Nat) (hi : i < n) (hj : j < n) (he : rt L i ≠ rt L j) (hs : cz L (rt L i) < cz L (rt L j)) (hbs : base ≤ w.heap.size) :
    Calls Tryz.prog 17 #[.pointer (some ⟨g, 0, none⟩), .int .i64 (i : Nat), .int .i64 (j : Nat)] w (JoinOut base n w g ba bs vj L i j) := by
  have h1 := h.below (below_one w (.cells #[.int .i64 (i : Nat), .int .i64 (j : Nat)] 3))
  have hab : Nodes n (i : Int) (j : Int) := ⟨by omega, by omega, by omega, by omega⟩
  have HT : Hid (allIn n [(i : Int), (j : Int)] = true) := nodes_two.2 hab
  have HJ : Hid (Joins n i j L ((rt L i, rt L j) :: L)) := Or.inr (Or.inr ⟨hab, he, Or.inl rfl⟩)
  have HE : Hid (rt L i ≠ rt L j) := he
  have t : (((rt L i : Nat) : Int) == ((rt L j : Nat) : Int)) = false := by rw [beq_eq_false_iff_ne]; omega
  have ri := rt_lt h.linked i hi
  have rj := rt_lt h.linked j hj
  have b1 := cz_two h.linked ri rj (rt_rt h.linked i) (rt_rt h.linked j) he
  have hn := h.n60
  have hlk : Lnkd n ((rt L i, rt L j) :: L) := HJ.out.linked h.linked
  have hlen : L.length < 60 := by have := links_lt h.linked h.n1; omega
  obtain ⟨i0, hi0, hz0, hz1, hz2⟩ := info_parts Tryz.infoInt
  go_enter Tryz.func17, Tryz.ntmps17
  go_wp2_with fail
  refine (has_any h1 w.heap.size [(i : Int), (j : Int)] (two_cells w i j) (by simp) 2).mono ?_
  rintro e w' ⟨rfl, rfl⟩
  rw [HT.out]
  go_wp2_with fail
  refine (root_any h1 i hi).mono ?_
  rintro e w' ⟨rfl, rfl⟩
  go_wp2_with fail
  refine (root_any h1 j hj).mono ?_
  rintro e w' ⟨rfl, rfl⟩
  have hB : Below w.heap.size w (w.alloc (.cells #[.int .i64 (i : Nat), .int .i64 (j : Nat)] 3)) := below_one _ _
  have hb1 : base ≤ (w.alloc (.cells #[.int .i64 (i : Nat), .int .i64 (j : Nat)] 3)).heap.size := by simp; omega
  clear h he
  generalize w.alloc (.cells #[.int .i64 (i : Nat), .int .i64 (j : Nat)] 3) = w1 at *
  have c1 := h1.c1
  have z1 := h1.size.cell (i := rt L i) (by omega)
  have z2 := h1.size.cell (i := rt L j) (by omega)
  have p0 : (0 : Int) ≤ ((rt L i : Nat) : Int) := by omega
  have p1 : ((rt L i : Nat) : Int) < (n : Int) := by omega
  have p2 : (0 : Int) ≤ ((rt L j : Nat) : Int) := by omega
  have p3 : ((rt L j : Nat) : Int) < (n : Int) := by omega
  have tt : (((cz L (rt L i) : Nat) : Int) < ((cz L (rt L j) : Nat) : Int)) = True := by simp; omega
  go_wp2_with fail
  go_quiet (fail)
  replace h1 : Lays base n (w1.drewN nq) g ba bs vj L := h1.below (below_drewN rfl)
  replace hB : Below w.heap.size w (w1.drewN nq) := below_step hB (below_drewN rfl)
  replace hb1 : base ≤ (w1.drewN nq).heap.size := hb1
  clear c1 z1 z2
  generalize w1.drewN nq = w2 at *
  have c0 := h1.c0
  have a1 := h1.above.cell (i := rt L i) (by omega)
  have f1 := h1.above.frozen (rt L i)
  have HH := h1.half hlk
  have M1 : Moves (Foot g ba bs vj) w ((w2.setCell ⟨ba, rt L i, none⟩ (.int .i64 (rt L j : Nat))).setCell ⟨bs, rt L j, none⟩ (.int .i64 (((cz L (rt L j) : Nat) : Int) + ((cz L (rt L i) : Nat) : Int)))) (Foot g ba bs vj) :=
    (Moves.of_below hB).trans ((Moves.set w2 (F := Foot g ba bs vj) (a := ⟨ba, rt L i, none⟩) (Or.inr (Or.inl rfl)) _).trans (Moves.set _ (F := Foot g ba bs vj) (a := ⟨bs, rt L j, none⟩) (Or.inr (Or.inr (Or.inl rfl))) _))
  have hb3 : base ≤ ((w2.setCell ⟨ba, rt L i, none⟩ (.int .i64 (rt L j : Nat))).setCell ⟨bs, rt L j, none⟩ (.int .i64 (((cz L (rt L j) : Nat) : Int) + ((cz L (rt L i) : Nat) : Int)))).heap.size := by simp [World.setCell]; exact hb1
  have rs := h1.st.setOther (a := ⟨ba, rt L i, none⟩) (by exact h1.ne1) (.int .i64 (rt L j : Nat))
  have rz := h1.size.setOther (a := ⟨ba, rt L i, none⟩) (fun e => h1.ne3 e.symm) (.int .i64 (rt L j : Nat))
  have d1 : (w2.setCell ⟨ba, rt L i, none⟩ (.int .i64 (rt L j : Nat))).cell? ⟨g, 1, none⟩ = some (.slice (some ⟨bs, 0, none⟩) n n) := rs.cell (i := 1) (by omega)
  have y1 := rz.cell (i := rt L i) (by omega)
  have y2 := rz.cell (i := rt L j) (by omega)
  have f2 := rz.frozen (rt L j)
  clear rs rz h1
  go_wp2_with fail
  generalize w2.setCell ⟨ba, rt L i, none⟩ (.int .i64 (rt L j : Nat)) = w3 at *
  go_region
  all_goals
    clear d1 y1 y2 f2 c0 a1 f1
    generalize w3.setCell ⟨bs, rt L j, none⟩ (.int .i64 (((cz L (rt L j) : Nat) : Int) + ((cz L (rt L i) : Nat) : Int))) = w4 at *
    replace HH := HH.below (Below.refl _ _).drew
    replace M1 := M1.trans (Moves.of_below (F := Foot g ba bs vj) (w' := w4.drew) (Below.refl _ _).drew)
    replace hb3 : base ≤ w4.drew.heap.size := hb3
    generalize w4.drew = w5 at *
    have c2 : w5.cell? ⟨g, 2, none⟩ = some vj := HH.st.cell (i := 2) (by omega)
    replace HH := HH.below (below_one w5 (.cells #[.int .i64 (rt L i : Nat)] 3))
    replace M1 := M1.trans (Moves.of_below (F := Foot g ba bs vj) (below_one w5 (.cells #[.int .i64 (rt L i : Nat)] 3)))
    go_wp2_with (first
      | (at_builtin; refine wpList_append_lies _ rfl (.tmp 70) (.tmp 72) 33 rfl base 3 i0 (.int .i64 0) 1 8 Tryz.underlying33 hi0 hz0 hz1 hz2 rfl (by decide) vj L.length (fell L) rfl HH.joined ⟨w5.heap.size, 0, none⟩ 1 1 [.int .i64 (rt L i : Nat)] rfl rfl ?c1 ?c2 (by decide) ?c3 ?c4 ?c5 _ rfl ?_))
    case c1 => exact cell_one_new _ _ _
    case c2 => intro u hu; simp at hu; subst hu; rfl
    case c3 => unfold maxLen; omega
    case c4 => omega
    case c5 => simp; omega
    intro gj cap w6 hown hgrow hat hlt
    have HD := HH.done hown hgrow (by simpa using hat)
    have M2 := M1.trans (Moves.grown (F := Foot g ba bs vj) hgrow (fun k e => Or.inr (Or.inr (Or.inr e))))
    have M3 := M2.trans (Moves.set w6 (F := Foot g ba bs vj) (a := ⟨g, 2, none⟩) (Or.inl rfl) (.slice (some ⟨gj, 0, none⟩) (L.length + 1) cap))
    have M4 := M3.refoot (F'' := Foot g ba bs (.slice (some ⟨gj, 0, none⟩) (L.length + 1) cap)) (fun k hk => by
      rcases hk with hk | hk | hk | hk
      · exact Or.inl (Or.inl hk)
      · exact Or.inl (Or.inr (Or.inl hk))
      · exact Or.inl (Or.inr (Or.inr (Or.inl hk)))
      · obtain rfl : gj = k := by simpa [Value.ownBlock] using hk
        rcases hat with hat | rfl
        · exact Or.inl (Or.inr (Or.inr (Or.inr hat)))
        · exact Or.inr (by have := M1.size; simpa using this))
    have fz : w6.frozen? ⟨g, 2, none⟩ = false := (World.frozen?_of_block (w := w5.alloc (.cells #[.int .i64 (rt L i : Nat)] 3)) (a := ⟨g, 2, none⟩) (hgrow.block g HH.st.lt (fun e => (HH.apart g e.symm).1 rfl))).trans (HH.st.frozen 2)
    have c3 : w6.cell? ⟨g, 2, none⟩ = some vj := (World.cell?_of_block (w := w5.alloc (.cells #[.int .i64 (rt L i : Nat)] 3)) (a := ⟨g, 2, none⟩) (hgrow.block g HH.st.lt (fun e => (HH.apart g e.symm).1 rfl))).trans (HH.st.cell (i := 2) (by omega))
    clear hown hgrow hat hlt HH M1 M2 M3 c2
    go_wp2_with fail
    go_ret2
    exact ⟨_, _, _, _, rfl, HD, M4, HJ.out, fun _ => ⟨rfl, by simpa using HE.out⟩⟩

theorem join_any {base n : Nat} {w : World} {g ba bs : Nat} {vj : Value} {L : List (Nat × Nat)} (h : Lays base n w g ba bs vj L) (hbs : base ≤ w.heap.size) (a b : Int) :
    Calls Tryz.prog 17 #[.pointer (some ⟨g, 0, none⟩), .int .i64 a, .int .i64 b] w (JoinOut base n w g ba bs vj L a b) := by
  rcases Classical.em (Nodes n a b) with hab | hab
  · obtain ⟨i, rfl⟩ := Int.eq_ofNat_of_zero_le hab.1
    obtain ⟨j, rfl⟩ := Int.eq_ofNat_of_zero_le hab.2.2.1
    have hi : i < n := by have := hab.2.1; omega
    have hj : j < n := by have := hab.2.2.2; omega
    by_cases he : rt L i = rt L j
    · exact join_one h i j hi hj he
    · by_cases hs : cz L (rt L j) ≤ cz L (rt L i)
      · exact join_keep h i j hi hj he hs hbs
      · exact join_turn h i j hi hj he (by omega) hbs
  · exact join_bad h a b hab

end Go.Proofs.YtcfemppdeidjmacGreat.Un

namespace Go.Proofs.YtcfemppdeidjmacGreat.Un
open Go.RowKit Go.Deep
set_option linter.unusedVariables false

theorem new_u {base : Nat} {w : World} (hb : base ≤ w.heap.size) (n : Nat) (h1 : 1 ≤ n) (h2 : n ≤ 60) :
    Calls Tryz.prog 15 #[.int .i64 (n : Nat)] w fun e w' => ∃ g F, e = .returned (.tuple #[.pointer (some ⟨g, 0, none⟩), .nilIface]) ∧ Below w.heap.size w w' ∧ UAt base n w' g F [] ∧ ∀ k, F k → w.heap.size ≤ k := by
  refine (new_any hb n h1 h2).mono ?_
  rintro e w' ⟨g, ba, bs, rfl, hB, hL, q1, q2, q3⟩
  refine ⟨g, Foot g ba bs (.slice none 0 0), rfl, hB, ⟨ba, bs, _, hL, fun _ => Iff.rfl⟩, fun k hk => ?_⟩
  rcases hk with rfl | rfl | rfl | hk
  · exact q1
  · exact q2
  · exact q3
  · cases hk

theorem Moves.iff {F G : Nat → Prop} {w w' : World} {F' : Nat → Prop} (h : Moves G w w' F') (hF : ∀ k, F k ↔ G k) : Moves F w w' F' :=
  ⟨h.os, h.tape, h.output, h.size, fun k hk hn => h.block k hk (fun e => hn ((hF k).2 e)), fun k hk => (h.foot k hk).imp (fun e => (hF k).2 e) id⟩

def JoinU (base n : Nat) (w : World) (g : Nat) (F : Nat → Prop) (L : List (Nat × Nat)) (a b : Int) (e : Ending) (w' : World) : Prop :=
  ∃ x err F' L', e = .returned (.tuple #[.bool x, err]) ∧ UAt base n w' g F' L' ∧ Moves F w w' F' ∧ Joins n a b L L' ∧ (Nodes n a b → err = .nilIface ∧ (x = true ↔ rt L a.toNat ≠ rt L b.toNat))

theorem join_u {base n : Nat} {w : World} {g : Nat} {F : Nat → Prop} {L : List (Nat × Nat)} (h : UAt base n w g F L) (hbs : base ≤ w.heap.size) (a b : Int) :
    Calls Tryz.prog 17 #[.pointer (some ⟨g, 0, none⟩), .int .i64 a, .int .i64 b] w (JoinU base n w g F L a b) := by
  obtain ⟨ba, bs, vj, h, hF⟩ := h
  refine (join_any h hbs a b).mono ?_
  rintro e w' ⟨x, err, vj', L', rfl, hL, hM, hJ, hx⟩
  exact ⟨x, err, _, L', rfl, ⟨ba, bs, vj', hL, fun _ => Iff.rfl⟩, hM.iff hF, hJ, hx⟩

theorem parts_u {base n : Nat} {w : World} {g : Nat} {F : Nat → Prop} {L : List (Nat × Nat)} (h : UAt base n w g F L) :
    Calls Tryz.prog 24 #[.pointer (some ⟨g, 0, none⟩)] w fun e w' => e = .returned (.int .i64 ((n - L.length : Nat))) ∧ Below w.heap.size w w' := by
  obtain ⟨ba, bs, vj, h, hF⟩ := h
  refine (parts_any h).mono ?_
  rintro e w' ⟨rfl, k, rfl⟩
  exact ⟨rfl, below_drewN rfl⟩

theorem same_u {base n : Nat} {w : World} {g : Nat} {F : Nat → Prop} {L : List (Nat × Nat)} (h : UAt base n w g F L) (i j : Nat) (hi : i < n) (hj : j < n) :
    Calls Tryz.prog 19 #[.pointer (some ⟨g, 0, none⟩), .int .i64 (i : Nat), .int .i64 (j : Nat)] w fun e w' => e = .returned (.tuple #[.bool (decide (rt L i = rt L j)), .nilIface]) ∧ Below w.heap.size w w' := by
  obtain ⟨ba, bs, vj, h, hF⟩ := h
  exact same_any h i j hi hj

theorem size_u {base n : Nat} {w : World} {g : Nat} {F : Nat → Prop} {L : List (Nat × Nat)} (h : UAt base n w g F L) (i : Nat) (hi : i < n) :
    Calls Tryz.prog 21 #[.pointer (some ⟨g, 0, none⟩), .int .i64 (i : Nat)] w fun e w' => e = .returned (.tuple #[.int .i64 (cz L (rt L i) : Nat), .nilIface]) ∧ Below w.heap.size w w' := by
  obtain ⟨ba, bs, vj, h, hF⟩ := h
  exact size_any h i hi

end Go.Proofs.YtcfemppdeidjmacGreat.Un

namespace Go.Proofs.YtcfemppdeidjmacGreat.To
open Go.RowKit Go.Deep
open Go.RowKit (Below)
set_option linter.unusedVariables false

variable {w w' wr w0 : World} {n m i j k g : Nat} {ed : Nat → Nat × Nat} {P Q : List Nat} {F G F' : Nat → Prop}

def edI (ed : Nat → Nat × Nat) (k : Nat) : Int × Int := (((ed k).1 : Nat), ((ed k).2 : Nat))

theorem gen_conn (ha : ∀ k ∈ P, (ed k).1 < n ∧ (ed k).2 < n) {L : List (Nat × Nat)} (h : Gen n (P.map (edI ed)).reverse L) (i j : Nat) : rt L i = rt L j ↔ Conn (P.map ed) i j := by
  refine h.conn (fun a b => ?_) i j
  have key : ∀ a b : Nat, ((a : Int), (b : Int)) ∈ (P.map (edI ed)).reverse ↔ (a, b) ∈ P.map ed := fun a b => by
    rw [List.mem_reverse, List.mem_map, List.mem_map]
    constructor
    · rintro ⟨k, hk, e⟩
      simp only [edI, Prod.mk.injEq, Int.natCast_inj] at e
      exact ⟨k, hk, Prod.ext e.1 e.2⟩
    · rintro ⟨k, hk, e⟩
      exact ⟨k, hk, by rw [edI, e]⟩
  rw [key, key]
  constructor
  · exact fun h => h.2.2
  · intro h
    have hn : a < n ∧ b < n := by
      rcases h with h | h
      · obtain ⟨k, hk, e⟩ := List.mem_map.1 h
        have := ha k hk
        rw [e] at this
        exact this
      · obtain ⟨k, hk, e⟩ := List.mem_map.1 h
        have := ha k hk
        rw [e] at this
        exact ⟨this.2, this.1⟩
    exact ⟨hn.1, hn.2, h⟩

def UG (w0 : World) (n : Nat) (ed : Nat → Nat × Nat) (P : List Nat) (w : World) (g : Nat) (F : Nat → Prop) : Prop := ∃ L, Un.UAt w0.heap.size n w g F L ∧ Gen n ((P.map (edI ed)).reverse) L

theorem UG.below (h : UG w0 n ed P w g F) (hb : Below w.heap.size w w') : UG w0 n ed P w' g F := by
  obtain ⟨L, h1, h2⟩ := h
  exact ⟨L, h1.below hb, h2⟩
theorem UG.lt (h : UG w0 n ed P w g F) (hk : F k) : k < w.heap.size ∧ w0.heap.size ≤ k := by
  obtain ⟨L, h1, h2⟩ := h
  exact h1.lt hk
theorem UG.apart (h : UG w0 n ed P w g G) (hm : Un.Moves F w w' F') (ha : ∀ k, F k → ¬ G k) : UG w0 n ed P w' g G ∧ ∀ k, F' k → ¬ G k := by
  obtain ⟨L, h1, h2⟩ := h
  exact ⟨⟨L, (h1.apart hm ha).1, h2⟩, (h1.apart hm ha).2⟩

theorem UG.join (h : UG w0 n ed P w g F) (hs : w0.heap.size ≤ w.heap.size) (k : Nat) :
    Calls Tryz.prog 17 #[.pointer (some ⟨g, 0, none⟩), .int .i64 ((ed k).1 : Nat), .int .i64 ((ed k).2 : Nat)] w fun e w' => ∃ v, e = .returned v ∧ ∃ F', UG w0 n ed (P ++ [k]) w' g F' ∧ Un.Moves F w w' F' := by
  obtain ⟨L, h1, h2⟩ := h
  refine (Un.join_u h1 hs _ _).mono ?_
  rintro e w' ⟨x, err, F', L', rfl, h3, h4, h5, -⟩
  refine ⟨_, rfl, F', ⟨L', h3, ?_⟩, h4⟩
  rw [List.map_append, List.reverse_append]
  exact h2.step h5

theorem new_two (hb : Below w0.heap.size w0 w) (n : Nat) (h1 : 1 ≤ n) (h2 : n ≤ 60) (ed : Nat → Nat × Nat) :
    Calls Tryz.prog 15 #[.int .i64 (n : Nat)] w fun e w' => ∃ g F, e = .returned (.tuple #[.pointer (some ⟨g, 0, none⟩), .nilIface]) ∧ Below w.heap.size w w' ∧ UG w0 n ed [] w' g F ∧ ∀ k, F k → w.heap.size ≤ k := by
  refine (Un.new_u hb.size n h1 h2).mono ?_
  rintro e w' ⟨g, F, rfl, h3, h4, h5⟩
  exact ⟨g, F, rfl, h3, ⟨[], h4, Gen.start n⟩, h5⟩

end Go.Proofs.YtcfemppdeidjmacGreat.To
