/-
  Neck of package span: the closure that is told of each edge taken; the weight of the edge that first joins the two nodes.
-/
import Derived.Test.YtcfemppdeidjmadGreatKe
namespace Go.Proofs.YtcfemppdeidjmadGreat.Sp
open Go.RowKit Go.Deep
set_option linter.unusedVariables false

variable {m n : Nat} {ed : Nat → Nat × Nat} {wt : Nat → Nat} {t : Nat → Bool}

theorem moves_set {C : Nat → Prop} (w : World) (k o : Nat) (v : Value) (hk : C k) : Un.Moves C w (w.setCell ⟨k, o, none⟩ v) C :=
  ⟨rfl, rfl, rfl, by simp, fun x hx hn => Below.heap_setCell _ _ _ _ (fun e => hn (by rw [e]; exact hk)), fun _ h => Or.inl h⟩

/-- The four variables of the closure. -/
structure Four (Bl Ba Bb Bj : Nat) : Prop where
  la : Bl ≠ Ba
  lb : Bl ≠ Bb
  lj : Bl ≠ Bj
  ja : Bj ≠ Ba
  jb : Bj ≠ Bb

def four (Bl Ba Bb Bj k : Nat) : Prop := k = Bl ∨ k = Ba ∨ k = Bb ∨ k = Bj

/-- What the closure of Neck keeps: the last edge that it was told of, whether the two are joined. -/
structure NClo (Bl Ba Bb Bj a b : Nat) (l : List Nat) (st : Bool) (w : World) (C : Nat → Prop) : Prop where
  last : w.cell? ⟨Bl, 0, none⟩ = some (.int .i64 (l.getLastD 0 : Nat))
  fl : w.frozen? ⟨Bl, 0, none⟩ = false
  one : w.cell? ⟨Ba, 0, none⟩ = some (.int .i64 (a : Nat))
  two : w.cell? ⟨Bb, 0, none⟩ = some (.int .i64 (b : Nat))
  joined : w.cell? ⟨Bj, 0, none⟩ = some (.bool (!st))
  fj : w.frozen? ⟨Bj, 0, none⟩ = false
  foot : C = four Bl Ba Bb Bj

theorem frozen_of_block {w w' : World} {k o : Nat} (h : w'.heap[k]? = w.heap[k]?) : w'.frozen? ⟨k, o, none⟩ = w.frozen? ⟨k, o, none⟩ := by
  simp only [World.frozen?, h]

theorem NClo.keep {Bl Ba Bb Bj a b : Nat} {l : List Nat} {st : Bool} {w w' : World} {C F F' : Nat → Prop} (h : NClo Bl Ba Bb Bj a b l st w C) (hm : Un.Moves F w w' F') (hd : ∀ k, C k → ¬ F k) : NClo Bl Ba Bb Bj a b l st w' C := by
  obtain ⟨h1, h2, h3, h4, h5, h6, rfl⟩ := h
  have e1 := hm.block Bl (World.block_lt_of_cell? _ _ h1) (hd Bl (Or.inl rfl))
  have e2 := hm.block Ba (World.block_lt_of_cell? _ _ h3) (hd Ba (Or.inr (Or.inl rfl)))
  have e3 := hm.block Bb (World.block_lt_of_cell? _ _ h4) (hd Bb (Or.inr (Or.inr (Or.inl rfl))))
  have e4 := hm.block Bj (World.block_lt_of_cell? _ _ h5) (hd Bj (Or.inr (Or.inr (Or.inr rfl))))
  exact ⟨(World.cell?_of_block (w := w) (a := ⟨Bl, 0, none⟩) e1).trans h1, (frozen_of_block e1).trans h2, (World.cell?_of_block (w := w) (a := ⟨Ba, 0, none⟩) e2).trans h3, (World.cell?_of_block (w := w) (a := ⟨Bb, 0, none⟩) e3).trans h4, (World.cell?_of_block (w := w) (a := ⟨Bj, 0, none⟩) e4).trans h5, (frozen_of_block e4).trans h6, rfl⟩

theorem conn_nil {a b : Nat} (h : Conn [] a b) : a = b := h (fun i j => i = j) ⟨⟨fun _ => rfl, fun h => h.symm, fun h k => h.trans k⟩, fun e he => absurd he (by simp)⟩

theorem conn_snoc {P : List Nat} {i a b : Nat} (hc : Conn (P.map ed) (ed i).1 (ed i).2) : Conn ((P ++ [i]).map ed) a b ↔ Conn (P.map ed) a b := by
  rw [← conn_more hc a b]
  refine conn_ext (fun e => ?_) a b
  simp only [List.map_append, List.map_cons, List.map_nil, List.mem_append, List.mem_cons, List.not_mem_nil, or_false]
  constructor
  · rintro (h | h)
    · exact Or.inr h
    · exact Or.inl h
  · rintro (h | h)
    · exact Or.inr h
    · exact Or.inl h

set_option maxHeartbeats 1000000 in
theorem neck1_any {Bl Ba Bb Bj a b : Nat} (hf : Four Bl Ba Bb Bj) {l : List Nat} {i base g : Nat} {w : World} {C F : Nat → Prop} {L : List (Nat × Nat)} (ha : a < n) (hb : b < n) (hC : NClo Bl Ba Bb Bj a b l true w C) (hU : Un.UAt base n w g F L) (hd : ∀ k, C k → ¬ F k) (q : Bool) (hq : q = decide (rt L a = rt L b)) :
    Calls Tryz.prog 25 #[.int .i64 ((i : Nat) : Int), .pointer (some ⟨g, 0, none⟩), .pointer (some ⟨Bl, 0, none⟩), .pointer (some ⟨Ba, 0, none⟩), .pointer (some ⟨Bb, 0, none⟩), .pointer (some ⟨Bj, 0, none⟩)] w fun e w' => e = .returned (.bool (!q)) ∧ Un.Moves C w w' C ∧ NClo Bl Ba Bb Bj a b (l ++ [i]) (!q) w' C := by
  obtain ⟨h1, h2, h3, h4, h5, h6, rfl⟩ := hC
  have hm1 : Un.Moves (four Bl Ba Bb Bj) w (w.setCell ⟨Bl, 0, none⟩ (.int .i64 ((i : Nat) : Int))) (four Bl Ba Bb Bj) := moves_set w Bl 0 _ (Or.inl rfl)
  have hU1 := (hU.apart hm1 hd).1
  have g1 : (w.setCell ⟨Bl, 0, none⟩ (.int .i64 ((i : Nat) : Int))).cell? ⟨Bl, 0, none⟩ = some (.int .i64 ((i : Nat) : Int)) := World.cell?_setCell_same (h := h1) ..
  have g2 : (w.setCell ⟨Bl, 0, none⟩ (.int .i64 ((i : Nat) : Int))).frozen? ⟨Bl, 0, none⟩ = false := by rw [World.frozen?_setCell]; exact h2
  have g3 : (w.setCell ⟨Bl, 0, none⟩ (.int .i64 ((i : Nat) : Int))).cell? ⟨Ba, 0, none⟩ = some (.int .i64 (a : Nat)) := (World.cell?_setCell_other (h := by simp only [ne_eq, Addr.mk.injEq, not_and]; intro e; exact absurd e hf.la) ..).trans h3
  have g4 : (w.setCell ⟨Bl, 0, none⟩ (.int .i64 ((i : Nat) : Int))).cell? ⟨Bb, 0, none⟩ = some (.int .i64 (b : Nat)) := (World.cell?_setCell_other (h := by simp only [ne_eq, Addr.mk.injEq, not_and]; intro e; exact absurd e hf.lb) ..).trans h4
  have g5 : (w.setCell ⟨Bl, 0, none⟩ (.int .i64 ((i : Nat) : Int))).cell? ⟨Bj, 0, none⟩ = some (.bool false) := (World.cell?_setCell_other (h := by simp only [ne_eq, Addr.mk.injEq, not_and]; intro e; exact absurd e hf.lj) ..).trans h5
  have g6 : (w.setCell ⟨Bl, 0, none⟩ (.int .i64 ((i : Nat) : Int))).frozen? ⟨Bj, 0, none⟩ = false := by rw [World.frozen?_setCell]; exact h6
  have hsm := Un.same_u hU1 a b ha hb
  rw [← hq] at hsm
  clear hq hU hU1 h3 h4 h5 h6
  go_enter Tryz.func25, Tryz.ntmps25
  go_wp2_with fail
  have HM : Hid (Un.Moves (four Bl Ba Bb Bj) w (w.setCell ⟨Bl, 0, none⟩ (.int .i64 ((i : Nat) : Int))) (four Bl Ba Bb Bj)) := hm1
  generalize w.setCell ⟨Bl, 0, none⟩ (.int .i64 ((i : Nat) : Int)) = W at *
  clear hm1 h1 h2
  refine hsm.mono ?_
  rintro e w1 ⟨rfl, hb1⟩
  clear hsm
  have f1 := (frozen_of_block (o := 0) (hb1.block Bl (World.block_lt_of_cell? _ _ g1))).trans g2
  have f5 := (frozen_of_block (o := 0) (hb1.block Bj (World.block_lt_of_cell? _ _ g5))).trans g6
  replace g1 := Un.cell_keep hb1 g1
  replace g3 := Un.cell_keep hb1 g3
  replace g4 := Un.cell_keep hb1 g4
  replace g5 := Un.cell_keep hb1 g5
  have HW : Hid (Un.Moves (four Bl Ba Bb Bj) w (w1.setCell ⟨Bj, 0, none⟩ (.bool q)) (four Bl Ba Bb Bj) ∧ NClo Bl Ba Bb Bj a b (l ++ [i]) (!q) (w1.setCell ⟨Bj, 0, none⟩ (.bool q)) (four Bl Ba Bb Bj)) := by
    refine ⟨(HM.out.trans (Un.Moves.of_below hb1)).trans (moves_set w1 Bj 0 _ (Or.inr (Or.inr (Or.inr rfl)))), ⟨?_, ?_, ?_, ?_, ?_, ?_, rfl⟩⟩
    · rw [List.getLastD_concat]
      exact (World.cell?_setCell_other (h := by simp only [ne_eq, Addr.mk.injEq, not_and]; intro e; exact absurd e.symm hf.lj) ..).trans g1
    · rw [World.frozen?_setCell]; exact f1
    · exact (World.cell?_setCell_other (h := by simp only [ne_eq, Addr.mk.injEq, not_and]; intro e; exact absurd e hf.ja) ..).trans g3
    · exact (World.cell?_setCell_other (h := by simp only [ne_eq, Addr.mk.injEq, not_and]; intro e; exact absurd e hf.jb) ..).trans g4
    · rw [World.cell?_setCell_same (h := g5), Bool.not_not]
    · rw [World.frozen?_setCell]; exact f5
  have c5 : (w1.setCell ⟨Bj, 0, none⟩ (.bool q)).cell? ⟨Bj, 0, none⟩ = some (.bool q) := World.cell?_setCell_same (h := g5) ..
  go_wp2_with fail
  go_ret
  exact ⟨rfl, HW.out⟩

theorem neck_clos {Bl Ba Bb Bj a b : Nat} (hf : Four Bl Ba Bb Bj) (ha : a < n) (hb : b < n) (hne : a ≠ b) :
    Clos n m ed t 25 #[.pointer (some ⟨Bl, 0, none⟩), .pointer (some ⟨Ba, 0, none⟩), .pointer (some ⟨Bb, 0, none⟩), .pointer (some ⟨Bj, 0, none⟩)] (NClo Bl Ba Bb Bj a b) (fun P => ¬ Conn (P.map ed) a b) (fun P => Conn (P.map ed) a b) where
  enters := enters_of Tryz.func25 (by kernel_rfl) rfl
  lt := by
    rintro l b w C ⟨h1, h2, h3, h4, h5, h6, rfl⟩ k hk
    rcases hk with rfl | rfl | rfl | rfl
    · exact World.block_lt_of_cell? _ _ h1
    · exact World.block_lt_of_cell? _ _ h3
    · exact World.block_lt_of_cell? _ _ h4
    · exact World.block_lt_of_cell? _ _ h5
  keep := fun h hm hd => h.keep hm hd
  start := fun h => hne (conn_nil h)
  skip := fun hG hc h => hG ((conn_snoc hc).1 h)
  call := by
    intro P i w C base g F L hP hi ht hC hU hd hbs hcon hG
    refine (neck1_any hf ha hb hC hU hd (decide (rt L a = rt L b)) rfl).mono ?_
    rintro e w' ⟨rfl, hm, hC'⟩
    refine ⟨_, C, rfl, hm, hC', fun e hc => ?_, fun e => ?_⟩
    · have := (hcon a b).2 hc
      simp [this] at e
    · refine (hcon a b).1 ?_
      simpa using e

/-- What Neck answers. -/
def Necks (n : Int) (m : Nat) (hv : Nat → Int × Int × Int) (a b x e : Int) : Prop :=
  (∃ k : Nat, Fault n m hv k e ∧ e ≠ 0 ∧ x = 0) ∨ (Fault n m hv 0 0 ∧ ¬ ((0 ≤ a ∧ a < n) ∧ 0 ≤ b ∧ b < n) ∧ x = 0 ∧ e = 1) ∨
    (∃ n' a' b' : Nat, Fault n m hv 0 0 ∧ n = n' ∧ a = a' ∧ b = b' ∧ a' < n' ∧ b' < n' ∧ ¬ Conn (picked m (edOf hv) fun _ => true) a' b' ∧ x = 0 ∧ e = 4) ∨
    (∃ n' a' b' W : Nat, Fault n m hv 0 0 ∧ n = n' ∧ a = a' ∧ b = b' ∧ a' < n' ∧ b' < n' ∧ Neck m (edOf hv) (wtOf hv) a' b' W ∧ (a' = b' ∨ ∃ i, i < m ∧ wtOf hv i = W) ∧ x = (W : Nat) ∧ e = 0)

theorem Necks.wrong {n : Int} {hv : Nat → Int × Int × Int} {a b : Int} (k : Nat) (e : Int) (h : Fault n m hv k e) (he : e ≠ 0) : Necks n m hv a b 0 e := Or.inl ⟨k, h, he, rfl⟩
theorem Necks.range {n : Int} {hv : Nat → Int × Int × Int} {a b : Int} (h : Fault n m hv 0 0) (hr : ¬ ((0 ≤ a ∧ a < n) ∧ 0 ≤ b ∧ b < n)) : Necks n m hv a b 0 1 := Or.inr (Or.inl ⟨h, hr, rfl, rfl⟩)
theorem Necks.none {n : Int} {hv : Nat → Int × Int × Int} {a b : Int} (n' a' b' : Nat) (h : Fault n m hv 0 0) (h1 : n = n') (h2 : a = a') (h3 : b = b') (h4 : a' < n') (h5 : b' < n') (h6 : ¬ Conn (picked m (edOf hv) fun _ => true) a' b') : Necks n m hv a b 0 4 := Or.inr (Or.inr (Or.inl ⟨n', a', b', h, h1, h2, h3, h4, h5, h6, rfl, rfl⟩))
theorem Necks.way {n : Int} {hv : Nat → Int × Int × Int} {a b : Int} (n' a' b' W : Nat) (h : Fault n m hv 0 0) (h1 : n = n') (h2 : a = a') (h3 : b = b') (h4 : a' < n') (h5 : b' < n') (h6 : Neck m (edOf hv) (wtOf hv) a' b' W) (h7 : a' = b' ∨ ∃ i, i < m ∧ wtOf hv i = W) : Necks n m hv a b (W : Nat) 0 := Or.inr (Or.inr (Or.inr ⟨n', a', b', W, h, h1, h2, h3, h4, h5, h6, h7, rfl, rfl⟩))

end Go.Proofs.YtcfemppdeidjmadGreat.Sp
