/-
  The walker of package bridge, as it lies in memory; arrive.
-/
import Derived.Test.YtcfemppdeidjmacGreatBo
import Derived.Test.YtcfemppdeidjmacGreatF18
namespace Go.Proofs.YtcfemppdeidjmacGreat.Br
open Go.RowKit Go.Deep
open Go.RowKit (Below)
set_option linter.unusedVariables false

variable {w w' : World} {kw kn n a : Nat} {V : Nat → Value} {nb : Nat → List Nat} {s s' : St}

def cells2 (kn n T : Nat) : Nat → Value := fun i => if i = 0 then .slice (some ⟨kn, 0, none⟩) n n else .int .i64 (T : Nat)

/-- What lies in a node. -/
structure Node (V : Nat → Value) (s : St) (g : Nat → Value) (i : Nat) : Prop where
  near : g (i * 6) = V i
  fr : g (i * 6 + 1) = .int .i64 (s.fr i)
  least : g (i * 6 + 2) = .int .i64 (s.least i : Nat)
  turn : g (i * 6 + 3) = .int .i64 (s.turn i : Nat)
  back : g (i * 6 + 4) = .int .i64 (s.back i : Nat)
  pieces : g (i * 6 + 5) = .int .i64 (s.pieces i : Nat)

/-- The walker in memory. -/
structure WAt (w : World) (kw kn n : Nat) (V : Nat → Value) (nb : Nat → List Nat) (s : St) : Prop where
  st : w.rowIs kw 162 2 (cells2 kn n s.T)
  nd : ∃ g, w.rowIs kn 101 (n * 6) g ∧ ∀ i, i < n → Node V s g i
  ne : kw ≠ kn
  near : ∀ i, i < n → ∃ b c, V i = .slice b (nb i).length c ∧ IntsAt w b (nb i).length (nb i) ∧ ∀ p, b = some p → p.block ≠ kw ∧ p.block ≠ kn

theorem ints_set {b : Option Addr} {m : Nat} {l : List Nat} (h : IntsAt w b m l) {q : Addr} (hb : ∀ p, b = some p → p.block ≠ q.block) (v : Value) : IntsAt (w.setCell q v) b m l := ⟨h.len, fun i hi => by
  obtain ⟨k, o, e, c⟩ := h.cell i hi
  refine ⟨k, o, e, ?_⟩
  rw [World.cell?_of_block (w := w) (a := ⟨k, o + i, none⟩) (blk_setCell_other _ _ _ _ (hb ⟨k, o, none⟩ e))]
  exact c⟩

section

theorem WAt.w0 (h : WAt w kw kn n V nb s) : w.cell? ⟨kw, 0, none⟩ = some (.slice (some ⟨kn, 0, none⟩) n n) := h.st.cell (i := 0) (by omega)
theorem WAt.w1 (h : WAt w kw kn n V nb s) : w.cell? ⟨kw, 1, none⟩ = some (.int .i64 (s.T : Nat)) := h.st.cell (i := 1) (by omega)
theorem WAt.f0 (h : WAt w kw kn n V nb s) (ha : a < n) : w.cell? ⟨kn, a * 6, none⟩ = some (V a) := by
  obtain ⟨g, h1, h2⟩ := h.nd; rw [h1.cell (i := a * 6) (by omega), (h2 a ha).near]
theorem WAt.f1 (h : WAt w kw kn n V nb s) (ha : a < n) : w.cell? ⟨kn, a * 6 + 1, none⟩ = some (.int .i64 (s.fr a)) := by
  obtain ⟨g, h1, h2⟩ := h.nd; rw [h1.cell (i := a * 6 + 1) (by omega), (h2 a ha).fr]
theorem WAt.f2 (h : WAt w kw kn n V nb s) (ha : a < n) : w.cell? ⟨kn, a * 6 + 2, none⟩ = some (.int .i64 (s.least a : Nat)) := by
  obtain ⟨g, h1, h2⟩ := h.nd; rw [h1.cell (i := a * 6 + 2) (by omega), (h2 a ha).least]
theorem WAt.f3 (h : WAt w kw kn n V nb s) (ha : a < n) : w.cell? ⟨kn, a * 6 + 3, none⟩ = some (.int .i64 (s.turn a : Nat)) := by
  obtain ⟨g, h1, h2⟩ := h.nd; rw [h1.cell (i := a * 6 + 3) (by omega), (h2 a ha).turn]
theorem WAt.f4 (h : WAt w kw kn n V nb s) (ha : a < n) : w.cell? ⟨kn, a * 6 + 4, none⟩ = some (.int .i64 (s.back a : Nat)) := by
  obtain ⟨g, h1, h2⟩ := h.nd; rw [h1.cell (i := a * 6 + 4) (by omega), (h2 a ha).back]
theorem WAt.f5 (h : WAt w kw kn n V nb s) (ha : a < n) : w.cell? ⟨kn, a * 6 + 5, none⟩ = some (.int .i64 (s.pieces a : Nat)) := by
  obtain ⟨g, h1, h2⟩ := h.nd; rw [h1.cell (i := a * 6 + 5) (by omega), (h2 a ha).pieces]
theorem WAt.fz (h : WAt w kw kn n V nb s) (i : Nat) : w.frozen? ⟨kn, i, none⟩ = false := by
  obtain ⟨g, h1, h2⟩ := h.nd; exact h1.frozen i
theorem WAt.wz (h : WAt w kw kn n V nb s) (i : Nat) : w.frozen? ⟨kw, i, none⟩ = false := h.st.frozen i

/-- A store into the nodes. -/
theorem WAt.set (h : WAt w kw kn n V nb s) (j : Nat) (v : Value) (hT : s'.T = s.T) (hs : ∀ g, (∀ i, i < n → Node V s g i) → ∀ i, i < n → Node V s' (fun k => if k = j then v else g k) i) : WAt (w.setCell ⟨kn, j, none⟩ v) kw kn n V nb s' := by
  obtain ⟨g, h1, h2⟩ := h.nd
  refine ⟨by rw [hT]; exact h.st.setOther (a := ⟨kn, j, none⟩) (by exact h.ne) _, ⟨_, h1.set j v, hs g h2⟩, h.ne, fun i hi => ?_⟩
  obtain ⟨b, c, e1, e2, e3⟩ := h.near i hi
  exact ⟨b, c, e1, ints_set e2 (fun p hp => (e3 p hp).2) _, e3⟩

theorem WAt.set1 (h : WAt w kw kn n V nb s) (x : Int) : WAt (w.setCell ⟨kn, a * 6 + 1, none⟩ (.int .i64 x)) kw kn n V nb { s with fr := upd s.fr a x } := h.set _ _ rfl fun g hg i hi => by
  have q := hg i hi
  refine ⟨by simp only [if_neg (show i * 6 ≠ a * 6 + 1 by omega)]; exact q.near, ?_, by simp only [if_neg (show i * 6 + 2 ≠ a * 6 + 1 by omega)]; exact q.least, by simp only [if_neg (show i * 6 + 3 ≠ a * 6 + 1 by omega)]; exact q.turn, by simp only [if_neg (show i * 6 + 4 ≠ a * 6 + 1 by omega)]; exact q.back, by simp only [if_neg (show i * 6 + 5 ≠ a * 6 + 1 by omega)]; exact q.pieces⟩
  by_cases e : i = a
  · subst e; simp [upd_self]
  · simp only [if_neg (show i * 6 + 1 ≠ a * 6 + 1 by omega), upd_ne _ _ e]; exact q.fr
theorem WAt.set2 (h : WAt w kw kn n V nb s) (x : Nat) : WAt (w.setCell ⟨kn, a * 6 + 2, none⟩ (.int .i64 (x : Nat))) kw kn n V nb { s with least := upd s.least a x } := h.set _ _ rfl fun g hg i hi => by
  have q := hg i hi
  refine ⟨by simp only [if_neg (show i * 6 ≠ a * 6 + 2 by omega)]; exact q.near, by simp only [if_neg (show i * 6 + 1 ≠ a * 6 + 2 by omega)]; exact q.fr, ?_, by simp only [if_neg (show i * 6 + 3 ≠ a * 6 + 2 by omega)]; exact q.turn, by simp only [if_neg (show i * 6 + 4 ≠ a * 6 + 2 by omega)]; exact q.back, by simp only [if_neg (show i * 6 + 5 ≠ a * 6 + 2 by omega)]; exact q.pieces⟩
  by_cases e : i = a
  · subst e; simp [upd_self]
  · simp only [if_neg (show i * 6 + 2 ≠ a * 6 + 2 by omega), upd_ne _ _ e]; exact q.least
theorem WAt.set3 (h : WAt w kw kn n V nb s) (x : Nat) : WAt (w.setCell ⟨kn, a * 6 + 3, none⟩ (.int .i64 (x : Nat))) kw kn n V nb { s with turn := upd s.turn a x } := h.set _ _ rfl fun g hg i hi => by
  have q := hg i hi
  refine ⟨by simp only [if_neg (show i * 6 ≠ a * 6 + 3 by omega)]; exact q.near, by simp only [if_neg (show i * 6 + 1 ≠ a * 6 + 3 by omega)]; exact q.fr, by simp only [if_neg (show i * 6 + 2 ≠ a * 6 + 3 by omega)]; exact q.least, ?_, by simp only [if_neg (show i * 6 + 4 ≠ a * 6 + 3 by omega)]; exact q.back, by simp only [if_neg (show i * 6 + 5 ≠ a * 6 + 3 by omega)]; exact q.pieces⟩
  by_cases e : i = a
  · subst e; simp [upd_self]
  · simp only [if_neg (show i * 6 + 3 ≠ a * 6 + 3 by omega), upd_ne _ _ e]; exact q.turn
theorem WAt.set4 (h : WAt w kw kn n V nb s) (x : Nat) : WAt (w.setCell ⟨kn, a * 6 + 4, none⟩ (.int .i64 (x : Nat))) kw kn n V nb { s with back := upd s.back a x } := h.set _ _ rfl fun g hg i hi => by
  have q := hg i hi
  refine ⟨by simp only [if_neg (show i * 6 ≠ a * 6 + 4 by omega)]; exact q.near, by simp only [if_neg (show i * 6 + 1 ≠ a * 6 + 4 by omega)]; exact q.fr, by simp only [if_neg (show i * 6 + 2 ≠ a * 6 + 4 by omega)]; exact q.least, by simp only [if_neg (show i * 6 + 3 ≠ a * 6 + 4 by omega)]; exact q.turn, ?_, by simp only [if_neg (show i * 6 + 5 ≠ a * 6 + 4 by omega)]; exact q.pieces⟩
  by_cases e : i = a
  · subst e; simp [upd_self]
  · simp only [if_neg (show i * 6 + 4 ≠ a * 6 + 4 by omega), upd_ne _ _ e]; exact q.back
theorem WAt.set5 (h : WAt w kw kn n V nb s) (x : Nat) : WAt (w.setCell ⟨kn, a * 6 + 5, none⟩ (.int .i64 (x : Nat))) kw kn n V nb { s with pieces := upd s.pieces a x } := h.set _ _ rfl fun g hg i hi => by
  have q := hg i hi
  refine ⟨by simp only [if_neg (show i * 6 ≠ a * 6 + 5 by omega)]; exact q.near, by simp only [if_neg (show i * 6 + 1 ≠ a * 6 + 5 by omega)]; exact q.fr, by simp only [if_neg (show i * 6 + 2 ≠ a * 6 + 5 by omega)]; exact q.least, by simp only [if_neg (show i * 6 + 3 ≠ a * 6 + 5 by omega)]; exact q.turn, by simp only [if_neg (show i * 6 + 4 ≠ a * 6 + 5 by omega)]; exact q.back, ?_⟩
  by_cases e : i = a
  · subst e; simp [upd_self]
  · simp only [if_neg (show i * 6 + 5 ≠ a * 6 + 5 by omega), upd_ne _ _ e]; exact q.pieces
theorem WAt.setT (h : WAt w kw kn n V nb s) (x : Nat) : WAt (w.setCell ⟨kw, 1, none⟩ (.int .i64 (x : Nat))) kw kn n V nb { s with T := x } := by
  obtain ⟨g, h1, h2⟩ := h.nd
  refine ⟨(h.st.set 1 _).congr fun i hi => ?_, ⟨g, h1.setOther (a := ⟨kw, 1, none⟩) (fun e => h.ne e.symm) _, fun i hi => ⟨(h2 i hi).near, (h2 i hi).fr, (h2 i hi).least, (h2 i hi).turn, (h2 i hi).back, (h2 i hi).pieces⟩⟩, h.ne, fun i hi => ?_⟩
  · unfold cells2
    have : i = 0 ∨ i = 1 := by omega
    rcases this with rfl | rfl <;> rfl
  · obtain ⟨b, c, e1, e2, e3⟩ := h.near i hi
    exact ⟨b, c, e1, ints_set e2 (fun p hp => (e3 p hp).1) _, e3⟩

/-- The state said otherwise. -/
theorem WAt.as (h : WAt w kw kn n V nb s) (h1 : ∀ i, i < n → s'.turn i = s.turn i ∧ s'.fr i = s.fr i ∧ s'.least i = s.least i ∧ s'.back i = s.back i ∧ s'.pieces i = s.pieces i) (hT : s'.T = s.T) : WAt w kw kn n V nb s' := by
  obtain ⟨g, q1, q2⟩ := h.nd
  refine ⟨by rw [hT]; exact h.st, ⟨g, q1, fun i hi => ?_⟩, h.ne, h.near⟩
  obtain ⟨e1, e2, e3, e4, e5⟩ := h1 i hi
  have q := q2 i hi
  exact ⟨q.near, by rw [e2]; exact q.fr, by rw [e3]; exact q.least, by rw [e1]; exact q.turn, by rw [e4]; exact q.back, by rw [e5]; exact q.pieces⟩

theorem WAt.drewN (h : WAt w kw kn n V nb s) (q : Nat) (e : w' = w.drewN q) : WAt w' kw kn n V nb s := by
  have hb := below_drewN e
  obtain ⟨g, q1, q2⟩ := h.nd
  refine ⟨h.st.of_block (hb.block _ h.st.lt), ⟨g, q1.of_block (hb.block _ q1.lt), q2⟩, h.ne, fun i hi => ?_⟩
  obtain ⟨b, c, e1, e2, e3⟩ := h.near i hi
  exact ⟨b, c, e1, e2.below hb, e3⟩

end

set_option maxRecDepth 100000 in
set_option maxHeartbeats 2000000 in
theorem arrive_root {base : Nat} (h : WAt w kw kn n V nb s) (hbw : base ≤ kw) (hbn : base ≤ kn) (ha : a < n) (hT : s.T < n) (hn : n ≤ 60) (hz : s.pieces a = 0) :
    Calls Tryz.prog 128 #[.pointer (some ⟨kw, 0, none⟩), .int .i64 (a : Nat), .int .i64 (-1)] w fun e w' => e = .returned (.tuple #[]) ∧ WAt w' kw kn n V nb (arrived s a [] a) ∧ Below base w w' := by
  have i0 : (0 : Int) ≤ (a : Int) := by omega
  have i1 : (a : Int) < (n : Int) := by omega
  have c0 := h.w0
  have c1 := h.w1
  have z1 := h.wz
  have hw1 : IntKind.i64.wrap ((s.T : Nat) + 1 : Int) = ((s.T + 1 : Nat) : Int) := by rw [IntKind.wrap_i64]; omega
  have HT := h.setT (s.T + 1)
  obtain ⟨t, ht⟩ : ∃ t, s.T + 1 = t := ⟨_, rfl⟩
  rw [ht] at hw1 HT
  have Hb : Hid (Below base w (w.setCell ⟨kw, 1, none⟩ (.int .i64 (t : Nat)))) := Below.setCell (Below.refl _ _) hbw _
  clear h hT
  go_enter Tryz.func128, Tryz.ntmps128
  go_wp2_with fail
  clear c0 c1 z1 hw1
  generalize w.setCell ⟨kw, 1, none⟩ (.int .i64 (t : Nat)) = W at HT Hb ⊢
  have c0 := HT.w0
  have c1 : W.cell? ⟨kw, 1, none⟩ = some (.int .i64 (t : Nat)) := HT.w1
  have d1 := HT.f1 ha
  have d2 := HT.f2 ha
  have d3 := HT.f3 ha
  have d4 := HT.f4 ha
  have z0 := HT.fz
  have n1 := HT.ne
  have n2 := HT.ne.symm
  have H4 := ((((HT.set1 (a := a) (-1)).set2 (a := a) a).set3 (a := a) t).set4 (a := a) t).drewN 1 rfl
  have Hb4 : Hid (Below base w ((((W.setCell ⟨kn, a * 6 + 1, none⟩ (.int .i64 (-1))).setCell ⟨kn, a * 6 + 2, none⟩ (.int .i64 (a : Nat))).setCell ⟨kn, a * 6 + 3, none⟩ (.int .i64 (t : Nat))).setCell ⟨kn, a * 6 + 4, none⟩ (.int .i64 (t : Nat))).drew) := ((((Hb.out.setCell hbn _).setCell hbn _).setCell hbn _).setCell hbn _).drew
  clear HT Hb
  go_region
  clear c0 c1 d1 d2 d3 d4 z0
  have H5 : WAt ((((W.setCell ⟨kn, a * 6 + 1, none⟩ (.int .i64 (-1))).setCell ⟨kn, a * 6 + 2, none⟩ (.int .i64 (a : Nat))).setCell ⟨kn, a * 6 + 3, none⟩ (.int .i64 (t : Nat))).setCell ⟨kn, a * 6 + 4, none⟩ (.int .i64 (t : Nat))).drew kw kn n V nb _ := H4
  clear H4
  generalize ((((W.setCell ⟨kn, a * 6 + 1, none⟩ (.int .i64 (-1))).setCell ⟨kn, a * 6 + 2, none⟩ (.int .i64 (a : Nat))).setCell ⟨kn, a * 6 + 3, none⟩ (.int .i64 (t : Nat))).setCell ⟨kn, a * 6 + 4, none⟩ (.int .i64 (t : Nat))).drew = W2 at H5 Hb4 ⊢
  have H6 : Hid (WAt W2 kw kn n V nb (arrived s a [] a)) := H5.as (fun i hi => by
    refine ⟨by rw [← ht]; rfl, rfl, rfl, by rw [← ht]; rfl, ?_⟩
    show upd s.pieces a _ i = s.pieces i
    by_cases e : i = a
    · subst e; rw [upd_self, hz]; rfl
    · exact upd_ne _ _ e) (by rw [← ht]; rfl)
  clear H5
  go_wp2_with fail
  go_end0
  exact ⟨rfl, H6.out, Hb4.out⟩

set_option maxRecDepth 100000 in
set_option maxHeartbeats 2000000 in
theorem arrive_on {base k : Nat} {A : List Nat} (h : WAt w kw kn n V nb s) (hbw : base ≤ kw) (hbn : base ≤ kn) (ha : a < n) (hk : k < n) (hka : k ≠ a) (hT : s.T < n) (hn : n ≤ 60) :
    Calls Tryz.prog 128 #[.pointer (some ⟨kw, 0, none⟩), .int .i64 (a : Nat), .int .i64 (k : Nat)] w fun e w' => e = .returned (.tuple #[]) ∧ WAt w' kw kn n V nb (arrived s a (k :: A) (s.least k)) ∧ Below base w w' := by
  have i0 : (0 : Int) ≤ (a : Int) := by omega
  have i1 : (a : Int) < (n : Int) := by omega
  have c0 := h.w0
  have c1 := h.w1
  have z1 := h.wz
  have hw1 : IntKind.i64.wrap ((s.T : Nat) + 1 : Int) = ((s.T + 1 : Nat) : Int) := by rw [IntKind.wrap_i64]; omega
  have HT := h.setT (s.T + 1)
  obtain ⟨t, ht⟩ : ∃ t, s.T + 1 = t := ⟨_, rfl⟩
  rw [ht] at hw1 HT
  have Hb : Hid (Below base w (w.setCell ⟨kw, 1, none⟩ (.int .i64 (t : Nat)))) := Below.setCell (Below.refl _ _) hbw _
  clear h hT
  go_enter Tryz.func128, Tryz.ntmps128
  go_wp2_with fail
  clear c0 c1 z1 hw1
  generalize w.setCell ⟨kw, 1, none⟩ (.int .i64 (t : Nat)) = W at HT Hb ⊢
  have c0 := HT.w0
  have c1 : W.cell? ⟨kw, 1, none⟩ = some (.int .i64 (t : Nat)) := HT.w1
  have d1 := HT.f1 ha
  have d2 := HT.f2 ha
  have d3 := HT.f3 ha
  have d4 := HT.f4 ha
  have z0 := HT.fz
  have n1 := HT.ne
  have n2 := HT.ne.symm
  have H4 := ((((HT.set1 (a := a) ((k : Nat))).set2 (a := a) a).set3 (a := a) t).set4 (a := a) t).drewN 1 rfl
  have Hb4 : Hid (Below base w ((((W.setCell ⟨kn, a * 6 + 1, none⟩ (.int .i64 ((k : Nat)))).setCell ⟨kn, a * 6 + 2, none⟩ (.int .i64 (a : Nat))).setCell ⟨kn, a * 6 + 3, none⟩ (.int .i64 (t : Nat))).setCell ⟨kn, a * 6 + 4, none⟩ (.int .i64 (t : Nat))).drew) := ((((Hb.out.setCell hbn _).setCell hbn _).setCell hbn _).setCell hbn _).drew
  clear HT Hb
  go_region
  clear c0 c1 d1 d2 d3 d4 z0
  have H5 : WAt ((((W.setCell ⟨kn, a * 6 + 1, none⟩ (.int .i64 ((k : Nat)))).setCell ⟨kn, a * 6 + 2, none⟩ (.int .i64 (a : Nat))).setCell ⟨kn, a * 6 + 3, none⟩ (.int .i64 (t : Nat))).setCell ⟨kn, a * 6 + 4, none⟩ (.int .i64 (t : Nat))).drew kw kn n V nb _ := H4
  clear H4
  generalize ((((W.setCell ⟨kn, a * 6 + 1, none⟩ (.int .i64 ((k : Nat)))).setCell ⟨kn, a * 6 + 2, none⟩ (.int .i64 (a : Nat))).setCell ⟨kn, a * 6 + 3, none⟩ (.int .i64 (t : Nat))).setCell ⟨kn, a * 6 + 4, none⟩ (.int .i64 (t : Nat))).drew = W2 at H5 Hb4 ⊢
  have i2 : (0 : Int) ≤ (k : Int) := by omega
  have i3 : (k : Int) < (n : Int) := by omega
  have t1 : ((k : Int) != -1) = true := by simp
  have c0 := H5.w0
  have d2 : W2.cell? ⟨kn, k * 6 + 2, none⟩ = some (.int .i64 (s.least k : Nat)) := by rw [H5.f2 hk]; show some (Value.int .i64 ((upd s.least a a k : Nat) : Int)) = _; rw [upd_ne _ _ hka]
  have d2' := H5.f2 ha
  have d5 := H5.f5 ha
  have z0 := H5.fz
  have HS := (H5.set2 (a := a) (s.least k)).set5 (a := a) 1
  have Hb6 : Hid (Below base w ((W2.setCell ⟨kn, a * 6 + 2, none⟩ (.int .i64 (s.least k : Nat))).setCell ⟨kn, a * 6 + 5, none⟩ (.int .i64 ((1 : Nat) : Int)))) := (Hb4.out.setCell hbn _).setCell hbn _
  have H6 : Hid (WAt ((W2.setCell ⟨kn, a * 6 + 2, none⟩ (.int .i64 (s.least k : Nat))).setCell ⟨kn, a * 6 + 5, none⟩ (.int .i64 ((1 : Nat) : Int))) kw kn n V nb (arrived s a (k :: A) (s.least k))) := HS.as (fun i hi => by
    refine ⟨by rw [← ht]; rfl, rfl, ?_, by rw [← ht]; rfl, ?_⟩
    · show upd s.least a (s.least k) i = upd (upd s.least a a) a (s.least k) i
      by_cases e : i = a
      · subst e; rw [upd_self, upd_self]
      · rw [upd_ne _ _ e, upd_ne _ _ e, upd_ne _ _ e]
    · show upd s.pieces a (if ((k : Nat) : Int) = -1 then 0 else 1) i = upd s.pieces a 1 i
      rw [if_neg (by omega)]) (by rw [← ht]; rfl)
  clear H5 HS Hb4
  go_wp2_with fail
  go_end0
  exact ⟨rfl, H6.out, Hb6.out⟩

end Go.Proofs.YtcfemppdeidjmacGreat.Br
