/-
  Dp Dq
-/
import Derived.Laws.OwnMore
import Derived.Laws.CopyRow
import Derived.Deep.MidRow
import Derived.Deep.AppendLies
import Derived.Test.YtcfemppdeidjmacGreatW36
import Derived.Deep.WholeRow
import Derived.Deep.RegionHeld3
import Derived.OwnWalk
namespace Go.Proofs.YtcfemppdeidjmacGreat.Dk.L
open Go.RowKit Go.Deep
open Go.RowKit (Below)
set_option linter.unusedVariables false

variable {w w' : World} {B n kd g gn gk i j N : Nat} {F F' : Nat → Prop} {s : St} {v u R : Value} {l p : List UInt8} {f f' : Nat → List UInt8} {x : Int} {t : TypeId}

theorem blk_sets {b k : Nat} (hk : k ≠ b) : ∀ (vs : List Value) (o : Nat) (w : World), (w.setCells b o vs).heap[k]? = w.heap[k]?
  | [], _, _ => rfl
  | v :: r, o, w => by rw [World.setCells, blk_sets hk r (o + 1)]; exact blk_setCell_other _ _ _ _ hk
theorem size_sets {b : Nat} : ∀ (vs : List Value) (o : Nat) (w : World), (w.setCells b o vs).heap.size = w.heap.size
  | [], _, _ => rfl
  | v :: r, o, w => by rw [World.setCells, size_sets r (o + 1)]; simp
theorem os_sets {b : Nat} : ∀ (vs : List Value) (o : Nat) (w : World), (w.setCells b o vs).os = w.os ∧ (w.setCells b o vs).tape = w.tape ∧ (w.setCells b o vs).output = w.output
  | [], _, _ => ⟨rfl, rfl, rfl⟩
  | v :: r, o, w => by rw [World.setCells]; exact os_sets r (o + 1) _
theorem turn_sets {b : Nat} (hb : F b) (vs : List Value) (o : Nat) : Turn F w (w.setCells b o vs) :=
  ⟨(os_sets vs o w).1, (os_sets vs o w).2.1, (os_sets vs o w).2.2, Nat.le_of_eq (size_sets vs o w).symm, fun k _ hk => blk_sets (fun e => hk (by rw [e]; exact hb)) vs o w⟩
theorem turn_set {b : Nat} (hb : F b) (v : Value) : Turn F w (w.setCell ⟨b, i, none⟩ v) :=
  ⟨rfl, rfl, rfl, by simp, fun k _ hk => blk_setCell_other _ _ _ _ fun e => hk (by rw [e]; exact hb)⟩
theorem row_sets {b : Nat} : ∀ (vs : List Value) (o : Nat) (w : World) (f : Nat → Value), w.rowIs b t N f → (w.setCells b o vs).rowIs b t N (fun j => if o ≤ j ∧ j < o + vs.length then vs[j - o]?.getD default else f j)
  | [], o, w, f, h => h.congr (fun j _ => by rw [if_neg (by simp)])
  | v :: r, o, w, f, h => by
    have ih := row_sets r (o + 1) _ _ (h.set o v)
    refine ih.congr (fun j _ => ?_)
    by_cases h1 : j = o
    · subst h1
      rw [if_neg (by omega), if_pos rfl, if_pos (by simp), Nat.sub_self]
      rfl
    · by_cases h2 : o + 1 ≤ j ∧ j < o + 1 + r.length
      · rw [if_pos h2, if_pos (by simp; omega), show j - o = (j - (o + 1)) + 1 by omega, List.getElem?_cons_succ]
      · rw [if_neg h2, if_neg h1, if_neg (by simp; omega)]

def Tg (w : World) (k : Nat) (t : TypeId) : Prop := ∃ cs fr, w.heap[k]? = some (.cells cs t fr)
theorem Tg.one {k : Nat} {t t' : TypeId} (h : Tg w k t) (h' : Tg w k t') : t = t' := by
  obtain ⟨cs, fr, e⟩ := h
  obtain ⟨cs', fr', e'⟩ := h'
  rw [e] at e'
  cases e'
  rfl
theorem Tg.row {k : Nat} {m : Nat} {q : Nat → Value} (h : w.rowIs k t m q) : Tg w k t := by
  obtain ⟨cs, e, _⟩ := h
  exact ⟨cs, _, e⟩
theorem Tg.own {k b m M : Nat} {xs : List Value} (h : w.ownsRow b t m v M xs) (hk : v.ownBlock = some k) : Tg w k t := by
  rcases h.2 with ⟨h0, _⟩ | ⟨g', cap, cur, hv, h1, h2, h3⟩
  · rw [h0] at hk; cases hk
  · rw [hv] at hk
    cases hk
    exact ⟨cur, _, h2⟩
theorem own_block {b m M : Nat} {xs : List Value} (h : w.ownsRow b t m v M xs) (e : ∀ k, v.ownBlock = some k → w'.heap[k]? = w.heap[k]?) : w'.ownsRow b t m v M xs := by
  refine ⟨h.1, ?_⟩
  rcases h.2 with h0 | ⟨g, cap, cur, hv, h1, h2, h3⟩
  · exact Or.inl h0
  · exact Or.inr ⟨g, cap, cur, hv, h1, (e g (by rw [hv]; rfl)).trans h2, h3⟩

def pg (p : List UInt8) : List Value := (List.range 32).map fun j => by1 (p.getD j 0)
theorem pg_len : (pg p).length = 32 := by simp [pg]
theorem pg_get (hj : j < 32) : (pg p)[j]? = some (by1 (p.getD j 0)) := by simp [pg, hj]
theorem pg_one : ∀ v ∈ pg p, v.oneCell' = true := by
  intro v hv
  obtain ⟨j, _, rfl⟩ := List.mem_map.1 hv
  rfl

def PgsAt (w : World) (g n : Nat) (f : Nat → List UInt8) : Prop := (∀ i, i < n → (f i).length = 32) ∧ w.rowIs g 153 (n * 32) fun k => by1 ((f (k / 32)).getD (k % 32) 0)

theorem PgsAt.of_block (h : PgsAt w g n f) (e : w'.heap[g]? = w.heap[g]?) : PgsAt w' g n f := ⟨h.1, h.2.of_block e⟩
theorem PgsAt.range (h : PgsAt w g n f) (hi : i < n) : w.rangeAt g (i * 32) (pg (f i)) := fun j v hv => by
  have hj : j < 32 := by have := (List.getElem?_eq_some_iff.1 hv).1; rwa [pg_len] at this
  rw [pg_get hj] at hv
  cases hv
  rw [h.2.cell (i := i * 32 + j) (by omega), show (i * 32 + j) / 32 = i by omega, show (i * 32 + j) % 32 = j by omega]
theorem PgsAt.there (h : PgsAt w g n f) (hi : i < n) : w.there g (i * 32) 32 := fun j hj => ⟨by rw [h.2.cell (i := i * 32 + j) (by omega)]; rfl, h.2.frozen _⟩
theorem PgsAt.set (h : PgsAt w g n f) (hi : i < n) (hp : p.length = 32) : PgsAt (w.setCells g (i * 32) (pg p)) g n (upd f i p) := by
  refine ⟨fun k hk => ?_, (row_sets (pg p) (i * 32) w _ h.2).congr fun k hk => ?_⟩
  · unfold upd
    split
    · exact hp
    · exact h.1 k hk
  · rw [pg_len]
    by_cases e : k / 32 = i
    · rw [if_pos (by omega), show k - i * 32 = k % 32 by omega, pg_get (by omega), e, upd_same]
      rfl
    · rw [if_neg (by omega), upd_other f p e]

def flat (n : Nat) (f : Nat → List UInt8) : List Value := (List.range (n * 32)).map fun k => by1 ((f (k / 32)).getD (k % 32) 0)
theorem flat_len : (flat n f).length = n * 32 := by simp [flat]
theorem flat_get (hj : j < n * 32) : (flat n f)[j]? = some (by1 ((f (j / 32)).getD (j % 32) 0)) := by simp [flat, hj]
theorem flat_one : ∀ v ∈ flat n f, v.oneCell' = true := by
  intro v hv
  obtain ⟨j, _, rfl⟩ := List.mem_map.1 hv
  rfl
theorem PgsAt.all (h : PgsAt w g n f) : w.rangeAt g 0 (flat n f) := fun j v hv => by
  have hj : j < n * 32 := by have := (List.getElem?_eq_some_iff.1 hv).1; rwa [flat_len] at this
  rw [flat_get hj] at hv
  cases hv
  rw [Nat.zero_add]
  exact h.2.cell hj
theorem PgsAt.thereAll (h : PgsAt w g n f) : w.there g 0 (n * 32) := fun j hj => ⟨by rw [Nat.zero_add, h.2.cell hj]; rfl, h.2.frozen _⟩
theorem PgsAt.setAll (h : PgsAt w g n f) (hf : ∀ i, i < n → (f' i).length = 32) : PgsAt (w.setCells g 0 (flat n f')) g n f' := by
  refine ⟨hf, (row_sets (flat n f') 0 w _ h.2).congr fun k hk => ?_⟩
  rw [flat_len, if_pos (by omega), Nat.sub_zero, flat_get hk]
  rfl

def wc (x : Nat × List UInt8) : List Value := .int .i64 (x.1 : Nat) :: pg x.2
theorem wc_len {x : Nat × List UInt8} : (wc x).length = 33 := by simp [wc, pg_len]
theorem wc_one {x : Nat × List UInt8} : ∀ v ∈ wc x, v.oneCell' = true := by
  intro v hv
  rcases List.mem_cons.1 hv with rfl | hv
  · rfl
  · exact pg_one v hv
theorem wcs_get : ∀ (l : List (Nat × List UInt8)) (i j : Nat), i < l.length → j < 33 → (l.flatMap wc)[i * 33 + j]? = (wc (l.getD i (0, [])))[j]?
  | [], i, j, h, _ => absurd h (Nat.not_lt_zero _)
  | x :: r, 0, j, _, hj => by
    rw [List.flatMap_cons, List.getElem?_append_left (by rw [wc_len]; omega), Nat.zero_mul, Nat.zero_add]
    rfl
  | x :: r, i + 1, j, h, hj => by
    rw [List.flatMap_cons, List.getElem?_append_right (by rw [wc_len]; omega), wc_len, show (i + 1) * 33 + j - 33 = i * 33 + j by omega, wcs_get r i j (by simpa using h) hj]
    rfl

structure WAt (w : World) (B n : Nat) (R : Value) (l : List (Nat × List UInt8)) : Prop where
  own : w.ownsRow B 155 33 R l.length (l.flatMap wc)
  el : ∀ x ∈ l, x.1 < n ∧ x.2.length = 32

theorem WAt.of_block {l : List (Nat × List UInt8)} (h : WAt w B n R l) (e : ∀ k, R.ownBlock = some k → w'.heap[k]? = w.heap[k]?) : WAt w' B n R l := ⟨own_block h.own e, h.el⟩
theorem WAt.form {l : List (Nat × List UInt8)} (h : WAt w B n R l) : ∃ ao c, R = .slice ao l.length c ∧ ∀ i, i < l.length → ∃ g, ao = some ⟨g, 0, none⟩ ∧ w.rangeAt g (i * 33) (wc (l.getD i (0, []))) := by
  rcases h.own.2 with ⟨h0, h1⟩ | ⟨g, cap, cur, hv, h1, h2, h3, h4, h5, h6⟩
  · exact ⟨none, 0, by rw [h0, h1], fun i hi => by omega⟩
  · refine ⟨_, cap, hv, fun i hi => ⟨g, rfl, fun j v hv => ?_⟩⟩
    have hj : j < 33 := by have := (List.getElem?_eq_some_iff.1 hv).1; rwa [wc_len] at this
    rw [← wcs_get l i j hi hj, ← h6, List.getElem?_take, if_pos (by omega)] at hv
    simp only [World.cell?, h2]
    simpa using hv
theorem WAt.at_ {l : List (Nat × List UInt8)} (h : WAt w B n R l) (hi : i < l.length) : (l.getD i (0, [])).1 < n ∧ (l.getD i (0, [])).2.length = 32 := by
  refine h.el _ ?_
  rw [List.getD_eq_getElem?_getD, List.getElem?_eq_getElem hi]
  exact List.getElem_mem hi

def dcs (gn gk n : Nat) (R : Value) (x : Int) (d : Bool) : Nat → Value := fun i => if i = 0 then .slice (some ⟨gn, 0, none⟩) n n else if i = 1 then .slice (some ⟨gk, 0, none⟩) n n else if i = 2 then R else if i = 3 then .int .i64 x else .bool d
def Lft (x y : Int) : Prop := x = y ∨ (x < 0 ∧ y < 0)

structure Ex (w : World) (B kd n : Nat) (s : St) (F : Nat → Prop) (gn gk : Nat) (R : Value) (x : Int) : Prop where
  row : w.rowIs kd 138 5 (dcs gn gk n R x s.down)
  now : PgsAt w gn n s.now
  kept : PgsAt w gk n s.kept
  wr : WAt w B n R s.wr
  ne : gn ≠ gk
  lft : Lft x s.left
  fn : F gn
  fk : F gk
  fr : ∀ k, R.ownBlock = some k → F k
  dk : F kd
  own : ∀ b, F b → B ≤ b ∧ b < w.heap.size
  small : 1 ≤ n ∧ n ≤ 80
  wide : -9223372036854775808 ≤ x ∧ x ≤ 9223372036854775807

theorem Ex.grow (h : Ex w B kd n s F gn gk R x) (hF : ∀ k, F k → F' k) (ho : ∀ b, F' b → B ≤ b ∧ b < w'.heap.size) (e : ∀ b, F b → w'.heap[b]? = w.heap[b]?) : Ex w' B kd n s F' gn gk R x :=
  ⟨h.row.of_block (e kd h.dk), h.now.of_block (e gn h.fn), h.kept.of_block (e gk h.fk), h.wr.of_block fun k hk => e k (h.fr k hk), h.ne, h.lft, hF _ h.fn, hF _ h.fk, fun k hk => hF _ (h.fr k hk), hF _ h.dk, ho, h.small, h.wide⟩
theorem Ex.keep (h : Ex w B kd n s F gn gk R x) (hs : w.heap.size ≤ w'.heap.size) (e : ∀ b, F b → w'.heap[b]? = w.heap[b]?) : Ex w' B kd n s F gn gk R x :=
  h.grow (fun _ q => q) (fun b q => ⟨(h.own b q).1, Nat.lt_of_lt_of_le (h.own b q).2 hs⟩) e
theorem Ex.below (h : Ex w B kd n s F gn gk R x) (hb : Below w.heap.size w w') : Ex w' B kd n s F gn gk R x := h.keep hb.size fun b q => hb.block b (h.own b q).2

theorem Ex.cell0 (h : Ex w B kd n s F gn gk R x) : w.cell? ⟨kd, 0, none⟩ = some (.slice (some ⟨gn, 0, none⟩) n n) := h.row.cell (i := 0) (by omega)
theorem Ex.cell1 (h : Ex w B kd n s F gn gk R x) : w.cell? ⟨kd, 1, none⟩ = some (.slice (some ⟨gk, 0, none⟩) n n) := h.row.cell (i := 1) (by omega)
theorem Ex.cell2 (h : Ex w B kd n s F gn gk R x) : w.cell? ⟨kd, 2, none⟩ = some R := h.row.cell (i := 2) (by omega)
theorem Ex.cell3 (h : Ex w B kd n s F gn gk R x) : w.cell? ⟨kd, 3, none⟩ = some (.int .i64 x) := h.row.cell (i := 3) (by omega)
theorem Ex.cell4 (h : Ex w B kd n s F gn gk R x) : w.cell? ⟨kd, 4, none⟩ = some (.bool s.down) := h.row.cell (i := 4) (by omega)
theorem Ex.free (h : Ex w B kd n s F gn gk R x) (i : Nat) : w.frozen? ⟨kd, i, none⟩ = false := h.row.frozen i

section
theorem Ex.kn (h : Ex w B kd n s F gn gk R x) : kd ≠ gn ∧ kd ≠ gk ∧ (∀ k, R.ownBlock = some k → k ≠ kd ∧ k ≠ gn ∧ k ≠ gk) := by
  refine ⟨fun e => ?_, fun e => ?_, fun k hk => ⟨fun e => ?_, fun e => ?_, fun e => ?_⟩⟩
  · have := Tg.row h.row; rw [e] at this; exact absurd (Tg.one this (Tg.row h.now.2)) (by decide)
  · have := Tg.row h.row; rw [e] at this; exact absurd (Tg.one this (Tg.row h.kept.2)) (by decide)
  · have := Tg.own h.wr.own hk; rw [e] at this; exact absurd (Tg.one this (Tg.row h.row)) (by decide)
  · have := Tg.own h.wr.own hk; rw [e] at this; exact absurd (Tg.one this (Tg.row h.now.2)) (by decide)
  · have := Tg.own h.wr.own hk; rw [e] at this; exact absurd (Tg.one this (Tg.row h.kept.2)) (by decide)

theorem Ex.setOwn (h : Ex w B kd n s F gn gk R x) {R' : Value} {x' : Int} {d' : Bool} {s' : St} (o : Nat) (v : Value) (hk : s'.kept = s.kept) (hn : s'.now = s.now) (hd : s'.down = d') (hw : WAt (w.setCell ⟨kd, o, none⟩ v) B n R' s'.wr) (hR : ∀ k, R'.ownBlock = some k → F k) (hl : Lft x' s'.left) (hx : -9223372036854775808 ≤ x' ∧ x' ≤ 9223372036854775807)
    (hc : ∀ i, i < 5 → (if i = o then v else dcs gn gk n R x s.down i) = dcs gn gk n R' x' d' i) : Ex (w.setCell ⟨kd, o, none⟩ v) B kd n s' F gn gk R' x' := by
  obtain ⟨k1, k2, k3⟩ := h.kn
  have ho : ∀ k, k ≠ kd → (w.setCell ⟨kd, o, none⟩ v).heap[k]? = w.heap[k]? := fun k hk => blk_setCell_other _ _ _ _ hk
  exact ⟨(h.row.set o v).congr fun i hi => by rw [hd]; exact hc i hi, by rw [hn]; exact h.now.of_block (ho gn k1.symm), by rw [hk]; exact h.kept.of_block (ho gk k2.symm), hw, h.ne, hl, h.fn, h.fk, hR, h.dk, fun b hb => ⟨(h.own b hb).1, by simpa using (h.own b hb).2⟩, h.small, hx⟩

theorem Ex.wrOwn (h : Ex w B kd n s F gn gk R x) (o : Nat) (v : Value) : WAt (w.setCell ⟨kd, o, none⟩ v) B n R s.wr := h.wr.of_block fun k hk => blk_setCell_other _ _ _ _ (h.kn.2.2 k hk).1

theorem Ex.setLeft (h : Ex w B kd n s F gn gk R x) {x' y : Int} (hl : Lft x' y) (hx : -9223372036854775808 ≤ x' ∧ x' ≤ 9223372036854775807) : Ex (w.setCell ⟨kd, 3, none⟩ (.int .i64 x')) B kd n { s with left := y } F gn gk R x' :=
  h.setOwn 3 _ rfl rfl rfl (h.wrOwn _ _) h.fr hl hx fun i hi => by
    have : i = 0 ∨ i = 1 ∨ i = 2 ∨ i = 3 ∨ i = 4 := by omega
    rcases this with rfl | rfl | rfl | rfl | rfl <;> rfl
theorem Ex.setDown (h : Ex w B kd n s F gn gk R x) (d : Bool) : Ex (w.setCell ⟨kd, 4, none⟩ (.bool d)) B kd n { s with down := d } F gn gk R x :=
  h.setOwn 4 _ rfl rfl rfl (h.wrOwn _ _) h.fr h.lft h.wide fun i hi => by
    have : i = 0 ∨ i = 1 ∨ i = 2 ∨ i = 3 ∨ i = 4 := by omega
    rcases this with rfl | rfl | rfl | rfl | rfl <;> rfl
theorem Ex.setNone (h : Ex w B kd n s F gn gk R x) : Ex (w.setCell ⟨kd, 2, none⟩ (.slice none 0 0)) B kd n { s with wr := [] } F gn gk (.slice none 0 0) x :=
  h.setOwn 2 _ rfl rfl rfl ⟨World.ownsRow_nil .., fun y hy => by cases hy⟩ (fun k e => by cases e) h.lft h.wide fun i hi => by
    have : i = 0 ∨ i = 1 ∨ i = 2 ∨ i = 3 ∨ i = 4 := by omega
    rcases this with rfl | rfl | rfl | rfl | rfl <;> rfl

theorem Ex.setNow (h : Ex w B kd n s F gn gk R x) (hi : i < n) (hp : p.length = 32) : Ex (w.setCells gn (i * 32) (pg p)) B kd n { s with now := upd s.now i p } F gn gk R x := by
  obtain ⟨k1, k2, k3⟩ := h.kn
  exact ⟨h.row.of_block (blk_sets k1 _ _ _), h.now.set hi hp, h.kept.of_block (blk_sets h.ne.symm _ _ _), h.wr.of_block fun k hk => blk_sets (k3 k hk).2.1 _ _ _, h.ne, h.lft, h.fn, h.fk, h.fr, h.dk, fun b hb => ⟨(h.own b hb).1, by rw [size_sets]; exact (h.own b hb).2⟩, h.small, h.wide⟩
theorem Ex.setKept (h : Ex w B kd n s F gn gk R x) (hi : i < n) (hp : p.length = 32) : Ex (w.setCells gk (i * 32) (pg p)) B kd n { s with kept := upd s.kept i p } F gn gk R x := by
  obtain ⟨k1, k2, k3⟩ := h.kn
  exact ⟨h.row.of_block (blk_sets k2 _ _ _), h.now.of_block (blk_sets h.ne _ _ _), h.kept.set hi hp, h.wr.of_block fun k hk => blk_sets (k3 k hk).2.2 _ _ _, h.ne, h.lft, h.fn, h.fk, h.fr, h.dk, fun b hb => ⟨(h.own b hb).1, by rw [size_sets]; exact (h.own b hb).2⟩, h.small, h.wide⟩
theorem Ex.keptAll (h : Ex w B kd n s F gn gk R x) : Ex (w.setCells gk 0 (flat n s.now)) B kd n { s with kept := s.now } F gn gk R x := by
  obtain ⟨k1, k2, k3⟩ := h.kn
  exact ⟨h.row.of_block (blk_sets k2 _ _ _), h.now.of_block (blk_sets h.ne _ _ _), h.kept.setAll h.now.1, h.wr.of_block fun k hk => blk_sets (k3 k hk).2.2 _ _ _, h.ne, h.lft, h.fn, h.fk, h.fr, h.dk, fun b hb => ⟨(h.own b hb).1, by rw [size_sets]; exact (h.own b hb).2⟩, h.small, h.wide⟩
theorem Ex.nowAll (h : Ex w B kd n s F gn gk R x) : Ex (w.setCells gn 0 (flat n s.kept)) B kd n { s with now := s.kept } F gn gk R x := by
  obtain ⟨k1, k2, k3⟩ := h.kn
  exact ⟨h.row.of_block (blk_sets k1 _ _ _), h.now.setAll h.kept.1, h.kept.of_block (blk_sets h.ne.symm _ _ _), h.wr.of_block fun k hk => blk_sets (k3 k hk).2.1 _ _ _, h.ne, h.lft, h.fn, h.fk, h.fr, h.dk, fun b hb => ⟨(h.own b hb).1, by rw [size_sets]; exact (h.own b hb).2⟩, h.small, h.wide⟩
end

theorem run_copy_many (w : World) (dT sT ty elem : TypeId) (sz b o dLen dCap : Nat) (a : Addr) (sLen sCap : Nat) (cs : List Value)
    (hu : Tryz.prog.underlying dT = some (.slice elem)) (hs : (Tryz.prog.info? elem).map (·.size) = some sz) (hn : cs.length = Nat.min sLen dLen * sz)
    (hsrc : ∀ j v, cs[j]? = some v → w.cell? (a.add j) = some v) (ht : w.there b o cs.length) (h1 : ∀ v ∈ cs, v.oneCell' = true) :
    (Builtin.copy_ #[dT, sT] ty #[.slice (some ⟨b, o, none⟩) dLen dCap, .slice (some a) sLen sCap]).run Tryz.prog w = .ok (goInt (Nat.min sLen dLen)) (w.setCells b o cs) := by
  have hl := run_loadCells_list (P := Tryz.prog) w a cs hsrc
  have hst := run_storeCells_cells (P := Tryz.prog) b o cs 0 w (fun j hj => by simpa using (ht j hj).1) (fun j hj => by simpa using (ht j hj).2) h1
  cases hq : Tryz.prog.info? elem with
  | none => simp [hq] at hs
  | some i =>
    have hi : i.size = sz := by simpa [hq] using hs
    simp [Builtin.copy_, run_underlying hu, Builtin.lenOf, Builtin.firstCells, sizeOf, typeInfo, hq, hi, ← hn, hl, hst]

theorem Lft.zero {y : Int} (h : Lft x y) : x = 0 ↔ y = 0 := by unfold Lft at h; omega
theorem Lft.pos {y : Int} (h : Lft x y) : 0 < x ↔ 0 < y := by unfold Lft at h; omega

set_option maxRecDepth 100000 in
set_option maxHeartbeats 1000000 in
theorem l_step (h : Ex w B kd n s F gn gk R x) :
    Calls Tryz.prog 196 #[.pointer (some ⟨kd, 0, none⟩)] w fun e w' => ((e = .returned (.iface 102 (.int .i64 8)) ∧ Off s ∧ Ex w' B kd n (fall s) F gn gk R x) ∨ (e = .returned .nilIface ∧ ¬ Off s ∧ ∃ x', Ex w' B kd n (less s) F gn gk R x')) ∧ Turn F w w' := by
  have c3 := h.cell3
  have c4 := h.cell4
  have z3 := h.free 3
  have z4 := h.free 4
  have HR : Hid (Ex w B kd n s F gn gk R x) := h
  obtain ⟨kept, now, wr, left, down⟩ := s
  have HL : Hid (Lft x left) := h.lft
  have HW : Hid (-9223372036854775808 ≤ x ∧ x ≤ 9223372036854775807) := h.wide
  clear h
  dsimp only at c3 c4
  by_cases h0 : x = 0
  · subst h0
    have HO : Hid (Off (⟨kept, now, wr, left, down⟩ : St)) := Or.inr (HL.out.zero.1 rfl)
    go_enter Tryz.func196, Tryz.ntmps196
    go_wp2_with fail
    go_ret
    exact ⟨Or.inl ⟨rfl, HO.out, HR.out.setDown true⟩, turn_set HR.out.dk _⟩
  · have t0 : (x == (0 : Int)) = false := by rw [beq_eq_false_iff_ne]; exact h0
    cases down with
    | true =>
      go_enter Tryz.func196, Tryz.ntmps196
      go_wp2_with fail
      go_ret
      exact ⟨Or.inl ⟨rfl, Or.inl rfl, HR.out⟩, Turn.refl _⟩
    | false =>
      have HO : Hid (¬ Off (⟨kept, now, wr, left, false⟩ : St)) := show ¬ Off _ from fun q => by
        rcases q with q | q
        · cases q
        · exact h0 (HL.out.zero.2 q)
      by_cases h1 : 0 < x
      · have w1 : IntKind.i64.wrap (x - 1) = x - 1 := by rw [IntKind.wrap_i64]; have := HW.out; omega
        have HX : Hid (0 < x) := h1
        go_enter Tryz.func196, Tryz.ntmps196
        go_wp2_with fail
        go_ret
        have hx : -9223372036854775808 ≤ x - 1 ∧ x - 1 ≤ 9223372036854775807 := by have := HW.out; have := HX.out; omega
        have hp := HL.out.pos.1 HX.out
        have hl : less (⟨kept, now, wr, left, false⟩ : St) = ⟨kept, now, wr, left - 1, false⟩ := by unfold less; rw [if_pos hp]
        have hlf : Lft (x - 1) (left - 1) := by have := HL.out; have := HX.out; unfold Lft at *; omega
        exact ⟨Or.inr ⟨rfl, HO.out, _, by rw [hl]; exact HR.out.setLeft hlf hx⟩, turn_set HR.out.dk _⟩
      · have HX : Hid (¬ 0 < x) := h1
        go_enter Tryz.func196, Tryz.ntmps196
        go_wp2_with fail
        go_ret
        have hp : ¬ 0 < left := fun q => absurd (HL.out.pos.2 q) (by have := HX.out; omega)
        have hl : less (⟨kept, now, wr, left, false⟩ : St) = ⟨kept, now, wr, left, false⟩ := by unfold less; rw [if_neg hp]
        exact ⟨Or.inr ⟨rfl, HO.out, x, by rw [hl]; exact HR.out⟩, Turn.refl _⟩

set_option maxRecDepth 100000 in
set_option maxHeartbeats 1000000 in
theorem l_has (h : Ex w B kd n s F gn gk R x) (k : Int) :
    Calls Tryz.prog 195 #[.pointer (some ⟨kd, 0, none⟩), .int .i64 k] w fun e w' => e = .returned (.bool (decide (0 ≤ k ∧ k < (n : Int)))) ∧ w' = w := by
  have c0 := h.cell0
  clear h
  by_cases h0 : 0 ≤ k
  · by_cases h1 : k < (n : Int)
    · rw [decide_eq_true ⟨h0, h1⟩]
      go_enter Tryz.func195, Tryz.ntmps195
      go_wp2_with fail
      go_ret
      exact ⟨rfl, rfl⟩
    · rw [decide_eq_false (fun q => h1 q.2)]
      go_enter Tryz.func195, Tryz.ntmps195
      go_wp2_with fail
      go_ret
      exact ⟨rfl, rfl⟩
  · rw [decide_eq_false (fun q => h0 q.1)]
    go_enter Tryz.func195, Tryz.ntmps195
    go_wp2_with fail
    go_ret
    exact ⟨rfl, rfl⟩

set_option maxRecDepth 100000 in
set_option maxHeartbeats 1000000 in
theorem l_pages (h : Ex w B kd n s F gn gk R x) : Calls Tryz.prog 114 #[.pointer (some ⟨kd, 0, none⟩)] w fun e w' => e = .returned (.int .i64 (n : Nat)) ∧ w' = w := by
  have c0 := h.cell0
  clear h
  go_enter Tryz.func114, Tryz.ntmps114
  go_wp2_with fail
  go_ret
  exact ⟨rfl, rfl⟩

end Go.Proofs.YtcfemppdeidjmacGreat.Dk.L

namespace Go.Proofs.YtcfemppdeidjmacGreat.Dk.L
open Go.RowKit Go.Deep
open Go.RowKit (Below)
set_option linter.unusedVariables false

variable {w w' : World} {B n kd g gn gk i j N : Nat} {F F' : Nat → Prop} {s : St} {v u R : Value} {l p : List UInt8} {x : Int}

theorem Tryz.infoPage : (Tryz.prog.info? 153).map (·.size) = some 32 := by kernel_rfl
theorem Tryz.infoU8 : (Tryz.prog.info? 5).map (·.size) = some 1 := by kernel_rfl
theorem Tryz.infoDW : (Tryz.prog.info? 155).map (fun i => (i.zero, i.size, i.bytes)) = some (some (.agg #[.int .i64 0, .int .u8 0, .int .u8 0, .int .u8 0, .int .u8 0, .int .u8 0, .int .u8 0, .int .u8 0, .int .u8 0, .int .u8 0, .int .u8 0, .int .u8 0, .int .u8 0, .int .u8 0, .int .u8 0, .int .u8 0, .int .u8 0, .int .u8 0, .int .u8 0, .int .u8 0, .int .u8 0, .int .u8 0, .int .u8 0, .int .u8 0, .int .u8 0, .int .u8 0, .int .u8 0, .int .u8 0, .int .u8 0, .int .u8 0, .int .u8 0, .int .u8 0, .int .u8 0]), 33, 40) := by kernel_rfl

abbrev nilPg : Obj := .cells #[.int .u8 0, .int .u8 0, .int .u8 0, .int .u8 0, .int .u8 0, .int .u8 0, .int .u8 0, .int .u8 0, .int .u8 0, .int .u8 0, .int .u8 0, .int .u8 0, .int .u8 0, .int .u8 0, .int .u8 0, .int .u8 0, .int .u8 0, .int .u8 0, .int .u8 0, .int .u8 0, .int .u8 0, .int .u8 0, .int .u8 0, .int .u8 0, .int .u8 0, .int .u8 0, .int .u8 0, .int .u8 0, .int .u8 0, .int .u8 0, .int .u8 0, .int .u8 0] 153

theorem bt_turn {a : Option Addr} (h : BtAt w a l) (t : Turn F w w') (ha : l ≠ [] → ∀ b o, a = some ⟨b, o, none⟩ → ¬ F b) : BtAt w' a l := fun i hi => by
  obtain ⟨b, o, e, h1⟩ := h i hi
  exact ⟨b, o, e, t.cell (ha (by intro q; subst q; cases hi) b o e) h1⟩

theorem pg_map (hp : p.length = 32) : p.map by1 = pg p := by
  refine List.ext_getElem? fun j => ?_
  by_cases hj : j < 32
  · rw [pg_get hj, List.getElem?_map, List.getElem?_eq_getElem (by omega), List.getD_eq_getElem?_getD, List.getElem?_eq_getElem (by omega)]
    rfl
  · rw [List.getElem?_eq_none (by rw [List.length_map]; omega), List.getElem?_eq_none (by rw [pg_len]; omega)]

theorem copy_page {a : Option Addr} {c : Nat} (ha : BtAt w a l) (hl : l.length ≤ 32) (hc : l.length ≤ c) (hnil : a = none → c = 0) :
    (Builtin.copy_ #[74, 74] 3 #[.slice (some ⟨w.heap.size, 0, none⟩) 32 32, .slice a l.length c]).run Tryz.prog (w.alloc nilPg) = .ok (.int .i64 (l.length : Nat)) (w.alloc (.cells (pg (pad l)).toArray 153)) := by
  have hbl : ∀ o : Obj, Below w.heap.size w (w.alloc o) := fun o => (Below.refl _ _).alloc (Nat.le_refl _) _
  cases a with
  | none =>
    obtain rfl := hnil rfl
    obtain rfl : l = [] := List.eq_nil_of_length_eq_zero (by omega)
    exact run_copy_nil (P := Tryz.prog) (w.alloc nilPg) 74 74 3 5 ⟨w.heap.size, 0, none⟩ 32 32 Tryz.underlying74 (by rw [Tryz.infoU8]; rfl)
  | some a =>
    have hr := run_copy_row (P := Tryz.prog) (w.alloc nilPg) 74 74 3 5 w.heap.size 0 32 32 a l.length c _ 153 (l.map by1) Tryz.underlying74 Tryz.infoU8 (heap_alloc_last w _) (by rw [List.length_map]; exact (Nat.min_eq_left hl).symm) (fun j v hv => by
      rw [List.getElem?_map] at hv
      obtain ⟨x, hx, rfl⟩ := Option.map_eq_some_iff.1 hv
      obtain ⟨hj, hx'⟩ := List.getElem?_eq_some_iff.1 hx
      obtain ⟨b, o, e, hcell⟩ := ha.below (hbl nilPg) j hj
      cases e
      rw [Addr.add_lit, hcell, List.getD_eq_getElem?_getD, hx]
      rfl) (by rw [List.length_map]; simpa using hl) (fun v hv => by
      obtain ⟨x, _, rfl⟩ := List.mem_map.1 hv
      rfl)
    rw [World.setRow_alloc_new] at hr
    rw [hr, List.length_map, ← pg_map (pad_len hl)]
    have hz : ∀ m, m ≤ 32 → (List.drop m [.int .u8 0, .int .u8 0, .int .u8 0, .int .u8 0, .int .u8 0, .int .u8 0, .int .u8 0, .int .u8 0, .int .u8 0, .int .u8 0, .int .u8 0, .int .u8 0, .int .u8 0, .int .u8 0, .int .u8 0, .int .u8 0, .int .u8 0, .int .u8 0, .int .u8 0, .int .u8 0, .int .u8 0, .int .u8 0, .int .u8 0, .int .u8 0, .int .u8 0, .int .u8 0, .int .u8 0, .int .u8 0, .int .u8 0, .int .u8 0, .int .u8 0, .int .u8 0] : List Value) = List.replicate (32 - m) (.int .u8 0) := fun m _ => by
      rw [show ([.int .u8 0, .int .u8 0, .int .u8 0, .int .u8 0, .int .u8 0, .int .u8 0, .int .u8 0, .int .u8 0, .int .u8 0, .int .u8 0, .int .u8 0, .int .u8 0, .int .u8 0, .int .u8 0, .int .u8 0, .int .u8 0, .int .u8 0, .int .u8 0, .int .u8 0, .int .u8 0, .int .u8 0, .int .u8 0, .int .u8 0, .int .u8 0, .int .u8 0, .int .u8 0, .int .u8 0, .int .u8 0, .int .u8 0, .int .u8 0, .int .u8 0, .int .u8 0] : List Value) = List.replicate 32 (.int .u8 0) from rfl, List.drop_replicate]
    rw [Nat.zero_add, hz _ hl, List.take_zero, List.nil_append, pad, List.map_append, List.map_replicate]
    rfl

theorem run_build_w (a : Nat) (q : List UInt8) (w : World) : (Instr.build 155 #[(0, .int .i64 (a : Nat)), (1, .agg (pg q).toArray)]).run Tryz.prog w = .ok (.agg (wc (a, q)).toArray) w :=
  run_build w 155 _ _ (by kernel_rfl)
theorem run_build_ws (a : Nat) (q : List UInt8) (w : World) : (Instr.buildSlice 136 1 #[(0, .agg (wc (a, q)).toArray)]).run Tryz.prog w = .ok (.slice (some ⟨w.heap.size, 0, none⟩) 1 1) (w.alloc (.cells (wc (a, q)).toArray 155)) := by kernel_rfl

theorem run_val {m : Sem Value} {v : Value} (h : m.run Tryz.prog w = .ok v w') : (do pure (Next.value (← m)) : Sem Next).run Tryz.prog w = .ok (.value v) w' := by
  rw [Sem.run_bind, h]
  rfl

theorem step_run {ops : Array Oper} {o : Oper} {a : Act} {K : Act → World → Prop} {Q : Exit → Act → World → Prop} {E : Prop} (hgd : o.guard = none) (hr : (execOp a.eval o).run Tryz.prog w = .ok (.value v) w') (h : K (a.put o.dst v) w') :
    if Region.wanted o (yielded ops a.tmps) = true then Oper.wp Tryz.prog o a w K Q else E := by
  rw [if_pos (show Region.wanted o (yielded ops a.tmps) = true by simp [Region.wanted, hgd])]
  unfold Oper.wp
  rw [hr]
  simpa [Oper.upon] using h

theorem new_cell (w : World) (L : List Value) (t : TypeId) {j : Nat} (h : L[j]? = some u) : (w.alloc (.cells L.toArray t)).cell? ⟨w.heap.size, 0 + j, none⟩ = some u := by
  rw [Nat.zero_add, cell_of_row _ _ _ _ _ _ (heap_alloc_last w _)]
  simpa using h
theorem rangeAt_grow {k o : Nat} {cs : List Value} (h : w.rangeAt k o cs) (hg : w.grownBy w' R.ownBlock) (hR : R.ownBlock ≠ some k) : w'.rangeAt k o cs := fun j v hv => by
  have hc := h j v hv
  exact (World.cell?_of_block (w := w) (a := ⟨k, o + j, none⟩) (hg.block k (World.block_lt_of_cell? _ _ hc) (Ne.symm hR))).trans hc
theorem rangeAt_set {k o b i : Nat} {cs : List Value} (h : w.rangeAt k o cs) (hk : k ≠ b) : (w.setCell ⟨b, i, none⟩ v).rangeAt k o cs := fun j u hu => by
  have hc := h j u hu
  exact (World.cell?_of_block (w := w) (a := ⟨k, o + j, none⟩) (blk_setCell_other _ _ _ _ hk)).trans hc

theorem Ex.push (h : Ex w B kd n s F gn gk R x) (hB : B ≤ w.heap.size) {c a : Nat} {q : List UInt8} (ha : a < n) (hq : q.length = 32) (hown : w'.ownsRow B 155 33 (.slice (some ⟨g, 0, none⟩) (s.wr.length + 1) c) (s.wr.length + 1) (s.wr.flatMap wc ++ wc (a, q)))
    (hgrow : w.grownBy w' R.ownBlock) (hat : R.ownBlock = some g ∨ w.heap.size ≤ g) :
    Ex (w'.setCell ⟨kd, 2, none⟩ (.slice (some ⟨g, 0, none⟩) (s.wr.length + 1) c)) B kd n { s with wr := s.wr ++ [(a, q)] } (fun b => F b ∨ b = g) gn gk (.slice (some ⟨g, 0, none⟩) (s.wr.length + 1) c) x ∧
      Turn F w (w'.setCell ⟨kd, 2, none⟩ (.slice (some ⟨g, 0, none⟩) (s.wr.length + 1) c)) ∧ w'.cell? ⟨kd, 2, none⟩ = some R ∧ w'.frozen? ⟨kd, 2, none⟩ = false := by
  obtain ⟨k1, k2, k3⟩ := h.kn
  have hb : ∀ k, F k → some k ≠ R.ownBlock → w'.heap[k]? = w.heap[k]? := fun k hk hne => hgrow.block k (h.own k hk).2 hne
  have hkR : some kd ≠ R.ownBlock := fun e => (k3 kd e.symm).1 rfl
  have hnR : some gn ≠ R.ownBlock := fun e => (k3 gn e.symm).2.1 rfl
  have hgR : some gk ≠ R.ownBlock := fun e => (k3 gk e.symm).2.2 rfl
  have hg : g ≠ kd := by
    rcases hat with e | e
    · exact (k3 g e).1
    · have := (h.own kd h.dk).2; omega
  have row' := h.row.of_block (hb kd h.dk hkR)
  have hs : w.heap.size ≤ (w'.setCell ⟨kd, 2, none⟩ (.slice (some ⟨g, 0, none⟩) (s.wr.length + 1) c)).heap.size := by simpa using hgrow.size
  refine ⟨⟨(row'.set 2 _).congr fun i hi => ?_, h.now.of_block ((blk_setCell_other _ _ _ _ k1.symm).trans (hb gn h.fn hnR)), h.kept.of_block ((blk_setCell_other _ _ _ _ k2.symm).trans (hb gk h.fk hgR)), ⟨?_, fun y hy => ?_⟩, h.ne, h.lft, Or.inl h.fn, Or.inl h.fk, fun k e => ?_, Or.inl h.dk, fun b hb => ?_, h.small, h.wide⟩, ?_, row'.cell (i := 2) (by omega), row'.frozen 2⟩
  · have : i = 0 ∨ i = 1 ∨ i = 2 ∨ i = 3 ∨ i = 4 := by omega
    rcases this with rfl | rfl | rfl | rfl | rfl <;> rfl
  · have hw : (s.wr ++ [(a, q)]).flatMap wc = s.wr.flatMap wc ++ wc (a, q) := by simp
    rw [hw, List.length_append]
    exact own_block hown fun k e => by
      simp only [Value.ownBlock, Option.some.injEq] at e
      exact blk_setCell_other _ _ _ _ (show k ≠ kd from e ▸ hg)
  · rcases List.mem_append.1 hy with e | e
    · exact h.wr.el y e
    · rw [List.mem_singleton.1 e]; exact ⟨ha, hq⟩
  · simp only [Value.ownBlock, Option.some.injEq] at e
    exact Or.inr e.symm
  · rcases hb with e | rfl
    · exact ⟨(h.own b e).1, Nat.lt_of_lt_of_le (h.own b e).2 hs⟩
    · have := hown.lt b rfl
      exact ⟨this.1, by simpa using this.2⟩
  · exact ⟨hgrow.os, hgrow.tape, hgrow.output, hs, fun k hk hn => (blk_setCell_other _ _ _ _ (show k ≠ kd from fun e => hn (by rw [e]; exact h.dk))).trans (hgrow.block k hk fun e => hn (h.fr k e.symm))⟩

theorem run_unit {m : Sem Unit} (h : m.run Tryz.prog w = .ok () w') : (do m; pure Next.skip : Sem Next).run Tryz.prog w = .ok .skip w' := by
  rw [Sem.run_bind, h]
  rfl

theorem step_unit {ops : Array Oper} {o : Oper} {a : Act} {K : Act → World → Prop} {Q : Exit → Act → World → Prop} {E : Prop} (hgd : o.guard = none) (hr : (execOp a.eval o).run Tryz.prog w = .ok .skip w') (h : K (a.put o.dst undef) w') :
    if Region.wanted o (yielded ops a.tmps) = true then Oper.wp Tryz.prog o a w K Q else E := by
  rw [if_pos (show Region.wanted o (yielded ops a.tmps) = true by simp [Region.wanted, hgd])]
  unfold Oper.wp
  rw [hr]
  simpa [Oper.upon] using h

set_option maxRecDepth 100000 in
set_option maxHeartbeats 4000000 in
theorem l_write (h : Ex w B kd n s F gn gk R x) (hB : B ≤ w.heap.size) (hw : s.wr.length ≤ 1000) {a : Option Addr} {c : Nat} (k : Int) (ha : BtAt w a l) (hc : l.length ≤ c) (hc2 : c ≤ maxLen) (hnil : a = none → c = 0) (hF : l ≠ [] → ∀ b o, a = some ⟨b, o, none⟩ → ¬ F b) :
    Calls Tryz.prog 164 #[.pointer (some ⟨kd, 0, none⟩), .int .i64 k, .slice a l.length c] w fun e w' => ∃ v, e = .returned v ∧ ∃ x', Er v x' ∧ ∃ s', Writes n s k l x' s' ∧ ∃ F', (∃ R' y, Ex w' B kd n s' F' gn gk R' y) ∧ (∀ b, F' b → F b ∨ w.heap.size ≤ b) ∧ Turn F w w' := by
  have HR : Hid (Ex w B kd n s F gn gk R x) := h
  obtain ⟨m, hm⟩ : ∃ m, l.length = m := ⟨_, rfl⟩
  have HM : Hid (l.length = m) := hm
  have HC : Hid (m ≤ c ∧ c ≤ maxLen ∧ s.wr.length ≤ 1000 ∧ B ≤ w.heap.size) := ⟨hm ▸ hc, hc2, hw, hB⟩
  have HA : Hid (BtAt w a l ∧ (a = none → c = 0) ∧ (l ≠ [] → ∀ b o, a = some ⟨b, o, none⟩ → ¬ F b)) := ⟨ha, hnil, hF⟩
  rw [hm]
  have hh := l_has h k
  clear h hm hc hc2 hw hB ha hnil hF
  by_cases hk : 0 ≤ k ∧ k < (n : Int)
  case neg =>
    rw [decide_eq_false hk] at hh
    have HK : Hid (k < 0 ∨ (n : Int) ≤ k) := show _ ∨ _ by omega
    clear hk
    go_enter Tryz.func164, Tryz.ntmps164
    go_wp2_with fail
    refine hh.mono ?_
    rintro e w1 ⟨rfl, rfl⟩
    go_wp2_with fail
    go_ret
    exact ⟨_, rfl, 1, Or.inr ⟨rfl, by decide⟩, s, Or.inl ⟨HK.out, rfl, rfl⟩, F, ⟨R, x, HR.out⟩, fun b q => Or.inl q, Turn.refl _⟩
  rw [decide_eq_true hk] at hh
  obtain ⟨i, rfl⟩ := Int.eq_ofNat_of_zero_le hk.1
  have HI : Hid (i < n) := show _ < _ by omega
  clear hk
  by_cases m0 : 32 < m
  · have m1 : (32 : Int) < (m : Int) := by omega
    have HO : Hid ((0 ≤ (i : Int) ∧ (i : Int) < n) ∧ 32 < l.length) := ⟨⟨by omega, by have := HI.out; omega⟩, by rw [HM.out]; exact m0⟩
    clear m0
    go_enter Tryz.func164, Tryz.ntmps164
    go_wp2_with fail
    refine hh.mono ?_
    rintro e w1 ⟨rfl, rfl⟩
    go_wp2_with fail
    go_ret
    exact ⟨_, rfl, 3, Or.inr ⟨rfl, by decide⟩, s, Or.inr (Or.inl ⟨HO.out.1, HO.out.2, rfl, rfl⟩), F, ⟨R, x, HR.out⟩, fun b q => Or.inl q, Turn.refl _⟩
  have m1 : ¬ (32 : Int) < (m : Int) := by omega
  have HO : Hid ((0 ≤ (i : Int) ∧ (i : Int) < n) ∧ l.length ≤ 32) := ⟨⟨by omega, by have := HI.out; omega⟩, by rw [HM.out]; omega⟩
  clear m0
  go_enter Tryz.func164, Tryz.ntmps164
  go_wp2_with fail
  refine hh.mono ?_
  rintro e w0 ⟨rfl, rfl⟩
  clear hh
  go_wp2_with fail
  refine (l_step HR.out).mono ?_
  rintro e w1 ⟨⟨rfl, hoff, hr⟩ | ⟨rfl, hon, x1, hr⟩, ht⟩
  · have HX : Hid (Off s ∧ Ex w1 B kd n (fall s) F gn gk R x ∧ Turn F w0 w1) := ⟨hoff, hr, ht⟩
    clear hoff hr ht
    go_wp2_with fail
    go_ret
    exact ⟨_, rfl, 8, Or.inr ⟨rfl, by decide⟩, _, Or.inr (Or.inr (Or.inl ⟨HO.out.1, HO.out.2, HX.out.1, rfl, rfl⟩)), F, ⟨R, x, HX.out.2.1⟩, fun b q => Or.inl q, HX.out.2.2⟩
  have HX : Hid (¬ Off s ∧ Ex w1 B kd n (less s) F gn gk R x1 ∧ Turn F w0 w1) := ⟨hon, hr, ht⟩
  clear hon hr ht
  have hcp := copy_page (bt_turn HA.out.1 HX.out.2.2 HA.out.2.2) HO.out.2 (by rw [HM.out]; exact HC.out.1) HA.out.2.1
  rw [HM.out] at hcp
  obtain ⟨p, hp⟩ : ∃ p, w1.heap.size = p := ⟨_, rfl⟩
  obtain ⟨Wb, hWb⟩ : ∃ Wb, w1.alloc nilPg = Wb := ⟨_, rfl⟩
  obtain ⟨q, hq⟩ : ∃ q, pad l = q := ⟨_, rfl⟩
  have HQ : Hid (pad l = q ∧ q.length = 32) := ⟨hq, hq ▸ pad_len HO.out.2⟩
  obtain ⟨W1, hW1⟩ : ∃ W1, w1.alloc (.cells (pg q).toArray 153) = W1 := ⟨_, rfl⟩
  rw [hq, hp, hWb, hW1] at hcp
  clear hq
  go_wp2_with (first | rw [hWb, hp] | rw [hWb])
  have e1 : Ex W1 B kd n (less s) F gn gk R x1 := hW1 ▸ HX.out.2.1.below ((Below.refl _ _).alloc (Nat.le_refl _) _)
  have hi : (Tryz.prog.info? 153).map (·.size) = some (pg q).length := by rw [pg_len]; exact Tryz.infoPage
  have hi2 : (Tryz.prog.info? 153).map (·.size) = some (pg q).toArray.size := by simpa using hi
  have hp2 : (pg q).toArray.all (·.oneCell') = true := all_oneCell_toArray pg_one
  have rp : W1.rangeAt p 0 (pg q) := fun j v hv => by
    rw [← hW1, ← hp, Nat.zero_add, cell_of_row _ _ _ _ _ _ (heap_alloc_last w1 _)]
    simpa using hv
  have tn : W1.there gn (i * 32) 32 := e1.now.there HI.out
  have q0 := e1.cell0
  have hpg : p ≠ gn ∧ p ≠ kd := ⟨fun e => by have := (HX.out.2.1.own gn e1.fn).2; omega, fun e => by have := (HX.out.2.1.own kd e1.dk).2; omega⟩
  have hkg : kd ≠ gn := e1.kn.1
  have hS0 : W1.drew.cell? ⟨kd, 0, none⟩ = some (.slice (some ⟨gn, 0, none⟩) n n) ∧ W1.drew.rangeAt p 0 (pg q) ∧ W1.drew.there gn (i * 32) 32 := ⟨q0, rp, tn⟩
  have hS1 : (W1.drew.setCells gn (i * 32) (pg q)).cell? ⟨kd, 0, none⟩ = some (.slice (some ⟨gn, 0, none⟩) n n) ∧ (W1.drew.setCells gn (i * 32) (pg q)).rangeAt p 0 (pg q) ∧ (W1.drew.setCells gn (i * 32) (pg q)).there gn (i * 32) 32 :=
    ⟨(World.cell?_setCells_out gn _ _ _ _ (fun e _ => absurd e hkg)).trans q0, World.rangeAt_setCells_apart hS0.2.1 _ _ _ (Or.inl hpg.1), World.there_setCells hS0.2.2 _ _ _⟩
  have i0 : (0 : Int) ≤ (i : Int) := by omega
  have i1 : (i : Int) < (n : Int) := by have := HI.out; omega
  refine wp_region_noPanic ?_
  refine wp_region_held_drew (S := fun V => V.cell? ⟨kd, 0, none⟩ = some (.slice (some ⟨gn, 0, none⟩) n n) ∧ V.rangeAt p 0 (pg q) ∧ V.there gn (i * 32) 32) (by kernel_rfl) hS0 (fun hHeld => ?_)
  refine wpAnyH_take (i := 0) (oi := { dst := some 26, op := Go.Op.move (Go.Operand.tmp 0), type := 63, pos := _, after := #[], guard := none }) (v := ?va1) rfl (by kernel_rfl) (by kernel_rfl) (by kernel_rfl) (fun _ _ _ h => h) (Or.inl ⟨by rfl, ?ya1⟩) (by assumption) ?_
  case ya1 =>
    intro w hSw
    (try dsimp only at hSw)
    go_simp
    (try with_reducible rfl)
  simp only [Act.put, List.setIfInBounds_toArray, List.set_cons_zero, List.set_cons_succ]
  refine wpAnyH_take (i := 1) (oi := { dst := some 27, op := Go.Op.nilCheck (Go.Operand.tmp 26), type := 0, pos := _, after := #[{ on := 0, ground := Go.Ground.data }], guard := none }) (v := ?va2) rfl (by kernel_rfl) (by kernel_rfl) (by kernel_rfl) (fun _ _ _ h => h) (Or.inl ⟨by rfl, ?ya2⟩) (by assumption) ?_
  case ya2 =>
    intro w hSw
    (try dsimp only at hSw)
    go_simp
    (try with_reducible rfl)
  simp only [Act.put, List.setIfInBounds_toArray, List.set_cons_zero, List.set_cons_succ]
  refine wpAnyH_take (i := 2) (oi := { dst := some 28, op := Go.Op.fieldAddr 138 (Go.Operand.tmp 27) 0, type := 0, pos := _, after := #[{ on := 1, ground := Go.Ground.data }], guard := none }) (v := ?va3) rfl (by kernel_rfl) (by kernel_rfl) (by kernel_rfl) (fun _ _ _ h => h) (Or.inl ⟨by rfl, ?ya3⟩) (by assumption) ?_
  case ya3 =>
    intro w hSw
    (try dsimp only at hSw)
    go_simp
    (try with_reducible rfl)
  simp only [Act.put, List.setIfInBounds_toArray, List.set_cons_zero, List.set_cons_succ]
  refine wpAnyH_take (i := 3) (oi := { dst := some 29, op := Go.Op.load 135 (Go.Operand.tmp 28), type := 135, pos := _, after := #[{ on := 2, ground := Go.Ground.data }], guard := none }) (v := ?va4) rfl (by kernel_rfl) (by kernel_rfl) (by kernel_rfl) (fun _ _ _ h => h) (Or.inl ⟨by rfl, ?ya4⟩) (by assumption) ?_
  case ya4 =>
    intro w hSw
    (try dsimp only at hSw)
    go_simp
    (try with_reducible rfl)
  simp only [Act.put, List.setIfInBounds_toArray, List.set_cons_zero, List.set_cons_succ]
  refine wpAnyH_take (i := 4) (oi := { dst := some 30, op := Go.Op.move (Go.Operand.tmp 1), type := 3, pos := _, after := #[], guard := none }) (v := ?va5) rfl (by kernel_rfl) (by kernel_rfl) (by kernel_rfl) (fun _ _ _ h => h) (Or.inl ⟨by rfl, ?ya5⟩) (by assumption) ?_
  case ya5 =>
    intro w hSw
    (try dsimp only at hSw)
    go_simp
    (try with_reducible rfl)
  simp only [Act.put, List.setIfInBounds_toArray, List.set_cons_zero, List.set_cons_succ]
  refine wpAnyH_take (i := 5) (oi := { dst := some 31, op := Go.Op.load 153 (Go.Operand.tmp 8), type := 153, pos := _, after := #[], guard := none }) (v := .agg (pg q).toArray) rfl (by kernel_rfl) (by kernel_rfl) (by kernel_rfl) (fun _ _ _ h => h) ?ya6 (by assumption) ?_
  case ya6 => exact yieldsIf_load_mid (by rfl) 153 (.tmp 8) (by rfl) p 0 (by rfl) (pg q) _ (fun w h => h.2.1) Tryz.underlying153 rfl hi
  simp only [Act.put, List.setIfInBounds_toArray, List.set_cons_zero, List.set_cons_succ]
  refine wpAnyH_take (i := 6) (oi := { dst := some 32, op := Go.Op.indexAddr 135 (Go.Operand.tmp 29) (Go.Operand.tmp 30), type := 0, pos := _, after := #[{ on := 3, ground := Go.Ground.data }, { on := 4, ground := Go.Ground.data }, { on := 0, ground := Go.Ground.phase }, { on := 1, ground := Go.Ground.phase }, { on := 2, ground := Go.Ground.phase }, { on := 3, ground := Go.Ground.phase }, { on := 4, ground := Go.Ground.phase }, { on := 5, ground := Go.Ground.phase }], guard := none }) (v := ?va7) rfl (by kernel_rfl) (by kernel_rfl) (by kernel_rfl) (fun _ _ _ h => h) (Or.inl ⟨by rfl, ?ya7⟩) (by assumption) ?_
  case ya7 =>
    intro w hSw
    (try dsimp only at hSw)
    go_simp
    (try with_reducible rfl)
  simp only [Act.put, List.setIfInBounds_toArray, List.set_cons_zero, List.set_cons_succ]
  refine wpAnyH_ready (rs := [7]) (by kernel_rfl) (by simp) ?_
  refine (AllReadyH.cons rfl (fun K9 hK9 => ?ca8) AllReadyH.nil)
  case ca8 =>
    refine step_unit rfl (run_unit (run_storeAt_mid _ gn (i * 32) 153 (pg q).toArray hHeld.2.2 hi2 hp2)) ?_
    refine hK9.out _ _ hS1 (fun hHeld => ?_)
    clear hK9
    (try simp only [List.getElem_toArray, List.getElem_cons_succ, List.getElem_cons_zero])
    (try simp only [Act.put])
    refine wpAnyH_done (by kernel_rfl) ?_ _
    refine NoPanic.normal ?_
    have e2 : Ex (W1.drew.setCells gn (i * 32) (pg q)) B kd n { less s with now := upd s.now i q } F gn gk R x1 := (e1.below (Below.refl _ _).drew).setNow HI.out HQ.out.2
    have t2 : Turn F w0 (W1.drew.setCells gn (i * 32) (pg q)) := HX.out.2.2.trans ((Turn.of_below (hW1 ▸ (Below.refl _ _).alloc (Nat.le_refl _) _ : Below w1.heap.size w1 W1)).trans ((Turn.of_below (Below.refl _ _).drew).trans (turn_sets (w := W1.drew) e1.fn _ _)))
    have rp2 : (W1.drew.setCells gn (i * 32) (pg q)).rangeAt p 0 (pg q) := hS1.2.1
    obtain ⟨W2, hW2⟩ : ∃ W2, W1.drew.setCells gn (i * 32) (pg q) = W2 := ⟨_, rfl⟩
    rw [hW2] at e2 t2 rp2 ⊢
    obtain ⟨M, hM⟩ : ∃ M, s.wr.length = M := ⟨_, rfl⟩
    have HMM : Hid (M ≤ 1000 ∧ B ≤ W2.heap.size) := ⟨hM ▸ HC.out.2.2.1, Nat.le_trans HC.out.2.2.2 t2.size⟩
    have hOw : W2.ownsRow B 155 33 R M (s.wr.flatMap wc) := hM ▸ e2.wr.own
    have HOw : Hid (W2.ownsRow B 155 33 R M (s.wr.flatMap wc)) := hOw
    have HE : Hid (Ex W2 B kd n { less s with now := upd s.now i q } F gn gk R x1 ∧ Turn F w0 W2 ∧ s.wr.length = M) := ⟨e2, t2, hM⟩
    have c2 := e2.cell2
    have c3 : (W2.alloc (.cells (wc (i, q)).toArray 155)).cell? ⟨kd, 2, none⟩ = some R := cell_keep ((Below.refl _ _).alloc (Nat.le_refl _) _) c2
    have hpR : R.ownBlock ≠ some p := fun e => by have := (HX.out.2.1.own p (HX.out.2.1.fr p e)).2; omega
    have hpk : p ≠ kd := hpg.2
    clear hS0 hS1 rp tn q0 e1 hpg hkg hOw e2 t2 hM hW2 i0 i1
    have HU : Hid (∀ w' g' c, w'.ownsRow B 155 33 (.slice (some ⟨g', 0, none⟩) (M + 1) c) (M + 1) (s.wr.flatMap wc ++ wc (i, q)) → (W2.drew.alloc (.cells (wc (i, q)).toArray 155)).grownBy w' R.ownBlock → (R.ownBlock = some g' ∨ g' = W2.heap.size + 1) →
        Ex (w'.setCell ⟨kd, 2, none⟩ (.slice (some ⟨g', 0, none⟩) (M + 1) c)) B kd n { less s with now := upd s.now i q, wr := s.wr ++ [(i, q)] } (fun b => F b ∨ b = g') gn gk (.slice (some ⟨g', 0, none⟩) (M + 1) c) x1 ∧ Turn F W2 (w'.setCell ⟨kd, 2, none⟩ (.slice (some ⟨g', 0, none⟩) (M + 1) c)) ∧ w'.cell? ⟨kd, 2, none⟩ = some R ∧ w'.frozen? ⟨kd, 2, none⟩ = false) := fun w' g' c e1 e2 e3 => by
      have hM := HE.out.2.2
      subst hM
      exact HE.out.1.push HMM.out.2 HI.out HQ.out.2 e1 ⟨e2.os, e2.tape, e2.output, Nat.le_trans (by simp) e2.size, fun k hk hne => (e2.block k (by simp; omega) hne).trans (blk_alloc_lt _ _ _ hk)⟩ (e3.imp id fun e => by omega)
    have HOR : Hid (∀ g', (R.ownBlock = some g' ∨ g' = W2.heap.size + 1) → F g' ∨ w0.heap.size ≤ g') := fun g' e => e.imp (fun e => HE.out.1.fr _ e) (fun e => by have := HE.out.2.1.size; omega)
    obtain ⟨z0, hi0, hz0, hz1, hz2⟩ := info_parts Tryz.infoDW
    go_wp2_with fail
    refine wp_region_noPanic ?_
    refine wp_region_held_drew (S := fun V => V.rangeAt p 0 (pg q)) (by kernel_rfl) rp2 (fun hHeld => ?_)
    refine wpAnyH_take (i := 0) (oi := { dst := some 33, op := Go.Op.move (Go.Operand.tmp 0), type := 63, pos := _, after := #[], guard := none }) (v := ?vb1) rfl (by kernel_rfl) (by kernel_rfl) (by kernel_rfl) (fun _ _ _ h => h) (Or.inl ⟨by rfl, ?yb1⟩) (by assumption) ?_
    case yb1 =>
      intro w hSw
      (try dsimp only at hSw)
      go_simp
      (try with_reducible rfl)
    simp only [Act.put, List.setIfInBounds_toArray, List.set_cons_zero, List.set_cons_succ]
    refine wpAnyH_take (i := 1) (oi := { dst := some 34, op := Go.Op.move (Go.Operand.tmp 0), type := 63, pos := _, after := #[], guard := none }) (v := ?vb2) rfl (by kernel_rfl) (by kernel_rfl) (by kernel_rfl) (fun _ _ _ h => h) (Or.inl ⟨by rfl, ?yb2⟩) (by assumption) ?_
    case yb2 =>
      intro w hSw
      (try dsimp only at hSw)
      go_simp
      (try with_reducible rfl)
    simp only [Act.put, List.setIfInBounds_toArray, List.set_cons_zero, List.set_cons_succ]
    refine wpAnyH_take (i := 2) (oi := { dst := some 35, op := Go.Op.nilCheck (Go.Operand.tmp 34), type := 0, pos := _, after := #[{ on := 1, ground := Go.Ground.data }], guard := none }) (v := ?vb3) rfl (by kernel_rfl) (by kernel_rfl) (by kernel_rfl) (fun _ _ _ h => h) (Or.inl ⟨by rfl, ?yb3⟩) (by assumption) ?_
    case yb3 =>
      intro w hSw
      (try dsimp only at hSw)
      go_simp
      (try with_reducible rfl)
    simp only [Act.put, List.setIfInBounds_toArray, List.set_cons_zero, List.set_cons_succ]
    refine wpAnyH_take (i := 3) (oi := { dst := some 36, op := Go.Op.fieldAddr 138 (Go.Operand.tmp 35) 2, type := 0, pos := _, after := #[{ on := 2, ground := Go.Ground.data }], guard := none }) (v := ?vb4) rfl (by kernel_rfl) (by kernel_rfl) (by kernel_rfl) (fun _ _ _ h => h) (Or.inl ⟨by rfl, ?yb4⟩) (by assumption) ?_
    case yb4 =>
      intro w hSw
      (try dsimp only at hSw)
      go_simp
      (try with_reducible rfl)
    simp only [Act.put, List.setIfInBounds_toArray, List.set_cons_zero, List.set_cons_succ]
    refine wpAnyH_take (i := 5) (oi := { dst := some 38, op := Go.Op.move (Go.Operand.tmp 1), type := 3, pos := _, after := #[], guard := none }) (v := ?vb5) rfl (by kernel_rfl) (by kernel_rfl) (by kernel_rfl) (fun _ _ _ h => h) (Or.inl ⟨by rfl, ?yb5⟩) (by assumption) ?_
    case yb5 =>
      intro w hSw
      (try dsimp only at hSw)
      go_simp
      (try with_reducible rfl)
    simp only [Act.put, List.setIfInBounds_toArray, List.set_cons_zero, List.set_cons_succ]
    refine wpAnyH_take (i := 6) (oi := { dst := some 39, op := Go.Op.load 153 (Go.Operand.tmp 8), type := 153, pos := _, after := #[], guard := none }) (v := .agg (pg q).toArray) rfl (by kernel_rfl) (by kernel_rfl) (by kernel_rfl) (fun _ _ _ h => h) ?yb6 (by assumption) ?_
    case yb6 => exact yieldsIf_load_mid (by rfl) 153 (.tmp 8) (by rfl) p 0 (by rfl) (pg q) _ (fun w h => h) Tryz.underlying153 rfl hi
    simp only [Act.put, List.setIfInBounds_toArray, List.set_cons_zero, List.set_cons_succ]
    refine wpAnyH_take (i := 7) (oi := { dst := some 40, op := Go.Op.build 155 #[(0, Go.Operand.tmp 38), (1, Go.Operand.tmp 39)], type := 155, pos := _, after := #[{ on := 5, ground := Go.Ground.data }, { on := 6, ground := Go.Ground.data }], guard := none }) (v := .agg (wc (i, q)).toArray) rfl (by kernel_rfl) (by kernel_rfl) (by kernel_rfl) (fun _ _ _ h => h) ?yb7 (by assumption) ?_
    case yb7 => exact Or.inl ⟨by rfl, fun w _ => by simp only [execOp, List.map_toArray, List.map_cons, List.map_nil]; exact run_val (run_build_w i q w)⟩
    simp only [Act.put, List.setIfInBounds_toArray, List.set_cons_zero, List.set_cons_succ]
    refine wpAnyH_ready (rs := [4, 8]) (by kernel_rfl) (by simp) ?_
    refine (AllReadyH.cons rfl (fun K9 hK9 => ?cb20) (AllReadyH.cons rfl (fun K9 hK9 => ?cb21) AllReadyH.nil))
    case cb20 =>
      go_simp
      refine hK9.out _ _ hHeld (fun hHeld => ?_)
      clear hK9
      (try simp only [Act.put, List.setIfInBounds_toArray, List.set_cons_zero, List.set_cons_succ])
      refine wpAnyH_ready (rs := [8]) (by kernel_rfl) (by simp) ?_
      refine (AllReadyH.cons rfl (fun K9 hK9 => ?cb13) AllReadyH.nil)
      case cb13 =>
        refine step_run (v := .slice (some ⟨W2.heap.size, 0, none⟩) 1 1) (w' := W2.drew.alloc (.cells (wc (i, q)).toArray 155)) ?gb8 ?bb8 ?_
        case gb8 => rfl
        case bb8 =>
          simp only [List.getElem_toArray, List.getElem_cons_succ, List.getElem_cons_zero, execOp, List.map_toArray, List.map_cons, List.map_nil]
          exact run_val (run_build_ws i q _)
        refine hK9.out _ _ (World.rangeAt_alloc hHeld _) (fun hHeld => ?_)
        clear hK9
        (try simp only [List.getElem_toArray, List.getElem_cons_succ, List.getElem_cons_zero])
        (try simp only [Act.put, List.setIfInBounds_toArray, List.set_cons_zero, List.set_cons_succ])
        refine wpAnyH_ready (rs := [9]) (by kernel_rfl) (by simp) ?_
        refine (AllReadyH.cons rfl (fun K9 hK9 => ?cb12) AllReadyH.nil)
        case cb12 =>
          refine step_append_lies _ (by rfl) (.tmp 37) (.tmp 41) 136 (by rfl) B 155 z0 _ 33 40 Tryz.underlying136 hi0 hz0 hz1 hz2 rfl (by decide) R M (s.wr.flatMap wc) (by rfl) (World.ownsRow.alloc (w := W2.drew) HOw.out _) ⟨W2.heap.size, 0, none⟩ 1 1 (wc (i, q)) (by rfl) (by rw [wc_len]) (fun j u hu => by rw [Addr.add_lit]; exact new_cell _ _ _ hu) wc_one (by decide) (by unfold maxLen; have := HMM.out; omega) (by have := HMM.out; omega) (by have := HMM.out; simp; omega) _ rfl ?_
          intro g2 cap2 w6 hown hgrow hat hlt2
          refine hK9.out _ _ (rangeAt_grow hHeld hgrow hpR) (fun hHeld => ?_)
          clear hK9
          (try simp only [List.getElem_toArray, List.getElem_cons_succ, List.getElem_cons_zero])
          (try simp only [Act.put, List.setIfInBounds_toArray])
          refine wpAnyH_take (i := 10) (oi := { dst := some 43, op := Go.Op.nilCheck (Go.Operand.tmp 33), type := 0, pos := _, after := #[{ on := 0, ground := Go.Ground.data }, { on := 0, ground := Go.Ground.phase }, { on := 1, ground := Go.Ground.phase }, { on := 2, ground := Go.Ground.phase }, { on := 3, ground := Go.Ground.phase }, { on := 4, ground := Go.Ground.phase }, { on := 5, ground := Go.Ground.phase }, { on := 6, ground := Go.Ground.phase }, { on := 7, ground := Go.Ground.phase }, { on := 8, ground := Go.Ground.phase }, { on := 9, ground := Go.Ground.phase }], guard := none }) (v := ?vb9) rfl (by kernel_rfl) (by kernel_rfl) (by kernel_rfl) (fun _ _ _ h => h) (Or.inl ⟨by rfl, ?yb9⟩) (by assumption) ?_
          case yb9 =>
            intro w hSw
            (try dsimp only at hSw)
            go_simp
            (try with_reducible rfl)
          simp only [Act.put]
          refine wpAnyH_take (i := 11) (oi := { dst := some 44, op := Go.Op.fieldAddr 138 (Go.Operand.tmp 43) 2, type := 0, pos := _, after := #[{ on := 10, ground := Go.Ground.data }, { on := 0, ground := Go.Ground.phase }, { on := 1, ground := Go.Ground.phase }, { on := 2, ground := Go.Ground.phase }, { on := 3, ground := Go.Ground.phase }, { on := 4, ground := Go.Ground.phase }, { on := 5, ground := Go.Ground.phase }, { on := 6, ground := Go.Ground.phase }, { on := 7, ground := Go.Ground.phase }, { on := 8, ground := Go.Ground.phase }, { on := 9, ground := Go.Ground.phase }], guard := none }) (v := ?vb10) rfl (by kernel_rfl) (by kernel_rfl) (by kernel_rfl) (fun _ _ _ h => h) (Or.inl ⟨by rfl, ?yb10⟩) (by assumption) ?_
          case yb10 =>
            intro w hSw
            (try dsimp only at hSw)
            go_simp
            (try with_reducible rfl)
          simp only [Act.put]
          obtain ⟨r1, r2, r3, r4⟩ := HU.out w6 g2 cap2 hown hgrow (hat.imp id fun e => by first | exact e | simpa using e)
          refine wpAnyH_ready (rs := [12]) (by kernel_rfl) (by simp) ?_
          refine (AllReadyH.cons rfl (fun K9 hK9 => ?cb11) AllReadyH.nil)
          case cb11 =>
            go_simp
            refine hK9.out _ _ (rangeAt_set hHeld hpk) (fun hHeld => ?_)
            clear hK9
            refine wpAnyH_done (by kernel_rfl) ?_ _
            refine NoPanic.normal ?_
            have HF := HOR.out g2 (hat.imp id fun e => by first | exact e | simpa using e)
            have HG : Hid (Ex (w6.setCell ⟨kd, 2, none⟩ (.slice (some ⟨g2, 0, none⟩) (M + 1) cap2)) B kd n { less s with now := upd s.now i q, wr := s.wr ++ [(i, q)] } (fun b => F b ∨ b = g2) gn gk (.slice (some ⟨g2, 0, none⟩) (M + 1) cap2) x1 ∧ Turn F W2 (w6.setCell ⟨kd, 2, none⟩ (.slice (some ⟨g2, 0, none⟩) (M + 1) cap2)) ∧ (F g2 ∨ w0.heap.size ≤ g2)) := ⟨r1, r2, HF⟩
            clear hown hgrow hat hlt2 r1 r2 r3 r4 hHeld HF
            go_wp2_with fail
            go_ret
            refine ⟨_, rfl, 0, Or.inl ⟨rfl, rfl⟩, _, Or.inr (Or.inr (Or.inr ⟨HO.out.1, HO.out.2, HX.out.1, rfl, ?_⟩)), _, ⟨_, _, HG.out.1⟩, fun b e => ?_, HE.out.2.1.trans HG.out.2.1⟩
            · rw [HQ.out.1]
              rfl
            · rcases e with e | rfl
              · exact Or.inl e
              · exact HG.out.2.2
    case cb21 =>
      refine step_run (v := .slice (some ⟨W2.heap.size, 0, none⟩) 1 1) (w' := W2.drew.alloc (.cells (wc (i, q)).toArray 155)) ?gb14 ?bb14 ?_
      case gb14 => rfl
      case bb14 =>
        simp only [List.getElem_toArray, List.getElem_cons_succ, List.getElem_cons_zero, execOp, List.map_toArray, List.map_cons, List.map_nil]
        exact run_val (run_build_ws i q _)
      refine hK9.out _ _ (World.rangeAt_alloc hHeld _) (fun hHeld => ?_)
      clear hK9
      (try simp only [List.getElem_toArray, List.getElem_cons_succ, List.getElem_cons_zero])
      (try simp only [Act.put, List.setIfInBounds_toArray, List.set_cons_zero, List.set_cons_succ])
      refine wpAnyH_ready (rs := [4]) (by kernel_rfl) (by simp) ?_
      refine (AllReadyH.cons rfl (fun K9 hK9 => ?cb19) AllReadyH.nil)
      case cb19 =>
        go_simp
        refine hK9.out _ _ hHeld (fun hHeld => ?_)
        clear hK9
        (try simp only [Act.put, List.setIfInBounds_toArray, List.set_cons_zero, List.set_cons_succ])
        refine wpAnyH_ready (rs := [9]) (by kernel_rfl) (by simp) ?_
        refine (AllReadyH.cons rfl (fun K9 hK9 => ?cb18) AllReadyH.nil)
        case cb18 =>
          refine step_append_lies _ (by rfl) (.tmp 37) (.tmp 41) 136 (by rfl) B 155 z0 _ 33 40 Tryz.underlying136 hi0 hz0 hz1 hz2 rfl (by decide) R M (s.wr.flatMap wc) (by rfl) (World.ownsRow.alloc (w := W2.drew) HOw.out _) ⟨W2.heap.size, 0, none⟩ 1 1 (wc (i, q)) (by rfl) (by rw [wc_len]) (fun j u hu => by rw [Addr.add_lit]; exact new_cell _ _ _ hu) wc_one (by decide) (by unfold maxLen; have := HMM.out; omega) (by have := HMM.out; omega) (by have := HMM.out; simp; omega) _ rfl ?_
          intro g2 cap2 w6 hown hgrow hat hlt2
          refine hK9.out _ _ (rangeAt_grow hHeld hgrow hpR) (fun hHeld => ?_)
          clear hK9
          (try simp only [List.getElem_toArray, List.getElem_cons_succ, List.getElem_cons_zero])
          (try simp only [Act.put, List.setIfInBounds_toArray])
          refine wpAnyH_take (i := 10) (oi := { dst := some 43, op := Go.Op.nilCheck (Go.Operand.tmp 33), type := 0, pos := _, after := #[{ on := 0, ground := Go.Ground.data }, { on := 0, ground := Go.Ground.phase }, { on := 1, ground := Go.Ground.phase }, { on := 2, ground := Go.Ground.phase }, { on := 3, ground := Go.Ground.phase }, { on := 4, ground := Go.Ground.phase }, { on := 5, ground := Go.Ground.phase }, { on := 6, ground := Go.Ground.phase }, { on := 7, ground := Go.Ground.phase }, { on := 8, ground := Go.Ground.phase }, { on := 9, ground := Go.Ground.phase }], guard := none }) (v := ?vb15) rfl (by kernel_rfl) (by kernel_rfl) (by kernel_rfl) (fun _ _ _ h => h) (Or.inl ⟨by rfl, ?yb15⟩) (by assumption) ?_
          case yb15 =>
            intro w hSw
            (try dsimp only at hSw)
            go_simp
            (try with_reducible rfl)
          simp only [Act.put]
          refine wpAnyH_take (i := 11) (oi := { dst := some 44, op := Go.Op.fieldAddr 138 (Go.Operand.tmp 43) 2, type := 0, pos := _, after := #[{ on := 10, ground := Go.Ground.data }, { on := 0, ground := Go.Ground.phase }, { on := 1, ground := Go.Ground.phase }, { on := 2, ground := Go.Ground.phase }, { on := 3, ground := Go.Ground.phase }, { on := 4, ground := Go.Ground.phase }, { on := 5, ground := Go.Ground.phase }, { on := 6, ground := Go.Ground.phase }, { on := 7, ground := Go.Ground.phase }, { on := 8, ground := Go.Ground.phase }, { on := 9, ground := Go.Ground.phase }], guard := none }) (v := ?vb16) rfl (by kernel_rfl) (by kernel_rfl) (by kernel_rfl) (fun _ _ _ h => h) (Or.inl ⟨by rfl, ?yb16⟩) (by assumption) ?_
          case yb16 =>
            intro w hSw
            (try dsimp only at hSw)
            go_simp
            (try with_reducible rfl)
          simp only [Act.put]
          obtain ⟨r1, r2, r3, r4⟩ := HU.out w6 g2 cap2 hown hgrow (hat.imp id fun e => by first | exact e | simpa using e)
          refine wpAnyH_ready (rs := [12]) (by kernel_rfl) (by simp) ?_
          refine (AllReadyH.cons rfl (fun K9 hK9 => ?cb17) AllReadyH.nil)
          case cb17 =>
            go_simp
            refine hK9.out _ _ (rangeAt_set hHeld hpk) (fun hHeld => ?_)
            clear hK9
            refine wpAnyH_done (by kernel_rfl) ?_ _
            refine NoPanic.normal ?_
            have HF := HOR.out g2 (hat.imp id fun e => by first | exact e | simpa using e)
            have HG : Hid (Ex (w6.setCell ⟨kd, 2, none⟩ (.slice (some ⟨g2, 0, none⟩) (M + 1) cap2)) B kd n { less s with now := upd s.now i q, wr := s.wr ++ [(i, q)] } (fun b => F b ∨ b = g2) gn gk (.slice (some ⟨g2, 0, none⟩) (M + 1) cap2) x1 ∧ Turn F W2 (w6.setCell ⟨kd, 2, none⟩ (.slice (some ⟨g2, 0, none⟩) (M + 1) cap2)) ∧ (F g2 ∨ w0.heap.size ≤ g2)) := ⟨r1, r2, HF⟩
            clear hown hgrow hat hlt2 r1 r2 r3 r4 hHeld HF
            go_wp2_with fail
            go_ret
            refine ⟨_, rfl, 0, Or.inl ⟨rfl, rfl⟩, _, Or.inr (Or.inr (Or.inr ⟨HO.out.1, HO.out.2, HX.out.1, rfl, ?_⟩)), _, ⟨_, _, HG.out.1⟩, fun b e => ?_, HE.out.2.1.trans HG.out.2.1⟩
            · rw [HQ.out.1]
              rfl
            · rcases e with e | rfl
              · exact Or.inl e
              · exact HG.out.2.2

end Go.Proofs.YtcfemppdeidjmacGreat.Dk.L
