/-
  The statements' own disk, as it lies in memory; step, blank.
-/
import Derived.Test.YtclheepbojogfacDoorDd
import Derived.Laws.OwnMore
namespace Go.Proofs.YtclheepbojogfacDoor.Dk
open Go.RowKit Go.Deep
open Go.RowKit (Below)
set_option linter.unusedVariables false

variable {w w' : World} {B n kd : Nat} {F F' : Nat → Prop} {s : St} {v u : Value} {l : List UInt8} {f : Nat → List UInt8} {xs : List Value}

/-- What kind of cells a block has. -/
def Tg (w : World) (k : Nat) (t : TypeId) : Prop := ∃ cs fr, w.heap[k]? = some (.cells cs t fr)

theorem Tg.one {k : Nat} {t t' : TypeId} (h : Tg w k t) (h' : Tg w k t') : t = t' := by
  obtain ⟨cs, fr, e⟩ := h
  obtain ⟨cs', fr', e'⟩ := h'
  rw [e] at e'
  cases e'
  rfl
theorem Tg.row {k : Nat} {t : TypeId} {m : Nat} {p : Nat → Value} (h : w.rowIs k t m p) : Tg w k t := by
  obtain ⟨cs, e, _⟩ := h
  exact ⟨cs, _, e⟩
theorem Tg.own {k b : Nat} {t : TypeId} {m N : Nat} (h : w.ownsRow b t m v N xs) (hk : v.ownBlock = some k) : Tg w k t := by
  rcases h.2 with ⟨h0, _⟩ | ⟨g', cap, cur, hv, h1, h2, h3⟩
  · rw [h0] at hk; cases hk
  · rw [hv] at hk
    cases hk
    exact ⟨cur, _, h2⟩

/-- A row of one's own stands where its block stands. -/
theorem own_block {b m N : Nat} {t : TypeId} (h : w.ownsRow b t m v N xs) (e : ∀ k, v.ownBlock = some k → w'.heap[k]? = w.heap[k]?) : w'.ownsRow b t m v N xs := by
  refine ⟨h.1, ?_⟩
  rcases h.2 with h0 | ⟨g, cap, cur, hv, h1, h2, h3⟩
  · exact Or.inl h0
  · exact Or.inr ⟨g, cap, cur, hv, h1, (e g (by rw [hv]; rfl)).trans h2, h3⟩

/-- A page: a block of bytes. -/
def PgAt (w : World) (F : Nat → Prop) (v : Value) (l : List UInt8) : Prop := l.length = 32 ∧ ∃ p, v = .slice (some ⟨p, 0, none⟩) 32 32 ∧ F p ∧ w.rowIs p 5 32 fun i => by1 (l.getD i 0)

theorem PgAt.keep (h : PgAt w F v l) (hF : ∀ k, F k → F' k) (e : ∀ k, F k → Tg w k 5 → w'.heap[k]? = w.heap[k]?) : PgAt w' F' v l := by
  obtain ⟨hl, p, e1, e2, e3⟩ := h
  exact ⟨hl, p, e1, hF p e2, e3.of_block (e p e2 (Tg.row e3))⟩

/-- Pages. -/
structure PsAt (w : World) (B : Nat) (F : Nat → Prop) (v : Value) (n : Nat) (f : Nat → List UInt8) (xs : List Value) : Prop where
  own : w.ownsRow B 31 1 v n xs
  pg : ∀ i, i < n → ∃ u, xs[i]? = some u ∧ PgAt w F u (f i)
  blk : ∀ k, v.ownBlock = some k → F k

theorem PsAt.keep (h : PsAt w B F v n f xs) (hF : ∀ k, F k → F' k) (e : ∀ k, F k → Tg w k 5 ∨ v.ownBlock = some k → w'.heap[k]? = w.heap[k]?) : PsAt w' B F' v n f xs :=
  ⟨own_block h.own fun k hk => e k (h.blk k hk) (Or.inr hk), fun i hi => by
    obtain ⟨u, e1, e2⟩ := h.pg i hi
    exact ⟨u, e1, e2.keep hF fun k hk ht => e k hk (Or.inl ht)⟩, fun k hk => hF k (h.blk k hk)⟩

/-- Writes. -/
structure WsAt (w : World) (B : Nat) (F : Nat → Prop) (v : Value) (n : Nat) (l : List (Nat × List UInt8)) (xs : List Value) : Prop where
  own : w.ownsRow B 80 2 v l.length xs
  el : ∀ i, i < l.length → (l.getD i (0, [])).1 < n ∧ xs[i * 2]? = some (.int .i64 ((l.getD i (0, [])).1 : Nat)) ∧ ∃ u, xs[i * 2 + 1]? = some u ∧ PgAt w F u (l.getD i (0, [])).2
  blk : ∀ k, v.ownBlock = some k → F k

theorem WsAt.keep {l : List (Nat × List UInt8)} (h : WsAt w B F v n l xs) (hF : ∀ k, F k → F' k) (e : ∀ k, F k → Tg w k 5 ∨ v.ownBlock = some k → w'.heap[k]? = w.heap[k]?) : WsAt w' B F' v n l xs :=
  ⟨own_block h.own fun k hk => e k (h.blk k hk) (Or.inr hk), fun i hi => by
    obtain ⟨e0, e1, u, e2, e3⟩ := h.el i hi
    exact ⟨e0, e1, u, e2, e3.keep hF fun k hk ht => e k hk (Or.inl ht)⟩, fun k hk => hF k (h.blk k hk)⟩

def cells5 (K N R : Value) (x : Int) (d : Bool) : Nat → Value := fun i => if i = 0 then K else if i = 1 then N else if i = 2 then R else if i = 3 then .int .i64 x else .bool d

/-- The disk. -/
structure RAt (w : World) (B kd n : Nat) (s : St) (F : Nat → Prop) : Prop where
  ex : ∃ K N R xk xn xr, w.rowIs kd 60 5 (cells5 K N R s.left s.down) ∧ PsAt w B F K n s.kept xk ∧ PsAt w B F N n s.now xn ∧ WsAt w B F R n s.wr xr ∧ ∀ k, K.ownBlock = some k → N.ownBlock ≠ some k
  dk : F kd
  own : ∀ b, F b → B ≤ b ∧ b < w.heap.size
  wide : -9223372036854775808 ≤ s.left ∧ s.left ≤ 9223372036854775807

theorem RAt.keep (h : RAt w B kd n s F) (hs : w.heap.size ≤ w'.heap.size) (e : ∀ b, F b → w'.heap[b]? = w.heap[b]?) : RAt w' B kd n s F := by
  obtain ⟨K, N, R, xk, xn, xr, h1, h2, h3, h4, h5⟩ := h.ex
  exact ⟨⟨K, N, R, xk, xn, xr, h1.of_block (e kd h.dk), h2.keep (fun _ q => q) fun k hk _ => e k hk, h3.keep (fun _ q => q) fun k hk _ => e k hk, h4.keep (fun _ q => q) fun k hk _ => e k hk, h5⟩,
    h.dk, fun b hb => ⟨(h.own b hb).1, Nat.lt_of_lt_of_le (h.own b hb).2 hs⟩, h.wide⟩

theorem RAt.below (h : RAt w B kd n s F) (hb : Below w.heap.size w w') : RAt w' B kd n s F := h.keep hb.size fun b q => hb.block b (h.own b q).2

/-- The disk's own cells are set. -/
theorem RAt.setLeft (h : RAt w B kd n s F) {x : Int} (hx : -9223372036854775808 ≤ x ∧ x ≤ 9223372036854775807) : RAt (w.setCell ⟨kd, 3, none⟩ (.int .i64 x)) B kd n { s with left := x } F := by
  obtain ⟨K, N, R, xk, xn, xr, h1, h2, h3, h4, h5⟩ := h.ex
  have ho : ∀ k, k ≠ kd → (w.setCell ⟨kd, 3, none⟩ (.int .i64 x)).heap[k]? = w.heap[k]? := fun k hk => blk_setCell_other _ _ _ _ hk
  have ht : ∀ k, Tg w k 5 ∨ Tg w k 31 ∨ Tg w k 80 → k ≠ kd := fun k q e => by
    subst e
    rcases q with q | q | q <;> exact absurd (Tg.one q (Tg.row h1)) (by decide)
  refine ⟨⟨K, N, R, xk, xn, xr, (h1.set 3 _).congr fun i hi => ?_, h2.keep (fun _ q => q) fun k _ q => ho k (ht k (q.imp id fun e => Or.inl (Tg.own h2.own e))), h3.keep (fun _ q => q) fun k _ q => ho k (ht k (q.imp id fun e => Or.inl (Tg.own h3.own e))), h4.keep (fun _ q => q) fun k _ q => ho k (ht k (q.imp id fun e => Or.inr (Tg.own h4.own e))), h5⟩, h.dk, fun b hb => ⟨(h.own b hb).1, by simpa using (h.own b hb).2⟩, hx⟩
  unfold cells5
  have : i = 0 ∨ i = 1 ∨ i = 2 ∨ i = 3 ∨ i = 4 := by omega
  rcases this with rfl | rfl | rfl | rfl | rfl <;> rfl

theorem RAt.setDown (h : RAt w B kd n s F) (d : Bool) : RAt (w.setCell ⟨kd, 4, none⟩ (.bool d)) B kd n { s with down := d } F := by
  obtain ⟨K, N, R, xk, xn, xr, h1, h2, h3, h4, h5⟩ := h.ex
  have ho : ∀ k, k ≠ kd → (w.setCell ⟨kd, 4, none⟩ (.bool d)).heap[k]? = w.heap[k]? := fun k hk => blk_setCell_other _ _ _ _ hk
  have ht : ∀ k, Tg w k 5 ∨ Tg w k 31 ∨ Tg w k 80 → k ≠ kd := fun k q e => by
    subst e
    rcases q with q | q | q <;> exact absurd (Tg.one q (Tg.row h1)) (by decide)
  refine ⟨⟨K, N, R, xk, xn, xr, (h1.set 4 _).congr fun i hi => ?_, h2.keep (fun _ q => q) fun k _ q => ho k (ht k (q.imp id fun e => Or.inl (Tg.own h2.own e))), h3.keep (fun _ q => q) fun k _ q => ho k (ht k (q.imp id fun e => Or.inl (Tg.own h3.own e))), h4.keep (fun _ q => q) fun k _ q => ho k (ht k (q.imp id fun e => Or.inr (Tg.own h4.own e))), h5⟩, h.dk, fun b hb => ⟨(h.own b hb).1, by simpa using (h.own b hb).2⟩, h.wide⟩
  unfold cells5
  have : i = 0 ∨ i = 1 ∨ i = 2 ∨ i = 3 ∨ i = 4 := by omega
  rcases this with rfl | rfl | rfl | rfl | rfl <;> rfl

/-- No writes are there any more. -/
theorem RAt.setNone (h : RAt w B kd n s F) : RAt (w.setCell ⟨kd, 2, none⟩ (.slice none 0 0)) B kd n { s with wr := [] } F := by
  obtain ⟨K, N, R, xk, xn, xr, h1, h2, h3, h4, h5⟩ := h.ex
  have ho : ∀ k, k ≠ kd → (w.setCell ⟨kd, 2, none⟩ (.slice none 0 0)).heap[k]? = w.heap[k]? := fun k hk => blk_setCell_other _ _ _ _ hk
  have ht : ∀ k, Tg w k 5 ∨ Tg w k 31 ∨ Tg w k 80 → k ≠ kd := fun k q e => by
    subst e
    rcases q with q | q | q <;> exact absurd (Tg.one q (Tg.row h1)) (by decide)
  refine ⟨⟨K, N, .slice none 0 0, xk, xn, [], (h1.set 2 _).congr fun i hi => ?_, h2.keep (fun _ q => q) fun k _ q => ho k (ht k (q.imp id fun e => Or.inl (Tg.own h2.own e))), h3.keep (fun _ q => q) fun k _ q => ho k (ht k (q.imp id fun e => Or.inl (Tg.own h3.own e))), ⟨World.ownsRow_nil .., fun i hi => absurd hi (Nat.not_lt_zero _), fun k e => (by cases e)⟩, h5⟩, h.dk, fun b hb => ⟨(h.own b hb).1, by simpa using (h.own b hb).2⟩, h.wide⟩
  unfold cells5
  have : i = 0 ∨ i = 1 ∨ i = 2 ∨ i = 3 ∨ i = 4 := by omega
  rcases this with rfl | rfl | rfl | rfl | rfl <;> rfl

theorem RAt.cell3 (h : RAt w B kd n s F) : w.cell? ⟨kd, 3, none⟩ = some (.int .i64 s.left) := by
  obtain ⟨K, N, R, xk, xn, xr, h1, _⟩ := h.ex
  exact h1.cell (i := 3) (by omega)
theorem RAt.cell4 (h : RAt w B kd n s F) : w.cell? ⟨kd, 4, none⟩ = some (.bool s.down) := by
  obtain ⟨K, N, R, xk, xn, xr, h1, _⟩ := h.ex
  exact h1.cell (i := 4) (by omega)
theorem RAt.free (h : RAt w B kd n s F) (i : Nat) : w.frozen? ⟨kd, i, none⟩ = false := by
  obtain ⟨K, N, R, xk, xn, xr, h1, _⟩ := h.ex
  exact h1.frozen i

theorem turn_set (F : Nat → Prop) {b i : Nat} (hb : F b) (v : Value) : Turn F w (w.setCell ⟨b, i, none⟩ v) :=
  ⟨rfl, rfl, rfl, by simp, fun k _ hk => blk_setCell_other _ _ _ _ fun e => hk (by rw [e]; exact hb)⟩

set_option maxRecDepth 100000 in
set_option maxHeartbeats 1000000 in
/-- One more step. -/
theorem r_step (h : RAt w B kd n s F) :
    Calls Tryd.prog 30 #[.pointer (some ⟨kd, 0, none⟩)] w fun e w' => ((e = .returned (.bool false) ∧ Off s ∧ RAt w' B kd n (fall s) F) ∨ (e = .returned (.bool true) ∧ ¬ Off s ∧ RAt w' B kd n (less s) F)) ∧ Turn F w w' := by
  have c3 := h.cell3
  have c4 := h.cell4
  have z3 := h.free 3
  have z4 := h.free 4
  have HR : Hid (RAt w B kd n s F) := h
  obtain ⟨kept, now, wr, left, down⟩ := s
  have HW : Hid (-9223372036854775808 ≤ left ∧ left ≤ 9223372036854775807) := h.wide
  clear h
  dsimp only at c3 c4
  cases down with
  | true =>
    go_enter Tryd.func30, Tryd.ntmps30
    go_wp2_with fail
    go_ret
    exact ⟨Or.inl ⟨rfl, Or.inl rfl, HR.out.setDown true⟩, turn_set F HR.out.dk _⟩
  | false =>
    by_cases h0 : left = 0
    · subst h0
      go_enter Tryd.func30, Tryd.ntmps30
      go_wp2_with fail
      go_ret
      exact ⟨Or.inl ⟨rfl, Or.inr rfl, HR.out.setDown true⟩, turn_set F HR.out.dk _⟩
    · have HO : Hid (¬ Off (⟨kept, now, wr, left, false⟩ : St)) := show ¬ Off _ from fun q => by
        rcases q with q | q
        · cases q
        · exact h0 q
      have t0 : (left == (0 : Int)) = false := by rw [beq_eq_false_iff_ne]; exact h0
      by_cases h1 : 0 < left
      · have w1 : IntKind.i64.wrap (left - 1) = left - 1 := by rw [IntKind.wrap_i64]; have := HW.out; omega
        go_enter Tryd.func30, Tryd.ntmps30
        go_wp2_with fail
        go_ret
        have hx : -9223372036854775808 ≤ left - 1 ∧ left - 1 ≤ 9223372036854775807 := by have := HW.out; omega
        have hl : less (⟨kept, now, wr, left, false⟩ : St) = ⟨kept, now, wr, left - 1, false⟩ := by unfold less; rw [if_pos h1]
        exact ⟨Or.inr ⟨rfl, HO.out, by rw [hl]; exact HR.out.setLeft hx⟩, turn_set F HR.out.dk _⟩
      · have hl : less (⟨kept, now, wr, left, false⟩ : St) = ⟨kept, now, wr, left, false⟩ := by unfold less; rw [if_neg h1]
        have HL : Hid (less (⟨kept, now, wr, left, false⟩ : St) = ⟨kept, now, wr, left, false⟩) := hl
        clear hl
        go_enter Tryd.func30, Tryd.ntmps30
        go_wp2_with fail
        go_ret
        exact ⟨Or.inr ⟨rfl, HO.out, by rw [HL.out]; exact HR.out⟩, Turn.refl _⟩

theorem Tryd.infoU8 : (Tryd.prog.info? 5).map (fun i => (i.zero, i.size, i.bytes)) = some (some (.int .u8 0), 1, 1) := by kernel_rfl

/-- A page of 0. -/
abbrev nil32 : Obj := .cells (madeCells #[.int .u8 0] 32) 5

/-- A blank page. -/
theorem r_blank : Calls Tryd.prog 29 #[] w fun e w' => e = .returned (.slice (some ⟨w.heap.size, 0, none⟩) 32 32) ∧ w' = w.alloc nil32 := by
  have hmk : ∀ W, (Instr.makeSlice 31 (.int .i64 32) (.int .i64 32)).run Tryd.prog W = .ok (.slice (some ⟨W.heap.size, 0, none⟩) 32 32) (W.alloc nil32) := fun W => run_make_row' (P := Tryd.prog) 31 5 (.int .u8 0) 1 Tryd.underlying31 Tryd.infoU8 rfl .i64 .i64 32 (by omega) (by omega) W
  obtain ⟨o, ho⟩ : ∃ o, nil32 = o := ⟨_, rfl⟩
  rw [ho] at hmk ⊢
  clear ho
  go_enter Tryd.func29, Tryd.ntmps29
  go_wp2_with fail
  go_ret
  exact ⟨rfl, rfl⟩

theorem blank_at (F : Nat → Prop) (hF : F w.heap.size) : PgAt (w.alloc nil32) F (.slice (some ⟨w.heap.size, 0, none⟩) 32 32) blank :=
  ⟨blank_len, _, rfl, hF, (World.rowIs_made w (.int .u8 0) 32 5).congr fun i hi => by
    show Value.int .u8 0 = by1 ((List.replicate 32 (0 : UInt8)).getD i 0)
    rw [List.getD_eq_getElem?_getD, List.getElem?_replicate, if_pos hi]
    rfl⟩

end Go.Proofs.YtclheepbojogfacDoor.Dk
