/-
  The statements' own disk: its rows are set, a write more is told of; Write.
-/
import Derived.Test.YtclheepbojogfacDoorDf
import Derived.Laws.CopyRow
import Derived.Deep.WholeRow
namespace Go.Proofs.YtclheepbojogfacDoor.Dk
open Go.RowKit Go.Deep
open Go.RowKit (Below)
set_option linter.unusedVariables false

variable {w w' : World} {B n kd : Nat} {F F' : Nat → Prop} {s : St} {v u : Value} {l : List UInt8} {f : Nat → List UInt8} {xs : List Value}

theorem RAt.grow (h : RAt w B kd n s F) (hF : ∀ k, F k → F' k) (ho : ∀ b, F' b → B ≤ b ∧ b < w'.heap.size) (e : ∀ b, F b → w'.heap[b]? = w.heap[b]?) : RAt w' B kd n s F' := by
  obtain ⟨K, N, R, xk, xn, xr, h1, h2, h3, h4, h5⟩ := h.ex
  exact ⟨⟨K, N, R, xk, xn, xr, h1.of_block (e kd h.dk), h2.keep hF fun k hk _ => e k hk, h3.keep hF fun k hk _ => e k hk, h4.keep hF fun k hk _ => e k hk, h5⟩, hF _ h.dk, ho, h.wide⟩

theorem PsAt.set {g c : Nat} (h : PsAt w B F (.slice (some ⟨g, 0, none⟩) n c) n f xs) (i : Nat) (hi : i < n) {p : List UInt8} (hp : PgAt w F u p) : PsAt (w.setCell ⟨g, i, none⟩ u) B F (.slice (some ⟨g, 0, none⟩) n c) n (upd f i p) (xs.set i u) := by
  have hg := h.own
  have ho : ∀ k, k ≠ g → (w.setCell ⟨g, i, none⟩ u).heap[k]? = w.heap[k]? := fun k hk => blk_setCell_other _ _ _ _ hk
  have ht : ∀ k, Tg w k 5 → k ≠ g := fun k q e => by
    subst e
    exact absurd (Tg.one q (Tg.own hg rfl)) (by decide)
  refine ⟨(hg.stored i u).1, fun j hj => ?_, h.blk⟩
  by_cases e : j = i
  · subst e
    refine ⟨u, ?_, ?_⟩
    · have : j < xs.length := by rw [hg.1]; omega
      simp [this]
    · rw [upd_same]
      exact hp.keep (fun _ q => q) fun k _ q => ho k (ht k q)
  · obtain ⟨u', e1, e2⟩ := h.pg j hj
    refine ⟨u', by rw [List.getElem?_set_ne (Ne.symm e)]; exact e1, ?_⟩
    rw [upd_other _ _ e]
    exact e2.keep (fun _ q => q) fun k _ q => ho k (ht k q)

theorem PsAt.read {g c : Nat} (h : PsAt w B F (.slice (some ⟨g, 0, none⟩) n c) n f xs) (i : Nat) (hi : i < n) : ∃ u, w.cell? ⟨g, i, none⟩ = some u ∧ PgAt w F u (f i) := by
  obtain ⟨u, e1, e2⟩ := h.pg i hi
  exact ⟨u, by rw [h.own.cellAt i (by omega)]; exact e1, e2⟩

/-- What is there now. -/
theorem RAt.nowIs (h : RAt w B kd n s F) (hn : 1 ≤ n) : ∃ g c, F g ∧ w.cell? ⟨kd, 1, none⟩ = some (.slice (some ⟨g, 0, none⟩) n c) ∧ (∀ i, w.frozen? ⟨g, i, none⟩ = false) ∧ (∀ i, i < n → ∃ u, w.cell? ⟨g, i, none⟩ = some u ∧ PgAt w F u (s.now i)) ∧
    ∀ i v p, i < n → PgAt w F v p → RAt (w.setCell ⟨g, i, none⟩ v) B kd n { s with now := upd s.now i p } F ∧ ∀ G x q, PgAt w G x q → PgAt (w.setCell ⟨g, i, none⟩ v) G x q := by
  obtain ⟨K, N, R, xk, xn, xr, h1, h2, h3, h4, h5⟩ := h.ex
  obtain ⟨g, c, rfl, _, _⟩ := h3.own.form hn
  refine ⟨g, c, h3.blk g rfl, h1.cell (i := 1) (by omega), fun i => h3.own.frozenAt i, fun i hi => h3.read i hi, fun i v p hi hp => ?_⟩
  have ho : ∀ k, k ≠ g → (w.setCell ⟨g, i, none⟩ v).heap[k]? = w.heap[k]? := fun k hk => blk_setCell_other _ _ _ _ hk
  have ht : ∀ k, Tg w k 5 ∨ Tg w k 60 ∨ Tg w k 80 → k ≠ g := fun k q e => by
    subst e
    rcases q with q | q | q <;> exact absurd (Tg.one q (Tg.own h3.own rfl)) (by decide)
  exact ⟨⟨⟨K, _, R, xk, _, xr, h1.of_block (ho kd (ht kd (Or.inr (Or.inl (Tg.row h1))))), h2.keep (fun _ q => q) fun k _ q => ho k (by
      rcases q with q | q
      · exact ht k (Or.inl q)
      · exact fun e => h5 k q (by rw [e]; rfl)), h3.set i hi hp, h4.keep (fun _ q => q) fun k _ q => ho k (ht k (q.imp id fun e => Or.inr (Tg.own h4.own e))), h5⟩,
    h.dk, fun b hb => ⟨(h.own b hb).1, by simpa using (h.own b hb).2⟩, h.wide⟩, fun G x q hq => hq.keep (fun _ q => q) fun k _ q => ho k (ht k (Or.inl q))⟩

/-- What is kept. -/
theorem RAt.keptIs (h : RAt w B kd n s F) (hn : 1 ≤ n) : ∃ g c, F g ∧ w.cell? ⟨kd, 0, none⟩ = some (.slice (some ⟨g, 0, none⟩) n c) ∧ (∀ i, w.frozen? ⟨g, i, none⟩ = false) ∧ (∀ i, i < n → ∃ u, w.cell? ⟨g, i, none⟩ = some u ∧ PgAt w F u (s.kept i)) ∧
    ∀ i v p, i < n → PgAt w F v p → RAt (w.setCell ⟨g, i, none⟩ v) B kd n { s with kept := upd s.kept i p } F := by
  obtain ⟨K, N, R, xk, xn, xr, h1, h2, h3, h4, h5⟩ := h.ex
  obtain ⟨g, c, rfl, _, _⟩ := h2.own.form hn
  refine ⟨g, c, h2.blk g rfl, h1.cell (i := 0) (by omega), fun i => h2.own.frozenAt i, fun i hi => h2.read i hi, fun i v p hi hp => ?_⟩
  have ho : ∀ k, k ≠ g → (w.setCell ⟨g, i, none⟩ v).heap[k]? = w.heap[k]? := fun k hk => blk_setCell_other _ _ _ _ hk
  have ht : ∀ k, Tg w k 5 ∨ Tg w k 60 ∨ Tg w k 80 → k ≠ g := fun k q e => by
    subst e
    rcases q with q | q | q <;> exact absurd (Tg.one q (Tg.own h2.own rfl)) (by decide)
  exact ⟨⟨_, N, R, _, xn, xr, h1.of_block (ho kd (ht kd (Or.inr (Or.inl (Tg.row h1))))), h2.set i hi hp, h3.keep (fun _ q => q) fun k _ q => ho k (by
      rcases q with q | q
      · exact ht k (Or.inl q)
      · exact fun e => h5 g rfl (by rw [← e]; exact q)), h4.keep (fun _ q => q) fun k _ q => ho k (ht k (q.imp id fun e => Or.inr (Tg.own h4.own e))), h5⟩,
    h.dk, fun b hb => ⟨(h.own b hb).1, by simpa using (h.own b hb).2⟩, h.wide⟩

/-- What was written. -/
theorem RAt.wrIs (h : RAt w B kd n s F) : ∃ R xr, w.cell? ⟨kd, 2, none⟩ = some R ∧ w.ownsRow B 80 2 R s.wr.length xr ∧ (∀ k, R.ownBlock = some k → F k) ∧
    (∀ g c, R = .slice (some ⟨g, 0, none⟩) s.wr.length c → ∀ i, i < s.wr.length → (s.wr.getD i (0, [])).1 < n ∧ w.cell? ⟨g, i * 2, none⟩ = some (.int .i64 ((s.wr.getD i (0, [])).1 : Nat)) ∧ ∃ u, w.cell? ⟨g, i * 2 + 1, none⟩ = some u ∧ PgAt w F u (s.wr.getD i (0, [])).2) ∧
    ∀ w' g c a v p, w'.ownsRow B 80 2 (.slice (some ⟨g, 0, none⟩) (s.wr.length + 1) c) (s.wr.length + 1) (xr ++ [.int .i64 (a : Nat), v]) → w.grownBy w' R.ownBlock → (R.ownBlock = some g ∨ w.heap.size ≤ g) → a < n → PgAt w F v p →
      RAt (w'.setCell ⟨kd, 2, none⟩ (.slice (some ⟨g, 0, none⟩) (s.wr.length + 1) c)) B kd n { s with wr := s.wr ++ [(a, p)] } (fun b => F b ∨ b = g) ∧ Turn F w (w'.setCell ⟨kd, 2, none⟩ (.slice (some ⟨g, 0, none⟩) (s.wr.length + 1) c)) ∧ w'.cell? ⟨kd, 2, none⟩ = some R ∧ w'.frozen? ⟨kd, 2, none⟩ = false := by
  obtain ⟨K, N, R, xk, xn, xr, h1, h2, h3, h4, h5⟩ := h.ex
  refine ⟨R, xr, h1.cell (i := 2) (by omega), h4.own, h4.blk, ?_, ?_⟩
  · rintro g c rfl i hi
    obtain ⟨e0, e1, u, e2, e3⟩ := h4.el i hi
    exact ⟨e0, by rw [h4.own.cellAt _ (by omega)]; exact e1, u, by rw [h4.own.cellAt _ (by omega)]; exact e2, e3⟩
  intro w' g c a v p hown hgrow hat ha hp
  have hkd : kd ≠ g := fun e => by
    have q := Tg.own hown (v := .slice (some ⟨g, 0, none⟩) (s.wr.length + 1) c) rfl
    rcases hat with e' | e'
    · rw [← e] at e'; exact absurd (Tg.one (Tg.row h1) (Tg.own h4.own e')) (by decide)
    · have := h1.lt; omega
  have hR : ∀ k, Tg w k 5 ∨ Tg w k 60 ∨ Tg w k 31 → some k ≠ R.ownBlock := fun k q e => by
    rcases q with q | q | q <;> exact absurd (Tg.one q (Tg.own h4.own e.symm)) (by decide)
  have hO : ∀ k, k < w.heap.size → Tg w k 5 ∨ Tg w k 31 → (w'.setCell ⟨kd, 2, none⟩ (.slice (some ⟨g, 0, none⟩) (s.wr.length + 1) c)).heap[k]? = w.heap[k]? := fun k hk q => by
    rw [blk_setCell_other _ _ _ _ (show k ≠ kd from fun e => by subst e; rcases q with q | q <;> exact absurd (Tg.one q (Tg.row h1)) (by decide))]
    exact hgrow.block k hk (hR k (q.imp id fun e => Or.inr e))
  have hs : w.heap.size ≤ (w'.setCell ⟨kd, 2, none⟩ (.slice (some ⟨g, 0, none⟩) (s.wr.length + 1) c)).heap.size := by simpa using hgrow.size
  have hl : s.wr.length * 2 = xr.length := h4.own.1.symm
  have h1' : w'.rowIs kd 60 5 (cells5 K N R s.left s.down) := h1.of_block (hgrow.block kd h1.lt (hR kd (Or.inr (Or.inl (Tg.row h1)))))
  refine ⟨⟨⟨K, N, .slice (some ⟨g, 0, none⟩) (s.wr.length + 1) c, xk, xn, xr ++ [.int .i64 (a : Nat), v], (h1'.set 2 _).congr fun i hi => ?_, h2.keep (fun _ q => Or.inl q) fun k hk q => hO k (h.own k hk).2 (q.imp id (Tg.own h2.own)), h3.keep (fun _ q => Or.inl q) fun k hk q => hO k (h.own k hk).2 (q.imp id (Tg.own h3.own)), ⟨?_, fun i hi => ?_, fun k e => ?_⟩, h5⟩, Or.inl h.dk, fun b hb => ?_, h.wide⟩, ?_, h1'.cell (i := 2) (by omega), h1'.frozen 2⟩
  · unfold cells5
    have : i = 0 ∨ i = 1 ∨ i = 2 ∨ i = 3 ∨ i = 4 := by omega
    rcases this with rfl | rfl | rfl | rfl | rfl <;> rfl
  · show World.ownsRow _ _ _ _ _ (s.wr ++ [(a, p)]).length _
    rw [List.length_append]
    exact own_block hown fun k e => by
      simp only [Value.ownBlock, Option.some.injEq] at e
      exact blk_setCell_other _ _ _ _ (fun z => hkd (z.symm.trans e.symm))
  · rw [List.length_append] at hi
    simp only [List.length_cons, List.length_nil] at hi
    by_cases q : i < s.wr.length
    · obtain ⟨e0, e1, u, e2, e3⟩ := h4.el i q
      have : (s.wr ++ [(a, p)]).getD i (0, []) = s.wr.getD i (0, []) := by rw [List.getD_eq_getElem?_getD, List.getElem?_append_left q, ← List.getD_eq_getElem?_getD]
      rw [this]
      exact ⟨e0, by rw [List.getElem?_append_left (by omega)]; exact e1, u, by rw [List.getElem?_append_left (by omega)]; exact e2, e3.keep (fun _ q => Or.inl q) fun k hk q => hO k (h.own k hk).2 (Or.inl q)⟩
    · obtain rfl : i = s.wr.length := by omega
      have : (s.wr ++ [(a, p)]).getD s.wr.length (0, []) = (a, p) := by simp [List.getD_eq_getElem?_getD]
      rw [this]
      refine ⟨ha, ?_, v, ?_, hp.keep (fun _ q => Or.inl q) fun k hk q => hO k (h.own k hk).2 (Or.inl q)⟩
      · rw [List.getElem?_append_right (by omega), show s.wr.length * 2 - xr.length = 0 by omega]; rfl
      · rw [List.getElem?_append_right (by omega), show s.wr.length * 2 + 1 - xr.length = 1 by omega]; rfl
  · simp only [Value.ownBlock, Option.some.injEq] at e
    exact Or.inr e.symm
  · rcases hb with hb | rfl
    · exact ⟨(h.own b hb).1, Nat.lt_of_lt_of_le (h.own b hb).2 hs⟩
    · have := hown.lt b rfl
      exact ⟨this.1, by simpa using this.2⟩
  · refine ⟨hgrow.os, hgrow.tape, hgrow.output, hs, fun k hk hn => ?_⟩
    rw [blk_setCell_other _ _ _ _ (show k ≠ kd from fun e => hn (by rw [e]; exact h.dk))]
    exact hgrow.block k hk fun e => hn (h4.blk k e.symm)

/-- Bytes are copied into a blank page. -/
theorem copy_page {a : Option Addr} {c : Nat} (ha : BtAt w a l) (hl : l.length ≤ 32) (hc : l.length ≤ c) (hnil : a = none → c = 0) :
    ∃ W1, (Builtin.copy_ #[31, 31] 3 #[.slice (some ⟨w.heap.size, 0, none⟩) 32 32, .slice a l.length c]).run Tryd.prog (w.alloc nil32) = .ok (.int .i64 (l.length : Nat)) W1 ∧ Below w.heap.size w W1 ∧ W1.heap.size = w.heap.size + 1 ∧ ∀ F : Nat → Prop, F w.heap.size → PgAt W1 F (.slice (some ⟨w.heap.size, 0, none⟩) 32 32) (pad l) := by
  have hi : (Tryd.prog.info? 5).map (·.size) = some 1 := by kernel_rfl
  have hrow : ∀ F : Nat → Prop, F w.heap.size → PgAt (w.alloc (.cells ((pad l).map by1).toArray 5)) F (.slice (some ⟨w.heap.size, 0, none⟩) 32 32) (pad l) := fun F hF => by
    have hp := pad_len hl
    refine ⟨hp, _, rfl, hF, ?_⟩
    have := World.rowIs_alloc w ((pad l).map by1).toArray 5 (fun i => by1 ((pad l).getD i 0)) (fun i hi => by
      have hi' : i < (pad l).length := by simpa using hi
      simp [hi'])
    rwa [show ((pad l).map by1).toArray.size = 32 by simpa using hp] at this
  have hbl : ∀ o : Obj, Below w.heap.size w (w.alloc o) := fun o => (Below.refl _ _).alloc (Nat.le_refl _) _
  cases a with
  | none =>
    obtain rfl := hnil rfl
    obtain rfl : l = [] := List.eq_nil_of_length_eq_zero (by omega)
    have hr := run_copy_nil (P := Tryd.prog) (w.alloc nil32) 31 31 3 5 ⟨w.heap.size, 0, none⟩ 32 32 Tryd.underlying31 (by rw [hi]; rfl)
    exact ⟨_, hr, hbl _, by simp, fun F hF => by rw [pad_nil]; exact blank_at F hF⟩
  | some a =>
    have hr := run_copy_row (P := Tryd.prog) (w.alloc nil32) 31 31 3 5 w.heap.size 0 32 32 a l.length c (madeCells #[.int .u8 0] 32) 5 (l.map by1) Tryd.underlying31 hi (heap_alloc_new w _) (by rw [List.length_map]; exact (Nat.min_eq_left hl).symm) (fun j v hv => by
      rw [List.getElem?_map] at hv
      obtain ⟨x, hx, rfl⟩ := Option.map_eq_some_iff.1 hv
      obtain ⟨hj, hx'⟩ := List.getElem?_eq_some_iff.1 hx
      obtain ⟨b, o, e, hcell⟩ := ha.below (hbl nil32) j hj
      cases e
      rw [Addr.add_lit, hcell, List.getD_eq_getElem?_getD, hx]
      rfl) (by rw [List.length_map]; simp [size_madeCells]; omega) (fun v hv => by
      obtain ⟨x, _, rfl⟩ := List.mem_map.1 hv
      rfl)
    rw [World.setRow_alloc_new, show ((madeCells #[Value.int .u8 0] 32).toList.take 0 ++ l.map by1 ++ (madeCells #[Value.int .u8 0] 32).toList.drop (0 + (l.map by1).length)).toArray = ((pad l).map by1).toArray by
      rw [toList_madeCells_one, List.take_zero, List.nil_append, List.drop_replicate, List.length_map, Nat.zero_add, pad, List.map_append, List.map_replicate]
      rfl] at hr
    exact ⟨_, by rw [hr, List.length_map]; rfl, hbl _, by simp, hrow⟩

end Go.Proofs.YtclheepbojogfacDoor.Dk
