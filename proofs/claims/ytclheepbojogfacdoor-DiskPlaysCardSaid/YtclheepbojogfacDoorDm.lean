/-
  The two disks side by side: the landed one and the statements' own.
-/
import Derived.Test.YtclheepbojogfacDoorDl
namespace Go.Proofs.YtclheepbojogfacDoor.Dk
open Go.RowKit Go.Deep
open Go.RowKit (Below)
set_option linter.unusedVariables false

variable {w w' wr : World} {D : Face} {B n kd : Nat} {d : Value} {X F F' : Nat → Prop} {s s' s1 s2 sd sr : St} {l : List UInt8} {k x x1 x2 : Int}

theorem Writes.one (h1 : Writes n s k l x1 s1) (h2 : Writes n s k l x2 s2) : x1 = x2 ∧ s1 = s2 := by
  rcases h1 with ⟨a1, a2, a3⟩ | ⟨a0, a1, a2, a3⟩ | ⟨a0, a1, a2, a3, a4⟩ | ⟨a0, a1, a2, a3, a4⟩ <;> rcases h2 with ⟨b1, b2, b3⟩ | ⟨b0, b1, b2, b3⟩ | ⟨b0, b1, b2, b3, b4⟩ | ⟨b0, b1, b2, b3, b4⟩
  · exact ⟨a2.trans b2.symm, a3.trans b3.symm⟩
  · omega
  · omega
  · omega
  · omega
  · exact ⟨a2.trans b2.symm, a3.trans b3.symm⟩
  · omega
  · omega
  · omega
  · omega
  · exact ⟨a3.trans b3.symm, a4.trans b4.symm⟩
  · exact absurd a2 b2
  · omega
  · omega
  · exact absurd b2 a2
  · exact ⟨a3.trans b3.symm, a4.trans b4.symm⟩

theorem Syncs.one (h1 : Syncs s x1 s1) (h2 : Syncs s x2 s2) : x1 = x2 ∧ s1 = s2 := by
  rcases h1 with ⟨a1, a2, a3⟩ | ⟨a1, a2, a3⟩ <;> rcases h2 with ⟨b1, b2, b3⟩ | ⟨b1, b2, b3⟩
  · exact ⟨a2.trans b2.symm, a3.trans b3.symm⟩
  · exact absurd a1 b1
  · exact absurd b1 a1
  · exact ⟨a2.trans b2.symm, a3.trans b3.symm⟩

theorem Writes.len (h : Writes n s k l x s') : s'.wr.length ≤ s.wr.length + 1 := by
  rcases h with ⟨_, _, rfl⟩ | ⟨_, _, _, rfl⟩ | ⟨_, _, _, _, rfl⟩ | ⟨_, _, _, _, rfl⟩
  · omega
  · omega
  · exact Nat.le_succ _
  · show (s.wr ++ [_]).length ≤ _
    simp

theorem Syncs.len (h : Syncs s x s') : s'.wr.length ≤ s.wr.length := by
  rcases h with ⟨_, _, rfl⟩ | ⟨_, _, rfl⟩
  · exact Nat.le_refl _
  · exact Nat.zero_le _

theorem Writes.wide (h : Writes n s k l x s') : x = 0 ∨ x = 1 ∨ x = 3 ∨ x = 8 := by
  rcases h with ⟨_, h, _⟩ | ⟨_, _, h, _⟩ | ⟨_, _, _, h, _⟩ | ⟨_, _, _, h, _⟩ <;> omega

/-- What stands apart turns and grows: the disk stands. -/
theorem LW.regrow (O : DiskOk D) {Y X' : Nat → Prop} (h : LW D w B n d X wr s) (t : Turn Y wr w') (hY : ∀ b, Y b → X b) (hF : ∀ b, X' b → X b ∨ wr.heap.size ≤ b) (ho : ∀ b, X' b → b < w'.heap.size) (hB : ∀ b, Y b → w.heap.size ≤ b) : LW D w B n d X' w' s := by
  obtain ⟨G, hG, hX⟩ := h.at_
  refine ⟨⟨G, O.keep hG t.size fun b hb => t.block b (O.own hG b hb).2 fun q => (hX b (hY b q)).1 hb, fun b hb => ⟨fun q => ?_, ho b hb⟩⟩, t.below h.below h.below.size hB, h.b1, Nat.le_trans h.b2 t.size⟩
  rcases hF b hb with e | e
  · exact (hX b e).1 q
  · have := (O.own hG b q).2; omega

/-- The two disks, with what stands apart from both. -/
def JW (D : Face) (w : World) (B n : Nat) (d : Value) (kd : Nat) (X : Nat → Prop) (wr : World) (sd sr : St) : Prop := ∃ F, LW D w B n d (fun b => F b ∨ X b) wr sd ∧ RAt wr w.heap.size kd n sr F ∧ ∀ b, X b → ¬ F b

theorem JW.below (h : JW D w B n d kd X wr sd sr) : Below w.heap.size w wr := by
  obtain ⟨F, h1, _⟩ := h
  exact h1.below

theorem JW.step (O : DiskOk D) (h : JW D w B n d kd X wr sd sr) (hb : Below wr.heap.size wr w') : JW D w B n d kd X w' sd sr := by
  obtain ⟨F, h1, h2, h3⟩ := h
  exact ⟨F, h1.step O hb, h2.below hb, h3⟩

/-- One more block stands apart from both. -/
theorem JW.apart (O : DiskOk D) (h : JW D w B n d kd X wr sd sr) (o : Obj) : JW D w B n d kd (fun b => X b ∨ b = wr.heap.size) (wr.alloc o) sd sr := by
  obtain ⟨F, h1, h2, h3⟩ := h
  have hb : Below wr.heap.size wr (wr.alloc o) := (Below.refl _ _).alloc (Nat.le_refl _) _
  have h4 := h1.apart O o
  refine ⟨F, h4.regrow O (Turn.refl _) (Y := fun _ => False) (fun _ q => q.elim) (fun b q => Or.inl ?_) (fun b q => ?_) (fun _ q => q.elim), h2.below hb, fun b q => ?_⟩
  · rcases q with q | q | q
    · exact Or.inl (Or.inl q)
    · exact Or.inl (Or.inr q)
    · exact Or.inr q
  · obtain ⟨G, _, hX⟩ := h4.at_
    rcases q with q | q | q
    · exact (hX b (Or.inl (Or.inl q))).2
    · exact (hX b (Or.inl (Or.inr q))).2
    · exact (hX b (Or.inr q)).2
  · rcases q with q | rfl
    · exact h3 b q
    · exact fun z => by have := (h2.own _ z).2; omega

/-- Less stands apart. -/
theorem JW.drop (O : DiskOk D) {X' : Nat → Prop} (h : JW D w B n d kd X wr sd sr) (hX : ∀ b, X' b → X b) : JW D w B n d kd X' wr sd sr := by
  obtain ⟨F, h1, h2, h3⟩ := h
  obtain ⟨G, _, hG⟩ := h1.at_
  exact ⟨F, h1.regrow O (Turn.refl _) (Y := fun _ => False) (fun _ q => q.elim) (fun b q => Or.inl (q.imp id (hX b))) (fun b q => (hG b (q.imp id (hX b))).2) (fun _ q => q.elim), h2, fun b q => h3 b (hX b q)⟩

/-- The statements' disk goes one step. -/
theorem JW.right (O : DiskOk D) {F F' : Nat → Prop} (h1 : LW D w B n d (fun b => F b ∨ X b) wr sd) (h2 : RAt wr w.heap.size kd n sr F) (hx : ∀ b, X b → ¬ F b) (h3 : RAt w' w.heap.size kd n s' F') (h4 : ∀ b, F' b → F b ∨ wr.heap.size ≤ b) (t : Turn F wr w') : JW D w B n d kd X w' sd s' ∧ Same X wr w' := by
  obtain ⟨G, _, hX⟩ := h1.at_
  refine ⟨⟨F', h1.regrow O t (fun b q => Or.inl q) (fun b q => ?_) (fun b q => ?_) (fun b q => (h2.own b q).1), h3, fun b q z => ?_⟩, fun b q => t.block b (hX b (Or.inr q)).2 (hx b q)⟩
  · rcases q with q | q
    · exact (h4 b q).imp Or.inl id
    · exact Or.inl (Or.inr q)
  · rcases q with q | q
    · exact (h3.own b q).2
    · exact Nat.lt_of_lt_of_le (hX b (Or.inr q)).2 t.size
  · rcases h4 b z with e | e
    · exact hx b q e
    · have := (hX b (Or.inr q)).2; omega

/-- The landed disk goes one step. -/
theorem JW.left {F : Nat → Prop} (h2 : RAt wr w.heap.size kd n sr F) (hx : ∀ b, X b → ¬ F b) (h1 : LW D w B n d (fun b => F b ∨ X b) w' s') (h3 : Same (fun b => F b ∨ X b) wr w') : JW D w B n d kd X w' s' sr ∧ Same X wr w' := by
  obtain ⟨G, _, hX⟩ := h1.at_
  exact ⟨⟨F, h1, h2.grow (fun _ q => q) (fun b q => ⟨(h2.own b q).1, (hX b (Or.inl q)).2⟩) fun b q => h3 b (Or.inl q), hx⟩, fun b q => h3 b (Or.inr q)⟩

theorem own_low {b b' m N : Nat} {t : TypeId} {v : Value} {xs : List Value} (h : w.ownsRow b t m v N xs) (hb : b' ≤ b) : w.ownsRow b' t m v N xs := by
  refine ⟨h.1, ?_⟩
  rcases h.2 with h0 | ⟨g, cap, cur, hv, h1, h2⟩
  · exact Or.inl h0
  · exact Or.inr ⟨g, cap, cur, hv, Nat.le_trans hb h1, h2⟩

theorem arg_far {a : Option Addr} (ha : BtAt w a l) {F : Nat → Prop} (hF : ∀ b, F b → w.heap.size ≤ b) : l ≠ [] → ∀ b o, a = some ⟨b, o, none⟩ → ¬ F b := fun hl b o e q => by
  obtain ⟨b', o', e', hcell⟩ := ha 0 (List.length_pos_iff.2 hl)
  rw [e] at e'
  simp only [Option.some.injEq, Addr.mk.injEq, and_true] at e'
  have h1 := World.block_lt_of_cell? _ _ hcell
  have h2 := hF b q
  simp at h1
  omega

theorem num_far {a : Option Addr} {m : Nat} {f : Nat → Int} (ha : NumAt w a m f) {F : Nat → Prop} (hF : ∀ b, F b → w.heap.size ≤ b) : 0 < m → ∀ b o, a = some ⟨b, o, none⟩ → ¬ F b := fun hm b o e q => by
  obtain ⟨b', o', e', hcell⟩ := ha 0 hm
  rw [e] at e'
  simp only [Option.some.injEq, Addr.mk.injEq, and_true] at e'
  have h1 := World.block_lt_of_cell? _ _ hcell
  have h2 := hF b q
  simp at h1
  omega

theorem j_rwrite (O : DiskOk D) (h : JW D w B n d kd X wr sd sr) (hn : 1 ≤ n) (hn2 : n ≤ 80) (hw : sr.wr.length ≤ 1000) {a : Option Addr} {c : Nat} (k : Int) (ha : BtAt w a l) (hc : l.length ≤ c) (hc2 : c ≤ maxLen) (hnil : a = none → c = 0) :
    Calls Tryd.prog 15 #[.pointer (some ⟨kd, 0, none⟩), .int .i64 k, .slice a l.length c] wr fun e w' => ∃ x, e = .returned (.int .i64 x) ∧ ∃ s', Writes n sr k l x s' ∧ JW D w B n d kd X w' sd s' ∧ Same X wr w' := by
  obtain ⟨F, h1, h2, hx⟩ := h
  exact (r_write h2 hn hn2 h1.below.size hw k (ha.below h1.below) hc hc2 hnil (arg_far ha fun b q => (h2.own b q).1)).mono fun e w' ⟨x, e1, s', e2, F', e3, e4, e5⟩ => ⟨x, e1, s', e2, JW.right O h1 h2 hx e3 e4 e5⟩

theorem j_write (O : DiskOk D) (h : JW D w B n d kd X wr sd sr) (hw : sd.wr.length ≤ 1000) {a : Option Addr} {c : Nat} (k : Int) (ha : BtAt w a l) (hc : l.length ≤ c) (hc2 : c ≤ maxLen) (hnil : a = none → c = 0) :
    Calls Tryd.prog 16 #[d, .int .i64 k, .slice a l.length c] wr fun e w' => ∃ v, e = .returned v ∧ ∃ x, Er v x ∧ ∃ s', Writes n sd k l x s' ∧ JW D w B n d kd X w' s' sr ∧ Same X wr w' := by
  obtain ⟨F, h1, h2, hx⟩ := h
  exact (lw_write O h1 k ha hc hc2 hnil hw).mono fun e w' ⟨v, x, s', e1, e2, e3, e4, e5⟩ => ⟨v, e1, x, e2, s', e3, JW.left h2 hx e4 e5⟩

theorem j_rsync (O : DiskOk D) (h : JW D w B n d kd X wr sd sr) (hn : 1 ≤ n) (hn2 : n ≤ 80) :
    Calls Tryd.prog 17 #[.pointer (some ⟨kd, 0, none⟩)] wr fun e w' => ∃ x, e = .returned (.int .i64 x) ∧ ∃ s', Syncs sr x s' ∧ JW D w B n d kd X w' sd s' ∧ Same X wr w' := by
  obtain ⟨F, h1, h2, hx⟩ := h
  exact (r_sync h2 hn hn2 h1.below.size).mono fun e w' ⟨x, e1, s', e2, F', e3, e4, e5⟩ => ⟨x, e1, s', e2, JW.right O h1 h2 hx e3 e4 e5⟩

theorem j_sync (O : DiskOk D) (h : JW D w B n d kd X wr sd sr) :
    Calls Tryd.prog 18 #[d] wr fun e w' => ∃ v, e = .returned v ∧ ∃ x, Er v x ∧ ∃ s', Syncs sd x s' ∧ JW D w B n d kd X w' s' sr ∧ Same X wr w' := by
  obtain ⟨F, h1, h2, hx⟩ := h
  exact (lw_sync O h1).mono fun e w' ⟨v, x, s', e1, e2, e3, e4, e5⟩ => ⟨v, e1, x, e2, s', e3, JW.left h2 hx e4 e5⟩

theorem j_rcrash (O : DiskOk D) (h : JW D w B n d kd X wr sd sr) (hn : 1 ≤ n) (hn2 : n ≤ 80) (hw : sr.wr.length ≤ 1000) {a : Option Addr} {m c : Nat} {f : Nat → Int} (ha : NumAt w a m f) (hc : m ≤ c) (hc2 : c ≤ maxLen) :
    Calls Tryd.prog 21 #[.pointer (some ⟨kd, 0, none⟩), .slice a m c] wr fun e w' => e = .returned (.tuple #[]) ∧ JW D w B n d kd X w' sd (crashed sr (among m f)) ∧ Same X wr w' := by
  obtain ⟨F, h1, h2, hx⟩ := h
  exact (r_crash h2 hn hn2 h1.below.size hw (ha.below h1.below) hc hc2 (num_far ha fun b q => (h2.own b q).1)).mono fun e w' ⟨e1, F', e3, e4, e5⟩ => ⟨e1, JW.right O h1 h2 hx e3 e4 e5⟩

theorem j_crash (O : DiskOk D) (h : JW D w B n d kd X wr sd sr) (hw : sd.wr.length ≤ 1000) {a : Option Addr} {m c : Nat} {f : Nat → Int} (ha : NumAt w a m f) (hc : m ≤ c) (hc2 : c ≤ maxLen) :
    Calls Tryd.prog 20 #[d, .slice a m c] wr fun e w' => e = .returned (.tuple #[]) ∧ JW D w B n d kd X w' (crashed sd (among m f)) sr ∧ Same X wr w' := by
  obtain ⟨F, h1, h2, hx⟩ := h
  exact (lw_crash O h1 ha hc hc2 hw).mono fun e w' ⟨e1, e4, e5⟩ => ⟨e1, JW.left h2 hx e4 e5⟩

theorem j_fail (O : DiskOk D) (h : JW D w B n d kd X wr sd sr) (k : Int) (hk : -9223372036854775808 ≤ k ∧ k ≤ 9223372036854775807) :
    Calls Tryd.prog 19 #[d, .int .i64 k] wr fun e w' => e = .returned (.tuple #[]) ∧ JW D w B n d kd X w' (failing sd k) sr ∧ Same X wr w' := by
  obtain ⟨F, h1, h2, hx⟩ := h
  obtain ⟨G, hG, hX⟩ := h1.at_
  refine (O.fail k hG h1.b2 hk).mono fun e w' ⟨e1, e2, e3⟩ => ⟨e1, ?_⟩
  obtain ⟨q1, q2⟩ := h1.turn O hG hX e2 (fun b q => Or.inl q) e3
  exact JW.left h2 hx q1 q2

/-- The field Left is set. -/
theorem JW.setLeft (O : DiskOk D) (h : JW D w B n d kd X wr sd sr) {x : Int} (hw : -9223372036854775808 ≤ x ∧ x ≤ 9223372036854775807) : JW D w B n d kd X (wr.setCell ⟨kd, 3, none⟩ (.int .i64 x)) sd { sr with left := x } ∧ Same X wr (wr.setCell ⟨kd, 3, none⟩ (.int .i64 x)) ∧ wr.frozen? ⟨kd, 3, none⟩ = false ∧ ∃ v, wr.cell? ⟨kd, 3, none⟩ = some v := by
  obtain ⟨F, h1, h2, hx⟩ := h
  exact ⟨⟨F, h1.setCell O (Or.inl h2.dk) (h2.own kd h2.dk).1 _, h2.setLeft hw, hx⟩, fun b q => blk_setCell_other _ _ _ _ fun e => hx b q (by rw [e]; exact h2.dk), h2.free 3, _, h2.cell3⟩

theorem j_read (O : DiskOk D) (h : JW D w B n d kd X wr sd sr) (i : Nat) (hi : i < n) :
    Calls Tryd.prog 22 #[d, .int .i64 (i : Nat)] wr fun e w' => ∃ k c, e = .returned (.tuple #[.slice (some ⟨k, 0, none⟩) 32 c, .nilIface]) ∧ (sd.now i).length = 32 ∧ BtAt w' (some ⟨k, 0, none⟩) (sd.now i) ∧ JW D w B n d kd X w' sd sr ∧ Below wr.heap.size wr w' := by
  obtain ⟨F, h1, h2, hx⟩ := h
  exact (lw_read O h1 i hi).mono fun e w' ⟨k, c, e1, e2, e3, e4, e5⟩ => ⟨k, c, e1, e2, e3, ⟨F, e4, h2.below e5, hx⟩, e5⟩

theorem j_read_no (O : DiskOk D) (h : JW D w B n d kd X wr sd sr) (i : Int) (hi : i < 0 ∨ (n : Int) ≤ i) :
    Calls Tryd.prog 22 #[d, .int .i64 i] wr fun e w' => e = .returned (.tuple #[.slice none 0 0, .iface 39 (.int .i64 1)]) ∧ JW D w B n d kd X w' sd sr ∧ Below wr.heap.size wr w' := by
  obtain ⟨F, h1, h2, hx⟩ := h
  obtain ⟨G, hG, hX⟩ := h1.at_
  exact (O.read_no i hG hi).mono fun e w' ⟨e1, e2⟩ => ⟨e1, ⟨F, h1.step O e2, h2.below e2, hx⟩, e2⟩

theorem j_pages (O : DiskOk D) (h : LW D w B n d X wr sd) : Calls Tryd.prog 13 #[d] wr fun e w' => e = .returned (.int .i64 (n : Nat)) ∧ LW D w B n d X w' sd := by
  obtain ⟨G, hG, hX⟩ := h.at_
  exact (O.pages hG).mono fun e w' ⟨e1, e2⟩ => ⟨e1, h.step O e2⟩

/-- A page of the statements' disk. -/
theorem JW.page (h : JW D w B n d kd X wr sd sr) {i : Nat} (hi : i < n) : ∃ g c p, wr.cell? ⟨kd, 1, none⟩ = some (.slice (some ⟨g, 0, none⟩) n c) ∧ wr.cell? ⟨g, i, none⟩ = some (.slice (some ⟨p, 0, none⟩) 32 32) ∧ (sr.now i).length = 32 ∧ BtAt wr (some ⟨p, 0, none⟩) (sr.now i) := by
  obtain ⟨F, _, h2, _⟩ := h
  obtain ⟨g, c, _, e1, _, e3, _⟩ := h2.nowIs (by omega)
  obtain ⟨u, e4, e5, p, rfl, _, e6⟩ := e3 i hi
  exact ⟨g, c, p, e1, e4, e5, fun j hj => ⟨p, 0, rfl, by rw [Nat.zero_add]; exact e6.cell (by omega)⟩⟩

/-- Both are there. -/
theorem j_new (O : DiskOk D) (hn : 1 ≤ n) (hn2 : n ≤ 80) (h : LW D w B n d (fun _ => False) wr fresh) :
    Calls Tryd.prog 14 #[.int .i64 (n : Nat)] wr fun e w' => ∃ kd, e = .returned (.pointer (some ⟨kd, 0, none⟩)) ∧ JW D w B n d kd (fun _ => False) w' fresh fresh := by
  refine (r_new n hn hn2).mono fun e w' ⟨kd, e1, F, e2, e3⟩ => ⟨kd, e1, F, ?_, ?_, fun b q => q.elim⟩
  · exact h.regrow O (Turn.of_below e3) (fun b q => q) (fun b q => Or.inr (q.elim (fun z => (e2.own b z).1) False.elim)) (fun b q => q.elim (fun z => (e2.own b z).2) False.elim) (fun b q => q.elim)
  · obtain ⟨K, N, R, xk, xn, xr, h1, h2, h3, h4, h5⟩ := e2.ex
    have hs := h.below.size
    refine ⟨⟨K, N, R, xk, xn, xr, h1, ⟨own_low h2.own hs, h2.pg, h2.blk⟩, ⟨own_low h3.own hs, h3.pg, h3.blk⟩, ⟨own_low h4.own hs, h4.el, h4.blk⟩, h5⟩, e2.dk, fun b q => ⟨Nat.le_trans hs (e2.own b q).1, (e2.own b q).2⟩, e2.wide⟩

end Go.Proofs.YtclheepbojogfacDoor.Dk
