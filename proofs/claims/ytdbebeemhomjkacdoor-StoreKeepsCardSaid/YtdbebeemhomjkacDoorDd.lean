/-
  A disk beside other memory: its calls, with what stands apart from it.
-/
import Derived.Test.YtdbebeemhomjkacDoorDc
import Derived.Laws.IdiomStrings
namespace Go.Proofs.YtdbebeemhomjkacDoor.Dk
open Go.RowKit Go.Deep
open Go.RowKit (Below)
set_option linter.unusedVariables false

variable {w w' wr : World} {D : Face} {B n : Nat} {d : Value} {X : Nat → Prop} {s s' : St}

/-- A disk, the call's own, with what stands apart from it. -/
structure LW (D : Face) (w : World) (B n : Nat) (d : Value) (X : Nat → Prop) (wr : World) (s : St) : Prop where
  at_ : ∃ F, D wr B d n s F ∧ ∀ b, X b → ¬ F b ∧ b < wr.heap.size
  below : Below w.heap.size w wr
  b1 : w.heap.size ≤ B
  b2 : B ≤ wr.heap.size

/-- What stands apart is as it was. -/
def Same (X : Nat → Prop) (w w' : World) : Prop := ∀ b, X b → w'.heap[b]? = w.heap[b]?
theorem Same.refl (w : World) : Same X w w := fun _ _ => rfl
theorem Same.trans {w'' : World} (h : Same X w w') (h' : Same X w' w'') : Same X w w'' := fun b hb => (h' b hb).trans (h b hb)

theorem LW.turn (O : DiskOk D) {F F' : Nat → Prop} (h : LW D w B n d X wr s) (hF : D wr B d n s F) (hX : ∀ b, X b → ¬ F b ∧ b < wr.heap.size) (h1 : D w' B d n s' F') (h2 : ∀ b, F' b → F b ∨ wr.heap.size ≤ b) (h3 : Turn F wr w') : LW D w B n d X w' s' ∧ Same X wr w' :=
  ⟨⟨⟨F', h1, fun b hb => ⟨fun q => by
    rcases h2 b q with q' | q'
    · exact (hX b hb).1 q'
    · have := (hX b hb).2; omega, Nat.lt_of_lt_of_le (hX b hb).2 h3.size⟩⟩,
   h3.below h.below h.below.size (fun k hk => Nat.le_trans h.b1 (O.own hF k hk).1), h.b1, Nat.le_trans h.b2 h3.size⟩,
   fun b hb => h3.block b (hX b hb).2 (hX b hb).1⟩

/-- Other memory turns: the disk stands. -/
theorem LW.other (O : DiskOk D) {Y : Nat → Prop} (h : LW D w B n d X wr s) (t : Turn Y wr w') (hY : ∀ b, Y b → X b) (hB : ∀ b, Y b → w.heap.size ≤ b) : LW D w B n d X w' s := by
  obtain ⟨F, hF, hX⟩ := h.at_
  exact ⟨⟨F, O.keep hF t.size fun b hb => t.block b (O.own hF b hb).2 fun q => (hX b (hY b q)).1 hb, fun b hb => ⟨(hX b hb).1, Nat.lt_of_lt_of_le (hX b hb).2 t.size⟩⟩, t.below h.below h.below.size hB, h.b1, Nat.le_trans h.b2 t.size⟩

theorem LW.step (O : DiskOk D) (h : LW D w B n d X wr s) (hb : Below wr.heap.size wr w') : LW D w B n d X w' s :=
  h.other O (Y := fun _ => False) (Turn.of_below hb) (fun _ q => q.elim) (fun _ q => q.elim)

/-- A cell of what stands apart is set. -/
theorem LW.setCell (O : DiskOk D) (h : LW D w B n d X wr s) {b i : Nat} (hX : X b) (hb : w.heap.size ≤ b) (v : Value) : LW D w B n d X (wr.setCell ⟨b, i, none⟩ v) s :=
  h.other O (Y := fun k => k = b) ⟨rfl, rfl, rfl, by simp, fun k _ hk => by simp [World.setCell, Array.getElem?_modify, Ne.symm hk]⟩ (fun k e => e ▸ hX) (fun k e => e ▸ hb)

/-- One more block stands apart. -/
theorem LW.apart (O : DiskOk D) (h : LW D w B n d X wr s) (o : Obj) : LW D w B n d (fun b => X b ∨ b = wr.heap.size) (wr.alloc o) s := by
  obtain ⟨F, hF, hX⟩ := h.at_
  have hb : Below wr.heap.size wr (wr.alloc o) := (Below.refl _ _).alloc (Nat.le_refl _) _
  refine ⟨⟨F, O.keep hF hb.size fun b q => hb.block b (O.own hF b q).2, fun b q => ?_⟩, below_step h.below hb, h.b1, Nat.le_trans h.b2 hb.size⟩
  rcases q with q | rfl
  · exact ⟨(hX b q).1, Nat.lt_of_lt_of_le (hX b q).2 hb.size⟩
  · exact ⟨fun z => by have := (O.own hF _ z).2; omega, by simp⟩

theorem lw_new (O : DiskOk D) (h : Below w.heap.size w wr) (h1 : 1 ≤ n) (h2 : n ≤ 80) : Calls Tryd.prog 13 #[.int .i64 (n : Nat)] wr fun e w' => ∃ d, e = .returned (.tuple #[d, .nilIface]) ∧ LW D w wr.heap.size n d (fun _ => False) w' fresh :=
  (O.new_ok n h1 h2).mono fun e w' ⟨d, F, e1, e2, e3⟩ => ⟨d, e1, ⟨F, e2, fun b q => q.elim⟩, below_step h e3, h.size, e3.size⟩

theorem lw_write (O : DiskOk D) (h : LW D w B n d X wr s) {a : Option Addr} {l : List UInt8} {c : Nat} (k : Int) (ha : BtAt w a l) (hc : l.length ≤ c) (hc2 : c ≤ maxLen) (hnil : a = none → c = 0) (hw : s.wr.length ≤ 1000) :
    Calls Tryd.prog 17 #[d, .int .i64 k, .slice a l.length c] wr fun e w' => ∃ v x s', e = .returned v ∧ Er v x ∧ Writes n s k l x s' ∧ LW D w B n d X w' s' ∧ Same X wr w' := by
  obtain ⟨F, hF, hX⟩ := h.at_
  refine (O.write k hF h.b2 (ha.below h.below) hc hc2 (fun hl b o e q => ?_) hnil hw).mono fun e w' ⟨v, x, s', F', e1, e2, e3, e4, e5, e6⟩ => ⟨v, x, s', e1, e2, e3, h.turn O hF hX e4 e5 e6⟩
  obtain ⟨b', o', e', hcell⟩ := ha 0 (List.length_pos_iff.2 hl)
  rw [e] at e'
  simp only [Option.some.injEq, Addr.mk.injEq, and_true] at e'
  have h1 := World.block_lt_of_cell? _ _ hcell
  have h2 := (O.own hF b q).1
  have h3 := h.b1
  simp at h1
  omega

theorem lw_sync (O : DiskOk D) (h : LW D w B n d X wr s) : Calls Tryd.prog 19 #[d] wr fun e w' => ∃ v x s', e = .returned v ∧ Er v x ∧ Syncs s x s' ∧ LW D w B n d X w' s' ∧ Same X wr w' := by
  obtain ⟨F, hF, hX⟩ := h.at_
  exact (O.sync hF h.b2).mono fun e w' ⟨v, x, s', F', e1, e2, e3, e4, e5, e6⟩ => ⟨v, x, s', e1, e2, e3, h.turn O hF hX e4 e5 e6⟩

theorem lw_crash (O : DiskOk D) (h : LW D w B n d X wr s) {a : Option Addr} {m c : Nat} {f : Nat → Int} (ha : NumAt w a m f) (hc : m ≤ c) (hc2 : c ≤ maxLen) (hw : s.wr.length ≤ 1000) :
    Calls Tryd.prog 21 #[d, .slice a m c] wr fun e w' => e = .returned (.tuple #[]) ∧ LW D w B n d X w' (crashed s (among m f)) ∧ Same X wr w' := by
  obtain ⟨F, hF, hX⟩ := h.at_
  refine (O.crash hF h.b2 (ha.below h.below) hc hc2 (fun hl b o e q => ?_) hw).mono fun e w' ⟨F', e1, e4, e5, e6⟩ => ⟨e1, h.turn O hF hX e4 e5 e6⟩
  obtain ⟨b', o', e', hcell⟩ := ha 0 hl
  rw [e] at e'
  simp only [Option.some.injEq, Addr.mk.injEq, and_true] at e'
  have h1 := World.block_lt_of_cell? _ _ hcell
  have h2 := (O.own hF b q).1
  have h3 := h.b1
  simp at h1
  omega

theorem lw_read (O : DiskOk D) (h : LW D w B n d X wr s) (i : Nat) (hi : i < n) :
    Calls Tryd.prog 23 #[d, .int .i64 (i : Nat)] wr fun e w' => ∃ k c, e = .returned (.tuple #[.slice (some ⟨k, 0, none⟩) 32 c, .nilIface]) ∧ (s.now i).length = 32 ∧ BtAt w' (some ⟨k, 0, none⟩) (s.now i) ∧ LW D w B n d X w' s ∧ Below wr.heap.size wr w' := by
  obtain ⟨F, hF, hX⟩ := h.at_
  exact (O.read_ok i hF h.b2 hi).mono fun e w' ⟨k, c, e1, e2, e3, e4, e5⟩ => ⟨k, c, e1, e2, e3, h.step O e5, e5⟩

def str (l : List UInt8) : ByteArray := ⟨l.toArray⟩

/-- A page as a text. -/
theorem conv_page {k c : Nat} {l : List UInt8} (hl : l.length = 32) (h : BtAt w (some ⟨k, 0, none⟩) l) : (convert 31 9 (.slice (some ⟨k, 0, none⟩) 32 c)).run Tryd.prog w = .ok (.string (str l)) w := by
  have := run_convert_bytes_back (P := Tryd.prog) w 31 9 5 ⟨k, 0, none⟩ c l Tryd.underlying31 Tryd.underlying5 Tryd.underlying9 (fun j hj => by
    obtain ⟨b, o, e, hc⟩ := h j hj
    simp only [Option.some.injEq, Addr.mk.injEq, and_true] at e
    obtain ⟨rfl, rfl⟩ := e
    rw [List.getD_eq_getElem?_getD, List.getElem?_eq_getElem hj] at hc
    rw [Addr.add_lit]
    exact hc)
  rw [hl] at this
  exact this

/-- The power is on, and stays on. -/
structure Alive (s : St) : Prop where
  left : s.left = -1
  down : s.down = false
  size : Sized s

theorem Alive.on {s : St} (h : Alive s) : ¬ Off s := fun q => by
  rcases q with q | q
  · rw [h.down] at q; cases q
  · rw [h.left] at q; cases q
theorem Alive.fresh : Alive fresh := ⟨rfl, rfl, Sized.fresh⟩
theorem Alive.wrote {s : St} (h : Alive s) (a : Nat) {p : List UInt8} (hp : p.length = 32) : Alive (wrote s a p) := ⟨by show (if 0 < s.left then _ else _) = _; rw [h.left]; rfl, h.down, h.size.wrote a hp⟩
theorem Alive.synced {s : St} (h : Alive s) : Alive (synced s) := ⟨by show (if 0 < s.left then _ else _) = _; rw [h.left]; rfl, h.down, h.size.synced⟩
theorem Alive.crashed {s : St} (h : Alive s) (q : Nat → Bool) : Alive (crashed s q) := ⟨rfl, rfl, h.size.crashed q⟩

theorem Alive.writes {k x : Int} {l : List UInt8} (h : Alive s) (hw : Writes n s k l x s') : (x ≠ 0 ∧ s' = s) ∨ (∃ a : Nat, k = (a : Int) ∧ a < n ∧ l.length ≤ 32 ∧ x = 0 ∧ s' = Dk.wrote s a (pad l)) := by
  rcases hw with ⟨_, h2, h3⟩ | ⟨_, _, h2, h3⟩ | ⟨_, _, h2, _⟩ | ⟨h1, h4, _, h2, h3⟩
  · exact Or.inl ⟨by omega, h3⟩
  · exact Or.inl ⟨by omega, h3⟩
  · exact absurd h2 h.on
  · exact Or.inr ⟨k.toNat, by omega, by omega, h4, h2, h3⟩
theorem Alive.syncs {x : Int} (h : Alive s) (hw : Syncs s x s') : x = 0 ∧ s' = Dk.synced s := by
  rcases hw with ⟨h1, _⟩ | ⟨_, h2, h3⟩
  · exact absurd h1 h.on
  · exact ⟨h2, h3⟩

theorem Er.nil {v : Value} (h : Er v 0) : v = .nilIface := by
  rcases h with ⟨h, _⟩ | ⟨_, h⟩
  · exact h
  · exact absurd rfl h
theorem Er.some {v : Value} {x : Int} (h : Er v x) (hx : x ≠ 0) : v = .iface 39 (.int .i64 x) := by
  rcases h with ⟨_, h⟩ | ⟨h, _⟩
  · exact absurd h hx
  · exact h

/-- Bytes that stand apart are written. -/
theorem lw_write_x (O : DiskOk D) (h : LW D w B n d X wr s) {a : Option Addr} {l : List UInt8} {c : Nat} (k : Int) (ha : BtAt wr a l) (hX : ∀ b o, a = some ⟨b, o, none⟩ → X b) (hc : l.length ≤ c) (hc2 : c ≤ maxLen) (hnil : a = none → c = 0) (hw : s.wr.length ≤ 1000) :
    Calls Tryd.prog 17 #[d, .int .i64 k, .slice a l.length c] wr fun e w' => ∃ v x s', e = .returned v ∧ Er v x ∧ Writes n s k l x s' ∧ LW D w B n d X w' s' ∧ Same X wr w' := by
  obtain ⟨F, hF, hF2⟩ := h.at_
  exact (O.write k hF h.b2 ha hc hc2 (fun _ b o e => (hF2 b (hX b o e)).1) hnil hw).mono fun e w' ⟨v, x, s', F', e1, e2, e3, e4, e5, e6⟩ => ⟨v, x, s', e1, e2, e3, h.turn O hF hF2 e4 e5 e6⟩

theorem Alive.may {a : Nat} {x : Int} {l : List UInt8} (h : Alive s) (hw : Writes n s (a : Int) l x s') (ha : a < n) (hl : l.length ≤ 32) : x = 0 ∧ s' = Dk.wrote s a (pad l) := by
  rcases hw with ⟨h1, _⟩ | ⟨_, h1, _⟩ | ⟨_, _, h1, _⟩ | ⟨_, _, _, h2, h3⟩
  · omega
  · omega
  · exact absurd h1 h.on
  · exact ⟨h2, h3⟩

end Go.Proofs.YtdbebeemhomjkacDoor.Dk
