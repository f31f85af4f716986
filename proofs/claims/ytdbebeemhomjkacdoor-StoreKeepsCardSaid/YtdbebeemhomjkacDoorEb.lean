/-
  A store on a disk beside other memory: its calls, with what stands apart from it.
-/
import Derived.Test.YtdbebeemhomjkacDoorEa
import Derived.Test.YtdbebeemhomjkacDoorDd
namespace Go.Proofs.YtdbebeemhomjkacDoor.Sk
open Go.RowKit Go.Deep Go.Proofs.YtdbebeemhomjkacDoor.Dk
open Go.RowKit (Below)
set_option linter.unusedVariables false

variable {w w' wr : World} {D : Face} {B n t : Nat} {d s : Value} {l x : List UInt8} {g : Option Nat} {X : Nat → Prop} {P P' : World → Nat → (Nat → Prop) → Prop}

def Keeps (P : World → Nat → (Nat → Prop) → Prop) : Prop := ∀ {w w' : World} {B : Nat} {F : Nat → Prop}, P w B F → w.heap.size ≤ w'.heap.size → (∀ b, F b → w'.heap[b]? = w.heap[b]?) → P w' B F
def Owns (P : World → Nat → (Nat → Prop) → Prop) : Prop := ∀ {w : World} {B : Nat} {F : Nat → Prop}, P w B F → ∀ b, F b → B ≤ b ∧ b < w.heap.size

/-- What a store's state says, of the call's own, with what stands apart from it. -/
structure SW (P : World → Nat → (Nat → Prop) → Prop) (w : World) (B : Nat) (X : Nat → Prop) (wr : World) : Prop where
  at_ : ∃ F, P wr B F ∧ ∀ b, X b → ¬ F b ∧ b < wr.heap.size
  below : Below w.heap.size w wr
  b1 : w.heap.size ≤ B
  b2 : B ≤ wr.heap.size

theorem SW.turn (hO : Owns P) {F F' : Nat → Prop} (h : SW P w B X wr) (hF : P wr B F) (hX : ∀ b, X b → ¬ F b ∧ b < wr.heap.size) (h1 : P' w' B F') (hs : Stands wr F w' F') : SW P' w B X w' :=
  ⟨⟨F', h1, fun b hb => ⟨fun q => by
    rcases hs.1 b q with q' | q'
    · exact (hX b hb).1 q'
    · have := (hX b hb).2; omega, Nat.lt_of_lt_of_le (hX b hb).2 hs.2.size⟩⟩,
   hs.2.below h.below h.below.size (fun k hk => Nat.le_trans h.b1 (hO hF k hk).1), h.b1, Nat.le_trans h.b2 hs.2.size⟩

theorem SW.step (hK : Keeps P) (hO : Owns P) (h : SW P w B X wr) (hb : Below wr.heap.size wr w') : SW P w B X w' := by
  obtain ⟨F, hF, hX⟩ := h.at_
  exact ⟨⟨F, hK hF hb.size fun b q => hb.block b (hO hF b q).2, fun b q => ⟨(hX b q).1, Nat.lt_of_lt_of_le (hX b q).2 hb.size⟩⟩, below_step h.below hb, h.b1, Nat.le_trans h.b2 hb.size⟩

/-- One more block stands apart. -/
theorem SW.apart (hK : Keeps P) (hO : Owns P) (h : SW P w B X wr) (o : Obj) : SW P w B (fun b => X b ∨ b = wr.heap.size) (wr.alloc o) := by
  obtain ⟨F, hF, hX⟩ := h.at_
  have hb : Below wr.heap.size wr (wr.alloc o) := (Below.refl _ _).alloc (Nat.le_refl _) _
  refine ⟨⟨F, hK hF hb.size fun b q => hb.block b (hO hF b q).2, fun b q => ?_⟩, below_step h.below hb, h.b1, Nat.le_trans h.b2 hb.size⟩
  rcases q with q | rfl
  · exact ⟨(hX b q).1, Nat.lt_of_lt_of_le (hX b q).2 hb.size⟩
  · exact ⟨fun z => by have := (hO hF _ z).2; omega, by simp⟩

/-- No more than this stands apart. -/
theorem SW.less {Y : Nat → Prop} (h : SW P w B X wr) (hY : ∀ b, Y b → X b) : SW P w B Y wr := by
  obtain ⟨F, hF, hX⟩ := h.at_
  exact ⟨⟨F, hF, fun b q => hX b (hY b q)⟩, h.below, h.b1, h.b2⟩

/-- Bytes that stand apart: elder ones, or such as are among what stands apart. -/
def Apart (w : World) (X : Nat → Prop) (a : Option Addr) : Prop := ∀ b o, a = some ⟨b, o, none⟩ → b < w.heap.size ∨ X b

theorem SW.clear (hO : Owns P) (h : SW P w B X wr) {F : Nat → Prop} (hF : P wr B F) (hX : ∀ b, X b → ¬ F b ∧ b < wr.heap.size) {a : Option Addr} (ha : Apart w X a) : ∀ b o, a = some ⟨b, o, none⟩ → ¬ F b := fun b o e q => by
  rcases ha b o e with z | z
  · have := (hO hF b q).1
    have := h.b1
    omega
  · exact (hX b z).1 q

theorem bt_apart {a : Option Addr} (h : BtAt w a x) (hx : x ≠ []) : Apart w X a := fun b o e => Or.inl (by
  obtain ⟨b', o', e', hc⟩ := h 0 (List.length_pos_iff.2 hx)
  rw [e] at e'
  simp only [Option.some.injEq, Addr.mk.injEq, and_true] at e'
  have := World.block_lt_of_cell? _ _ hc
  simp at this
  omega)
theorem num_apart {a : Option Addr} {m : Nat} {f : Nat → Int} (h : NumAt w a m f) (hm : 0 < m) : Apart w X a := fun b o e => Or.inl (by
  obtain ⟨b', o', e', hc⟩ := h 0 hm
  rw [e] at e'
  simp only [Option.some.injEq, Addr.mk.injEq, and_true] at e'
  have := World.block_lt_of_cell? _ _ hc
  simp at this
  omega)
theorem SW.same (h : SW P w B X wr) (hb : Below wr.heap.size wr w') : Same X wr w' := by
  obtain ⟨F, hF, hX⟩ := h.at_
  exact fun b q => hb.block b (hX b q).2

theorem same_t {F F' : Nat → Prop} (hX : ∀ b, X b → ¬ F b ∧ b < wr.heap.size) (hs : Stands wr F w' F') : Same X wr w' := fun b hb => hs.2.block b (hX b hb).2 (hX b hb).1
theorem same_b {F : Nat → Prop} (hX : ∀ b, X b → ¬ F b ∧ b < wr.heap.size) (hb : Below wr.heap.size wr w') : Same X wr w' := fun b q => hb.block b (hX b q).2

abbrev raw (D : Face) (d : Value) (n : Nat) : World → Nat → (Nat → Prop) → Prop := fun w B F => D.raw w B d n F
abbrev kept (D : Face) (d : Value) (n : Nat) (l : List UInt8) (t : Nat) : World → Nat → (Nat → Prop) → Prop := fun w B F => D.kept w B d n l t F
abbrev on (D : Face) (d : Value) (n : Nat) (s : Value) (l : List UInt8) (t : Nat) (g : Option Nat) : World → Nat → (Nat → Prop) → Prop := fun w B F => D.on w B d n s l t g F
abbrev off (D : Face) (d : Value) (n : Nat) (s : Value) (l : List UInt8) (t : Nat) (x : List UInt8) : World → Nat → (Nat → Prop) → Prop := fun w B F => D.off w B d n s l t x F

theorem StoreOk.raw_k (O : StoreOk D) : Keeps (raw D d n) := fun h h1 h2 => O.raw_keep h h1 h2
theorem StoreOk.kept_k (O : StoreOk D) : Keeps (kept D d n l t) := fun h h1 h2 => O.kept_keep h h1 h2
theorem StoreOk.on_k (O : StoreOk D) : Keeps (on D d n s l t g) := fun h h1 h2 => O.on_keep h h1 h2
theorem StoreOk.off_k (O : StoreOk D) : Keeps (off D d n s l t x) := fun h h1 h2 => O.off_keep h h1 h2
theorem StoreOk.raw_o (O : StoreOk D) : Owns (raw D d n) := fun h => O.raw_own h
theorem StoreOk.kept_o (O : StoreOk D) : Owns (kept D d n l t) := fun h => O.kept_own h
theorem StoreOk.on_o (O : StoreOk D) : Owns (on D d n s l t g) := fun h => O.on_own h
theorem StoreOk.off_o (O : StoreOk D) : Owns (off D d n s l t x) := fun h => O.off_own h

theorem sw_new (O : StoreOk D) (h : Below w.heap.size w wr) (h1 : 1 ≤ n) (h2 : n ≤ 80) : Calls Tryd.prog 13 #[.int .i64 (n : Nat)] wr fun e w' => ∃ d, e = .returned (.tuple #[d, .nilIface]) ∧ SW (raw D d n) w wr.heap.size (fun _ => False) w' :=
  (O.new_ok n h1 h2).mono fun e w' ⟨d, F, e1, e2, e3⟩ => ⟨d, e1, ⟨F, e2, fun b q => q.elim⟩, below_step h e3, h.size, e3.size⟩

theorem sw_open_no (O : StoreOk D) (h : SW (raw D d n) w B X wr) : Calls Tryd.prog 25 #[d] wr fun e w' => ∃ v, e = .returned (.tuple #[v, .iface 39 (.int .i64 5)]) ∧ SW (raw D d n) w B X w' ∧ Same X wr w' := by
  obtain ⟨F, hF, hX⟩ := h.at_
  exact (O.open_no hF h.b2).mono fun e w' ⟨v, e1, e2⟩ => ⟨v, e1, h.step O.raw_k O.raw_o e2, same_b hX e2⟩

theorem sw_format_no (O : StoreOk D) (h : SW (raw D d n) w B X wr) (hn : n < 62) : Calls Tryd.prog 24 #[d] wr fun e w' => e = .returned (.iface 39 (.int .i64 3)) ∧ SW (raw D d n) w B X w' ∧ Same X wr w' := by
  obtain ⟨F, hF, hX⟩ := h.at_
  exact (O.format_no hF h.b2 hn).mono fun e w' ⟨e1, e2⟩ => ⟨e1, h.step O.raw_k O.raw_o e2, same_b hX e2⟩

theorem sw_format (O : StoreOk D) (h : SW (raw D d n) w B X wr) (hn : 62 ≤ n) : Calls Tryd.prog 24 #[d] wr fun e w' => e = .returned .nilIface ∧ SW (kept D d n [] 0) w B X w' ∧ Same X wr w' := by
  obtain ⟨F, hF, hX⟩ := h.at_
  exact (O.format_ok hF h.b2 hn).mono fun e w' ⟨F', e1, e2, e3⟩ => ⟨e1, h.turn O.raw_o hF hX e2 e3, same_t hX e3⟩

theorem sw_open (O : StoreOk D) (h : SW (kept D d n l t) w B X wr) (hl : l.length ≤ 960) (ht : t ≤ 1000) : Calls Tryd.prog 25 #[d] wr fun e w' => ∃ s, e = .returned (.tuple #[s, .nilIface]) ∧ SW (on D d n s l t none) w B X w' ∧ Same X wr w' := by
  obtain ⟨F, hF, hX⟩ := h.at_
  exact (O.open_ok hF h.b2 hl ht).mono fun e w' ⟨s, F', e1, e2, e3⟩ => ⟨s, e1, h.turn O.kept_o hF hX e2 e3, same_t hX e3⟩

theorem sw_save_full (O : StoreOk D) (h : SW (on D d n s l t g) w B X wr) {a : Option Addr} {c : Nat} (ha : BtAt wr a x) (hc : x.length ≤ c) (hc2 : c ≤ maxLen) (hx : 960 < x.length) :
    Calls Tryd.prog 26 #[s, .slice a x.length c] wr fun e w' => e = .returned (.iface 39 (.int .i64 3)) ∧ SW (on D d n s l t g) w B X w' ∧ Same X wr w' := by
  obtain ⟨F, hF, hX⟩ := h.at_
  exact (O.save_full hF h.b2 ha hc hc2 hx).mono fun e w' ⟨F', e1, e2, e3⟩ => ⟨e1, h.turn O.on_o hF hX e2 e3, same_t hX e3⟩

theorem sw_save (O : StoreOk D) (h : SW (on D d n s l t g) w B X wr) {a : Option Addr} {c : Nat} (ha : BtAt wr a x) (hc : x.length ≤ c) (hc2 : c ≤ maxLen) (hnil : a = none → c = 0) (hap : x ≠ [] → Apart w X a) (hx : x.length ≤ 960) (hl : l.length ≤ 960) (ht : t ≤ 1000) :
    Calls Tryd.prog 26 #[s, .slice a x.length c] wr fun e w' => ((∃ g', e = .returned .nilIface ∧ SW (on D d n s x (t + 1) g') w B X w' ∧ (g = none → g' = none)) ∨ (e = .returned (.iface 39 (.int .i64 8)) ∧ g ≠ none ∧ SW (off D d n s l t x) w B X w')) ∧ Same X wr w' := by
  obtain ⟨F, hF, hX⟩ := h.at_
  refine (O.save hF h.b2 ha hc hc2 hnil (fun q => h.clear O.on_o hF hX (hap q)) hx hl ht).mono ?_
  rintro e w' ⟨F', ⟨g', e1, e2, e3⟩ | ⟨e1, e2, e3⟩, hs⟩
  · exact ⟨Or.inl ⟨g', e1, h.turn O.on_o hF hX e2 hs, e3⟩, same_t hX hs⟩
  · exact ⟨Or.inr ⟨e1, e2, h.turn O.on_o hF hX e3 hs⟩, same_t hX hs⟩

theorem sw_save_off (O : StoreOk D) (h : SW (off D d n s l t x) w B X wr) : Calls Tryd.prog 26 #[s, .slice none 0 0] wr fun e w' => e = .returned (.iface 39 (.int .i64 8)) ∧ SW (off D d n s l t x) w B X w' ∧ Same X wr w' := by
  obtain ⟨F, hF, hX⟩ := h.at_
  exact (O.save_off hF h.b2).mono fun e w' ⟨F', e1, e2, e3⟩ => ⟨e1, h.turn O.off_o hF hX e2 e3, same_t hX e3⟩

theorem sw_load (O : StoreOk D) (h : SW (on D d n s l t g) w B X wr) : Calls Tryd.prog 27 #[s] wr fun e w' => ∃ a c, e = .returned (.slice a l.length c) ∧ BtAt w' a l ∧ SW (on D d n s l t g) w B X w' ∧ Same X wr w' := by
  obtain ⟨F, hF, hX⟩ := h.at_
  exact (O.load_on hF h.b2).mono fun e w' ⟨a, c, e1, e2, e3⟩ => ⟨a, c, e1, e2, h.step O.on_k O.on_o e3, same_b hX e3⟩
theorem sw_load_off (O : StoreOk D) (h : SW (off D d n s l t x) w B X wr) : Calls Tryd.prog 27 #[s] wr fun e w' => ∃ a c, e = .returned (.slice a l.length c) ∧ BtAt w' a l ∧ SW (off D d n s l t x) w B X w' ∧ Same X wr w' := by
  obtain ⟨F, hF, hX⟩ := h.at_
  exact (O.load_off hF h.b2).mono fun e w' ⟨a, c, e1, e2, e3⟩ => ⟨a, c, e1, e2, h.step O.off_k O.off_o e3, same_b hX e3⟩
theorem sw_turn (O : StoreOk D) (h : SW (on D d n s l t g) w B X wr) : Calls Tryd.prog 28 #[s] wr fun e w' => e = .returned (.int .i64 (t : Nat)) ∧ SW (on D d n s l t g) w B X w' ∧ Same X wr w' := by
  obtain ⟨F, hF, hX⟩ := h.at_
  exact (O.turn_on hF h.b2).mono fun e w' ⟨e1, e3⟩ => ⟨e1, h.step O.on_k O.on_o e3, same_b hX e3⟩
theorem sw_turn_off (O : StoreOk D) (h : SW (off D d n s l t x) w B X wr) : Calls Tryd.prog 28 #[s] wr fun e w' => e = .returned (.int .i64 (t : Nat)) ∧ SW (off D d n s l t x) w B X w' ∧ Same X wr w' := by
  obtain ⟨F, hF, hX⟩ := h.at_
  exact (O.turn_off hF h.b2).mono fun e w' ⟨e1, e3⟩ => ⟨e1, h.step O.off_k O.off_o e3, same_b hX e3⟩

theorem sw_fail (O : StoreOk D) (h : SW (on D d n s l t g) w B X wr) (k : Int) (hk : -9223372036854775808 ≤ k ∧ k ≤ 9223372036854775807) : Calls Tryd.prog 20 #[d, .int .i64 k] wr fun e w' => e = .returned (.tuple #[]) ∧ SW (on D d n s l t (given k)) w B X w' ∧ Same X wr w' := by
  obtain ⟨F, hF, hX⟩ := h.at_
  exact (O.fail k hF h.b2 hk).mono fun e w' ⟨F', e1, e2, e3⟩ => ⟨e1, h.turn O.on_o hF hX e2 e3, same_t hX e3⟩

theorem sw_crash (O : StoreOk D) (h : SW (on D d n s l t g) w B X wr) {a : Option Addr} {m c : Nat} {f : Nat → Int} (ha : NumAt wr a m f) (hc : m ≤ c) (hc2 : c ≤ maxLen) (hap : 0 < m → Apart w X a) :
    Calls Tryd.prog 21 #[d, .slice a m c] wr fun e w' => e = .returned (.tuple #[]) ∧ SW (kept D d n l t) w B X w' ∧ Same X wr w' := by
  obtain ⟨F, hF, hX⟩ := h.at_
  exact (O.crash_on hF h.b2 ha hc hc2 (fun q => h.clear O.on_o hF hX (hap q))).mono fun e w' ⟨F', e1, e2, e3⟩ => ⟨e1, h.turn O.on_o hF hX e2 e3, same_t hX e3⟩

theorem sw_crash_off (O : StoreOk D) (h : SW (off D d n s l t x) w B X wr) {a : Option Addr} {m c : Nat} {f : Nat → Int} (ha : NumAt wr a m f) (hc : m ≤ c) (hc2 : c ≤ maxLen) (hap : 0 < m → Apart w X a) :
    Calls Tryd.prog 21 #[d, .slice a m c] wr fun e w' => e = .returned (.tuple #[]) ∧ (SW (kept D d n l t) w B X w' ∨ SW (kept D d n x (t + 1)) w B X w') ∧ Same X wr w' := by
  obtain ⟨F, hF, hX⟩ := h.at_
  refine (O.crash_off hF h.b2 ha hc hc2 (fun q => h.clear O.off_o hF hX (hap q))).mono ?_
  rintro e w' ⟨F', e1, e2 | e2, e3⟩
  · exact ⟨e1, Or.inl (h.turn O.off_o hF hX e2 e3), same_t hX e3⟩
  · exact ⟨e1, Or.inr (h.turn O.off_o hF hX e2 e3), same_t hX e3⟩

end Go.Proofs.YtdbebeemhomjkacDoor.Sk
