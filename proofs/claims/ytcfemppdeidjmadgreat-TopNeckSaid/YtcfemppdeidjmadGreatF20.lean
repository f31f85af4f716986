/-
  A store on a disk beside other memory: its calls, with what stands apart from it.
  What package desk, and the disk under it, are to answer.
  A desk on a disk beside other memory: its calls, with what stands apart from it.
-/
import Derived.Test.YtcfemppdeidjmadGreatF15
import Derived.Test.YtcfemppdeidjmadGreatF13
import Derived.Test.YtcfemppdeidjmadGreatYa
import Derived.Test.YtcfemppdeidjmadGreatF16
namespace Go.Proofs.YtcfemppdeidjmadGreat.Sk
open Go.RowKit Go.Deep Go.Proofs.YtcfemppdeidjmadGreat.Dk
open Go.RowKit (Below)
set_option linter.unusedVariables false

variable {w w' wr : World} {D : Face} {B n t : Nat} {d s : Value} {l x : List UInt8} {g : Option Nat} {X : Nat → Prop} {P P' : World → Nat → (Nat → Prop) → Prop}

def Keeps (P : World → Nat → (Nat → Prop) → Prop) : Prop := ∀ {w w' : World} {B : Nat} {F : Nat → Prop}, P w B F → w.heap.size ≤ w'.heap.size → (∀ b, F b → w'.heap[b]? = w.heap[b]?) → P w' B F
def Owns (P : World → Nat → (Nat → Prop) → Prop) : Prop := ∀ {w : World} {B : Nat} {F : Nat → Prop}, P w B F → ∀ b, F b → B ≤ b ∧ b < w.heap.size

/-- What a store's state says, of the call's own, with what stands apart from it. -/
structure SW (P : World → Nat → (Nat → Prop) → Prop) (w : World) (B : Nat) (X : Nat → Prop) (wr : World) : Prop where
  at_ : ∃ F, P wr B F ∧ ∀ b, X b → ¬ F b ∧ b < wr.heap.size
  below : Below w.heap.size w wr
  b1 : w.heap.size ≤ B
  b2 : B ≤ wr.heap.size

theorem SW.turn (hO : Owns P) {F F' : Nat → Prop} (h : SW P w B X wr) (hF : P wr B F) (hX : ∀ b, X b → ¬ F b ∧ b < wr.heap.size) (h1 : P' w' B F') (hs : Stands wr F w' F') : SW P' w B X w' :=
  ⟨⟨F', h1, fun b hb => ⟨fun q => by
    rcases hs.1 b q with q' | q'
    · exact (hX b hb).1 q'
    · have := (hX b hb).2; omega, Nat.lt_of_lt_of_le (hX b hb).2 hs.2.size⟩⟩,
   hs.2.below h.below h.below.size (fun k hk => Nat.le_trans h.b1 (hO hF k hk).1), h.b1, Nat.le_trans h.b2 hs.2.size⟩

theorem SW.step (hK : Keeps P) (hO : Owns P) (h : SW P w B X wr) (hb : Below wr.heap.size wr w') : SW P w B X w' := by
  obtain ⟨F, hF, hX⟩ := h.at_
  exact ⟨⟨F, hK hF hb.size fun b q => hb.block b (hO hF b q).2, fun b q => ⟨(hX b q).1, Nat.lt_of_lt_of_le (hX b q).2 hb.size⟩⟩, below_step h.below hb, h.b1, Nat.le_trans h.b2 hb.size⟩

/-- One more block stands apart. -/
theorem SW.apart (hK : Keeps P) (hO : Owns P) (h : SW P w B X wr) (o : Obj) : SW P w B (fun b => X b ∨ b = wr.heap.size) (wr.alloc o) := by
  obtain ⟨F, hF, hX⟩ := h.at_
  have hb : Below wr.heap.size wr (wr.alloc o) := (Below.refl _ _).alloc (Nat.le_refl _) _
  refine ⟨⟨F, hK hF hb.size fun b q => hb.block b (hO hF b q).2, fun b q => ?_⟩, below_step h.below hb, h.b1, Nat.le_trans h.b2 hb.size⟩
  rcases q with q | rfl
  · exact ⟨(hX b q).1, Nat.lt_of_lt_of_le (hX b q).2 hb.size⟩
  · exact ⟨fun z => by have := (hO hF _ z).2; omega, by simp⟩

/-- No more than this stands apart. -/
theorem SW.less {Y : Nat → Prop} (h : SW P w B X wr) (hY : ∀ b, Y b → X b) : SW P w B Y wr := by
  obtain ⟨F, hF, hX⟩ := h.at_
  exact ⟨⟨F, hF, fun b q => hX b (hY b q)⟩, h.below, h.b1, h.b2⟩

/-- Bytes that stand apart: elder ones, or such as are among what stands apart. -/
def Apart (w : World) (X : Nat → Prop) (a : Option Addr) : Prop := ∀ b o, a = some ⟨b, o, none⟩ → b < w.heap.size ∨ X b

theorem SW.clear (hO : Owns P) (h : SW P w B X wr) {F : Nat → Prop} (hF : P wr B F) (hX : ∀ b, X b → ¬ F b ∧ b < wr.heap.size) {a : Option Addr} (ha : Apart w X a) : ∀ b o, a = some ⟨b, o, none⟩ → ¬ F b := fun b o e q => by
  rcases ha b o e with z | z
  · have := (hO hF b q).1
    have := h.b1
    omega
  · exact (hX b z).1 q

theorem bt_apart {a : Option Addr} (h : BtAt w a x) (hx : x ≠ []) : Apart w X a := fun b o e => Or.inl (by
  obtain ⟨b', o', e', hc⟩ := h 0 (List.length_pos_iff.2 hx)
  rw [e] at e'
  simp only [Option.some.injEq, Addr.mk.injEq, and_true] at e'
  have := World.block_lt_of_cell? _ _ hc
  simp at this
  omega)
theorem num_apart {a : Option Addr} {m : Nat} {f : Nat → Int} (h : NumAt w a m f) (hm : 0 < m) : Apart w X a := fun b o e => Or.inl (by
  obtain ⟨b', o', e', hc⟩ := h 0 hm
  rw [e] at e'
  simp only [Option.some.injEq, Addr.mk.injEq, and_true] at e'
  have := World.block_lt_of_cell? _ _ hc
  simp at this
  omega)
theorem SW.same (h : SW P w B X wr) (hb : Below wr.heap.size wr w') : Same X wr w' := by
  obtain ⟨F, hF, hX⟩ := h.at_
  exact fun b q => hb.block b (hX b q).2

theorem same_t {F F' : Nat → Prop} (hX : ∀ b, X b → ¬ F b ∧ b < wr.heap.size) (hs : Stands wr F w' F') : Same X wr w' := fun b hb => hs.2.block b (hX b hb).2 (hX b hb).1
theorem same_b {F : Nat → Prop} (hX : ∀ b, X b → ¬ F b ∧ b < wr.heap.size) (hb : Below wr.heap.size wr w') : Same X wr w' := fun b q => hb.block b (hX b q).2

abbrev raw (D : Face) (d : Value) (n : Nat) : World → Nat → (Nat → Prop) → Prop := fun w B F => D.raw w B d n F
abbrev kept (D : Face) (d : Value) (n : Nat) (l : List UInt8) (t : Nat) : World → Nat → (Nat → Prop) → Prop := fun w B F => D.kept w B d n l t F
abbrev on (D : Face) (d : Value) (n : Nat) (s : Value) (l : List UInt8) (t : Nat) (g : Option Nat) : World → Nat → (Nat → Prop) → Prop := fun w B F => D.on w B d n s l t g F
abbrev off (D : Face) (d : Value) (n : Nat) (s : Value) (l : List UInt8) (t : Nat) (x : List UInt8) : World → Nat → (Nat → Prop) → Prop := fun w B F => D.off w B d n s l t x F

theorem StoreOk.raw_k (O : StoreOk D) : Keeps (raw D d n) := fun h h1 h2 => O.raw_keep h h1 h2
theorem StoreOk.kept_k (O : StoreOk D) : Keeps (kept D d n l t) := fun h h1 h2 => O.kept_keep h h1 h2
theorem StoreOk.on_k (O : StoreOk D) : Keeps (on D d n s l t g) := fun h h1 h2 => O.on_keep h h1 h2
theorem StoreOk.off_k (O : StoreOk D) : Keeps (off D d n s l t x) := fun h h1 h2 => O.off_keep h h1 h2
theorem StoreOk.raw_o (O : StoreOk D) : Owns (raw D d n) := fun h => O.raw_own h
theorem StoreOk.kept_o (O : StoreOk D) : Owns (kept D d n l t) := fun h => O.kept_own h
theorem StoreOk.on_o (O : StoreOk D) : Owns (on D d n s l t g) := fun h => O.on_own h
theorem StoreOk.off_o (O : StoreOk D) : Owns (off D d n s l t x) := fun h => O.off_own h

theorem sw_new (O : StoreOk D) (h : Below w.heap.size w wr) (h1 : 1 ≤ n) (h2 : n ≤ 80) : Calls Tryz.prog 16 #[.int .i64 (n : Nat)] wr fun e w' => ∃ d, e = .returned (.tuple #[d, .nilIface]) ∧ SW (raw D d n) w wr.heap.size (fun _ => False) w' :=
  (O.new_ok n h1 h2).mono fun e w' ⟨d, F, e1, e2, e3⟩ => ⟨d, e1, ⟨F, e2, fun b q => q.elim⟩, below_step h e3, h.size, e3.size⟩

theorem sw_open_no (O : StoreOk D) (h : SW (raw D d n) w B X wr) : Calls Tryz.prog 41 #[d] wr fun e w' => ∃ v, e = .returned (.tuple #[v, .iface 66 (.int .i64 5)]) ∧ SW (raw D d n) w B X w' ∧ Same X wr w' := by
  obtain ⟨F, hF, hX⟩ := h.at_
  exact (O.open_no hF h.b2).mono fun e w' ⟨v, e1, e2⟩ => ⟨v, e1, h.step O.raw_k O.raw_o e2, same_b hX e2⟩

theorem sw_format_no (O : StoreOk D) (h : SW (raw D d n) w B X wr) (hn : n < 62) : Calls Tryz.prog 40 #[d] wr fun e w' => e = .returned (.iface 66 (.int .i64 3)) ∧ SW (raw D d n) w B X w' ∧ Same X wr w' := by
  obtain ⟨F, hF, hX⟩ := h.at_
  exact (O.format_no hF h.b2 hn).mono fun e w' ⟨e1, e2⟩ => ⟨e1, h.step O.raw_k O.raw_o e2, same_b hX e2⟩

theorem sw_format (O : StoreOk D) (h : SW (raw D d n) w B X wr) (hn : 62 ≤ n) : Calls Tryz.prog 40 #[d] wr fun e w' => e = .returned .nilIface ∧ SW (kept D d n [] 0) w B X w' ∧ Same X wr w' := by
  obtain ⟨F, hF, hX⟩ := h.at_
  exact (O.format_ok hF h.b2 hn).mono fun e w' ⟨F', e1, e2, e3⟩ => ⟨e1, h.turn O.raw_o hF hX e2 e3, same_t hX e3⟩

theorem sw_open (O : StoreOk D) (h : SW (kept D d n l t) w B X wr) (hl : l.length ≤ 960) (ht : t ≤ 1000) : Calls Tryz.prog 41 #[d] wr fun e w' => ∃ s, e = .returned (.tuple #[s, .nilIface]) ∧ SW (on D d n s l t none) w B X w' ∧ Same X wr w' := by
  obtain ⟨F, hF, hX⟩ := h.at_
  exact (O.open_ok hF h.b2 hl ht).mono fun e w' ⟨s, F', e1, e2, e3⟩ => ⟨s, e1, h.turn O.kept_o hF hX e2 e3, same_t hX e3⟩

theorem sw_save_full (O : StoreOk D) (h : SW (on D d n s l t g) w B X wr) {a : Option Addr} {c : Nat} (ha : BtAt wr a x) (hc : x.length ≤ c) (hc2 : c ≤ maxLen) (hx : 960 < x.length) :
    Calls Tryz.prog 42 #[s, .slice a x.length c] wr fun e w' => e = .returned (.iface 66 (.int .i64 3)) ∧ SW (on D d n s l t g) w B X w' ∧ Same X wr w' := by
  obtain ⟨F, hF, hX⟩ := h.at_
  exact (O.save_full hF h.b2 ha hc hc2 hx).mono fun e w' ⟨F', e1, e2, e3⟩ => ⟨e1, h.turn O.on_o hF hX e2 e3, same_t hX e3⟩

theorem sw_save (O : StoreOk D) (h : SW (on D d n s l t g) w B X wr) {a : Option Addr} {c : Nat} (ha : BtAt wr a x) (hc : x.length ≤ c) (hc2 : c ≤ maxLen) (hnil : a = none → c = 0) (hap : x ≠ [] → Apart w X a) (hx : x.length ≤ 960) (hl : l.length ≤ 960) (ht : t ≤ 1000) :
    Calls Tryz.prog 42 #[s, .slice a x.length c] wr fun e w' => ((∃ g', e = .returned .nilIface ∧ SW (on D d n s x (t + 1) g') w B X w' ∧ (g = none → g' = none)) ∨ (e = .returned (.iface 66 (.int .i64 8)) ∧ g ≠ none ∧ SW (off D d n s l t x) w B X w')) ∧ Same X wr w' := by
  obtain ⟨F, hF, hX⟩ := h.at_
  refine (O.save hF h.b2 ha hc hc2 hnil (fun q => h.clear O.on_o hF hX (hap q)) hx hl ht).mono ?_
  rintro e w' ⟨F', ⟨g', e1, e2, e3⟩ | ⟨e1, e2, e3⟩, hs⟩
  · exact ⟨Or.inl ⟨g', e1, h.turn O.on_o hF hX e2 hs, e3⟩, same_t hX hs⟩
  · exact ⟨Or.inr ⟨e1, e2, h.turn O.on_o hF hX e3 hs⟩, same_t hX hs⟩

theorem sw_save_off (O : StoreOk D) (h : SW (off D d n s l t x) w B X wr) : Calls Tryz.prog 42 #[s, .slice none 0 0] wr fun e w' => e = .returned (.iface 66 (.int .i64 8)) ∧ SW (off D d n s l t x) w B X w' ∧ Same X wr w' := by
  obtain ⟨F, hF, hX⟩ := h.at_
  exact (O.save_off hF h.b2).mono fun e w' ⟨F', e1, e2, e3⟩ => ⟨e1, h.turn O.off_o hF hX e2 e3, same_t hX e3⟩

theorem sw_load (O : StoreOk D) (h : SW (on D d n s l t g) w B X wr) : Calls Tryz.prog 44 #[s] wr fun e w' => ∃ a c, e = .returned (.slice a l.length c) ∧ BtAt w' a l ∧ SW (on D d n s l t g) w B X w' ∧ Same X wr w' := by
  obtain ⟨F, hF, hX⟩ := h.at_
  exact (O.load_on hF h.b2).mono fun e w' ⟨a, c, e1, e2, _, e3⟩ => ⟨a, c, e1, e2, h.step O.on_k O.on_o e3, same_b hX e3⟩
theorem sw_load_off (O : StoreOk D) (h : SW (off D d n s l t x) w B X wr) : Calls Tryz.prog 44 #[s] wr fun e w' => ∃ a c, e = .returned (.slice a l.length c) ∧ BtAt w' a l ∧ SW (off D d n s l t x) w B X w' ∧ Same X wr w' := by
  obtain ⟨F, hF, hX⟩ := h.at_
  exact (O.load_off hF h.b2).mono fun e w' ⟨a, c, e1, e2, e3⟩ => ⟨a, c, e1, e2, h.step O.off_k O.off_o e3, same_b hX e3⟩
theorem sw_turn (O : StoreOk D) (h : SW (on D d n s l t g) w B X wr) : Calls Tryz.prog 49 #[s] wr fun e w' => e = .returned (.int .i64 (t : Nat)) ∧ SW (on D d n s l t g) w B X w' ∧ Same X wr w' := by
  obtain ⟨F, hF, hX⟩ := h.at_
  exact (O.turn_on hF h.b2).mono fun e w' ⟨e1, e3⟩ => ⟨e1, h.step O.on_k O.on_o e3, same_b hX e3⟩
theorem sw_turn_off (O : StoreOk D) (h : SW (off D d n s l t x) w B X wr) : Calls Tryz.prog 49 #[s] wr fun e w' => e = .returned (.int .i64 (t : Nat)) ∧ SW (off D d n s l t x) w B X w' ∧ Same X wr w' := by
  obtain ⟨F, hF, hX⟩ := h.at_
  exact (O.turn_off hF h.b2).mono fun e w' ⟨e1, e3⟩ => ⟨e1, h.step O.off_k O.off_o e3, same_b hX e3⟩

end Go.Proofs.YtcfemppdeidjmadGreat.Sk

namespace Go.Proofs.YtcfemppdeidjmadGreat.Ds
open Go.RowKit Go.Deep Go.Proofs.YtcfemppdeidjmadGreat.Dk Go.Proofs.YtcfemppdeidjmadGreat.Br
open Go.Proofs.YtcfemppdeidjmadGreat.Sk (Stands given SW Keeps Owns Apart same_t same_b)
open Go.RowKit (Below)
set_option linter.unusedVariables false

/-- Edges among nodes, as a graph has them. -/
structure Fine (n : Nat) (A : List (Nat × Nat)) : Prop where
  up : Up A
  len : A.length ≤ 200
  among : Among n A
  n1 : 1 ≤ n
  n60 : n ≤ 60

/-- Events as a list. -/
def evl (f : Nat → Ev) (m : Nat) : List Ev := (List.range m).map f
theorem evl_len (f : Nat → Ev) (m : Nat) : (evl f m).length = m := by simp [evl]
theorem evl_more (f : Nat → Ev) (m : Nat) : evl f (m + 1) = evl f m ++ [f m] := by simp [evl, List.range_succ]

/-- Answers in memory. -/
def BlAt (w : World) (a : Option Addr) (l : List Bool) : Prop := ∀ i, i < l.length → ∃ b o, a = some ⟨b, o, none⟩ ∧ w.cell? ⟨b, o + i, none⟩ = some (.bool (l.getD i false))
theorem BlAt.below {w w' : World} {a : Option Addr} {l : List Bool} (h : BlAt w a l) (hb : Below w.heap.size w w') : BlAt w' a l := fun i hi => by
  obtain ⟨b, o, e, h1⟩ := h i hi
  exact ⟨b, o, e, Dk.cell_keep hb h1⟩

/-- A desk on a disk in memory: a disk as it is made; one that keeps edges, of which no desk is asked any more; an open desk (its edges, what was saved, the turn, how many calls are left); one whose power went off while its edges were being saved. And a graph that was handed out. -/
structure DFace where
  raw : World → Nat → Value → (Nat → Prop) → Prop
  kept : World → Nat → Value → Nat → List (Nat × Nat) → Nat → (Nat → Prop) → Prop
  on : World → Nat → Value → Nat → Value → List (Nat × Nat) → List (Nat × Nat) → Nat → Option Nat → (Nat → Prop) → Prop
  off : World → Nat → Value → Nat → List (Nat × Nat) → List (Nat × Nat) → Nat → (Nat → Prop) → Prop
  gr : World → Value → Nat → List (Nat × Nat) → Prop

/-- What packages desk and disk are to answer. -/
structure DeskOk (D : DFace) : Prop where
  raw_keep : ∀ {w w' : World} {base : Nat} {d : Value} {F : Nat → Prop}, D.raw w base d F → w.heap.size ≤ w'.heap.size → (∀ b, F b → w'.heap[b]? = w.heap[b]?) → D.raw w' base d F
  kept_keep : ∀ {w w' : World} {base n t : Nat} {d : Value} {A : List (Nat × Nat)} {F : Nat → Prop}, D.kept w base d n A t F → w.heap.size ≤ w'.heap.size → (∀ b, F b → w'.heap[b]? = w.heap[b]?) → D.kept w' base d n A t F
  on_keep : ∀ {w w' : World} {base n t : Nat} {d k : Value} {A S : List (Nat × Nat)} {g : Option Nat} {F : Nat → Prop}, D.on w base d n k A S t g F → w.heap.size ≤ w'.heap.size → (∀ b, F b → w'.heap[b]? = w.heap[b]?) → D.on w' base d n k A S t g F
  off_keep : ∀ {w w' : World} {base n t : Nat} {d : Value} {A S : List (Nat × Nat)} {F : Nat → Prop}, D.off w base d n A S t F → w.heap.size ≤ w'.heap.size → (∀ b, F b → w'.heap[b]? = w.heap[b]?) → D.off w' base d n A S t F
  gr_keep : ∀ {w w' : World} {n : Nat} {v : Value} {A : List (Nat × Nat)}, D.gr w v n A → Below w.heap.size w w' → D.gr w' v n A
  raw_own : ∀ {w : World} {base : Nat} {d : Value} {F : Nat → Prop}, D.raw w base d F → ∀ b, F b → base ≤ b ∧ b < w.heap.size
  kept_own : ∀ {w : World} {base n t : Nat} {d : Value} {A : List (Nat × Nat)} {F : Nat → Prop}, D.kept w base d n A t F → ∀ b, F b → base ≤ b ∧ b < w.heap.size
  on_own : ∀ {w : World} {base n t : Nat} {d k : Value} {A S : List (Nat × Nat)} {g : Option Nat} {F : Nat → Prop}, D.on w base d n k A S t g F → ∀ b, F b → base ≤ b ∧ b < w.heap.size
  off_own : ∀ {w : World} {base n t : Nat} {d : Value} {A S : List (Nat × Nat)} {F : Nat → Prop}, D.off w base d n A S t F → ∀ b, F b → base ≤ b ∧ b < w.heap.size
  on_fine : ∀ {w : World} {base n t : Nat} {d k : Value} {A S : List (Nat × Nat)} {g : Option Nat} {F : Nat → Prop}, D.on w base d n k A S t g F → Fine n A ∧ Fine n S
  new_ok : ∀ {w : World}, Calls Tryz.prog 16 #[.int .i64 62] w fun e w' => ∃ d F, e = .returned (.tuple #[d, .nilIface]) ∧ D.raw w' w.heap.size d F ∧ Below w.heap.size w w'
  format_bad : ∀ {w : World} {base : Nat} {d : Value} {F : Nat → Prop} (p : Int), D.raw w base d F → base ≤ w.heap.size → p < 1 ∨ 60 < p → Calls Tryz.prog 17 #[d, .int .i64 p] w fun e w' => ∃ F', e = .returned (.iface 66 (.int .i64 1)) ∧ Stands w F w' F'
  format_ok : ∀ {w : World} {base n : Nat} {d : Value} {F : Nat → Prop}, D.raw w base d F → base ≤ w.heap.size → 1 ≤ n → n ≤ 60 → Calls Tryz.prog 17 #[d, .int .i64 (n : Nat)] w fun e w' => ∃ F', e = .returned .nilIface ∧ D.kept w' base d n [] 1 F' ∧ Stands w F w' F'
  again_bad : ∀ {w : World} {base n t : Nat} {d k : Value} {A S : List (Nat × Nat)} {F : Nat → Prop} (p : Int), D.on w base d n k A S t none F → base ≤ w.heap.size → p < 1 ∨ 60 < p → Calls Tryz.prog 17 #[d, .int .i64 p] w fun e w' => ∃ F', e = .returned (.iface 66 (.int .i64 1)) ∧ Stands w F w' F'
  again_ok : ∀ {w : World} {base n n' t : Nat} {d k : Value} {A S : List (Nat × Nat)} {F : Nat → Prop}, D.on w base d n k A S t none F → base ≤ w.heap.size → 1 ≤ n' → n' ≤ 60 → Calls Tryz.prog 17 #[d, .int .i64 (n' : Nat)] w fun e w' => ∃ F', e = .returned .nilIface ∧ D.kept w' base d n' [] 1 F' ∧ Stands w F w' F'
  open_ok : ∀ {w : World} {base n t : Nat} {d : Value} {A : List (Nat × Nat)} {F : Nat → Prop}, D.kept w base d n A t F → base ≤ w.heap.size → t ≤ 1000 → Calls Tryz.prog 18 #[d] w fun e w' => ∃ k F', e = .returned (.tuple #[k, .nilIface]) ∧ D.on w' base d n k A A t none F' ∧ Stands w F w' F'
  turn : ∀ {w : World} {base n t : Nat} {d k : Value} {A S : List (Nat × Nat)} {g : Option Nat} {F : Nat → Prop}, D.on w base d n k A S t g F → Calls Tryz.prog 21 #[k] w fun e w' => e = .returned (.int .i64 (t : Nat)) ∧ Below w.heap.size w w'
  does : ∀ {w : World} {base n t : Nat} {d k : Value} {A S : List (Nat × Nat)} {g : Option Nat} {F : Nat → Prop} {a : Option Addr} {m c : Nat} {f : Nat → Ev}, D.on w base d n k A S t g F → base ≤ w.heap.size → EvAt w a m f → m ≤ c → c ≤ maxLen → (0 < m → ∀ b o, a = some ⟨b, o, none⟩ → ¬ F b) →
    Calls Tryz.prog 19 #[k, .slice a m c] w fun e w' => ∃ v x A' out a' c' F', e = .returned (.tuple #[.slice a' out.length c', v]) ∧ Er v x ∧ Does n A (evl f m) x A' out ∧ BlAt w' a' out ∧ out.length ≤ c' ∧ c' ≤ maxLen ∧ (a' = none → c' = 0) ∧ (∀ b o, a' = some ⟨b, o, none⟩ → w.heap.size ≤ b ∧ ¬ F' b) ∧ D.on w' base d n k A' S t g F' ∧ Stands w F w' F'
  save : ∀ {w : World} {base n t : Nat} {d k : Value} {A S : List (Nat × Nat)} {g : Option Nat} {F : Nat → Prop}, D.on w base d n k A S t g F → base ≤ w.heap.size → t ≤ 1000 →
    Calls Tryz.prog 20 #[k] w fun e w' => ∃ F', ((∃ g', e = .returned .nilIface ∧ D.on w' base d n k A A (t + 1) g' F' ∧ (g = none → g' = none)) ∨ (e = .returned (.iface 66 (.int .i64 8)) ∧ g ≠ none ∧ D.off w' base d n A S t F')) ∧ Stands w F w' F'
  edges : ∀ {w : World} {n : Nat} {v : Value} {A : List (Nat × Nat)}, D.gr w v n A → Calls Tryz.prog 11 #[v] w fun e w' => ∃ a c, e = .returned (.slice a A.length c) ∧ EdgesAt w' a A ∧ A.length ≤ c ∧ c ≤ maxLen ∧ (A ≠ [] → ∀ b o, a = some ⟨b, o, none⟩ → w.heap.size ≤ b ∧ b < w'.heap.size) ∧ Below w.heap.size w w'

end Go.Proofs.YtcfemppdeidjmadGreat.Ds

namespace Go.Proofs.YtcfemppdeidjmadGreat.Ds
open Go.RowKit Go.Deep Go.Proofs.YtcfemppdeidjmadGreat.Dk Go.Proofs.YtcfemppdeidjmadGreat.Br
open Go.Proofs.YtcfemppdeidjmadGreat.Sk (Stands given SW Keeps Owns Apart same_t same_b)
open Go.RowKit (Below)
set_option linter.unusedVariables false

variable {w w' wr : World} {D : DFace} {B n t : Nat} {d k v : Value} {A S : List (Nat × Nat)} {g : Option Nat} {X : Nat → Prop}

abbrev raw (D : DFace) (d : Value) : World → Nat → (Nat → Prop) → Prop := fun w B F => D.raw w B d F
abbrev kept (D : DFace) (d : Value) (n : Nat) (A : List (Nat × Nat)) (t : Nat) : World → Nat → (Nat → Prop) → Prop := fun w B F => D.kept w B d n A t F
abbrev on (D : DFace) (d : Value) (n : Nat) (k : Value) (A S : List (Nat × Nat)) (t : Nat) (g : Option Nat) : World → Nat → (Nat → Prop) → Prop := fun w B F => D.on w B d n k A S t g F
abbrev off (D : DFace) (d : Value) (n : Nat) (A S : List (Nat × Nat)) (t : Nat) : World → Nat → (Nat → Prop) → Prop := fun w B F => D.off w B d n A S t F

theorem DeskOk.raw_k (O : DeskOk D) : Keeps (raw D d) := fun h h1 h2 => O.raw_keep h h1 h2
theorem DeskOk.kept_k (O : DeskOk D) : Keeps (kept D d n A t) := fun h h1 h2 => O.kept_keep h h1 h2
theorem DeskOk.on_k (O : DeskOk D) : Keeps (on D d n k A S t g) := fun h h1 h2 => O.on_keep h h1 h2
theorem DeskOk.off_k (O : DeskOk D) : Keeps (off D d n A S t) := fun h h1 h2 => O.off_keep h h1 h2
theorem DeskOk.raw_o (O : DeskOk D) : Owns (raw D d) := fun h => O.raw_own h
theorem DeskOk.kept_o (O : DeskOk D) : Owns (kept D d n A t) := fun h => O.kept_own h
theorem DeskOk.on_o (O : DeskOk D) : Owns (on D d n k A S t g) := fun h => O.on_own h
theorem DeskOk.off_o (O : DeskOk D) : Owns (off D d n A S t) := fun h => O.off_own h

/-- What has come since stands apart. -/
theorem sw_since {P : World → Nat → (Nat → Prop) → Prop} (hK : Keeps P) (hO : Owns P) (h : SW P w B X wr) (hb : Below wr.heap.size wr w') : SW P w B (fun b => X b ∨ (wr.heap.size ≤ b ∧ b < w'.heap.size)) w' := by
  obtain ⟨F, hF, hX⟩ := h.at_
  refine ⟨⟨F, hK hF hb.size fun b q => hb.block b (hO hF b q).2, fun b q => ?_⟩, Dk.below_step h.below hb, h.b1, Nat.le_trans h.b2 hb.size⟩
  rcases q with q | ⟨q1, q2⟩
  · exact ⟨(hX b q).1, Nat.lt_of_lt_of_le (hX b q).2 hb.size⟩
  · exact ⟨fun z => by have := (hO hF b z).2; omega, q2⟩

/-- Edges that stand apart. -/
structure Ap (w wr : World) (X : Nat → Prop) (a : Option Addr) (A : List (Nat × Nat)) : Prop where
  edges : EdgesAt wr a A
  apart : A ≠ [] → Apart w X a
theorem Ap.same {a : Option Addr} (h : Ap w wr X a A) (hB : Below w.heap.size w wr) (hB2 : Below w.heap.size w w') (hS : Same X wr w') : Ap w w' X a A := ⟨⟨fun i hi => by
  obtain ⟨b, o, e, h1, h2⟩ := h.edges.cell i hi
  have hne : A ≠ [] := fun q => by rw [q] at hi; simp at hi
  have hb : w'.heap[b]? = wr.heap[b]? := by
    rcases h.apart hne b o e with q | q
    · exact (hB2.block b q).trans (hB.block b q).symm
    · exact hS b q
  exact ⟨b, o, e, (World.cell?_of_block (w := wr) (a := ⟨b, o + i * 2, none⟩) hb).trans h1, (World.cell?_of_block (w := wr) (a := ⟨b, o + i * 2 + 1, none⟩) hb).trans h2⟩⟩, h.apart⟩
theorem Ap.more {a : Option Addr} {Y : Nat → Prop} (h : Ap w wr X a A) (hY : ∀ b, X b → Y b) : Ap w wr Y a A := ⟨h.edges, fun q b o e => (h.apart q b o e).imp id (hY b)⟩
theorem Ap.none (w wr : World) (X : Nat → Prop) : Ap w wr X none [] := ⟨⟨fun i hi => by simp at hi⟩, fun q => absurd rfl q⟩

theorem dw_new (O : DeskOk D) (h : Below w.heap.size w wr) : Calls Tryz.prog 16 #[.int .i64 62] wr fun e w' => ∃ d, e = .returned (.tuple #[d, .nilIface]) ∧ SW (raw D d) w wr.heap.size (fun _ => False) w' ∧ Below wr.heap.size wr w' :=
  O.new_ok.mono fun e w' ⟨d, F, e1, e2, e3⟩ => ⟨d, e1, ⟨⟨F, e2, fun b q => q.elim⟩, Dk.below_step h e3, h.size, e3.size⟩, e3⟩

theorem dw_format_bad (O : DeskOk D) (h : SW (raw D d) w B X wr) (p : Int) (hp : p < 1 ∨ 60 < p) : Calls Tryz.prog 17 #[d, .int .i64 p] wr fun e w' => e = .returned (.iface 66 (.int .i64 1)) ∧ Below w.heap.size w w' := by
  obtain ⟨F, hF, hX⟩ := h.at_
  exact (O.format_bad p hF h.b2 hp).mono fun e w' ⟨F', e1, e2⟩ => ⟨e1, e2.2.below h.below h.below.size fun q hq => Nat.le_trans h.b1 (O.raw_own hF q hq).1⟩
theorem dw_again_bad (O : DeskOk D) (h : SW (on D d n k A S t none) w B X wr) (p : Int) (hp : p < 1 ∨ 60 < p) : Calls Tryz.prog 17 #[d, .int .i64 p] wr fun e w' => e = .returned (.iface 66 (.int .i64 1)) ∧ Below w.heap.size w w' := by
  obtain ⟨F, hF, hX⟩ := h.at_
  exact (O.again_bad p hF h.b2 hp).mono fun e w' ⟨F', e1, e2⟩ => ⟨e1, e2.2.below h.below h.below.size fun q hq => Nat.le_trans h.b1 (O.on_own hF q hq).1⟩
theorem dw_format (O : DeskOk D) (h : SW (raw D d) w B X wr) (h1 : 1 ≤ n) (h2 : n ≤ 60) : Calls Tryz.prog 17 #[d, .int .i64 (n : Nat)] wr fun e w' => e = .returned .nilIface ∧ SW (kept D d n [] 1) w B X w' ∧ Same X wr w' := by
  obtain ⟨F, hF, hX⟩ := h.at_
  exact (O.format_ok hF h.b2 h1 h2).mono fun e w' ⟨F', e1, e2, e3⟩ => ⟨e1, h.turn O.raw_o hF hX e2 e3, same_t hX e3⟩
theorem dw_again (O : DeskOk D) {n' : Nat} (h : SW (on D d n k A S t none) w B X wr) (h1 : 1 ≤ n') (h2 : n' ≤ 60) : Calls Tryz.prog 17 #[d, .int .i64 (n' : Nat)] wr fun e w' => e = .returned .nilIface ∧ SW (kept D d n' [] 1) w B X w' ∧ Same X wr w' := by
  obtain ⟨F, hF, hX⟩ := h.at_
  exact (O.again_ok hF h.b2 h1 h2).mono fun e w' ⟨F', e1, e2, e3⟩ => ⟨e1, h.turn O.on_o hF hX e2 e3, same_t hX e3⟩
theorem dw_open (O : DeskOk D) (h : SW (kept D d n A t) w B X wr) (ht : t ≤ 1000) : Calls Tryz.prog 18 #[d] wr fun e w' => ∃ k, e = .returned (.tuple #[k, .nilIface]) ∧ SW (on D d n k A A t none) w B X w' ∧ Same X wr w' := by
  obtain ⟨F, hF, hX⟩ := h.at_
  exact (O.open_ok hF h.b2 ht).mono fun e w' ⟨k, F', e1, e2, e3⟩ => ⟨k, e1, h.turn O.kept_o hF hX e2 e3, same_t hX e3⟩
theorem dw_turn (O : DeskOk D) (h : SW (on D d n k A S t g) w B X wr) : Calls Tryz.prog 21 #[k] wr fun e w' => e = .returned (.int .i64 (t : Nat)) ∧ SW (on D d n k A S t g) w B X w' ∧ Below wr.heap.size wr w' := by
  obtain ⟨F, hF, hX⟩ := h.at_
  exact (O.turn hF).mono fun e w' ⟨e1, e2⟩ => ⟨e1, h.step O.on_k O.on_o e2, e2⟩
theorem dw_do (O : DeskOk D) (h : SW (on D d n k A S t g) w B X wr) {a : Option Addr} {m c : Nat} {f : Nat → Ev} (ha : EvAt wr a m f) (hc : m ≤ c) (hc2 : c ≤ maxLen) (hap : 0 < m → Apart w X a) :
    Calls Tryz.prog 19 #[k, .slice a m c] wr fun e w' => ∃ v x A' out a' c', e = .returned (.tuple #[.slice a' out.length c', v]) ∧ Er v x ∧ Does n A (evl f m) x A' out ∧ BlAt w' a' out ∧ out.length ≤ c' ∧ c' ≤ maxLen ∧ SW (on D d n k A' S t g) w B X w' ∧ Same X wr w' := by
  obtain ⟨F, hF, hX⟩ := h.at_
  exact (O.does hF h.b2 ha hc hc2 (fun q => h.clear O.on_o hF hX (hap q))).mono fun e w' ⟨v, x, A', out, a', c', F', e1, e2, e3, e4, e5, e6, _, e7, e8, e9⟩ => ⟨v, x, A', out, a', c', e1, e2, e3, e4, e5, e6, h.turn O.on_o hF hX e8 e9, same_t hX e9⟩
theorem dw_save (O : DeskOk D) (h : SW (on D d n k A S t g) w B X wr) (ht : t ≤ 1000) :
    Calls Tryz.prog 20 #[k] wr fun e w' => ((∃ g', e = .returned .nilIface ∧ SW (on D d n k A A (t + 1) g') w B X w' ∧ (g = none → g' = none)) ∨ (e = .returned (.iface 66 (.int .i64 8)) ∧ g ≠ none ∧ SW (off D d n A S t) w B X w')) ∧ Same X wr w' := by
  obtain ⟨F, hF, hX⟩ := h.at_
  refine (O.save hF h.b2 ht).mono ?_
  rintro e w' ⟨F', ⟨g', e1, e2, e3⟩ | ⟨e1, e2, e3⟩, hs⟩
  · exact ⟨Or.inl ⟨g', e1, h.turn O.on_o hF hX e2 hs, e3⟩, same_t hX hs⟩
  · exact ⟨Or.inr ⟨e1, e2, h.turn O.on_o hF hX e3 hs⟩, same_t hX hs⟩
/-- Edges of a graph: they stand apart. -/
theorem dw_edges (O : DeskOk D) (h : SW (on D d n k A S t g) w B X wr) (hv : D.gr wr v n A) : Calls Tryz.prog 11 #[v] wr fun e w' => ∃ a c Y, e = .returned (.slice a A.length c) ∧ A.length ≤ c ∧ c ≤ maxLen ∧ SW (on D d n k A S t g) w B Y w' ∧ Ap w w' Y a A ∧ (∀ b, X b → Y b) ∧ Below wr.heap.size wr w' := by
  exact (O.edges hv).mono fun e w' ⟨a, c, e1, e2, e3, e4, e5, e6⟩ => ⟨a, c, _, e1, e3, e4, sw_since O.on_k O.on_o h e6, ⟨e2, fun hne b o e => Or.inr (Or.inr (e5 hne b o e))⟩, fun b q => Or.inl q, e6⟩

end Go.Proofs.YtcfemppdeidjmadGreat.Ds
