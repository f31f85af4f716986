/-
  A disk, plain: pages, what is kept, what was written since, when the power goes off.
  Steps of a script, as they lie in memory: numbers, bytes, lists of numbers, events.
-/
import Derived.Test.YtcfemppdeidjmadGreatMa
import Derived.Test.YtcfemppdeidjmadGreatChecked
import Derived.RowKitTokens
import Derived.Below
import Derived.BigQuiet
import Derived.BigRegion
import Derived.Deep.AppendLies
import Derived.Deep.OwnRows
import Derived.ProofKit
import Derived.OpenShut
import Derived.Deep.Slices
namespace Go.Proofs.YtcfemppdeidjmadGreat.Dk
set_option linter.unusedVariables false

/-- A page with these bytes, and 0 behind them. -/
def pad (l : List UInt8) : List UInt8 := l ++ List.replicate (32 - l.length) 0
def blank : List UInt8 := List.replicate 32 0

theorem pad_len {l : List UInt8} (h : l.length ≤ 32) : (pad l).length = 32 := by simp [pad]; omega
theorem blank_len : blank.length = 32 := by simp [blank]
theorem pad_nil : pad [] = blank := rfl

def upd (f : Nat → List UInt8) (a : Nat) (p : List UInt8) : Nat → List UInt8 := fun i => if i = a then p else f i
theorem upd_same (f : Nat → List UInt8) (a : Nat) (p : List UInt8) : upd f a p a = p := if_pos rfl
theorem upd_other (f : Nat → List UInt8) {a i : Nat} (p : List UInt8) (h : i ≠ a) : upd f a p i = f i := if_neg h

/-- A disk's state. -/
structure St where
  kept : Nat → List UInt8
  now : Nat → List UInt8
  wr : List (Nat × List UInt8)
  left : Int
  down : Bool

def fresh : St := ⟨fun _ => blank, fun _ => blank, [], -1, false⟩

/-- The power goes off at this step, or is off. -/
def Off (s : St) : Prop := s.down = true ∨ s.left = 0
def fall (s : St) : St := { s with down := true }
/-- One step less ahead of the fall. -/
def less (s : St) : St := { s with left := if 0 < s.left then s.left - 1 else s.left }
def wrote (s : St) (a : Nat) (p : List UInt8) : St := { less s with now := upd s.now a p, wr := s.wr ++ [(a, p)] }
def synced (s : St) : St := { less s with kept := s.now, wr := [] }
def failing (s : St) (k : Int) : St := { s with left := if k < 0 then -1 else k }

/-- What a crash keeps, from the i-th write on. -/
def play (q : Nat → Bool) : Nat → List (Nat × List UInt8) → (Nat → List UInt8) → (Nat → List UInt8)
  | _, [], f => f
  | i, (a, p) :: r, f => play q (i + 1) r (if q i then upd f a p else f)
def crashed (s : St) (q : Nat → Bool) : St := ⟨play q 0 s.wr s.kept, play q 0 s.wr s.kept, [], -1, false⟩

theorem play_snoc (q : Nat → Bool) (a : Nat) (p : List UInt8) : ∀ (l : List (Nat × List UInt8)) (i : Nat) (f : Nat → List UInt8), play q i (l ++ [(a, p)]) f = if q (i + l.length) then upd (play q i l f) a p else play q i l f
  | [], i, f => rfl
  | (b, r) :: l, i, f => by
    show play q (i + 1) (l ++ [(a, p)]) _ = _
    rw [play_snoc q a p l (i + 1)]
    show (if q (i + 1 + l.length) then _ else _) = (if q (i + (l.length + 1)) then _ else _)
    rw [show i + 1 + l.length = i + (l.length + 1) by omega]
    rfl

/-- All pages are pages. -/
structure Sized (s : St) : Prop where
  kept : ∀ i, (s.kept i).length = 32
  now : ∀ i, (s.now i).length = 32
  wr : ∀ x ∈ s.wr, x.2.length = 32

theorem upd_len {f : Nat → List UInt8} {a : Nat} {p : List UInt8} (hf : ∀ i, (f i).length = 32) (hp : p.length = 32) (i : Nat) : (upd f a p i).length = 32 := by
  unfold upd; split
  · exact hp
  · exact hf i

theorem play_len {q : Nat → Bool} : ∀ (l : List (Nat × List UInt8)) (i : Nat) (f : Nat → List UInt8), (∀ j, (f j).length = 32) → (∀ x ∈ l, x.2.length = 32) → ∀ j, (play q i l f j).length = 32
  | [], i, f, hf, _, j => hf j
  | (a, p) :: r, i, f, hf, hl, j => play_len r (i + 1) _ (fun j => by split; exact upd_len hf (hl (a, p) List.mem_cons_self) j; exact hf j) (fun x hx => hl x (List.mem_cons_of_mem _ hx)) j

theorem Sized.fresh : Sized fresh := ⟨fun _ => blank_len, fun _ => blank_len, fun x hx => by cases hx⟩
theorem Sized.fall {s : St} (h : Sized s) : Sized (fall s) := ⟨h.kept, h.now, h.wr⟩
theorem Sized.wrote {s : St} (h : Sized s) (a : Nat) {p : List UInt8} (hp : p.length = 32) : Sized (wrote s a p) := ⟨h.kept, fun i => upd_len h.now hp i, fun x hx => by
  rcases List.mem_append.1 hx with q | q
  · exact h.wr x q
  · rw [List.mem_singleton.1 q]; exact hp⟩
theorem Sized.synced {s : St} (h : Sized s) : Sized (synced s) := ⟨h.now, h.now, fun x hx => by cases hx⟩
theorem Sized.failing {s : St} (h : Sized s) (k : Int) : Sized (failing s k) := ⟨h.kept, h.now, h.wr⟩
theorem Sized.crashed {s : St} (h : Sized s) (q : Nat → Bool) : Sized (crashed s q) := ⟨fun j => play_len _ _ _ h.kept h.wr j, fun j => play_len _ _ _ h.kept h.wr j, fun x hx => by cases hx⟩

end Go.Proofs.YtcfemppdeidjmadGreat.Dk

namespace Go.Proofs.YtcfemppdeidjmadGreat.Dk
open Go.ChangeShapes Go.WideShapes Go.ChangeAt Go.RowKit
open Go.RowKit (Below)
set_option linter.unusedVariables false

variable {w w' : World}

theorem cell_keep {W w' : World} {p : Addr} {v : Value} (hb : Below W.heap.size W w') (h : W.cell? p = some v) : w'.cell? p = some v :=
  (hb.cell (World.block_lt_of_cell? _ _ h)).trans h
theorem below_step {w a b : World} (h1 : Below w.heap.size w a) (h2 : Below a.heap.size a b) : Below w.heap.size w b := h1.trans (h2.mono h1.size)
theorem below_drewN {w a : World} {n : Nat} (h : a = w.drewN n) : Below w.heap.size w a := by
  subst h
  induction n with
  | zero => exact Below.refl _ _
  | succ n ih => exact ih.drew

def by1 (c : UInt8) : Value := .int .u8 (c.toNat : Int)

/-- Numbers, as they lie in memory. -/
def NumAt (w : World) (a : Option Addr) (m : Nat) (f : Nat → Int) : Prop := ∀ i, i < m → ∃ b o, a = some ⟨b, o, none⟩ ∧ w.cell? ⟨b, o + i, none⟩ = some (.int .i64 (f i))
/-- Bytes. -/
def BtAt (w : World) (a : Option Addr) (l : List UInt8) : Prop := ∀ i, i < l.length → ∃ b o, a = some ⟨b, o, none⟩ ∧ w.cell? ⟨b, o + i, none⟩ = some (by1 (l.getD i 0))
/-- Events. -/
def EvAt (w : World) (a : Option Addr) (m : Nat) (f : Nat → Int × Int × Int) : Prop :=
  ∀ i, i < m → ∃ b o, a = some ⟨b, o, none⟩ ∧ w.cell? ⟨b, o + i * 3, none⟩ = some (.int .i64 (f i).1) ∧ w.cell? ⟨b, o + i * 3 + 1, none⟩ = some (.int .i64 (f i).2.1) ∧ w.cell? ⟨b, o + i * 3 + 2, none⟩ = some (.int .i64 (f i).2.2)

theorem NumAt.below {a : Option Addr} {m : Nat} {f : Nat → Int} (h : NumAt w a m f) (hb : Below w.heap.size w w') : NumAt w' a m f := fun i hi => by
  obtain ⟨b, o, e, h1⟩ := h i hi
  exact ⟨b, o, e, cell_keep hb h1⟩
theorem BtAt.below {a : Option Addr} {l : List UInt8} (h : BtAt w a l) (hb : Below w.heap.size w w') : BtAt w' a l := fun i hi => by
  obtain ⟨b, o, e, h1⟩ := h i hi
  exact ⟨b, o, e, cell_keep hb h1⟩
theorem EvAt.below {a : Option Addr} {m : Nat} {f : Nat → Int × Int × Int} (h : EvAt w a m f) (hb : Below w.heap.size w w') : EvAt w' a m f := fun i hi => by
  obtain ⟨b, o, e, h1, h2, h3⟩ := h i hi
  exact ⟨b, o, e, cell_keep hb h1, cell_keep hb h2, cell_keep hb h3⟩

theorem Tryz.cellsI : Tryz.prog.cellsOf 3 = 1 := by kernel_rfl
theorem Tryz.cellsU8 : Tryz.prog.cellsOf 5 = 1 := by kernel_rfl
theorem Tryz.cellsEvent : Tryz.prog.cellsOf 62 = 3 := by kernel_rfl
theorem Tryz.cellsBytes : Tryz.prog.cellsOf 97 = 1 := by kernel_rfl
theorem Tryz.cellsInts : Tryz.prog.cellsOf 44 = 1 := by kernel_rfl
theorem Tryz.cellsEvents : Tryz.prog.cellsOf 38 = 1 := by kernel_rfl

section
variable {H : Type} {enc : TypeId × Value → H} {W : World}

theorem int_cell {fuel : Nat} {v : Value} {x : DataW H × List MemPlace} (h : DataW.trod enc Tryz.prog W 0 (fun _ => true) true fuel 3 [v] = some x) : ∃ n : Int, v = .int .i64 n ∧ (Lit.int .i64 n).wf = true := by
  obtain ⟨n, e, _, hw⟩ := DataW.trod_int Tryz.underlying3 h
  simp at e
  exact ⟨n, e, hw⟩

/-- A slice of bytes. -/
theorem bytes_of {fuel : Nat} {v : Value} {x : DataW H × List MemPlace} (h : DataW.trod enc Tryz.prog W 0 (fun _ => true) true fuel 97 [v] = some x) : ∃ a l c, v = .slice a l.length c ∧ BtAt W a l ∧ l.length ≤ c ∧ c ≤ maxLen ∧ (a = none → c = 0) := by
  rcases open_ints Tryz.underlying97 Tryz.underlying5 Tryz.cellsU8 h with ⟨hcs, _⟩ | ⟨ad, len, cap, zs, hcs, _, hl, hm, hz, _, hcell, hwz⟩
  · simp at hcs
    exact ⟨none, [], 0, by rw [hcs]; rfl, fun i hi => (by cases hi), Nat.le_refl _, Nat.zero_le _, fun _ => rfl⟩
  · simp at hcs
    simp only [if_true] at hz
    have hlen : ((zs.take len).map fun n => UInt8.ofNat n.toNat).length = len := by simp; omega
    refine ⟨some ad, (zs.take len).map fun n => UInt8.ofNat n.toNat, cap, by rw [hlen, hcs], fun i hi => ?_, by rw [hlen]; exact hl, hm, fun e => (by cases e)⟩
    rw [hlen] at hi
    have hb := range_u8 hwz i
    have hc := hcell i (by omega)
    obtain ⟨b, o, sp⟩ := ad
    have hsp : sp = none := by simpa [Addr.add] using World.cell?_spot (hcell 0 (by omega))
    subst hsp
    rw [Addr.add_lit] at hc
    refine ⟨b, o, rfl, ?_⟩
    have hi' : i < zs.length := by omega
    have e1 : ((zs.take len).map fun n => UInt8.ofNat n.toNat).getD i 0 = UInt8.ofNat (zs.getD i 0).toNat := by
      simp [List.getD_eq_getElem?_getD, hi, List.getElem?_eq_getElem hi']
    rw [hc, e1]
    unfold by1
    rw [← List.getD_eq_getElem?_getD] at hb
    generalize zs.getD i 0 = z at hb ⊢
    have : (UInt8.ofNat z.toNat).toNat = z.toNat := by simp [UInt8.toNat_ofNat']; omega
    rw [this, Int.toNat_of_nonneg hb.1]

/-- A slice of numbers. -/
theorem nums_of {fuel : Nat} {v : Value} {x : DataW H × List MemPlace} (h : DataW.trod enc Tryz.prog W 0 (fun _ => true) true fuel 44 [v] = some x) : ∃ a m c f, v = .slice a m c ∧ NumAt W a m f ∧ m ≤ c ∧ c ≤ maxLen := by
  rcases open_ints Tryz.underlying44 Tryz.underlying3 Tryz.cellsI h with ⟨hcs, _⟩ | ⟨ad, len, cap, zs, hcs, _, hl, hm, hz, _, hcell, hwz⟩
  · simp at hcs
    exact ⟨none, 0, 0, fun _ => 0, hcs, fun i hi => absurd hi (Nat.not_lt_zero _), Nat.le_refl _, Nat.zero_le _⟩
  · simp at hcs
    simp only [if_true] at hz
    refine ⟨some ad, len, cap, fun i => zs.getD i 0, hcs, fun i hi => ?_, hl, hm⟩
    have hc := hcell i (by omega)
    obtain ⟨b, o, sp⟩ := ad
    have hsp : sp = none := by simpa [Addr.add] using World.cell?_spot (hcell 0 (by omega))
    subst hsp
    rw [Addr.add_lit] at hc
    exact ⟨b, o, rfl, hc⟩

theorem three_of {α : Type} : ∀ (l : List α), l.length = 3 → ∃ a b c, l = [a, b, c]
  | [a, b, c], _ => ⟨a, b, c, rfl⟩
theorem five_of {α : Type} : ∀ (l : List α), l.length = 5 → ∃ a b c d e, l = [a, b, c, d, e]
  | [a, b, c, d, e], _ => ⟨a, b, c, d, e, rfl⟩

theorem three_fields {fuel : Nat} {cs : List Value} {x : DataW H × List MemPlace} {t : TypeId} {f0 f1 f2 : Field} (ht : Tryz.prog.underlying t = some (.struct #[f0, f1, f2])) (h : DataW.trod enc Tryz.prog W 0 (fun _ => true) true fuel t cs = some x) :
    ∃ y0 y1 y2 n, DataW.trod enc Tryz.prog W 0 (fun _ => true) true n f0.type ((cs.drop f0.offset).take (Tryz.prog.cellsOf f0.type)) = some y0 ∧
      DataW.trod enc Tryz.prog W 0 (fun _ => true) true n f1.type ((cs.drop f1.offset).take (Tryz.prog.cellsOf f1.type)) = some y1 ∧ DataW.trod enc Tryz.prog W 0 (fun _ => true) true n f2.type ((cs.drop f2.offset).take (Tryz.prog.cellsOf f2.type)) = some y2 := by
  obtain ⟨xs, n, _, _, _, hlen, hf⟩ := DataW.trod_struct ht h
  obtain ⟨y0, y1, y2, rfl⟩ := three_of xs hlen
  exact ⟨y0, y1, y2, n, by simpa using hf 0 f0 rfl, by simpa using hf 1 f1 rfl, by simpa using hf 2 f2 rfl⟩

theorem five_fields {fuel : Nat} {cs : List Value} {x : DataW H × List MemPlace} {t : TypeId} {f0 f1 f2 f3 f4 : Field} (ht : Tryz.prog.underlying t = some (.struct #[f0, f1, f2, f3, f4])) (h : DataW.trod enc Tryz.prog W 0 (fun _ => true) true fuel t cs = some x) :
    ∃ y0 y1 y2 y3 y4 n, DataW.trod enc Tryz.prog W 0 (fun _ => true) true n f0.type ((cs.drop f0.offset).take (Tryz.prog.cellsOf f0.type)) = some y0 ∧
      DataW.trod enc Tryz.prog W 0 (fun _ => true) true n f1.type ((cs.drop f1.offset).take (Tryz.prog.cellsOf f1.type)) = some y1 ∧ DataW.trod enc Tryz.prog W 0 (fun _ => true) true n f2.type ((cs.drop f2.offset).take (Tryz.prog.cellsOf f2.type)) = some y2 ∧
      DataW.trod enc Tryz.prog W 0 (fun _ => true) true n f3.type ((cs.drop f3.offset).take (Tryz.prog.cellsOf f3.type)) = some y3 ∧ DataW.trod enc Tryz.prog W 0 (fun _ => true) true n f4.type ((cs.drop f4.offset).take (Tryz.prog.cellsOf f4.type)) = some y4 := by
  obtain ⟨xs, n, _, _, _, hlen, hf⟩ := DataW.trod_struct ht h
  obtain ⟨y0, y1, y2, y3, y4, rfl⟩ := five_of xs hlen
  exact ⟨y0, y1, y2, y3, y4, n, by simpa using hf 0 f0 rfl, by simpa using hf 1 f1 rfl, by simpa using hf 2 f2 rfl, by simpa using hf 3 f3 rfl, by simpa using hf 4 f4 rfl⟩

theorem event_cells {b o fuel : Nat} {cs : List Value} {x : DataW H × List MemPlace} (hl : cs.length = 3) (hc : ∀ j, j < 3 → W.cell? ⟨b, o + j, none⟩ = cs[j]?) (h : DataW.trod enc Tryz.prog W 0 (fun _ => true) true fuel 62 cs = some x) :
    ∃ p : Int × Int × Int, W.cell? ⟨b, o, none⟩ = some (.int .i64 p.1) ∧ W.cell? ⟨b, o + 1, none⟩ = some (.int .i64 p.2.1) ∧ W.cell? ⟨b, o + 2, none⟩ = some (.int .i64 p.2.2) := by
  obtain ⟨v0, v1, v2, rfl⟩ := three_of cs hl
  obtain ⟨y0, y1, y2, n, g0, g1, g2⟩ := three_fields Tryz.underlying62 h
  rw [Tryz.cellsI] at g0 g1 g2
  obtain ⟨x0, rfl, _⟩ := int_cell (v := v0) g0
  obtain ⟨x1, rfl, _⟩ := int_cell (v := v1) g1
  obtain ⟨x2, rfl, _⟩ := int_cell (v := v2) g2
  exact ⟨(x0, x1, x2), hc 0 (by omega), hc 1 (by omega), hc 2 (by omega)⟩

/-- A slice of structs: its elements, one by one. -/
theorem elems_of {t e : TypeId} {k fuel : Nat} {v : Value} {x : DataW H × List MemPlace} (ht : Tryz.prog.underlying t = some (.slice e)) (hk : Tryz.prog.cellsOf e = k) (hk0 : 0 < k) (h : DataW.trod enc Tryz.prog W 0 (fun _ => true) true fuel t [v] = some x) :
    ∃ a m c, v = .slice a m c ∧ m ≤ c ∧ c ≤ maxLen ∧ (a = none → m = 0 ∧ c = 0) ∧ ∀ i, i < m → ∃ b o cs n y, a = some ⟨b, o, none⟩ ∧ cs.length = k ∧ (∀ j, j < k → W.cell? ⟨b, o + i * k + j, none⟩ = cs[j]?) ∧ DataW.trod enc Tryz.prog W 0 (fun _ => true) true n e cs = some y := by
  rcases Go.Deep.open_slice ht h with ⟨hcs, _⟩ | ⟨ad, len', cap', m, n, D, Pl, hcs, _, hl, hm, hmm, _, hx⟩
  · simp at hcs
    exact ⟨none, 0, 0, hcs, Nat.le_refl _, Nat.zero_le _, fun _ => ⟨rfl, rfl⟩, fun i hi => absurd hi (Nat.not_lt_zero _)⟩
  · simp at hcs
    refine ⟨some ad, len', cap', hcs, hl, hm, fun e => (by cases e), fun i hi => ?_⟩
    simp only [if_true] at hmm
    obtain ⟨cs', hc, ht'⟩ := hx i (by omega)
    obtain ⟨cs0, hc0, _⟩ := hx 0 (by omega)
    rw [hk] at hc hc0
    obtain ⟨_, hlen, hcell⟩ := World.cells?_some hc
    obtain ⟨_, hlen0, hcell0⟩ := World.cells?_some hc0
    obtain ⟨b, o, sp⟩ := ad
    have g0 := hcell0 0 (by omega)
    rw [List.getElem?_eq_getElem (by omega)] at g0
    have hsp : sp = none := by simpa [Addr.add] using World.cell?_spot g0
    subst hsp
    exact ⟨b, o, cs', _, _, rfl, hlen, fun j hj => by have := hcell j hj; rwa [Addr.add_lit, Addr.add_lit] at this, ht'⟩

/-- A slice of events. -/
theorem events_of {fuel : Nat} {v : Value} {x : DataW H × List MemPlace} (h : DataW.trod enc Tryz.prog W 0 (fun _ => true) true fuel 38 [v] = some x) : ∃ a m c f, v = .slice a m c ∧ EvAt W a m f ∧ m ≤ c ∧ c ≤ maxLen := by
  obtain ⟨a, m, c, rfl, h1, h2, -, hall⟩ := elems_of Tryz.underlying38 Tryz.cellsEvent (by decide) h
  have hp : ∀ i, ∃ p : Int × Int × Int, i < m → ∃ b o, a = some ⟨b, o, none⟩ ∧ W.cell? ⟨b, o + i * 3, none⟩ = some (.int .i64 p.1) ∧ W.cell? ⟨b, o + i * 3 + 1, none⟩ = some (.int .i64 p.2.1) ∧ W.cell? ⟨b, o + i * 3 + 2, none⟩ = some (.int .i64 p.2.2) := fun i => by
    by_cases hi : i < m
    · obtain ⟨b, o, cs, n, y, e, hl, hc, ht⟩ := hall i hi
      obtain ⟨p, q⟩ := event_cells hl hc ht
      exact ⟨p, fun _ => ⟨b, o, e, q⟩⟩
    · exact ⟨(0, 0, 0), fun q => absurd q hi⟩
  exact ⟨a, m, c, fun i => Classical.choose (hp i), rfl, fun i hi => Classical.choose_spec (hp i) hi, h1, h2⟩

end

/-- A step of a script. -/
structure Stp where
  what : Int
  num : Int
  ba : Option Addr
  bs : List UInt8
  bc : Nat
  ka : Option Addr
  kl : Nat
  kc : Nat
  kf : Nat → Int
  ea : Option Addr
  el : Nat
  ec : Nat
  ef : Nat → Int × Int × Int

/-- It lies there. -/
structure StpAt (w : World) (b o : Nat) (s : Stp) : Prop where
  what : w.cell? ⟨b, o, none⟩ = some (.int .i64 s.what)
  wide : -9223372036854775808 ≤ s.num ∧ s.num ≤ 9223372036854775807
  num : w.cell? ⟨b, o + 1, none⟩ = some (.int .i64 s.num)
  bytes : w.cell? ⟨b, o + 2, none⟩ = some (.slice s.ba s.bs.length s.bc)
  keep : w.cell? ⟨b, o + 3, none⟩ = some (.slice s.ka s.kl s.kc)
  evs : w.cell? ⟨b, o + 4, none⟩ = some (.slice s.ea s.el s.ec)
  bt : BtAt w s.ba s.bs
  kt : NumAt w s.ka s.kl s.kf
  et : EvAt w s.ea s.el s.ef
  bcap : s.bs.length ≤ s.bc ∧ s.bc ≤ maxLen ∧ (s.ba = none → s.bc = 0)
  kcap : s.kl ≤ s.kc ∧ s.kc ≤ maxLen
  ecap : s.el ≤ s.ec ∧ s.ec ≤ maxLen

theorem StpAt.below {b o : Nat} {s : Stp} (h : StpAt w b o s) (hb : Below w.heap.size w w') : StpAt w' b o s :=
  ⟨cell_keep hb h.what, h.wide, cell_keep hb h.num, cell_keep hb h.bytes, cell_keep hb h.keep, cell_keep hb h.evs, h.bt.below hb, h.kt.below hb, h.et.below hb, h.bcap, h.kcap, h.ecap⟩

/-- A script, as it lies in memory. -/
def ScAt (w : World) (a : Option Addr) (m : Nat) (f : Nat → Stp) : Prop := ∀ i, i < m → ∃ b o, a = some ⟨b, o, none⟩ ∧ StpAt w b (o + i * 5) (f i)

theorem ScAt.below {a : Option Addr} {m : Nat} {f : Nat → Stp} (h : ScAt w a m f) (hb : Below w.heap.size w w') : ScAt w' a m f := fun i hi => by
  obtain ⟨b, o, e, q⟩ := h i hi
  exact ⟨b, o, e, q.below hb⟩

section
variable {H : Type} {enc : TypeId × Value → H} {W : World}

end

end Go.Proofs.YtcfemppdeidjmadGreat.Dk
