/-
  A disk, plain: pages, what is kept, what was written since, when the power goes off.
-/
import Derived.Test.YtdbebeemhomjkacDoorMa
namespace Go.Proofs.YtdbebeemhomjkacDoor.Dk
set_option linter.unusedVariables false

/-- A page with these bytes, and 0 behind them. -/
def pad (l : List UInt8) : List UInt8 := l ++ List.replicate (32 - l.length) 0
def blank : List UInt8 := List.replicate 32 0

theorem pad_len {l : List UInt8} (h : l.length ≤ 32) : (pad l).length = 32 := by simp [pad]; omega
theorem blank_len : blank.length = 32 := by simp [blank]
theorem pad_nil : pad [] = blank := rfl

def upd (f : Nat → List UInt8) (a : Nat) (p : List UInt8) : Nat → List UInt8 := fun i => if i = a then p else f i
theorem upd_same (f : Nat → List UInt8) (a : Nat) (p : List UInt8) : upd f a p a = p := if_pos rfl
theorem upd_other (f : Nat → List UInt8) {a i : Nat} (p : List UInt8) (h : i ≠ a) : upd f a p i = f i := if_neg h

/-- A disk's state. -/
structure St where
  kept : Nat → List UInt8
  now : Nat → List UInt8
  wr : List (Nat × List UInt8)
  left : Int
  down : Bool

def fresh : St := ⟨fun _ => blank, fun _ => blank, [], -1, false⟩

/-- The power goes off at this step, or is off. -/
def Off (s : St) : Prop := s.down = true ∨ s.left = 0
def fall (s : St) : St := { s with down := true }
/-- One step less ahead of the fall. -/
def less (s : St) : St := { s with left := if 0 < s.left then s.left - 1 else s.left }
def wrote (s : St) (a : Nat) (p : List UInt8) : St := { less s with now := upd s.now a p, wr := s.wr ++ [(a, p)] }
def synced (s : St) : St := { less s with kept := s.now, wr := [] }
def failing (s : St) (k : Int) : St := { s with left := if k < 0 then -1 else k }

/-- What a crash keeps, from the i-th write on. -/
def play (q : Nat → Bool) : Nat → List (Nat × List UInt8) → (Nat → List UInt8) → (Nat → List UInt8)
  | _, [], f => f
  | i, (a, p) :: r, f => play q (i + 1) r (if q i then upd f a p else f)
def crashed (s : St) (q : Nat → Bool) : St := ⟨play q 0 s.wr s.kept, play q 0 s.wr s.kept, [], -1, false⟩

theorem play_snoc (q : Nat → Bool) (a : Nat) (p : List UInt8) : ∀ (l : List (Nat × List UInt8)) (i : Nat) (f : Nat → List UInt8), play q i (l ++ [(a, p)]) f = if q (i + l.length) then upd (play q i l f) a p else play q i l f
  | [], i, f => rfl
  | (b, r) :: l, i, f => by
    show play q (i + 1) (l ++ [(a, p)]) _ = _
    rw [play_snoc q a p l (i + 1)]
    show (if q (i + 1 + l.length) then _ else _) = (if q (i + (l.length + 1)) then _ else _)
    rw [show i + 1 + l.length = i + (l.length + 1) by omega]
    rfl

/-- All pages are pages. -/
structure Sized (s : St) : Prop where
  kept : ∀ i, (s.kept i).length = 32
  now : ∀ i, (s.now i).length = 32
  wr : ∀ x ∈ s.wr, x.2.length = 32

theorem upd_len {f : Nat → List UInt8} {a : Nat} {p : List UInt8} (hf : ∀ i, (f i).length = 32) (hp : p.length = 32) (i : Nat) : (upd f a p i).length = 32 := by
  unfold upd; split
  · exact hp
  · exact hf i

theorem play_len {q : Nat → Bool} : ∀ (l : List (Nat × List UInt8)) (i : Nat) (f : Nat → List UInt8), (∀ j, (f j).length = 32) → (∀ x ∈ l, x.2.length = 32) → ∀ j, (play q i l f j).length = 32
  | [], i, f, hf, _, j => hf j
  | (a, p) :: r, i, f, hf, hl, j => play_len r (i + 1) _ (fun j => by split; exact upd_len hf (hl (a, p) List.mem_cons_self) j; exact hf j) (fun x hx => hl x (List.mem_cons_of_mem _ hx)) j

theorem Sized.fresh : Sized fresh := ⟨fun _ => blank_len, fun _ => blank_len, fun x hx => by cases hx⟩
theorem Sized.fall {s : St} (h : Sized s) : Sized (fall s) := ⟨h.kept, h.now, h.wr⟩
theorem Sized.wrote {s : St} (h : Sized s) (a : Nat) {p : List UInt8} (hp : p.length = 32) : Sized (wrote s a p) := ⟨h.kept, fun i => upd_len h.now hp i, fun x hx => by
  rcases List.mem_append.1 hx with q | q
  · exact h.wr x q
  · rw [List.mem_singleton.1 q]; exact hp⟩
theorem Sized.synced {s : St} (h : Sized s) : Sized (synced s) := ⟨h.now, h.now, fun x hx => by cases hx⟩
theorem Sized.failing {s : St} (h : Sized s) (k : Int) : Sized (failing s k) := ⟨h.kept, h.now, h.wr⟩
theorem Sized.crashed {s : St} (h : Sized s) (q : Nat → Bool) : Sized (crashed s q) := ⟨fun j => play_len _ _ _ h.kept h.wr j, fun j => play_len _ _ _ h.kept h.wr j, fun x hx => by cases hx⟩

end Go.Proofs.YtdbebeemhomjkacDoor.Dk
