/-
  The landed store: all of package store.
-/
import Derived.Test.YtdbebeemhomjkacDoorFl
import Derived.Test.YtdbebeemhomjkacDoorEa
import Derived.Test.YtdbebeemhomjkacDoorDt
namespace Go.Proofs.YtdbebeemhomjkacDoor.Sk
open Go.RowKit Go.Deep Go.Proofs.YtdbebeemhomjkacDoor.Dk
open Go.RowKit (Below)
set_option linter.unusedVariables false

variable {w w' : World} {B n t : Nat} {d s : Value} {S S' : St} {F F' FD : Nat → Prop} {l x : List UInt8} {g : Option Nat}

/-- How many steps are left, as a number. -/
def lf : Option Nat → Int
  | none => -1
  | some k => (k : Int)
def gl (z : Int) : Option Nat := if z < 0 then none else some z.toNat
theorem lf_gl {z : Int} (h : -1 ≤ z) : lf (gl z) = z := by
  unfold gl
  split
  · show (-1 : Int) = z; omega
  · show ((z.toNat : Nat) : Int) = z; omega
theorem gl_none {z : Int} (h : z = -1) : gl z = none := by rw [h]; rfl
theorem lf_given (k : Int) : (if k < 0 then -1 else k) = lf (given k) := by
  unfold given
  split
  · rfl
  · show k = ((k.toNat : Nat) : Int); omega

def rawF (w : World) (B : Nat) (d : Value) (n : Nat) (F : Nat → Prop) : Prop := Dk.L.Fc w B d n fresh F ∧ 1 ≤ n
def keptF (w : World) (B : Nat) (d : Value) (n : Nat) (l : List UInt8) (t : Nat) (F : Nat → Prop) : Prop :=
  ∃ S h, Dk.L.Fc w B d n S F ∧ Rest S h l t ∧ S.left = -1 ∧ 62 ≤ n
def onF (w : World) (B : Nat) (d : Value) (n : Nat) (s : Value) (l : List UInt8) (t : Nat) (g : Option Nat) (F : Nat → Prop) : Prop :=
  ∃ ks ba bc S h FD, s = .pointer (some ⟨ks, 0, none⟩) ∧ SEx Dk.L.Fc w B d n ks ba bc l t false S FD F ∧ Rest S h l t ∧ S.left = lf g ∧ 62 ≤ n
def offF (w : World) (B : Nat) (d : Value) (n : Nat) (s : Value) (l : List UInt8) (t : Nat) (x : List UInt8) (F : Nat → Prop) : Prop :=
  ∃ ks ba bc S FD, s = .pointer (some ⟨ks, 0, none⟩) ∧ SEx Dk.L.Fc w B d n ks ba bc l t true S FD F ∧ Torn S l t x ∧ 62 ≤ n

/-- The landed store's face. -/
def face : Face := ⟨rawF, keptF, onF, offF⟩

theorem rest_failing {h : Nat} (R : Rest S h l t) (k : Int) : Rest (failing S k) h l t :=
  ⟨R.wr, R.kept, R.good, R.h1, R.down, by show -1 ≤ (if k < 0 then -1 else k); split <;> omega⟩
theorem rest_crashed {h : Nat} (R : Rest S h l t) (q : Nat → Bool) : Rest (crashed S q) h l t := by
  have e : play q 0 S.wr S.kept = S.now := by rw [R.wr, ← R.kept]; rfl
  exact ⟨rfl, rfl, by show Good (play q 0 S.wr S.kept) h l t; rw [e]; exact R.good, R.h1, rfl, by show (-1 : Int) ≤ -1; omega⟩

theorem store_ok : StoreOk face where
  raw_keep := fun h h1 h2 => ⟨Dk.L.disk_ok.keep h.1 h1 h2, h.2⟩
  kept_keep := fun ⟨S, h, h1, h2⟩ q1 q2 => ⟨S, h, Dk.L.disk_ok.keep h1 q1 q2, h2⟩
  on_keep := fun ⟨ks, ba, bc, S, h, FD, e, h1, h2⟩ q1 q2 => ⟨ks, ba, bc, S, h, FD, e, h1.keep Dk.L.disk_ok q1 q2, h2⟩
  off_keep := fun ⟨ks, ba, bc, S, FD, e, h1, h2⟩ q1 q2 => ⟨ks, ba, bc, S, FD, e, h1.keep Dk.L.disk_ok q1 q2, h2⟩
  raw_own := fun h => Dk.L.disk_ok.own h.1
  kept_own := fun ⟨S, h, h1, h2⟩ => Dk.L.disk_ok.own h1
  on_own := fun ⟨ks, ba, bc, S, h, FD, e, h1, h2⟩ => h1.owns Dk.L.disk_ok
  off_own := fun ⟨ks, ba, bc, S, FD, e, h1, h2⟩ => h1.owns Dk.L.disk_ok
  new_no := fun k hk => Dk.L.disk_ok.new_no k hk
  new_ok := fun n h1 h2 => (Dk.L.disk_ok.new_ok n h1 h2).mono fun e w' ⟨d, F, e1, e2, e3⟩ => ⟨d, F, e1, ⟨e2, h1⟩, e3⟩
  open_no := fun h hB => open_none Dk.L.disk_ok h.1 hB h.2
  format_no := fun h hB hn => format_few Dk.L.disk_ok h.1 hn
  format_ok := fun h hB hn => (format_any Dk.L.disk_ok h.1 hB hn).mono fun e w' ⟨S', F', e1, e2, e3, e4, e5⟩ => ⟨F', e1, ⟨S', 0, e2, e3.1, e3.2, hn⟩, e4, e5⟩
  open_ok := by
    rintro w B n t d l F ⟨S, h, h1, h2, h3, h4⟩ hB hl ht
    obtain ⟨kd, rfl⟩ : ∃ kd, d = .pointer (some ⟨kd, 0, none⟩) := by
      obtain ⟨kd, e, _⟩ := h1
      exact ⟨kd, e⟩
    exact (open_any Dk.L.disk_ok h1 hB h4 h2 hl (by omega)).mono fun e w' ⟨ks, e1, ba, bc, F', e2, e3, e4⟩ => ⟨_, F', e1, ⟨ks, ba, bc, S, h, F, rfl, e2, h2, h3, h4⟩, e3, e4⟩
  save_full := by
    rintro w B n t d s l g F a x c ⟨ks, ba, bc, S, h, FD, rfl, h1, h2, h3, h4⟩ hB ha hc hc2 hx
    exact (save_full hx).mono fun e w' ⟨e1, e2⟩ => ⟨F, e1, e2 ▸ ⟨ks, ba, bc, S, h, FD, rfl, h1, h2, h3, h4⟩, fun b q => Or.inl q, by rw [e2]; exact Turn.refl w⟩
  save := by
    rintro w B n t d s l g F a x c ⟨ks, ba, bc, S, h, FD, rfl, h1, h2, h3, h4⟩ hB ha hc hc2 hnil hF hx hl ht
    refine (save_any Dk.L.disk_ok h1 hB h4 h2 ht ha hc hc2 hnil hF hx).mono ?_
    rintro e w' ⟨v, rfl, S', FD', F', ba', bc', hor, hf, htn⟩
    refine ⟨F', ?_, hf, htn⟩
    rcases hor with ⟨rfl, g1, g2, g3⟩ | ⟨rfl, g1, g2, g3⟩
    · refine Or.inl ⟨gl S'.left, rfl, ⟨ks, ba', bc', S', 1 - h, FD', rfl, g3, g1, (lf_gl g1.left).symm, h4⟩, fun q => gl_none (g2 (by rw [h3, q]; rfl))⟩
    · exact Or.inr ⟨rfl, fun q => g1 (by rw [h3, q]; rfl), ⟨ks, ba', bc', S', FD', rfl, g3, g2, h4⟩⟩
  save_off := by
    rintro w B n t d s l x F ⟨ks, ba, bc, S, FD, rfl, h1, h2, h4⟩ hB
    exact (save_down h1).mono fun e w' ⟨e1, e2⟩ => ⟨F, e1, e2 ▸ ⟨ks, ba, bc, S, FD, rfl, h1, h2, h4⟩, fun b q => Or.inl q, by rw [e2]; exact Turn.refl w⟩
  load_on := by
    rintro w B n t d s l g F ⟨ks, ba, bc, S, h, FD, rfl, h1, h2⟩ hB
    exact load_any h1
  load_off := by
    rintro w B n t d s l x F ⟨ks, ba, bc, S, FD, rfl, h1, h2⟩ hB
    exact load_any h1
  turn_on := by
    rintro w B n t d s l g F ⟨ks, ba, bc, S, h, FD, rfl, h1, h2⟩ hB
    exact (turn_any h1).mono fun e w' ⟨e1, e2⟩ => ⟨e1, e2 ▸ Below.refl _ _⟩
  turn_off := by
    rintro w B n t d s l x F ⟨ks, ba, bc, S, FD, rfl, h1, h2⟩ hB
    exact (turn_any h1).mono fun e w' ⟨e1, e2⟩ => ⟨e1, e2 ▸ Below.refl _ _⟩
  fail := by
    rintro w B n t d s l g F k ⟨ks, ba, bc, S, h, FD, rfl, h1, h2, h3, h4⟩ hB hk
    refine (Dk.L.disk_ok.fail k h1.disk hB hk).mono ?_
    rintro e w' ⟨rfl, hd, ht⟩
    obtain ⟨F', g1, g2, g3⟩ := h1.turn Dk.L.disk_ok hd (fun b q => Or.inl q) ht
    exact ⟨F', rfl, ⟨ks, ba, bc, _, h, FD, rfl, g1, rest_failing h2 k, lf_given k, h4⟩, g2, g3⟩
  crash_on := by
    rintro w B n t d s l g F a m c f ⟨ks, ba, bc, S, h, FD, rfl, h1, h2, h3, h4⟩ hB ha hc hc2 hF
    refine (Dk.L.disk_ok.crash h1.disk hB ha hc hc2 (fun hm b o e q => hF hm b o e ((h1.f b).2 (Or.inl q))) (by rw [h2.wr]; simp)).mono ?_
    rintro e w' ⟨F', rfl, hd, hf, ht⟩
    exact ⟨F', rfl, ⟨_, h, hd, rest_crashed h2 _, rfl, h4⟩, fun b q => (hf b q).imp (fun q => (h1.f b).2 (Or.inl q)) id, ht.mono fun b _ q => (h1.f b).2 (Or.inl q)⟩
  crash_off := by
    rintro w B n t d s l x F a m c f ⟨ks, ba, bc, S, FD, rfl, h1, h2, h4⟩ hB ha hc hc2 hF
    refine (Dk.L.disk_ok.crash h1.disk hB ha hc hc2 (fun hm b o e q => hF hm b o e ((h1.f b).2 (Or.inl q))) (by have := h2.wr; omega)).mono ?_
    rintro e w' ⟨F', rfl, hd, hf, ht⟩
    refine ⟨F', rfl, ?_, fun b q => (hf b q).imp (fun q => (h1.f b).2 (Or.inl q)) id, ht.mono fun b _ q => (h1.f b).2 (Or.inl q)⟩
    rcases h2.any (among m f) with ⟨h, q1, q2⟩ | ⟨h, q1, q2⟩
    · exact Or.inl ⟨_, h, hd, ⟨rfl, rfl, q2, q1, rfl, by show (-1 : Int) ≤ -1; omega⟩, rfl, h4⟩
    · exact Or.inr ⟨_, h, hd, ⟨rfl, rfl, q2, q1, rfl, by show (-1 : Int) ≤ -1; omega⟩, rfl, h4⟩

end Go.Proofs.YtdbebeemhomjkacDoor.Sk
