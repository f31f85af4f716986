/-
  Zh
-/
import Derived.Test.YtcfemppdeidjmacGreatW38
import Derived.Test.YtcfemppdeidjmacGreatW44
import Derived.Test.YtcfemppdeidjmacGreatW46
namespace Go.Proofs.YtcfemppdeidjmacGreat.Ds
open Go.RowKit Go.Deep

open Go.RowKit (Below)
set_option linter.unusedVariables false

variable {w w' : World} {A A' S : List (Nat × Nat)} {n t B N kb : Nat} {G G' : Gr.GPl} {FT FT' FG FG' FZ F Y : Nat → Prop} {d s : Value} {g : Option Nat} {lv : Nat × Nat → Nat} {tr : Nat × Nat → Bool}

structure Gx (w : World) (n : Nat) (G : Gr.GPl) (A : List (Nat × Nat)) (FT F : Nat → Prop) : Prop where
  ok : ∃ lv tr, @Gr.GOk (inst ⟨FT, w.heap.size⟩) w G A lv tr
  n : G.n = n
  f : ∀ b, F b ↔ Gr.GAll G b ∨ FT b
  lt : ∀ b, FT b → b < w.heap.size

theorem Gx.own (h : Gx w n G A FT F) : ∀ b, F b → b < w.heap.size := fun b q => by
  obtain ⟨lv, tr, hok⟩ := h.ok
  exact ((h.f b).1 q).elim (Gr.gall_lt hok b) (h.lt b)

theorem Gx.keep (h : Gx w n G A FT F) (hs : w.heap.size ≤ w'.heap.size) (hF : ∀ b, F b → w'.heap[b]? = w.heap[b]?) : Gx w' n G A FT F := by
  obtain ⟨lv, tr, hok⟩ := h.ok
  refine ⟨⟨lv, tr, Gr.gok_other hok ⟨fun b hb ht hz => ?_, Nat.le_refl _⟩ fun b hb => hF b ((h.f b).2 (Or.inl hb))⟩, h.n, h.f, fun b hb => Nat.lt_of_lt_of_le (h.lt b hb) hs⟩
  rcases hz with q | q
  · exact ⟨hF b ((h.f b).2 (Or.inr q)), Or.inl q⟩
  · exact absurd hb (Nat.not_lt.2 q)

theorem Gx.make (hok : @Gr.GOk (inst ⟨FT, N⟩) w G A lv tr) (hn : G.n = n) (hs : w.heap.size ≤ w'.heap.size) (hG : ∀ b, Gr.GAll G b → w'.heap[b]? = w.heap[b]?)
    (hT : ∀ b, b < w.heap.size → (Tag w b 252 ∨ Tag w b 250) → FT b ∨ N ≤ b → w'.heap[b]? = w.heap[b]? ∧ FT' b) (hlt : ∀ b, FT' b → b < w'.heap.size) : Gx w' n G A FT' (fun b => Gr.GAll G b ∨ FT' b) :=
  ⟨⟨lv, tr, Gr.gok_other hok ⟨fun b hb ht hz => ⟨(hT b hb ht hz).1, Or.inl (hT b hb ht hz).2⟩, Nat.le_refl _⟩ hG⟩, hn, fun b => Iff.rfl, hlt⟩

theorem Gx.sound (h : Gx w n G A FT F) : Sound n A := by
  obtain ⟨lv, tr, hok⟩ := h.ok
  obtain ⟨hm, hl⟩ := hok
  obtain ⟨st, mp, row, tag, fo, ln, h1, h2, h3, h4, h5, h6, h7, h8, h9⟩ := hm
  rw [h.n] at h4 h5 h7
  exact ⟨⟨h6, h9, h7, h4, h5⟩, h8⟩

def enc (n : Nat) (A : List (Nat × Nat)) : List UInt8 := Nt.bt n A.length (Br.fn A) A.length
theorem enc_len (n : Nat) (A : List (Nat × Nat)) : (enc n A).length = 2 + 2 * A.length := Nt.bt_len _
theorem Sound.valid (h : Sound n A) : Br.Valid (n : Nat) A.length (Br.fn A) :=
  ⟨⟨by have := h.fine.n1; omega, by have := h.fine.n60; omega⟩, h.fine.len, by
    rw [Int.toNat_natCast]
    exact Br.fn_may h.fine.up fun e he => ⟨h.less e he, (h.fine.among e he).2⟩⟩
theorem Sound.few (h : Sound n A) : (enc n A).length ≤ 960 := by
  rw [enc_len]
  have := h.fine.len
  omega
theorem sound_none (h1 : 1 ≤ n) (h2 : n ≤ 60) : Sound n [] := ⟨⟨List.Pairwise.nil, by simp, fun e he => absurd he (by simp), h1, h2⟩, fun e he => absurd he (by simp)⟩

def dc (n g : Nat) (s : Value) : Nat → Value := fun i => if i = 0 then .int .i64 (n : Nat) else if i = 1 then .pointer (some ⟨g, 0, none⟩) else s

structure Kx (w : World) (B : Nat) (d : Value) (n kb : Nat) (s : Value) (G : Gr.GPl) (A S : List (Nat × Nat)) (t : Nat) (g : Option Nat) (FZ FT FG F : Nat → Prop) : Prop where
  st : Sk.face.on w B d 62 s (enc n S) t g FZ
  row : w.rowIs kb 147 3 (dc n G.g s)
  gx : Gx w n G A FT FG
  sound : Sound n S
  kb1 : B ≤ kb
  fg : ∀ b, FG b → B ≤ b
  ap : ∀ b, FZ b → ¬ FG b ∧ b ≠ kb
  kg : ¬ FG kb
  f : ∀ b, F b ↔ FZ b ∨ FG b ∨ b = kb

theorem Kx.keep (h : Kx w B d n kb s G A S t g FZ FT FG F) (hs : w.heap.size ≤ w'.heap.size) (hF : ∀ b, F b → w'.heap[b]? = w.heap[b]?) : Kx w' B d n kb s G A S t g FZ FT FG F :=
  { h with
    st := Sk.store_ok.on_keep h.st hs fun b q => hF b ((h.f b).2 (Or.inl q))
    row := h.row.of_block (hF kb ((h.f kb).2 (Or.inr (Or.inr rfl))))
    gx := h.gx.keep hs fun b q => hF b ((h.f b).2 (Or.inr (Or.inl q))) }

theorem Kx.own (h : Kx w B d n kb s G A S t g FZ FT FG F) : ∀ b, F b → B ≤ b ∧ b < w.heap.size := fun b q => by
  rcases (h.f b).1 q with q | q | rfl
  · exact Sk.store_ok.on_own h.st b q
  · exact ⟨h.fg b q, h.gx.own b q⟩
  · exact ⟨h.kb1, h.row.lt⟩

theorem Kx.after (h : Kx w B d n kb s G A S t g FZ FT FG F) (ht : Gr.Turns (fun b => FG b ∨ b = kb) w w') (hr : w'.rowIs kb 147 3 (dc n G'.g s)) (hg : Gx w' n G' A' FT' FG') (hFG : ∀ b, FG' b → FG b ∨ w.heap.size ≤ b) :
    ∃ F', Kx w' B d n kb s G' A' S t g FZ FT' FG' F' ∧ Sk.Stands w F w' F' ∧ ∀ b, F' b → FZ b ∨ FG' b ∨ b = kb := by
  have hFS : ∀ b, FZ b → b < w.heap.size := fun b q => (Sk.store_ok.on_own h.st b q).2
  have hB : B ≤ w.heap.size := Nat.le_trans h.kb1 (Nat.le_of_lt h.row.lt)
  refine ⟨fun b => FZ b ∨ FG' b ∨ b = kb, ⟨Sk.store_ok.on_keep h.st ht.size fun b q => ht.block b (hFS b q) fun z => z.elim (h.ap b q).1 (h.ap b q).2, hr, hg, h.sound, h.kb1, fun b q => ?_, fun b q => ⟨fun z => ?_, (h.ap b q).2⟩, fun q => ?_, fun b => Iff.rfl⟩, ⟨fun b q => ?_, ⟨ht.os, ht.tape, ht.output, ht.size, fun k hk hn => ht.block k hk fun q => hn ((h.f k).2 (Or.inr q))⟩⟩, fun b q => q⟩
  · exact (hFG b q).elim (h.fg b) fun z => by omega
  · exact (hFG b z).elim (h.ap b q).1 fun y => by have := hFS b q; omega
  · exact (hFG kb q).elim h.kg fun y => by have := h.row.lt; omega
  · rcases q with q | q | q
    · exact Or.inl ((h.f b).2 (Or.inl q))
    · exact (hFG b q).imp (fun z => (h.f b).2 (Or.inr (Or.inl z))) id
    · exact Or.inl ((h.f b).2 (Or.inr (Or.inr q)))

def deskF : DFace where
  raw w B d F := Sk.face.raw w B d 62 F
  kept w B d n A t F := Sound n A ∧ Sk.face.kept w B d 62 (enc n A) t F
  on w B d n k A S t g F := ∃ (kb : Nat) (s : Value) (G : Gr.GPl) (FZ FT FG : Nat → Prop), k = .pointer (some ⟨kb, 0, none⟩) ∧ Kx w B d n kb s G A S t g FZ FT FG F
  off w B d n A S t F := (Sound n A ∧ Sound n S) ∧ ∃ s, Sk.face.off w B d 62 s (enc n S) t (enc n A) F
  gr w v n A := ∃ (G : Gr.GPl) (lv : Nat × Nat → Nat) (tr : Nat × Nat → Bool), v = .pointer (some ⟨G.g, 0, none⟩) ∧ G.n = n ∧ @Gr.GOk (inst every) w G A lv tr

end Go.Proofs.YtcfemppdeidjmacGreat.Ds
