/-
  Xb Xc
-/
import Derived.Test.YtcfemppdeidjmacGreatT16
import Derived.Test.YtcfemppdeidjmacGreatT12
import Derived.Test.YtcfemppdeidjmacGreatT21
namespace Go.Proofs.YtcfemppdeidjmacGreat.To
set_option linter.unusedSectionVars false
variable [Inhabited Zed] [Inhabited (PLift ((default : Zed).n ≤ 0))]
open Go.RowKit Go.Deep
open Go.RowKit (Below)
set_option linter.unusedVariables false

variable {w w' wr w0 : World} {G : Gr.GPl} {A E P Q : List (Nat × Nat)} {e : Nat × Nat} {m n j N c : Nat} {a ad : Option Addr} {p q : Nat → Nat}

theorem Dr.n60 (h : Dr w0 G A w) : 1 ≤ G.n ∧ G.n ≤ 60 := by
  obtain ⟨lv, tr, h⟩ := h
  exact ⟨h.ok.mem.n1, h.ok.mem.n60⟩
theorem Dr.up (h : Dr w0 G A w) : Rises A := by
  obtain ⟨lv, tr, h⟩ := h
  exact h.ok.mem.rises
theorem Dr.among (h : Dr w0 G A w) : ∀ e ∈ A, e.1 < e.2 ∧ e.2 < G.n := by
  obtain ⟨lv, tr, h⟩ := h
  exact fun e he => ⟨h.ok.mem.less e he, (h.ok.mem.among e he).2⟩
theorem Dr.few (h : Dr w0 G A w) : A.length ≤ 200 := by
  obtain ⟨lv, tr, h⟩ := h
  exact h.ok.mem.m200
theorem Dr.foot (h : Dr w0 G A w) {b : Nat} (hb : Gr.GFoot G b) : b < w.heap.size := by
  obtain ⟨lv, tr, h⟩ := h
  exact h.ok.mem.foot_lt hb

structure Li (G : Gr.GPl) (w : World) (a : Option Addr) (N c : Nat) (E : List (Nat × Nat)) : Prop where
  at_ : EdgesAt w a E
  off : ∀ g, a = some ⟨g, 0, none⟩ → ¬ Gr.GFoot G g
  len : E.length = N
  le : N ≤ c
  max : c ≤ maxLen

theorem Li.below (h : Li G w a N c E) (hb : Below w.heap.size w w') : Li G w' a N c E := ⟨h.at_.below hb, h.off, h.len, h.le, h.max⟩
theorem Li.br (h : Li G w a N c E) : Br.EdgesAt w a E := ⟨fun i hi => by
  obtain ⟨b, e, h1, h2⟩ := h.at_.cell i hi
  exact ⟨b, 0, e, by rw [Nat.zero_add]; exact h1, by rw [Nat.zero_add]; exact h2⟩⟩
theorem Li.eg (h : Li G w a N c E) : Br.EgAt w a N (Br.fn E) := h.len ▸ Br.fn_at h.br

theorem Dr.valid (h : Dr w0 G A w) (hN : A.length = N) : Br.Valid (G.n : Nat) N (Br.fn A) := ⟨⟨by have := h.n60; omega, by have := h.n60; omega⟩, hN ▸ h.few, by
  rw [Int.toNat_natCast, ← hN]
  exact Br.fn_may h.up h.among⟩
theorem fn_edges (hN : A.length = N) : Br.edges (Br.fn A) N = A := hN ▸ Br.fn_edges A

theorem own_li {base : Nat} {v : Value} (h : w.ownsRow base 44 2 v E.length (Br.twos E)) (hF : ∀ b, Gr.GFoot G b → b < base) : ∃ a c, v = .slice a E.length c ∧ Li G w a E.length c E := by
  rcases h.2 with ⟨hv, h0⟩ | ⟨g', cap', cur, hv, hb, hg, h1, h2, h3, h4⟩
  · exact ⟨none, 0, by rw [hv, h0], ⟨fun i hi => by omega⟩, (fun b e => by cases e), rfl, by omega, Nat.zero_le _⟩
  · refine ⟨_, _, hv, ⟨fun i hi => ⟨g', rfl, ?_, ?_⟩⟩, (fun b e => by cases e; exact fun q => by have := hF g' q; omega), rfl, h1, h2⟩
    · have e := Br.twos_get E (i * 2) (by omega)
      rw [← h4, List.getElem?_take, if_pos (by omega), show i * 2 / 2 = i by omega, show i * 2 % 2 = 0 by omega] at e
      simp only [World.cell?, hg]
      simpa [Br.two] using e
    · have e := Br.twos_get E (i * 2 + 1) (by omega)
      rw [← h4, List.getElem?_take, if_pos (by omega), show (i * 2 + 1) / 2 = i by omega, show (i * 2 + 1) % 2 = 1 by omega] at e
      simp only [World.cell?, hg]
      simpa [Br.two] using e

theorem dr_edges (h : Dr w0 G A w) :
    Calls Tryz.prog 11 #[.pointer (some ⟨G.g, 0, none⟩)] w fun e w' => ∃ ad c, e = .returned (.slice ad A.length c) ∧ Below w.heap.size w w' ∧ Li G w' ad A.length c A := by
  have hf : ∀ b, Gr.GFoot G b → b < w.heap.size := fun b q => h.foot q
  obtain ⟨lv, tr, h⟩ := h
  refine (Gr.gedges_any h.ok A.length rfl).mono ?_
  rintro e w' ⟨ad, c, rfl, hb, hE, ho, h1, h2⟩
  exact ⟨ad, c, rfl, hb, hE, fun b e q => by have := hf b q; have := ho b e; omega, rfl, h1, h2⟩

theorem dr_tree (h : Dr w0 G A w) :
    Calls Tryz.prog 12 #[.pointer (some ⟨G.g, 0, none⟩)] w fun e w' => ∃ ad c T, e = .returned (.slice ad T.length c) ∧ Below w.heap.size w w' ∧ Li G w' ad T.length c T ∧ Rises T ∧ (∀ e ∈ T, e ∈ A) ∧ Forest T ∧ ∀ i j, Conn T i j ↔ Conn A i j := by
  have hf : ∀ b, Gr.GFoot G b → b < w.heap.size := fun b q => h.foot q
  obtain ⟨lv, tr, h⟩ := h
  refine (Gr.gtree_any h.ok _ rfl).mono ?_
  rintro e w' ⟨ad, c, rfl, hb, hE, ho, h1, h2⟩
  refine ⟨ad, c, Fo A lv tr 0, rfl, hb, ⟨hE, fun b e q => by have := hf b q; have := ho b e; omega, rfl, h1, h2⟩, ?_, fun e he => (mem_Fo.1 he).1, h.ok.lev.forest, fun i j => h.ok.lev.tree i j⟩
  unfold Fo
  exact Rises.filter h.ok.mem.rises _

end Go.Proofs.YtcfemppdeidjmacGreat.To

namespace Go.Proofs.YtcfemppdeidjmacGreat.To
set_option linter.unusedSectionVars false
variable [Inhabited Zed] [Inhabited (PLift ((default : Zed).n ≤ 0))]
open Go.RowKit Go.Deep
open Go.RowKit (Below)
set_option linter.unusedVariables false

variable {w w' wr w0 : World} {G : Gr.GPl} {A E P Q L : List (Nat × Nat)} {e : Nat × Nat} {m n j N c : Nat} {a ad : Option Addr} {p q : Nat → Nat} {f : Nat → Int × Int × Int}

theorem take_mem (h : j < L.length) : (e ∈ L.take (j + 1)) ↔ (e ∈ L.take j ∨ L.getD j (0, 0) = e) := by
  rw [List.take_add_one, List.mem_append, List.getElem?_eq_getElem h, List.getD_eq_getElem?_getD, List.getElem?_eq_getElem h]
  simp [eq_comm]

end Go.Proofs.YtcfemppdeidjmacGreat.To
