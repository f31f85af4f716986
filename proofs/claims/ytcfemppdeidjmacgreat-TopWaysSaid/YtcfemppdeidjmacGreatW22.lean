/-
  Xb
-/
import Derived.Test.YtcfemppdeidjmacGreatW17
import Derived.Test.YtcfemppdeidjmacGreatW21
namespace Go.Proofs.YtcfemppdeidjmacGreat.To
set_option linter.unusedSectionVars false
variable [Inhabited Zed] [Inhabited (PLift ((default : Zed).n ≤ 0))]
open Go.RowKit Go.Deep
open Go.RowKit (Below)
set_option linter.unusedVariables false

variable {w w' wr w0 : World} {G : Gr.GPl} {A E P Q : List (Nat × Nat)} {e : Nat × Nat} {m n j N c : Nat} {a ad : Option Addr} {p q : Nat → Nat}

theorem Dr.n60 (h : Dr w0 G A w) : 1 ≤ G.n ∧ G.n ≤ 60 := by
  obtain ⟨lv, tr, h⟩ := h
  exact ⟨h.ok.mem.n1, h.ok.mem.n60⟩
theorem Dr.up (h : Dr w0 G A w) : Rises A := by
  obtain ⟨lv, tr, h⟩ := h
  exact h.ok.mem.rises
theorem Dr.among (h : Dr w0 G A w) : ∀ e ∈ A, e.1 < e.2 ∧ e.2 < G.n := by
  obtain ⟨lv, tr, h⟩ := h
  exact fun e he => ⟨h.ok.mem.less e he, (h.ok.mem.among e he).2⟩
theorem Dr.few (h : Dr w0 G A w) : A.length ≤ 200 := by
  obtain ⟨lv, tr, h⟩ := h
  exact h.ok.mem.m200
theorem Dr.foot (h : Dr w0 G A w) {b : Nat} (hb : Gr.GFoot G b) : b < w.heap.size := by
  obtain ⟨lv, tr, h⟩ := h
  exact h.ok.mem.foot_lt hb

structure Li (G : Gr.GPl) (w : World) (a : Option Addr) (N c : Nat) (E : List (Nat × Nat)) : Prop where
  at_ : EdgesAt w a E
  off : ∀ g, a = some ⟨g, 0, none⟩ → ¬ Gr.GFoot G g
  len : E.length = N
  le : N ≤ c
  max : c ≤ maxLen

theorem Li.below (h : Li G w a N c E) (hb : Below w.heap.size w w') : Li G w' a N c E := ⟨h.at_.below hb, h.off, h.len, h.le, h.max⟩
theorem Li.br (h : Li G w a N c E) : Br.EdgesAt w a E := ⟨fun i hi => by
  obtain ⟨b, e, h1, h2⟩ := h.at_.cell i hi
  exact ⟨b, 0, e, by rw [Nat.zero_add]; exact h1, by rw [Nat.zero_add]; exact h2⟩⟩
theorem Li.eg (h : Li G w a N c E) : Br.EgAt w a N (Br.fn E) := h.len ▸ Br.fn_at h.br

theorem Dr.valid (h : Dr w0 G A w) (hN : A.length = N) : Br.Valid (G.n : Nat) N (Br.fn A) := ⟨⟨by have := h.n60; omega, by have := h.n60; omega⟩, hN ▸ h.few, by
  rw [Int.toNat_natCast, ← hN]
  exact Br.fn_may h.up h.among⟩
theorem fn_edges (hN : A.length = N) : Br.edges (Br.fn A) N = A := hN ▸ Br.fn_edges A

theorem dr_edges (h : Dr w0 G A w) :
    Calls Tryz.prog 11 #[.pointer (some ⟨G.g, 0, none⟩)] w fun e w' => ∃ ad c, e = .returned (.slice ad A.length c) ∧ Below w.heap.size w w' ∧ Li G w' ad A.length c A := by
  have hf : ∀ b, Gr.GFoot G b → b < w.heap.size := fun b q => h.foot q
  obtain ⟨lv, tr, h⟩ := h
  refine (Gr.gedges_any h.ok A.length rfl).mono ?_
  rintro e w' ⟨ad, c, rfl, hb, hE, ho, h1, h2⟩
  exact ⟨ad, c, rfl, hb, hE, fun b e q => by have := hf b q; have := ho b e; omega, rfl, h1, h2⟩

theorem dr_tree (h : Dr w0 G A w) :
    Calls Tryz.prog 12 #[.pointer (some ⟨G.g, 0, none⟩)] w fun e w' => ∃ ad c T, e = .returned (.slice ad T.length c) ∧ Below w.heap.size w w' ∧ Li G w' ad T.length c T ∧ Rises T ∧ (∀ e ∈ T, e ∈ A) ∧ Forest T ∧ ∀ i j, Conn T i j ↔ Conn A i j := by
  have hf : ∀ b, Gr.GFoot G b → b < w.heap.size := fun b q => h.foot q
  obtain ⟨lv, tr, h⟩ := h
  refine (Gr.gtree_any h.ok _ rfl).mono ?_
  rintro e w' ⟨ad, c, rfl, hb, hE, ho, h1, h2⟩
  refine ⟨ad, c, Fo A lv tr 0, rfl, hb, ⟨hE, fun b e q => by have := hf b q; have := ho b e; omega, rfl, h1, h2⟩, ?_, fun e he => (mem_Fo.1 he).1, h.ok.lev.forest, fun i j => h.ok.lev.tree i j⟩
  unfold Fo
  exact Rises.filter h.ok.mem.rises _

theorem gok_rest {lv : Nat × Nat → Nat} {tr : Nat × Nat → Bool} (h : Gr.GOk w G A lv tr) (hp : Rest A p) : ∃ q, FAt w (G.L 0) (Fo A lv tr 0) q ∧ ∀ i, q i = p i := by
  obtain ⟨q, f⟩ := h.mem.fo 0 h.mem.k0
  exact ⟨q, f, fun i => f.grown.rest.one hp (fun i j => h.lev.tree i j) i⟩

theorem dr_joined (h : Dr w0 G A w) (u v : Nat) (hu : u < G.n) (hv : v < G.n) (q : Bool) (hq : q = true ↔ Conn A u v) :
    Calls Tryz.prog 10 #[.pointer (some ⟨G.g, 0, none⟩), .int .i64 (u : Int), .int .i64 (v : Int)] w fun e w' => e = .returned (.tuple #[.bool q, .nilIface]) ∧ Below w.heap.size w w' := by
  obtain ⟨lv, tr, h⟩ := h
  obtain ⟨p, hp⟩ := rest_of A
  obtain ⟨r, f, e⟩ := gok_rest h.ok hp
  have hj := Gr.joined_any h.ok.mem f u v hu hv
  have hd : decide (r u = r v) = q := by
    rw [e, e, Bool.eq_iff_iff, hq, decide_eq_true_iff]
    exact hp.same u v
  rw [hd] at hj
  exact hj
theorem dr_joined_no (h : Dr w0 G A w) (x y : Int) (hn : ¬ ((0 ≤ x ∧ x < G.n) ∧ 0 ≤ y ∧ y < G.n)) :
    Calls Tryz.prog 10 #[.pointer (some ⟨G.g, 0, none⟩), .int .i64 x, .int .i64 y] w fun e w' => e = .returned (.tuple #[.bool false, .iface 102 (.int .i64 1)]) ∧ Below w.heap.size w w' := by
  obtain ⟨lv, tr, h⟩ := h
  exact Gr.joined_no h.ok.mem x y hn

theorem dr_parts (h : Dr w0 G A w) (hp : Rest A p) (N : Nat) (hN : partsOf G.n p = N) :
    Calls Tryz.prog 23 #[.pointer (some ⟨G.g, 0, none⟩)] w fun e w' => e = .returned (.int .i64 (N : Nat)) ∧ Below w.heap.size w w' := by
  obtain ⟨lv, tr, h⟩ := h
  obtain ⟨r, f, e⟩ := gok_rest h.ok hp
  have h1 := (forest_parts (n := G.n) (fun e he => h.ok.lev.among e (mem_Fo.1 he).1) f.grown.rest).2.1 h.ok.lev.forest
  have h2 : partsOf G.n r = partsOf G.n p := cnt_congr _ fun i _ => by rw [e]
  have hg := Gr.gparts_any h.ok _ rfl
  have h3 : G.n - (Fo A lv tr 0).length = N := by omega
  rw [h3] at hg
  exact hg

theorem dr_size (h : Dr w0 G A w) (hp : Rest A p) (u : Nat) (hu : u < G.n) (N : Nat) (hN : cnt G.n (fun x => decide (p x = p u)) = N) :
    Calls Tryz.prog 22 #[.pointer (some ⟨G.g, 0, none⟩), .int .i64 (u : Int)] w fun e w' => e = .returned (.tuple #[.int .i64 (N : Nat), .nilIface]) ∧ Below w.heap.size w w' := by
  obtain ⟨lv, tr, h⟩ := h
  obtain ⟨r, f, e⟩ := gok_rest h.ok hp
  refine Gr.gsize_any h.ok.mem f u hu N ?_
  rw [nodesOf_len, ← hN]
  refine cnt_congr _ fun i _ => ?_
  rw [e, e]

end Go.Proofs.YtcfemppdeidjmacGreat.To
