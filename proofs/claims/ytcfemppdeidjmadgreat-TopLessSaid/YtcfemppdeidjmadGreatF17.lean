/-
  Are two lists of edges, or of numbers, the same? What package bridge is to answer.
  The statements' own numbers in decimal: Dec, Number.
  The statements' own events: EventFault, EventText.
  The statements' own events: Split, EventOf.
  The statements' own events: EventOf.
  The statements' own events: EventOf, to its end.
  Two texts in a row of one's own (for EventOf).
  The statements' own events: EventOf, walked to its end.
  Edges as bytes: what the statements' own BytesOf tells.
  The statements' own answer: which edge is wrong first, and how.
  Bytes as edges: what the statements' own EdgesOf tells.
-/
import Derived.Test.YtcfemppdeidjmadGreatF16
import Derived.Test.YtcfemppdeidjmadGreatNa
namespace Go.Proofs.YtcfemppdeidjmadGreat.Br
open Go.RowKit Go.Deep
open Go.RowKit (Below)
set_option linter.unusedVariables false

variable {w w' : World} {E : List (Nat × Nat)} {l : List Nat} {f : Nat → Int × Int}

/-- A list of numbers, as it lies in memory. -/
structure IntsAt (w : World) (a : Option Addr) (n : Nat) (l : List Nat) : Prop where
  len : l.length = n
  cell : ∀ i, i < n → ∃ b o, a = some ⟨b, o, none⟩ ∧ w.cell? ⟨b, o + i, none⟩ = some (.int .i64 ((l.getD i 0 : Nat) : Int))

theorem IntsAt.below {a : Option Addr} {n : Nat} (h : IntsAt w a n l) (hb : Below w.heap.size w w') : IntsAt w' a n l := ⟨h.len, fun i hi => by
  obtain ⟨b, o, e, q⟩ := h.cell i hi
  exact ⟨b, o, e, cell_keep hb q⟩⟩

theorem edges_none (w : World) (a : Option Addr) : EdgesAt w a [] := ⟨fun i hi => absurd hi (Nat.not_lt_zero _)⟩
theorem ints_none (w : World) (a : Option Addr) : IntsAt w a 0 [] := ⟨rfl, fun i hi => absurd hi (Nat.not_lt_zero _)⟩

/-- Edges, as they lie in memory. -/
def EgAt (w : World) (a : Option Addr) (m : Nat) (f : Nat → Int × Int) : Prop :=
  ∀ i, i < m → ∃ b o, a = some ⟨b, o, none⟩ ∧ w.cell? ⟨b, o + i * 2, none⟩ = some (.int .i64 (f i).1) ∧ w.cell? ⟨b, o + i * 2 + 1, none⟩ = some (.int .i64 (f i).2)

theorem EgAt.below {a : Option Addr} {m : Nat} (h : EgAt w a m f) (hb : Below w.heap.size w w') : EgAt w' a m f := fun i hi => by
  obtain ⟨b, o, e, h1, h2⟩ := h i hi
  exact ⟨b, o, e, cell_keep hb h1, cell_keep hb h2⟩

/-- Edges that may be, as a list. -/
theorem EgAt.list {a : Option Addr} {m n : Nat} (h : EgAt w a m f) (hm : ∀ j, j < m → May n f j) : EdgesAt w a (edges f m) := ⟨fun i hi => by
  rw [edges_len] at hi
  obtain ⟨b, o, e, h1, h2⟩ := h i hi
  have hs := (hm i hi).1
  unfold Sane at hs
  rw [edges_getD hi]
  refine ⟨b, o, e, ?_, ?_⟩
  · show _ = some (Value.int .i64 (((f i).1.toNat : Nat) : Int))
    rw [Int.toNat_of_nonneg (by omega)]; exact h1
  · show _ = some (Value.int .i64 (((f i).2.toNat : Nat) : Int))
    rw [Int.toNat_of_nonneg (by omega)]; exact h2⟩

/-- Numbers as cells. -/
def ints (l : List Nat) : List Value := l.map fun x => Value.int .i64 ((x : Nat) : Int)

theorem ints_snoc (l : List Nat) (x : Nat) : ints (l ++ [x]) = ints l ++ [.int .i64 ((x : Nat) : Int)] := by simp [ints]

/-- An own row of numbers. -/
theorem own_ints {base n : Nat} {v : Value} {l : List Nat} (h : w.ownsRow base 3 1 v n (ints l)) (hn : l.length = n) : ∃ a c, v = .slice a n c ∧ IntsAt w a n l := by
  rcases h.2 with ⟨hv, h0⟩ | ⟨g', cap', cur, hv, hb, hg, h1, h2, h3, h4⟩
  · subst h0
    exact ⟨none, 0, hv, ⟨hn, fun i hi => by omega⟩⟩
  · subst hv
    refine ⟨_, _, rfl, ⟨hn, fun i hi => ⟨g', 0, rfl, ?_⟩⟩⟩
    have hi2 : i < l.length := by omega
    have e1 : (cur.toList.take (n * 1))[i]? = some (Value.int .i64 ((l.getD i 0 : Nat) : Int)) := by
      rw [h4, ints, List.getElem?_map, List.getElem?_eq_getElem hi2, List.getD_eq_getElem?_getD, List.getElem?_eq_getElem hi2]; rfl
    rw [List.getElem?_take, if_pos (by omega)] at e1
    simp only [World.cell?, hg, Nat.zero_add]
    simpa using e1

/-- The list of all nodes' least fellows. -/
def parts (n : Nat) (p : Nat → Nat) : List Nat := (List.range n).map p

theorem parts_at {k n : Nat} {p : Nat → Nat} (h : ∀ i, i < n → w.cell? ⟨k, i, none⟩ = some (.int .i64 (p i : Nat))) : IntsAt w (some ⟨k, 0, none⟩) n (parts n p) := ⟨by simp [parts], fun i hi => ⟨k, 0, rfl, by
  rw [Nat.zero_add, h i hi]
  simp [parts, List.getD_eq_getElem?_getD, hi]⟩⟩

/-- The edges of a list, as a function. -/
def fn (F : List (Nat × Nat)) : Nat → Int × Int := fun i => (((F.getD i (0, 0)).1 : Nat), ((F.getD i (0, 0)).2 : Nat))

theorem fn_edges (F : List (Nat × Nat)) : edges (fn F) F.length = F := by
  refine List.ext_getElem? fun i => ?_
  rcases Nat.lt_or_ge i F.length with h | h
  · rw [edges_get h, List.getElem?_eq_getElem h]
    simp [fn, List.getD_eq_getElem?_getD, List.getElem?_eq_getElem h]
  · rw [List.getElem?_eq_none (by rw [edges_len]; exact h), List.getElem?_eq_none h]

theorem fn_may {F : List (Nat × Nat)} {n : Nat} (hu : Up F) (hl : ∀ e ∈ F, e.1 < e.2 ∧ e.2 < n) : ∀ j, j < F.length → May n (fn F) j := fun j hj => by
  have e1 : ∀ i (h : i < F.length), F.getD i (0, 0) = F[i] := fun i h => by simp [List.getD_eq_getElem?_getD, List.getElem?_eq_getElem h]
  refine ⟨?_, fun h0 => ?_⟩
  · have := hl _ (List.getElem_mem hj)
    unfold Sane fn
    rw [e1 j hj]
    refine ⟨?_, ?_, ?_⟩ <;> show _ <;> simp <;> omega
  · have := List.pairwise_iff_getElem.1 hu (j - 1) j (by omega) hj (by omega)
    unfold fn
    rw [e1 j hj, e1 (j - 1) (by omega)]
    show ((F[j - 1].1 : Nat) : Int) < _ ∨ _ = _ ∧ ((F[j - 1].2 : Nat) : Int) < _
    simp
    omega

theorem fn_at {a : Option Addr} {F : List (Nat × Nat)} (h : EdgesAt w a F) : EgAt w a F.length (fn F) := fun i hi => h.cell i hi

end Go.Proofs.YtcfemppdeidjmadGreat.Br

namespace Go.Proofs.YtcfemppdeidjmadGreat.Nt
open Go.RowKit Go.Deep Go.Proofs.YtcfemppdeidjmadGreat.Br
open Go.RowKit (Below)
set_option linter.unusedVariables false

variable {w w' : World}

def str (l : List UInt8) : ByteArray := ⟨l.toArray⟩

theorem digit_at {d : Nat} (h : d < 10) : (ByteArray.mk #[48, 49, 50, 51, 52, 53, 54, 55, 56, 57]).extract d (d + 1) = str [UInt8.ofNat (48 + d)] := by
  have : d = 0 ∨ d = 1 ∨ d = 2 ∨ d = 3 ∨ d = 4 ∨ d = 5 ∨ d = 6 ∨ d = 7 ∨ d = 8 ∨ d = 9 := by omega
  rcases this with rfl | rfl | rfl | rfl | rfl | rfl | rfl | rfl | rfl | rfl <;> decide

theorem str_app (a b : List UInt8) : str a ++ str b = str (a ++ b) := by
  unfold str
  rw [ByteArray.mk_append_mk]

theorem str_nil : (ByteArray.mk #[]) = str [] := rfl

theorem str_size (l : List UInt8) : (str l).size = l.length := by simp [str, ByteArray.size]

/-- What Number tells. -/
def NumIs (l : List UInt8) (x : Int) : Prop := (Numeral l ∧ x = (val l : Nat)) ∨ (¬ Numeral l ∧ x = -1)

theorem val_lt {l : List UInt8} : ∀ (k : Nat), l.length ≤ k → (∀ c ∈ l, Dig c) → val l < 10 ^ k := by
  intro k
  induction k generalizing l with
  | zero =>
    intro hl _
    have : l = [] := List.eq_nil_of_length_eq_zero (by omega)
    subst this
    decide
  | succ k ih =>
    intro hl hd
    rcases List.eq_nil_or_concat l with rfl | ⟨r, c, rfl⟩
    · exact Nat.pow_pos (by decide)
    · rw [List.concat_eq_append] at hl hd ⊢
      rw [List.length_append] at hl
      have h1 := ih (l := r) (by simp at hl; omega) fun d hd' => hd d (List.mem_append_left _ hd')
      have h2 := hd c (by simp)
      unfold Dig at h2
      rw [val_snoc, Nat.pow_succ]
      omega

theorem str_get (l : List UInt8) (i : Nat) (h : i < (str l).size) : (str l)[i]'h = l.getD i 0 := by
  have h' : i < l.length := by rw [str_size] at h; exact h
  rw [List.getD_eq_getElem?_getD, List.getElem?_eq_getElem h']
  simp [str, ByteArray.getElem_eq_getElem_data]

end Go.Proofs.YtcfemppdeidjmadGreat.Nt

namespace Go.Proofs.YtcfemppdeidjmadGreat.Nt
open Go.RowKit Go.Deep Go.Proofs.YtcfemppdeidjmadGreat.Br
open Go.RowKit (Below)
set_option linter.unusedVariables false

variable {w w' : World}

/-- An event that may be written. -/
def EvOk (k a b : Int) : Prop := (1 ≤ k ∧ k ≤ 3) ∧ (0 ≤ a ∧ a < 60) ∧ (0 ≤ b ∧ b < 60)

def evv (k a b : Int) : Value := .agg #[.int .i64 k, .int .i64 a, .int .i64 b]

theorem mark_at {k : Nat} (h : 1 ≤ k ∧ k ≤ 3) : (ByteArray.mk #[43, 45, 63]).extract (k - 1) k = str [mark k] := by
  have : k = 1 ∨ k = 2 ∨ k = 3 := by omega
  rcases this with rfl | rfl | rfl <;> decide

theorem str_blank : (ByteArray.mk #[32]) = str [32] := rfl

end Go.Proofs.YtcfemppdeidjmadGreat.Nt

namespace Go.Proofs.YtcfemppdeidjmadGreat.Nt
open Go.RowKit Go.Deep Go.Proofs.YtcfemppdeidjmadGreat.Br
open Go.RowKit (Below)
set_option linter.unusedVariables false

variable {w w' : World}

theorem Tryz.infoStr : (Tryz.prog.info? 9).map (fun i => (i.zero, i.size, i.bytes)) = some (some (.string (ByteArray.mk #[])), 1, 16) := by kernel_rfl

def strs (ps : List (List UInt8)) : List Value := ps.map fun p => Value.string (str p)
theorem strs_snoc (ps : List (List UInt8)) (p : List UInt8) : strs (ps ++ [p]) = strs ps ++ [.string (str p)] := by simp [strs]

theorem str_cut (l : List UInt8) (i j : Nat) : (str l).extract i j = str ((l.take j).drop i) := by
  unfold str
  rw [ByteArray.extract_mk]
  congr 1
  apply Array.ext'
  simp [List.drop_take]

theorem pieces_len (l : List UInt8) : (pieces l).length ≤ l.length + 1 := by
  induction l with
  | nil => simp [pieces_nil]
  | cons c r ih =>
    by_cases h : c = 32
    · subst h; rw [pieces_blank]; simp; omega
    · rw [pieces_cons r h]
      obtain ⟨p, ps, e⟩ := pieces_ne r
      rw [e] at ih ⊢
      simp [glue] at ih ⊢
      omega

end Go.Proofs.YtcfemppdeidjmadGreat.Nt

namespace Go.Proofs.YtcfemppdeidjmadGreat.Nt
open Go.RowKit Go.Deep Go.Proofs.YtcfemppdeidjmadGreat.Br
open Go.RowKit (Below)
set_option linter.unusedVariables false

variable {w w' : World}

/-- What EventOf tells. -/
def Tells (l : List UInt8) (e : Ending) : Prop := (∃ k a b : Int, TextIs l (k, a, b) ∧ e = .returned (.tuple #[evv k a b, .int .i64 0])) ∨ ((∀ x, ¬ TextIs l x) ∧ e = .returned (.tuple #[evv 0 0 0, .int .i64 5]))

theorem text_cons {c : UInt8} {r : List UInt8} {x : Int × Int × Int} (h : TextIs (c :: r) x) : ∃ p q, pieces r = [p, q] ∧ ∃ k a b : Nat, (1 ≤ k ∧ k ≤ 3) ∧ a ≤ 59 ∧ b ≤ 59 ∧ c = mark k ∧ p = dgt a ∧ q = dgt b ∧ x = (((k : Nat) : Int), ((a : Nat) : Int), ((b : Nat) : Int)) := by
  obtain ⟨k, a, b, hk, ha, hb, rfl, e⟩ := h
  unfold text at e
  injection e with e1 e2
  subst e2
  exact ⟨_, _, text_pieces ha hb, k, a, b, hk, ha, hb, e1, rfl, rfl, rfl⟩

theorem results_row_tmp {P : Program} {fn : Func} {p u : Tmp} {ty : TypeId} (h : fn.results = #[.cell p ty, .tmp u]) (tmps : Array Value) (w : World) (g : Nat) (t : TypeId) (cs : Array Value) (fr : Nat × Nat) (d : TypeDesc)
    (hp : tmps.getD p undef = .pointer (some ⟨g, 0, none⟩)) (hg : w.heap[g]? = some (.cells cs t fr))
    (hu : P.underlying ty = some d) (hd : (match d with | .struct _ | .array _ _ => true | _ => false) = true) (hi : (P.info? ty).map (·.size) = some cs.size) :
    (results fn tmps).run P w = .ok (.tuple #[.agg cs, tmps.getD u undef]) w := by
  rw [results_cell_tmp h, hp]
  simp [asAddr, run_loadVar_row w g t ty cs fr d hg hu hd hi]

set_option maxRecDepth 1000000 in
theorem Tryz.sizeEvent : (Tryz.prog.info? 62).map (·.size) = some 3 := by kernel_rfl

theorem str_tail (c : UInt8) (r : List UInt8) (n : Nat) (h : n = r.length + 1) : (str (c :: r)).extract 1 n = str r := by
  rw [str_cut, h]
  simp

/-- Three numbers in a block. -/
def cells3 (x y z : Int) : Nat → Value := fun i => if i = 0 then .int .i64 x else if i = 1 then .int .i64 y else .int .i64 z

theorem row3_new (w : World) (x y z : Int) : (w.alloc (.cells #[.int .i64 x, .int .i64 y, .int .i64 z] 62)).rowIs w.heap.size 62 3 (cells3 x y z) :=
  World.rowIs_alloc w #[.int .i64 x, .int .i64 y, .int .i64 z] 62 (cells3 x y z) (fun i hi => by
    match i, hi with
    | 0, _ => rfl
    | 1, _ => rfl
    | 2, _ => rfl)

theorem row3_block {b : Nat} {x y z : Int} (h : w.rowIs b 62 3 (cells3 x y z)) : w.heap[b]? = some (.cells #[.int .i64 x, .int .i64 y, .int .i64 z] 62 (0, 0)) := by
  obtain ⟨c, hb, hs, hc⟩ := h
  have e : c = #[.int .i64 x, .int .i64 y, .int .i64 z] := by
    obtain ⟨c⟩ := c
    match c, hs, hc with
    | [p, q, r], _, hc =>
      have h0 := hc 0 (by omega)
      have h1 := hc 1 (by omega)
      have h2 := hc 2 (by omega)
      simp [cells3] at h0 h1 h2
      subst h0 h1 h2
      rfl
  rw [hb, e]

theorem row3_set {b : Nat} {x y z x' y' z' : Int} (h : w.rowIs b 62 3 (cells3 x y z)) : (((w.setCell ⟨b, 0, none⟩ (.int .i64 x')).setCell ⟨b, 1, none⟩ (.int .i64 y')).setCell ⟨b, 2, none⟩ (.int .i64 z')).rowIs b 62 3 (cells3 x' y' z') :=
  (((h.set 0 _).set 1 _).set 2 _).congr fun i hi => by
    match i, hi with
    | 0, _ => rfl
    | 1, _ => rfl
    | 2, _ => rfl

end Go.Proofs.YtcfemppdeidjmadGreat.Nt

namespace Go.Proofs.YtcfemppdeidjmadGreat.Nt
open Go.RowKit Go.Deep Go.Proofs.YtcfemppdeidjmadGreat.Br
open Go.RowKit (Below)
set_option linter.unusedVariables false

variable {w w' : World}

/-- What Number tells is one. -/
theorem num_fun : ∃ nf : List UInt8 → Int, ∀ l, NumIs l (nf l) := by
  refine ⟨fun l => @ite _ (Numeral l) (Classical.propDecidable _) (val l : Nat) (-1), fun l => ?_⟩
  by_cases h : Numeral l
  · exact Or.inl ⟨h, if_pos h⟩
  · exact Or.inr ⟨h, if_neg h⟩

theorem NumIs.one {l : List UInt8} {x y : Int} (h : NumIs l x) (h' : NumIs l y) : x = y := by
  rcases h with ⟨h1, rfl⟩ | ⟨h1, rfl⟩ <;> rcases h' with ⟨h2, rfl⟩ | ⟨h2, rfl⟩
  · rfl
  · exact absurd h1 h2
  · exact absurd h2 h1
  · rfl

/-- A number that may be a node is told by its digits. -/
theorem NumIs.node {l : List UInt8} {x : Int} (h : NumIs l x) : (0 ≤ x ∧ x < 60) ↔ ∃ n : Nat, n ≤ 59 ∧ x = (n : Nat) ∧ l = dgt n := by
  constructor
  · intro hx
    rcases h with ⟨h1, rfl⟩ | ⟨_, rfl⟩
    · exact ⟨val l, by omega, rfl, num_dgt h1 (by omega)⟩
    · omega
  · rintro ⟨n, h1, rfl, -⟩
    omega

/-- Which mark a text begins with. -/
def wh (c : UInt8) : Nat → Nat
  | 0 => 0
  | j + 1 => if mark (j + 1) = c then j + 1 else wh c j

theorem wh_three (c : UInt8) : (wh c 3 = 0 ∧ ∀ k, 1 ≤ k ∧ k ≤ 3 → c ≠ mark k) ∨ (1 ≤ wh c 3 ∧ wh c 3 ≤ 3 ∧ c = mark (wh c 3)) := by
  have e : ∀ i, 1 ≤ i ∧ i ≤ 3 → i = 1 ∨ i = 2 ∨ i = 3 := fun i hi => by omega
  by_cases h3 : mark 3 = c
  · have : wh c 3 = 3 := by unfold wh; rw [if_pos h3]
    exact Or.inr (by rw [this]; exact ⟨by omega, by omega, h3.symm⟩)
  by_cases h2 : mark 2 = c
  · have : wh c 3 = 2 := by unfold wh; rw [if_neg h3]; unfold wh; rw [if_pos h2]
    exact Or.inr (by rw [this]; exact ⟨by omega, by omega, h2.symm⟩)
  by_cases h1 : mark 1 = c
  · have : wh c 3 = 1 := by unfold wh; rw [if_neg h3]; unfold wh; rw [if_neg h2]; unfold wh; rw [if_pos h1]
    exact Or.inr (by rw [this]; exact ⟨by omega, by omega, h1.symm⟩)
  refine Or.inl ⟨by unfold wh; rw [if_neg h3]; unfold wh; rw [if_neg h2]; unfold wh; rw [if_neg h1]; rfl, fun k hk q => ?_⟩
  rcases e k hk with rfl | rfl | rfl
  · exact h1 q.symm
  · exact h2 q.symm
  · exact h3 q.symm

/-- What the parts tell. -/
theorem tells_of {c : UInt8} {r p q : List UInt8} {x y : Int} (hp : pieces r = [p, q]) (hx : NumIs p x) (hy : NumIs q y) : (EvOk (wh c 3 : Nat) x y → TextIs (c :: r) ((wh c 3 : Nat), x, y)) ∧ (¬ EvOk (wh c 3 : Nat) x y → ∀ z, ¬ TextIs (c :: r) z) := by
  refine ⟨fun ⟨h1, h2, h3⟩ => ?_, fun hn z hz => hn ?_⟩
  · obtain ⟨a, a1, rfl, rfl⟩ := hx.node.1 h2
    obtain ⟨b, b1, rfl, rfl⟩ := hy.node.1 h3
    rcases wh_three c with ⟨q, _⟩ | ⟨q1, q2, q3⟩
    · omega
    · refine ⟨wh c 3, a, b, ⟨q1, q2⟩, a1, b1, rfl, ?_⟩
      rw [pieces_two hp]
      unfold text
      rw [← q3]
  · obtain ⟨p', q', e, k, a, b, hk, ha, hb, hc, rfl, rfl, -⟩ := text_cons hz
    rw [hp] at e
    injection e with e1 e2
    injection e2 with e2 _
    subst e1 e2
    have hxa : x = (a : Nat) := hx.one (Or.inl ⟨(dgt_num ha).1, by rw [(dgt_num ha).2]⟩)
    have hyb : y = (b : Nat) := hy.one (Or.inl ⟨(dgt_num hb).1, by rw [(dgt_num hb).2]⟩)
    rcases wh_three c with ⟨_, q⟩ | ⟨q1, q2, q3⟩
    · exact absurd hc (q k hk)
    · refine ⟨by omega, by omega, by omega⟩

end Go.Proofs.YtcfemppdeidjmadGreat.Nt

namespace Go.Proofs.YtcfemppdeidjmadGreat.Nt
open Go.RowKit Go.Deep Go.Proofs.YtcfemppdeidjmadGreat.Br
open Go.RowKit (Below)
set_option linter.unusedVariables false

variable {w w' : World}

theorem own_two {base : Nat} {v : Value} {p q : List UInt8} (h : w.ownsRow base 9 1 v 2 (strs [p, q])) : ∃ g cap, v = .slice (some ⟨g, 0, none⟩) 2 cap ∧ w.cell? ⟨g, 0, none⟩ = some (.string (str p)) ∧ w.cell? ⟨g, 1, none⟩ = some (.string (str q)) ∧ g < w.heap.size := by
  rcases h.2 with ⟨hv, h0⟩ | ⟨g', cap', cur, hv, hb, hg, h1, h2, h3, h4⟩
  · cases h0
  · have e : ∀ i u, (strs [p, q])[i]? = some u → i < 2 → w.cell? ⟨g', i, none⟩ = some u := fun i u hu hi => by
      rw [← h4, List.getElem?_take, if_pos (by omega)] at hu
      simp only [World.cell?, hg]
      simpa using hu
    exact ⟨g', cap', hv, e 0 _ rfl (by omega), e 1 _ rfl (by omega), (Array.getElem?_eq_some_iff.1 hg).1⟩

end Go.Proofs.YtcfemppdeidjmadGreat.Nt

namespace Go.Proofs.YtcfemppdeidjmadGreat.Nt
open Go.RowKit Go.Deep Go.Proofs.YtcfemppdeidjmadGreat.Br
open Go.RowKit (Below)
set_option linter.unusedVariables false

variable {w w' : World}

theorem mark_byte {j : Nat} (hj : j < 3) (h : j < (ByteArray.mk #[43, 45, 63]).size) : (ByteArray.mk #[43, 45, 63])[j]'h = mark (j + 1) := by
  match j, hj with
  | 0, _ => rfl
  | 1, _ => rfl
  | 2, _ => rfl

theorem wh_step (c : UInt8) (j : Nat) : wh c (j + 1) = if mark (j + 1) = c then j + 1 else wh c j := rfl

end Go.Proofs.YtcfemppdeidjmadGreat.Nt

namespace Go.Proofs.YtcfemppdeidjmadGreat.Nt
open Go.RowKit Go.Deep Go.Proofs.YtcfemppdeidjmadGreat.Br
open Go.RowKit (Below)
set_option linter.unusedVariables false

variable {w w' : World} {f : Nat → Int × Int} {m n : Nat}

theorem Tryz.infoU8 : (Tryz.prog.info? 5).map (fun i => (i.zero, i.size, i.bytes)) = some (some (.int .u8 0), 1, 1) := by kernel_rfl

def by1 (c : UInt8) : Value := .int .u8 (c.toNat : Int)
def bys (l : List UInt8) : List Value := l.map by1
theorem bys_len (l : List UInt8) : (bys l).length = l.length := by simp [bys]
theorem bys_app (l r : List UInt8) : bys (l ++ r) = bys l ++ bys r := by simp [bys]

/-- An edge's two bytes. -/
def eb (f : Nat → Int × Int) (i : Nat) : List UInt8 := [UInt8.ofNat (f i).1.toNat, UInt8.ofNat (f i).2.toNat]
/-- The bytes as far as the first j edges. -/
def bt (n m : Nat) (f : Nat → Int × Int) (j : Nat) : List UInt8 := UInt8.ofNat n :: UInt8.ofNat m :: (List.range j).flatMap (eb f)

theorem bt_succ (j : Nat) : bt n m f (j + 1) = bt n m f j ++ eb f j := by simp [bt, List.range_succ]
theorem bt_len (j : Nat) : (bt n m f j).length = 2 + 2 * j := by
  induction j with
  | zero => rfl
  | succ j ih => rw [bt_succ, List.length_append, ih]; simp [eb]; omega

theorem two_bytes (w : World) (x y : Int) : ∀ j u, [Value.int .u8 x, Value.int .u8 y][j]? = some u → (w.alloc (.cells #[.int .u8 x, .int .u8 y] 5)).cell? (Addr.add ⟨w.heap.size, 0, none⟩ j) = some u := fun j u hj => by
  match j, hj with
  | 0, hj => cases hj; simp [Addr.add]
  | 1, hj => cases hj; simp [Addr.add]

/-- A row of two bytes that has just been made. -/
theorem own_two_bytes (w : World) (x y : Int) : (w.alloc (.cells #[.int .u8 x, .int .u8 y] 5)).ownsRow w.heap.size 5 1 (.slice (some ⟨w.heap.size, 0, none⟩) 2 2) 2 [.int .u8 x, .int .u8 y] :=
  ⟨rfl, Or.inr ⟨w.heap.size, 2, #[.int .u8 x, .int .u8 y], rfl, Nat.le_refl _, heap_alloc_new _ _, Nat.le_refl _, by decide, rfl, rfl⟩⟩

theorem own_heapB {base e s n : Nat} {v : Value} {xs : List Value} (h : w.ownsRow base e s v n xs) {k : Nat} (hk : v.ownBlock = some k) : base ≤ k ∧ k < w.heap.size := h.lt k hk

/-- What an edge that may be holds. -/
theorem may_num {j : Nat} (hv : Valid (n : Nat) m f) (hj : j < m) : ∃ X Y : Nat, (f j).1 = (X : Nat) ∧ (f j).2 = (Y : Nat) ∧ X < 60 ∧ Y < 60 ∧ eb f j = [UInt8.ofNat X, UInt8.ofNat Y] := by
  have h := (hv.2.2 j hj).1
  unfold Sane at h
  have hn := hv.1
  refine ⟨(f j).1.toNat, (f j).2.toNat, by omega, by omega, by omega, by omega, rfl⟩

end Go.Proofs.YtcfemppdeidjmadGreat.Nt

namespace Go.Proofs.YtcfemppdeidjmadGreat.Br
open Go.RowKit Go.Deep
open Go.RowKit (Below)
set_option linter.unusedVariables false

variable {w w' : World} {f : Nat → Int × Int}

end Go.Proofs.YtcfemppdeidjmadGreat.Br

namespace Go.Proofs.YtcfemppdeidjmadGreat.Nt
open Go.RowKit Go.Deep Go.Proofs.YtcfemppdeidjmadGreat.Br
open Go.RowKit (Below)
set_option linter.unusedVariables false

variable {w w' : World} {g : Nat → Nat} {N : Nat}

/-- Bytes, as they lie in memory. -/
structure BtAt (w : World) (a : Option Addr) (N : Nat) (g : Nat → Nat) : Prop where
  cell : ∀ i, i < N → ∃ b o, a = some ⟨b, o, none⟩ ∧ w.cell? ⟨b, o + i, none⟩ = some (.int .u8 (g i : Nat))
  byte : ∀ i, i < N → g i < 256

theorem BtAt.below {a : Option Addr} (h : BtAt w a N g) (hb : Below w.heap.size w w') : BtAt w' a N g := ⟨fun i hi => by
  obtain ⟨b, o, e, h1⟩ := h.cell i hi
  exact ⟨b, o, e, cell_keep hb h1⟩, h.byte⟩

theorem BtAt.at {b o : Nat} (h : BtAt w (some ⟨b, o, none⟩) N g) {i : Nat} (hi : i < N) : w.cell? ⟨b, o + i, none⟩ = some (.int .u8 (g i : Nat)) := by
  obtain ⟨b', o', e, h1⟩ := h.cell i hi
  simp only [Option.some.injEq, Addr.mk.injEq, and_true] at e
  obtain ⟨rfl, rfl⟩ := e
  exact h1

/-- The edges that bytes may tell. -/
def de (g : Nat → Nat) (i : Nat) : Int × Int := ((g (2 * i + 2) : Nat), (g (2 * i + 1 + 2) : Nat))
/-- Bytes of edges that may be. -/
def Good (N : Nat) (g : Nat → Nat) : Prop := 2 ≤ N ∧ N = 2 + 2 * g 1 ∧ Valid (g 0 : Nat) (g 1) (de g)

theorem eg_de {a : Option Addr} {m : Nat} (h : EdgesAt w a (edges (de g) m)) : EgAt w a m (de g) := fun i hi => by
  obtain ⟨b, o, e, h1, h2⟩ := h.cell i (by rw [edges_len]; exact hi)
  rw [edges_getD hi] at h1 h2
  exact ⟨b, o, e, h1, h2⟩

theorem edges_snoc (f : Nat → Int × Int) (j : Nat) : edges f (j + 1) = edges f j ++ [((f j).1.toNat, (f j).2.toNat)] := by simp [edges, List.range_succ]

end Go.Proofs.YtcfemppdeidjmadGreat.Nt
