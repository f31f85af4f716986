/-
  The map of the edges that are there, as package asks keeps it: of each the place of its span.
-/
import Derived.Test.YtcfemppdeidjmacGreatF19
import Derived.Test.YtcfemppdeidjmacGreatOu
import Derived.Maps.OwnSet
import Derived.Maps.RangeWalk
import Derived.Maps.Ext
import Derived.DeepKeys5
namespace Go.Proofs.YtcfemppdeidjmacGreat.As
open Go.Maps Go.RowKit Go.Deep
open Go.RowKit (Below)
set_option linter.unusedVariables false

theorem Tryz.laidOut : laidOutB Tryz.prog = true := by kernel_rfl
theorem Tryz.rowEdge : (44 : TypeId) < Tryz.prog.types.size := of_decide_eq_true (by kernel_rfl)
theorem Tryz.cellsEdge : Tryz.prog.cellsOf 44 = 2 := by kernel_rfl
theorem Tryz.cellsInt : Tryz.prog.cellsOf 3 = 1 := by kernel_rfl
theorem Tryz.deepEdge : Tryz.prog.keyType 44 = true := by kernel_rfl
theorem Tryz.wideEdge : (match Tryz.prog.underlying 44 with | some (.array _ _) | some (.struct _) => true | _ => false) = true := by kernel_rfl
set_option maxRecDepth 1000000 in
theorem Tryz.lawEdge : Keyed Tryz.prog 44 := Keyed.of_law (deep_law_laid Tryz.laidOut (m := 2) (by omega) Tryz.rowEdge (by kernel_rfl) Tryz.wideEdge)

theorem ev_inj {a b c d : Int} (h : ev a b = ev c d) : a = c ∧ b = d := by
  simp [ev] at h; exact h

/-- What one cell that is a number reads as, as a part of a key. -/
theorem lits_int {P : Program} {t : TypeId} (hu : P.underlying t = some (.int .i64)) (k : Nat) (c : Value) : P.keyLits (k + 1) t [c] = match c with | .int q n => (if q = .i64 ∧ (Lit.int .i64 n).wf = true then some [.int .i64 n] else none) | _ => none := by
  unfold Program.keyLits
  rw [hu]
  cases c <;> rfl

/-- .. and two of them. -/
theorem lits_two {P : Program} {t i : TypeId} {f0 f1 : Field} (hu : P.underlying t = some (.struct #[f0, f1])) (hc : P.cellsOf t = 2) (hi : P.cellsOf i = 1) (t0 : f0.type = i) (t1 : f1.type = i) (o0 : f0.offset = 0) (o1 : f1.offset = 1) (n0 : (f0.name != "_") = true) (n1 : (f1.name != "_") = true) (k : Nat) (c0 c1 : Value) :
    P.keyLits (k + 2) t [c0, c1] = (P.keyLits (k + 1) i [c0]).bind fun x => (P.keyLits (k + 1) i [c1]).map fun y => x ++ y := by
  conv => lhs; unfold Program.keyLits
  rw [hu]
  simp only [hc, hi, t0, t1, o0, o1, List.length_cons, List.length_nil, List.mapM_cons, List.mapM_nil, List.drop, List.take]
  cases P.keyLits (k + 1) i [c0] <;> cases P.keyLits (k + 1) i [c1] <;> simp [n0, n1]

set_option maxRecDepth 1000000 in
theorem lits_edge (k : Nat) (c0 c1 : Value) : Tryz.prog.keyLits (k + 2) 44 [c0, c1] = (Tryz.prog.keyLits (k + 1) 3 [c0]).bind fun x => (Tryz.prog.keyLits (k + 1) 3 [c1]).map fun y => x ++ y :=
  lits_two Tryz.underlying44 Tryz.cellsEdge Tryz.cellsInt rfl rfl rfl rfl (by decide) (by decide) k c0 c1

theorem fuel_two : ∃ k, Tryz.prog.types.size + 1 = k + 2 := ⟨302 - 1, by kernel_rfl⟩

set_option maxRecDepth 1000000 in
theorem key_is (c0 c1 : Value) : ∃ k, keyOf Tryz.prog 44 (.agg #[c0, c1]) = (((Tryz.prog.keyLits (k + 1) 3 [c0]).bind fun x => (Tryz.prog.keyLits (k + 1) 3 [c1]).map fun y => x ++ y).map fun ls => .string (keyBytes ls)) := by
  obtain ⟨k, hk⟩ := fuel_two
  refine ⟨k, ?_⟩
  rw [← lits_edge, ← hk]
  have hf : (Value.agg #[c0, c1]).formed Tryz.prog 44 = true := by simp only [Value.formed, Tryz.underlying44, Tryz.cellsEdge]; rfl
  unfold keyOf
  rw [Tryz.underlying44]
  simp only [Tryz.deepEdge, hf, Bool.and_self, if_true]
  rfl

set_option maxRecDepth 1000000 in
theorem key_some {a b : Int} (w1 : (Lit.int .i64 a).wf = true) (w2 : (Lit.int .i64 b).wf = true) : ∃ l, keyOf Tryz.prog 44 (ev a b) = some l := by
  obtain ⟨k, hk⟩ := key_is (.int .i64 a) (.int .i64 b)
  rw [lits_int Tryz.underlying3, lits_int Tryz.underlying3] at hk
  simp only [w1, w2, and_self, if_true, Option.bind_some, Option.map_some] at hk
  exact ⟨_, hk⟩

theorem own_exact {H : Type} {P : Program} {k : TypeId} {R : Value → Option (DataW H × List MemPlace)} {w : World} {b n : Nat} {D : DataW H} (h : w.ownsMap P k R b n D) : w.ownsMap P k R b (Maps.size D) D := by
  obtain ⟨es, clock, hb, F, hs, rfl⟩ := h
  exact ⟨es, clock, hb, F, by simp [Maps.size, length_sorted], rfl⟩

theorem ev_mem {E : List (Nat × Nat)} {a b : Nat} : (∃ e ∈ E, ev a b = ev e.1 e.2) ↔ (a, b) ∈ E := by
  constructor
  · rintro ⟨⟨x, y⟩, he, e⟩
    obtain ⟨h1, h2⟩ := ev_inj e
    have h1 : a = x := by omega
    have h2 : b = y := by omega
    rw [h1, h2]; exact he
  · exact fun h => ⟨(a, b), h, rfl⟩

/-- How a number reads that a map holds. -/
def intElem : Value → Option (DataW Unit × List MemPlace)
  | .int .i64 l => some (.lit (.int .i64 l), [])
  | _ => none

theorem intElem_form {v : Value} {y : DataW Unit × List MemPlace} (h : intElem v = some y) : ∃ l : Int, v = .int .i64 l ∧ y = (.lit (.int .i64 l), []) := by
  unfold intElem at h
  split at h
  · rename_i l
    cases h
    exact ⟨l, rfl, rfl⟩
  · cases h

set_option maxRecDepth 1000000 in
theorem zero_int (w : World) : (zeroValue 3).run Tryz.prog w = .ok (.int .i64 0) w := by kernel_rfl

/-- Edges in a map, each with a number. -/
structure OMap (w : World) (mb : Nat) (D : DataW Unit) (A : List (Nat × Nat)) (lv : Nat × Nat → Nat) : Prop where
  own : ∃ m, w.ownsMap Tryz.prog 44 intElem mb m D
  has : ∀ v kl, keyOf Tryz.prog 44 v = some kl → (Maps.has D kl = true ↔ ∃ e ∈ A, v = ev e.1 e.2)
  size : Maps.size D = A.length
  at_ : ∀ e ∈ A, ∀ kl, keyOf Tryz.prog 44 (ev (e.1 : Nat) (e.2 : Nat)) = some kl → ∀ z, D.atKey kl z = .lit (.int .i64 (lv e : Nat))

variable {w w' w'' : World} {mb : Nat} {D : DataW Unit} {A A' : List (Nat × Nat)} {lv lv' : Nat × Nat → Nat} {a b : Nat}

theorem OMap.of_block (h : OMap w mb D A lv) (e : w'.heap[mb]? = w.heap[mb]?) : OMap w' mb D A lv := by
  obtain ⟨m, es, clock, hb, r⟩ := h.own
  exact ⟨⟨m, es, clock, e.trans hb, r⟩, h.has, h.size, h.at_⟩

theorem OMap.isMap (h : OMap w mb D A lv) : ∃ es c, w.heap[mb]? = some (.map es c) := by obtain ⟨m, es, c, hb, _⟩ := h.own; exact ⟨es, c, hb⟩

theorem OMap.lt (h : OMap w mb D A lv) : mb < w.heap.size := by obtain ⟨es, c, hb⟩ := h.isMap; exact (Array.getElem?_eq_some_iff.1 hb).1

theorem OMap.look_ok (h : OMap w mb D A lv) {x y : Int} (hx : (Lit.int .i64 x).wf = true) (hy : (Lit.int .i64 y).wf = true) :
    ∃ (l : Int) (q : Bool), (Instr.lookup 230 (.map (some mb)) (ev x y) true).run Tryz.prog w = .ok (.tuple #[.int .i64 l, .bool q]) w ∧ (q = true ↔ ∃ e ∈ A, ev x y = ev e.1 e.2) ∧ ∀ e ∈ A, ev x y = ev e.1 e.2 → l = (lv e : Nat) := by
  obtain ⟨m, hown⟩ := h.own
  obtain ⟨kl, hkey⟩ := key_some hx hy
  obtain ⟨v, ps, hrun, hv⟩ := hown.look_ok Tryz.lawEdge Tryz.underlying230 (zero_int w) (zd := .lit (.int .i64 0)) (zp := []) rfl hkey
  obtain ⟨l, rfl, e⟩ := intElem_form hv
  refine ⟨l, Maps.has D kl, hrun, h.has _ kl hkey, fun z hz e1 => ?_⟩
  rw [e1] at hkey
  rw [h.at_ z hz kl hkey] at e
  have e2 := e.symm
  simp at e2
  exact e2.1

/-- Two edges that read as one key are one. -/
theorem edge_key {e : Nat × Nat} {kl : Lit} (h1 : keyOf Tryz.prog 44 (ev (a : Nat) (b : Nat)) = some kl) (h2 : keyOf Tryz.prog 44 (ev (e.1 : Nat) (e.2 : Nat)) = some kl) : e = (a, b) := by
  have := ev_inj (Tryz.lawEdge.inj h2 h1)
  exact Prod.ext (by omega) (by omega)

theorem OMap.put (h : OMap w mb D A lv) (hl : A.length < 1000000) (ha : a < 1000000) (hb : b < 1000000) (l : Nat) (hA : ∀ e, e ∈ A' ↔ e = (a, b) ∨ e ∈ A) (hn : A'.length = A.length + 1) (hni : (a, b) ∉ A)
    (h1 : lv' (a, b) = l) (h2 : ∀ e ∈ A, e ≠ (a, b) → lv' e = lv e) :
    ∃ w' D', (Instr.mapUpdate 230 (.map (some mb)) (ev a b) (.int .i64 (l : Nat))).run Tryz.prog w = .ok () w' ∧ OMap w' mb D' A' lv' ∧ w.mapTurned w' mb := by
  obtain ⟨m, hown⟩ := h.own
  obtain ⟨kl, hkey⟩ := key_some (a := (a : Int)) (b := (b : Int)) (WalkArith.wf_i64 (by omega)) (WalkArith.wf_i64 (by omega))
  obtain ⟨w', hrun, hown', ht⟩ := (own_exact hown).store Tryz.lawEdge Tryz.underlying230 (by rw [h.size]; unfold maxLen; omega) hkey (ps := []) (show intElem (.int .i64 (l : Nat)) = some (.lit (.int .i64 (l : Nat)), []) from rfl)
  refine ⟨w', _, hrun, ⟨⟨_, hown'⟩, fun v k2 hk2 => ?_, ?_, fun e he k2 hk2 z => ?_⟩, ht⟩
  · by_cases e : k2 = kl
    · subst e
      rw [has_put_same hown.isMap (Tryz.lawEdge.key hkey)]
      obtain rfl := Tryz.lawEdge.inj hkey hk2
      simp only [true_iff]
      exact ⟨(a, b), (hA _).2 (Or.inl rfl), rfl⟩
    · rw [has_put_other e, h.has v k2 hk2]
      constructor
      · rintro ⟨x, hx, e1⟩; exact ⟨x, (hA x).2 (Or.inr hx), e1⟩
      · rintro ⟨x, hx, e1⟩
        rcases (hA x).1 hx with rfl | hx
        · rw [e1, hkey] at hk2; cases hk2; exact absurd rfl e
        · exact ⟨x, hx, e1⟩
  · rw [size_put (hown.tidy Tryz.lawEdge), hn, h.size]
    have hh : Maps.has D kl = false := by
      rw [Bool.eq_false_iff]
      exact fun q => hni (ev_mem.1 ((h.has _ kl hkey).1 q))
    rw [hh]; simp
  · by_cases e1 : k2 = kl
    · subst e1
      obtain rfl := edge_key hkey hk2
      rw [h1]
      exact atKey_put_same hown.isMap (Tryz.lawEdge.key hkey) _ _
    · have hne : e ≠ (a, b) := fun q => e1 (by subst q; rw [hkey] at hk2; cases hk2; rfl)
      have heA : e ∈ A := ((hA e).1 he).resolve_left hne
      rw [atKey_put_other e1, h.at_ e heA k2 hk2, h2 e heA hne]

theorem OMap.drop (h : OMap w mb D A lv) (ha : a < 1000000) (hb : b < 1000000) (hn : (a, b) ∉ A') (hp : A.Perm ((a, b) :: A')) (ty : TypeId) :
    ∃ w' D', (Builtin.delete_ #[230, 44] ty #[.map (some mb), ev a b]).run Tryz.prog w = .ok (.tuple #[]) w' ∧ OMap w' mb D' A' lv ∧ w.mapTurned w' mb := by
  obtain ⟨m, hown⟩ := h.own
  obtain ⟨kl, hkey⟩ := key_some (a := (a : Int)) (b := (b : Int)) (WalkArith.wf_i64 (by omega)) (WalkArith.wf_i64 (by omega))
  obtain ⟨w', hrun, hown', ht⟩ := hown.drop Tryz.lawEdge Tryz.underlying230 hkey ty
  refine ⟨w', _, hrun, ⟨⟨_, hown'⟩, fun v k2 hk2 => ?_, ?_, fun e he k2 hk2 z => ?_⟩, ht⟩
  · by_cases e : k2 = kl
    · subst e
      rw [has_del_same]
      obtain rfl := Tryz.lawEdge.inj hkey hk2
      simp only [false_iff, Bool.false_eq_true]
      rw [ev_mem]; exact hn
    · rw [has_del_other e, h.has v k2 hk2]
      constructor
      · rintro ⟨x, hx, e1⟩
        rcases List.mem_cons.1 (hp.mem_iff.1 hx) with rfl | hx
        · rw [e1, hkey] at hk2; cases hk2; exact absurd rfl e
        · exact ⟨x, hx, e1⟩
      · rintro ⟨x, hx, e1⟩; exact ⟨x, hp.mem_iff.2 (List.mem_cons_of_mem _ hx), e1⟩
  · have hh : Maps.has D kl = true := (h.has _ kl hkey).2 (ev_mem.2 (hp.mem_iff.2 (List.mem_cons_self ..)))
    have := size_del (k := kl) (hown.tidy Tryz.lawEdge)
    rw [hh, h.size, hp.length_eq] at this
    simp at this
    exact this
  · have e1 : k2 ≠ kl := fun q => hn (by subst q; obtain rfl := edge_key hkey hk2; exact he)
    rw [atKey_del_other e1]
    exact h.at_ e (hp.mem_iff.2 (List.mem_cons_of_mem _ he)) k2 hk2 z

end Go.Proofs.YtcfemppdeidjmacGreat.As
