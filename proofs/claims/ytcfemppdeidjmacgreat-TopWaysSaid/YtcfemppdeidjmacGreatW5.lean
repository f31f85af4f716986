/-
  Tk
-/
import Derived.Maps.OwnSet
import Derived.Maps.RangeWalk
import Derived.Maps.Ext
import Derived.DeepKeys5
import Derived.Test.YtcfemppdeidjmacGreatChecked
import Derived.Test.YtcfemppdeidjmacGreatW4
namespace Go.Proofs.YtcfemppdeidjmacGreat
open Go.Maps

theorem Tryz.laidOut : laidOutB Tryz.prog = true := by kernel_rfl
theorem Tryz.rowEdge : (44 : TypeId) < Tryz.prog.types.size := of_decide_eq_true (by kernel_rfl)
theorem Tryz.cellsEdge : Tryz.prog.cellsOf 44 = 2 := by kernel_rfl
theorem Tryz.cellsInt : Tryz.prog.cellsOf 3 = 1 := by kernel_rfl
theorem Tryz.deepEdge : Tryz.prog.keyType 44 = true := by kernel_rfl
theorem Tryz.wideEdge : (match Tryz.prog.underlying 44 with | some (.array _ _) | some (.struct _) => true | _ => false) = true := by kernel_rfl
set_option maxRecDepth 1000000 in
theorem Tryz.lawEdge : Keyed Tryz.prog 44 := Keyed.of_law (deep_law_laid Tryz.laidOut (m := 2) (by omega) Tryz.rowEdge (by kernel_rfl) Tryz.wideEdge)
theorem Tryz.lawInt : Keyed Tryz.prog 3 := int_keyed Tryz.underlying3

def ev (a b : Int) : Value := .agg #[.int .i64 a, .int .i64 b]

theorem ev_inj {a b c d : Int} (h : ev a b = ev c d) : a = c ∧ b = d := by
  simp [ev] at h; exact h

theorem lits_int {P : Program} {t : TypeId} (hu : P.underlying t = some (.int .i64)) (k : Nat) (c : Value) : P.keyLits (k + 1) t [c] = match c with | .int q n => (if q = .i64 ∧ (Lit.int .i64 n).wf = true then some [.int .i64 n] else none) | _ => none := by
  unfold Program.keyLits
  rw [hu]
  cases c <;> rfl

theorem lits_two {P : Program} {t i : TypeId} {f0 f1 : Field} (hu : P.underlying t = some (.struct #[f0, f1])) (hc : P.cellsOf t = 2) (hi : P.cellsOf i = 1) (t0 : f0.type = i) (t1 : f1.type = i) (o0 : f0.offset = 0) (o1 : f1.offset = 1) (n0 : (f0.name != "_") = true) (n1 : (f1.name != "_") = true) (k : Nat) (c0 c1 : Value) :
    P.keyLits (k + 2) t [c0, c1] = (P.keyLits (k + 1) i [c0]).bind fun x => (P.keyLits (k + 1) i [c1]).map fun y => x ++ y := by
  conv => lhs; unfold Program.keyLits
  rw [hu]
  simp only [hc, hi, t0, t1, o0, o1, List.length_cons, List.length_nil, List.mapM_cons, List.mapM_nil, List.drop, List.take]
  cases P.keyLits (k + 1) i [c0] <;> cases P.keyLits (k + 1) i [c1] <;> simp [n0, n1]

set_option maxRecDepth 1000000 in
theorem lits_edge (k : Nat) (c0 c1 : Value) : Tryz.prog.keyLits (k + 2) 44 [c0, c1] = (Tryz.prog.keyLits (k + 1) 3 [c0]).bind fun x => (Tryz.prog.keyLits (k + 1) 3 [c1]).map fun y => x ++ y :=
  lits_two Tryz.underlying44 Tryz.cellsEdge Tryz.cellsInt rfl rfl rfl rfl (by decide) (by decide) k c0 c1

theorem fuel_two : ∃ k, Tryz.prog.types.size + 1 = k + 2 := ⟨302 - 1, by kernel_rfl⟩

set_option maxRecDepth 1000000 in
theorem key_is (c0 c1 : Value) : ∃ k, keyOf Tryz.prog 44 (.agg #[c0, c1]) = (((Tryz.prog.keyLits (k + 1) 3 [c0]).bind fun x => (Tryz.prog.keyLits (k + 1) 3 [c1]).map fun y => x ++ y).map fun ls => .string (keyBytes ls)) := by
  obtain ⟨k, hk⟩ := fuel_two
  refine ⟨k, ?_⟩
  rw [← lits_edge, ← hk]
  have hf : (Value.agg #[c0, c1]).formed Tryz.prog 44 = true := by simp only [Value.formed, Tryz.underlying44, Tryz.cellsEdge]; rfl
  unfold keyOf
  rw [Tryz.underlying44]
  simp only [Tryz.deepEdge, hf, Bool.and_self, if_true]
  rfl

set_option maxRecDepth 1000000 in
theorem key_some (a b : Nat) (ha : a < 1000000) (hb : b < 1000000) : ∃ l, keyOf Tryz.prog 44 (ev a b) = some l := by
  have w1 : (Lit.int .i64 (a : Int)).wf = true := WalkArith.wf_i64 (by omega)
  have w2 : (Lit.int .i64 (b : Int)).wf = true := WalkArith.wf_i64 (by omega)
  obtain ⟨k, hk⟩ := key_is (.int .i64 a) (.int .i64 b)
  rw [lits_int Tryz.underlying3, lits_int Tryz.underlying3] at hk
  simp only [w1, w2, and_self, if_true, Option.bind_some, Option.map_some] at hk
  exact ⟨_, hk⟩

set_option maxRecDepth 1000000 in
theorem key_form {v : Value} {kl : Lit} (h : keyOf Tryz.prog 44 v = some kl) : ∃ a b : Int, v = ev a b := by
  have hf : v.formed Tryz.prog 44 = true := by
    unfold keyOf at h
    rw [Tryz.underlying44] at h
    simp only at h
    split at h
    · rename_i hc
      rw [Bool.and_eq_true] at hc
      exact hc.2
    · cases h
  cases v with
  | agg cs =>
    simp only [Value.formed, Tryz.underlying44, Tryz.cellsEdge] at hf
    obtain ⟨l⟩ := cs
    match l, hf with
    | [c0, c1], _ =>
      obtain ⟨k, hk⟩ := key_is c0 c1
      rw [hk, lits_int Tryz.underlying3, lits_int Tryz.underlying3] at h
      cases c0 <;> first | (simp at h; done) | skip
      cases c1 <;> first | (simp at h; done) | skip
      rename_i q a q' b _
      simp only at h
      by_cases h1 : q = .i64 ∧ (Lit.int .i64 a).wf = true
      · by_cases h2 : q' = .i64 ∧ (Lit.int .i64 b).wf = true
        · exact ⟨a, b, by rw [h1.1, h2.1]; rfl⟩
        · rw [if_neg h2] at h; simp at h
      · rw [if_neg h1] at h; simp at h
  | _ => simp only [Value.formed, Tryz.underlying44] at hf; cases hf

def ptrElem : Value → Option (DataW Unit × List MemPlace)
  | .pointer none => some (.nil, [])
  | .pointer (some ⟨b, 0, none⟩) => some (.lit (.int .i64 (b : Int)), [])
  | _ => none

theorem ptr_inv {v : Value} {b : Nat} {ps : List MemPlace} (h : ptrElem v = some (.lit (.int .i64 (b : Int)), ps)) : v = .pointer (some ⟨b, 0, none⟩) := by
  unfold ptrElem at h
  split at h
  · simp at h
  · rename_i c
    simp at h
    rw [show c = b by omega]
  · cases h

theorem own_exact {H : Type} {P : Program} {k : TypeId} {R : Value → Option (DataW H × List MemPlace)} {w : World} {b n : Nat} {D : DataW H} (h : w.ownsMap P k R b n D) : w.ownsMap P k R b (Maps.size D) D := by
  obtain ⟨es, clock, hb, F, hs, rfl⟩ := h
  exact ⟨es, clock, hb, F, by simp [Maps.size, length_sorted], rfl⟩

theorem keys_size {D : DataW Unit} {n : Nat} (hc : Canon D) (h : ∀ kl, Maps.has D kl = true → ∃ r : Nat, r < n ∧ kl = .int .i64 (r : Int)) : Maps.size D ≤ n := by
  obtain ⟨es, rfl, hp, hk⟩ := hc
  have h1 : (es.map (·.1)).Nodup := by
    rw [List.Nodup, List.pairwise_map]
    exact apart_of_rising hp
  have h2 : es.map (·.1) ⊆ (List.range n).map fun r : Nat => Lit.int .i64 (r : Int) := by
    intro x hx
    obtain ⟨p, hp', rfl⟩ := List.mem_map.1 hx
    obtain ⟨r, hr, e⟩ := h p.1 (by rw [has_eq, List.any_eq_true]; exact ⟨p, hp', WideAt.sameKey_self (hk p hp')⟩)
    rw [e]
    exact List.mem_map.2 ⟨r, List.mem_range.2 hr, rfl⟩
  have := h1.length_le_of_subset h2
  simpa [Maps.size] using this

theorem key_int (r : Nat) (h : r < 1000000) : keyOf Tryz.prog 3 (.int .i64 (r : Int)) = some (.int .i64 (r : Int)) := keyOf_int_mk Tryz.underlying3 (WalkArith.wf_i64 (by omega))

set_option maxRecDepth 1000000 in
theorem zero_ptr (w : World) : (zeroValue 110).run Tryz.prog w = .ok (.pointer none) w := by kernel_rfl
set_option maxRecDepth 1000000 in
theorem zero_unit (w : World) : (zeroValue 115).run Tryz.prog w = .ok (.agg #[]) w := by kernel_rfl

theorem ways_look {w : World} {wb m : Nat} {D : DataW Unit} (h : w.ownsMap Tryz.prog 3 ptrElem wb m D) (r b : Nat) (hr : r < 1000000) (hat : ∀ z, D.atKey (.int .i64 (r : Int)) z = .lit (.int .i64 (b : Int))) :
    (Instr.lookup 105 (.map (some wb)) (.int .i64 (r : Int)) false).run Tryz.prog w = .ok (.pointer (some ⟨b, 0, none⟩)) w := by
  obtain ⟨v, ps, hrun, hv⟩ := h.lookup Tryz.lawInt Tryz.underlying105 (zero_ptr w) (zd := .nil) (zp := []) rfl (key_int r hr)
  rw [hat] at hv
  rw [hrun, ptr_inv hv]

theorem ways_store {w : World} {wb m : Nat} {D : DataW Unit} (h : w.ownsMap Tryz.prog 3 ptrElem wb m D) (hm : m < 1000000) (r b : Nat) (hr : r < 1000000) :
    ∃ w', (Instr.mapUpdate 105 (.map (some wb)) (.int .i64 (r : Int)) (.pointer (some ⟨b, 0, none⟩))).run Tryz.prog w = .ok () w' ∧ w'.ownsMap Tryz.prog 3 ptrElem wb (m + 1) (D.put (.int .i64 (r : Int)) (.lit (.int .i64 (b : Int)))) ∧ w.mapTurned w' wb :=
  h.store Tryz.lawInt Tryz.underlying105 (by unfold maxLen; omega) (key_int r hr) (ps := []) rfl

theorem ways_drop {w : World} {wb m : Nat} {D : DataW Unit} (h : w.ownsMap Tryz.prog 3 ptrElem wb m D) (r : Nat) (hr : r < 1000000) (ty : TypeId) :
    ∃ w', (Builtin.delete_ #[105, 3] ty #[.map (some wb), .int .i64 (r : Int)]).run Tryz.prog w = .ok (.tuple #[]) w' ∧ w'.ownsMap Tryz.prog 3 ptrElem wb m (D.del (.int .i64 (r : Int))) ∧ w.mapTurned w' wb :=
  h.drop Tryz.lawInt Tryz.underlying105 (key_int r hr) ty

structure ESet (w : World) (eb : Nat) (D : DataW Unit) (E : List (Nat × Nat)) : Prop where
  own : ∃ m, w.ownsMap Tryz.prog 44 unitElem eb m D
  has : ∀ v kl, keyOf Tryz.prog 44 v = some kl → (Maps.has D kl = true ↔ ∃ e ∈ E, v = ev e.1 e.2)
  size : Maps.size D = E.length

theorem ev_mem {E : List (Nat × Nat)} {a b : Nat} : (∃ e ∈ E, ev a b = ev e.1 e.2) ↔ (a, b) ∈ E := by
  constructor
  · rintro ⟨⟨x, y⟩, he, e⟩
    obtain ⟨h1, h2⟩ := ev_inj e
    have h1 : a = x := by omega
    have h2 : b = y := by omega
    rw [h1, h2]; exact he
  · exact fun h => ⟨(a, b), h, rfl⟩

theorem ESet.look {w : World} {eb : Nat} {D : DataW Unit} {E : List (Nat × Nat)} (h : ESet w eb D E) (a b : Nat) (ha : a < 1000000) (hb : b < 1000000) (q : Bool) (hq : q = true ↔ (a, b) ∈ E) :
    (Instr.lookup 106 (.map (some eb)) (ev a b) true).run Tryz.prog w = .ok (.tuple #[.agg #[], .bool q]) w := by
  obtain ⟨m, hown⟩ := h.own
  obtain ⟨kl, hkey⟩ := key_some a b ha hb
  obtain ⟨v, ps, hrun, hv⟩ := hown.look_ok Tryz.lawEdge Tryz.underlying106 (zero_unit w) (zd := .agg []) (zp := []) unitElem_mk hkey
  obtain ⟨rfl, _⟩ := unitElem_inv hv
  have e : Maps.has D kl = q := by
    rw [Bool.eq_iff_iff, hq, h.has _ kl hkey, ev_mem]
  rw [hrun, e]

theorem ESet.put {w : World} {eb : Nat} {D : DataW Unit} {E E' : List (Nat × Nat)} (h : ESet w eb D E) (hl : E.length < 1000000) (a b : Nat) (ha : a < 1000000) (hb : b < 1000000) (hn : (a, b) ∉ E) (hp : ((a, b) :: E).Perm E') :
    ∃ w' D', (Instr.mapUpdate 106 (.map (some eb)) (ev a b) (.agg #[])).run Tryz.prog w = .ok () w' ∧ ESet w' eb D' E' ∧ w.mapTurned w' eb := by
  obtain ⟨m, hown⟩ := h.own
  obtain ⟨kl, hkey⟩ := key_some a b ha hb
  obtain ⟨w', hrun, hown', ht⟩ := (own_exact hown).store Tryz.lawEdge Tryz.underlying106 (by rw [h.size]; unfold maxLen; omega) hkey (ps := []) unitElem_mk
  refine ⟨w', _, hrun, ⟨⟨_, hown'⟩, fun v k2 hk2 => ?_, ?_⟩, ht⟩
  · by_cases e : k2 = kl
    · subst e
      rw [has_put_same hown.isMap (Tryz.lawEdge.key hkey)]
      obtain rfl := Tryz.lawEdge.inj hkey hk2
      simp only [true_iff]
      exact ⟨(a, b), hp.mem_iff.1 (List.mem_cons_self ..), rfl⟩
    · rw [has_put_other e, h.has v k2 hk2]
      constructor
      · rintro ⟨x, hx, e1⟩; exact ⟨x, hp.mem_iff.1 (List.mem_cons_of_mem _ hx), e1⟩
      · rintro ⟨x, hx, e1⟩
        rcases List.mem_cons.1 (hp.mem_iff.2 hx) with rfl | hx
        · rw [e1, hkey] at hk2; cases hk2; exact absurd rfl e
        · exact ⟨x, hx, e1⟩
  · have hh : Maps.has D kl = false := by
      rw [Bool.eq_false_iff]
      intro e
      exact hn (ev_mem.1 ((h.has _ kl hkey).1 e))
    rw [size_put (hown.tidy Tryz.lawEdge), hh, ← hp.length_eq, h.size]
    simp

theorem ESet.drop {w : World} {eb : Nat} {D : DataW Unit} {E E' : List (Nat × Nat)} (h : ESet w eb D E) (a b : Nat) (ha : a < 1000000) (hb : b < 1000000) (hn : (a, b) ∉ E') (hp : E.Perm ((a, b) :: E')) (ty : TypeId) :
    ∃ w' D', (Builtin.delete_ #[106, 44] ty #[.map (some eb), ev a b]).run Tryz.prog w = .ok (.tuple #[]) w' ∧ ESet w' eb D' E' ∧ w.mapTurned w' eb := by
  obtain ⟨m, hown⟩ := h.own
  obtain ⟨kl, hkey⟩ := key_some a b ha hb
  obtain ⟨w', hrun, hown', ht⟩ := hown.drop Tryz.lawEdge Tryz.underlying106 hkey ty
  refine ⟨w', _, hrun, ⟨⟨_, hown'⟩, fun v k2 hk2 => ?_, ?_⟩, ht⟩
  · by_cases e : k2 = kl
    · subst e
      rw [has_del_same]
      obtain rfl := Tryz.lawEdge.inj hkey hk2
      simp only [false_iff, Bool.false_eq_true]
      rw [ev_mem]; exact hn
    · rw [has_del_other e, h.has v k2 hk2]
      constructor
      · rintro ⟨x, hx, e1⟩
        rcases List.mem_cons.1 (hp.mem_iff.1 hx) with rfl | hx
        · rw [e1, hkey] at hk2; cases hk2; exact absurd rfl e
        · exact ⟨x, hx, e1⟩
      · rintro ⟨x, hx, e1⟩; exact ⟨x, hp.mem_iff.2 (List.mem_cons_of_mem _ hx), e1⟩
  · have hh : Maps.has D kl = true := (h.has _ kl hkey).2 (ev_mem.2 (hp.mem_iff.2 (List.mem_cons_self ..)))
    have := size_del (k := kl) (hown.tidy Tryz.lawEdge)
    rw [hh, h.size, hp.length_eq] at this
    simp at this
    exact this

theorem ESet.of_block {w w' : World} {eb : Nat} {D : DataW Unit} {E : List (Nat × Nat)} (h : ESet w eb D E) (e : w'.heap[eb]? = w.heap[eb]?) : ESet w' eb D E := by
  obtain ⟨m, es, clock, hb, r⟩ := h.own
  exact ⟨⟨m, es, clock, e.trans hb, r⟩, h.has, h.size⟩

theorem own_block {H : Type} {P : Program} {k : TypeId} {R : Value → Option (DataW H × List MemPlace)} {w w' : World} {b n : Nat} {D : DataW H} (h : w.ownsMap P k R b n D) (e : w'.heap[b]? = w.heap[b]?) : w'.ownsMap P k R b n D := by
  obtain ⟨es, clock, hb, r⟩ := h
  exact ⟨es, clock, e.trans hb, r⟩

end Go.Proofs.YtcfemppdeidjmacGreat
