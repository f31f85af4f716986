/-
  The landed store: bytes that are cloned, bytes that are held against others, the head on a page.
-/
import Derived.Test.YtdbebeemhomjkacDoorFc
import Derived.Test.YtdbebeemhomjkacDoorSh5
namespace Go.Proofs.YtdbebeemhomjkacDoor.Sk
open Go.RowKit Go.Deep Go.Proofs.YtdbebeemhomjkacDoor.Dk
open Go.RowKit (Below)
set_option linter.unusedVariables false

variable {w w' : World} {b o k n N c : Nat} {p q l : List UInt8}

/-- Bytes as numbers. -/
def nums (l : List UInt8) : List Int := l.map fun x => (x.toNat : Int)
theorem nums_len (l : List UInt8) : (nums l).length = l.length := by simp [nums]
theorem nums_at (l : List UInt8) {i : Nat} (h : i < l.length) : Value.int .u8 ((nums l).getD i 0) = by1 (l.getD i 0) := by
  simp [nums, by1, List.getD_eq_getElem?_getD, List.getElem?_eq_getElem h]
theorem bytesOf_nums (l : List UInt8) : Lib.bytesOf (nums l) = l := by
  unfold Lib.bytesOf nums
  rw [List.map_map]
  refine (List.map_congr_left fun x _ => ?_).trans (List.map_id l)
  simp
theorem bytes_in {a : Option Addr} (h : BtAt w a l) : Lib.BytesIn w a l.length (nums l) := fun h0 => by
  obtain ⟨b, o, e, _⟩ := h 0 h0
  refine ⟨b, o, e, fun i hi => ?_⟩
  obtain ⟨b', o', e', hc⟩ := h i hi
  rw [e] at e'
  simp only [Option.some.injEq, Addr.mk.injEq, and_true] at e'
  obtain ⟨rfl, rfl⟩ := e'
  rw [hc, nums_at l hi]

theorem equal_any {a a' : Option Addr} {c c' : Nat} (h : BtAt w a p) (h' : BtAt w a' q) : Calls Tryd.prog 68 #[.slice a p.length c, .slice a' q.length c'] w fun e w' => e = .returned (.bool (p == q)) ∧ w' = w := by
  have := Any.bytes_Equal_all Tryd.lays115 a a' p.length c q.length c' (nums p) (nums q) w (nums_len p) (nums_len q) (bytes_in h) (bytes_in h')
  rw [bytesOf_nums, bytesOf_nums] at this
  exact this

theorem equal32 {a a' : Option Addr} {c c' : Nat} (hp : p.length = 32) (hq : q.length = 32) (h : BtAt w a p) (h' : BtAt w a' q) : Calls Tryd.prog 68 #[.slice a 32 c, .slice a' 32 c'] w fun e w' => e = .returned (.bool (p == q)) ∧ w' = w := by
  have := equal_any (c := c) (c' := c') h h'
  rwa [hp, hq] at this

theorem own_bt {base : Nat} {v : Value} (h : w.ownsRow base 5 1 v l.length (l.map by1)) : ∃ a c, v = .slice a l.length c ∧ BtAt w a l ∧ l.length ≤ c ∧ c ≤ maxLen ∧ (a = none → c = 0) ∧ (∀ b o, a = some ⟨b, o, none⟩ → base ≤ b ∧ b < w.heap.size) := by
  rcases h.2 with ⟨hv, h0⟩ | ⟨g, cap, cur, hv, hb, hg, h1, h2, h3, h4⟩
  · have hl : l = [] := List.length_eq_zero_iff.1 h0
    subst hl
    exact ⟨none, 0, hv, fun i hi => (by cases hi), Nat.le_refl _, Nat.zero_le _, fun _ => rfl, fun b o e => (by cases e)⟩
  · refine ⟨_, cap, hv, fun i hi => ⟨g, 0, rfl, ?_⟩, h1, h2, fun e => (by cases e), fun b o e => ?_⟩
    · subst hv
      have := h.cellAt i (by omega)
      rw [Nat.zero_add, this, List.getElem?_map, List.getD_eq_getElem?_getD, List.getElem?_eq_getElem hi]
      rfl
    · cases e
      exact ⟨hb, (Array.getElem?_eq_some_iff.1 hg).1⟩

theorem clone_any {a : Option Addr} {c : Nat} (h : BtAt w a l) (hc : l.length ≤ c) (hm : l.length ≤ 1000) (hnil : a = none → c = 0) :
    Calls Tryd.prog 43 #[.slice a l.length c] w fun e w' => ∃ a' c', e = .returned (.slice a' l.length c') ∧ BtAt w' a' l ∧ l.length ≤ c' ∧ c' ≤ maxLen ∧ (a' = none → c' = 0) ∧ (∀ b o, a' = some ⟨b, o, none⟩ → w.heap.size ≤ b ∧ b < w'.heap.size) ∧ Below w.heap.size w w' := by
  cases a with
  | none =>
    have hl : l = [] := List.length_eq_zero_iff.1 (by have := hnil rfl; omega)
    subst hl
    refine (Any.bytes_Clone_nil Tryd.lays4 0 c w).mono fun e w' ⟨h1, h2⟩ => ?_
    subst h2
    exact ⟨none, 0, h1, h, Nat.le_refl _, Nat.zero_le _, fun _ => rfl, fun b o e => (by cases e), Below.refl _ _⟩
  | some ad =>
    refine (Any.bytes_Clone_at Tryd.lays4 ad l.length c (nums l) w (nums_len l) (by omega) (fun i hi => ?_)).mono fun e w' ⟨v, h1, h2, _, h3⟩ => ?_
    · obtain ⟨b, o, e, hcell⟩ := h i hi
      cases e
      rw [Addr.add_lit, hcell, nums_at l hi]
    · have e1 : (nums l).map (Value.int .u8) = l.map by1 := by
        unfold nums
        rw [List.map_map]
        rfl
      rw [e1] at h2
      obtain ⟨a', c', e2, h4, h5, h6, h7, h8⟩ := own_bt h2
      exact ⟨a', c', by rw [h1, e2], h4, h5, h6, h7, h8, h3⟩

theorem results_row_tmp {P : Program} {fn : Func} {p u : Tmp} {ty : TypeId} (h : fn.results = #[.cell p ty, .tmp u]) (tmps : Array Value) (w : World) (g : Nat) (t : TypeId) (cs : Array Value) (fr : Nat × Nat) (d : TypeDesc)
    (hp : tmps.getD p undef = .pointer (some ⟨g, 0, none⟩)) (hg : w.heap[g]? = some (.cells cs t fr))
    (hu : P.underlying ty = some d) (hd : (match d with | .struct _ | .array _ _ => true | _ => false) = true) (hi : (P.info? ty).map (·.size) = some cs.size) :
    (results fn tmps).run P w = .ok (.tuple #[.agg cs, tmps.getD u undef]) w := by
  rw [results_cell_tmp h, hp]
  simp [asAddr, run_loadVar_row w g t ty cs fr d hg hu hd hi]

set_option maxRecDepth 1000000 in
theorem Tryd.sizeHead : (Tryd.prog.info? 93).map (·.size) = some 3 := by kernel_rfl

/-- Three numbers in a block. -/
def cells3 (x y z : Int) : Nat → Value := fun i => if i = 0 then .int .i64 x else if i = 1 then .int .i64 y else .int .i64 z

theorem row3_new (w : World) (x y z : Int) : (w.alloc (.cells #[.int .i64 x, .int .i64 y, .int .i64 z] 93)).rowIs w.heap.size 93 3 (cells3 x y z) :=
  World.rowIs_alloc w #[.int .i64 x, .int .i64 y, .int .i64 z] 93 (cells3 x y z) (fun i hi => by
    match i, hi with
    | 0, _ => rfl
    | 1, _ => rfl
    | 2, _ => rfl)

theorem row3_block {b : Nat} {x y z : Int} (h : w.rowIs b 93 3 (cells3 x y z)) : w.heap[b]? = some (.cells #[.int .i64 x, .int .i64 y, .int .i64 z] 93 (0, 0)) := by
  obtain ⟨c, hb, hs, hc⟩ := h
  have e : c = #[.int .i64 x, .int .i64 y, .int .i64 z] := by
    obtain ⟨c⟩ := c
    match c, hs, hc with
    | [p, q, r], _, hc =>
      have h0 := hc 0 (by omega)
      have h1 := hc 1 (by omega)
      have h2 := hc 2 (by omega)
      simp [cells3] at h0 h1 h2
      subst h0 h1 h2
      rfl
  rw [hb, e]

theorem row3_set {b : Nat} {x y z x' y' z' : Int} (h : w.rowIs b 93 3 (cells3 x y z)) : (((w.setCell ⟨b, 0, none⟩ (.int .i64 x')).setCell ⟨b, 1, none⟩ (.int .i64 y')).setCell ⟨b, 2, none⟩ (.int .i64 z')).rowIs b 93 3 (cells3 x' y' z') :=
  (((h.set 0 _).set 1 _).set 2 _).congr fun i hi => by
    match i, hi with
    | 0, _ => rfl
    | 1, _ => rfl
    | 2, _ => rfl

set_option maxRecDepth 100000 in
set_option maxHeartbeats 4000000 in
theorem headOf_any (h : BtAt w (some ⟨k, 0, none⟩) p) (hp : p.length = 32) {x l t : Nat} (hx : x ≤ 1) (hl : l ≤ 960) (ht : t ≤ 100000) (h1 : ∀ i, i < 1 → p.getD (16 + i) 0 = byt x i) (h2 : ∀ i, i < 2 → p.getD (17 + i) 0 = byt l i) (h3 : ∀ i, i < 8 → p.getD (19 + i) 0 = byt t i) :
    Calls Tryd.prog 52 #[.slice (some ⟨k, 0, none⟩) 32 32] w fun e w' => (∃ x' l' t' : Int, e = .returned (.tuple #[.agg #[.int .i64 x', .int .i64 l', .int .i64 t'], .bool (p == headP x l t)]) ∧ (p = headP x l t → x' = (x : Nat) ∧ l' = (l : Nat) ∧ t' = (t : Nat))) ∧ Below w.heap.size w w' := by
  have HB : Hid (∀ V, Below w.heap.size w V → BtAt V (some ⟨k, 0, none⟩) p) := fun V hb => h.below hb
  have HK : Hid (k < w.heap.size ∧ x ≤ 1 ∧ l ≤ 960 ∧ t ≤ 100000 ∧ p.length = 32) := ⟨by
    obtain ⟨b, o, e, hcell⟩ := h 0 (by omega)
    cases e
    exact World.block_lt_of_cell? _ _ hcell, hx, hl, ht, hp⟩
  have HR1 : ∀ V, BtAt V (some ⟨k, 0, none⟩) p → ∀ d, 1 ≤ d → Calls Tryd.prog 67 #[.slice (some ⟨k, 16, none⟩) 1 d] V fun e w' => e = .returned (.int .i64 (x : Nat)) ∧ w' = V := fun V hV d hd =>
    read_any (B := 0) (fun i hi => by
      obtain ⟨b, o, e, hcell⟩ := hV (16 + i) (by omega)
      cases e
      rw [← h1 i hi, ← hcell, Nat.zero_add]) (by omega) (by omega) hd (by omega) (by omega)
  have HR2 : ∀ V, BtAt V (some ⟨k, 0, none⟩) p → ∀ d, 2 ≤ d → Calls Tryd.prog 67 #[.slice (some ⟨k, 17, none⟩) 2 d] V fun e w' => e = .returned (.int .i64 (l : Nat)) ∧ w' = V := fun V hV d hd =>
    read_any (B := 0) (fun i hi => by
      obtain ⟨b, o, e, hcell⟩ := hV (17 + i) (by omega)
      cases e
      rw [← h2 i hi, ← hcell, Nat.zero_add]) (by omega) (by omega) hd (by omega) (by omega)
  have HR3 : ∀ V, BtAt V (some ⟨k, 0, none⟩) p → ∀ d, 8 ≤ d → Calls Tryd.prog 67 #[.slice (some ⟨k, 19, none⟩) 8 d] V fun e w' => e = .returned (.int .i64 (t : Nat)) ∧ w' = V := fun V hV d hd =>
    read_any (B := 0) (fun i hi => by
      obtain ⟨b, o, e, hcell⟩ := hV (19 + i) (by omega)
      cases e
      rw [← h3 i hi, ← hcell, Nat.zero_add]) (by omega) (by omega) hd (by omega) (by omega)
  have HR : Hid (_ ∧ _ ∧ _) := ⟨HR1, HR2, HR3⟩
  obtain ⟨W1, hW1⟩ : ∃ W1, ((w.alloc (.cells #[.int .i64 0, .int .i64 0, .int .i64 0] 93)).alloc (.cells #[.int .i64 (x : Nat), .int .i64 (l : Nat), .int .i64 (t : Nat)] 93)).drew = W1 := ⟨_, rfl⟩
  have g1 : Below w.heap.size w W1 := hW1 ▸ (((Below.refl _ _).alloc (Nat.le_refl _) _).alloc (by simp) _).drew
  have g2 : W1.rowIs w.heap.size 93 3 (cells3 0 0 0) := hW1 ▸ ((row3_new w 0 0 0).alloc _).drew
  have g3 : W1.rowIs (w.heap.size + 1) 93 3 (cells3 (x : Nat) (l : Nat) (t : Nat)) := by
    have := (row3_new (w.alloc (.cells #[.int .i64 0, .int .i64 0, .int .i64 0] 93)) (x : Nat) (l : Nat) (t : Nat)).drew
    rw [hW1] at this
    rwa [show (w.alloc (.cells #[.int .i64 0, .int .i64 0, .int .i64 0] 93)).heap.size = w.heap.size + 1 by simp] at this
  have HG : Hid (Below w.heap.size w W1 ∧ W1.rowIs w.heap.size 93 3 (cells3 0 0 0) ∧ W1.rowIs (w.heap.size + 1) 93 3 (cells3 (x : Nat) (l : Nat) (t : Nat))) := ⟨g1, g2, g3⟩
  clear g1 g2 g3 HR1 HR2 HR3 h hp hx hl ht h1 h2 h3
  go_enter Tryd.func52, Tryd.ntmps52
  go_wp2_with fail
  refine wp_region_noPanic ?_
  refine wp_region_held_drew (S := fun V => BtAt V (some ⟨k, 0, none⟩) p) (by kernel_rfl) (HB.out _ (((Below.refl _ _).alloc (Nat.le_refl _) _).drew)) (fun hHeld => ?_)
  refine wpAnyH_take (i := 0) (oi := { dst := some 5, op := Go.Op.move (Go.Operand.tmp 0), type := 31, pos := _, after := #[], guard := none }) (v := ?va1) rfl (by kernel_rfl) (by kernel_rfl) (by kernel_rfl) (fun _ _ _ h => h) (Or.inl ⟨by rfl, ?ya1⟩) (by assumption) ?_
  case ya1 =>
    intro w hSw
    (try dsimp only at hSw)
    go_simp
    (try with_reducible rfl)
  simp only [Act.put, List.setIfInBounds_toArray, List.set_cons_zero, List.set_cons_succ]
  refine wpAnyH_take (i := 3) (oi := { dst := some 8, op := Go.Op.move (Go.Operand.tmp 0), type := 31, pos := _, after := #[], guard := none }) (v := ?va2) rfl (by kernel_rfl) (by kernel_rfl) (by kernel_rfl) (fun _ _ _ h => h) (Or.inl ⟨by rfl, ?ya2⟩) (by assumption) ?_
  case ya2 =>
    intro w hSw
    (try dsimp only at hSw)
    go_simp
    (try with_reducible rfl)
  simp only [Act.put, List.setIfInBounds_toArray, List.set_cons_zero, List.set_cons_succ]
  refine wpAnyH_take (i := 6) (oi := { dst := some 11, op := Go.Op.move (Go.Operand.tmp 0), type := 31, pos := _, after := #[], guard := none }) (v := ?va3) rfl (by kernel_rfl) (by kernel_rfl) (by kernel_rfl) (fun _ _ _ h => h) (Or.inl ⟨by rfl, ?ya3⟩) (by assumption) ?_
  case ya3 =>
    intro w hSw
    (try dsimp only at hSw)
    go_simp
    (try with_reducible rfl)
  simp only [Act.put, List.setIfInBounds_toArray, List.set_cons_zero, List.set_cons_succ]
  refine wpAnyH_take (i := 1) (oi := { dst := some 6, op := Go.Op.slice 31 (Go.Operand.tmp 5) (some (Go.Operand.const (Go.Value.int Go.IntKind.i64 16))) (some (Go.Operand.const (Go.Value.int Go.IntKind.i64 17))) none, type := 31, pos := _, after := #[{ on := 0, ground := Go.Ground.data }], guard := none }) (v := ?va4) rfl (by kernel_rfl) (by kernel_rfl) (by kernel_rfl) (fun _ _ _ h => h) (Or.inl ⟨by rfl, ?ya4⟩) (by assumption) ?_
  case ya4 =>
    intro w hSw
    (try dsimp only at hSw)
    go_simp
    (try with_reducible rfl)
  simp only [Act.put, List.setIfInBounds_toArray, List.set_cons_zero, List.set_cons_succ]
  refine wpAnyH_take (i := 4) (oi := { dst := some 9, op := Go.Op.slice 31 (Go.Operand.tmp 8) (some (Go.Operand.const (Go.Value.int Go.IntKind.i64 17))) (some (Go.Operand.const (Go.Value.int Go.IntKind.i64 19))) none, type := 31, pos := _, after := #[{ on := 3, ground := Go.Ground.data }], guard := none }) (v := ?va5) rfl (by kernel_rfl) (by kernel_rfl) (by kernel_rfl) (fun _ _ _ h => h) (Or.inl ⟨by rfl, ?ya5⟩) (by assumption) ?_
  case ya5 =>
    intro w hSw
    (try dsimp only at hSw)
    go_simp
    (try with_reducible rfl)
  simp only [Act.put, List.setIfInBounds_toArray, List.set_cons_zero, List.set_cons_succ]
  refine wpAnyH_take (i := 7) (oi := { dst := some 12, op := Go.Op.slice 31 (Go.Operand.tmp 11) (some (Go.Operand.const (Go.Value.int Go.IntKind.i64 19))) (some (Go.Operand.const (Go.Value.int Go.IntKind.i64 27))) none, type := 31, pos := _, after := #[{ on := 6, ground := Go.Ground.data }], guard := none }) (v := ?va6) rfl (by kernel_rfl) (by kernel_rfl) (by kernel_rfl) (fun _ _ _ h => h) (Or.inl ⟨by rfl, ?ya6⟩) (by assumption) ?_
  case ya6 =>
    intro w hSw
    (try dsimp only at hSw)
    go_simp
    (try with_reducible rfl)
  simp only [Act.put, List.setIfInBounds_toArray, List.set_cons_zero, List.set_cons_succ]
  refine wpAnyH_ready (rs := [2, 10]) (by kernel_rfl) (by simp) ?_
  refine (AllReadyH.cons rfl (fun K9 hK9 => ?ca26) (AllReadyH.cons rfl (fun K9 hK9 => ?ca27) AllReadyH.nil))
  case ca26 =>
    go_simp
    go_wp2_with (go_at_call 67; refine (HR.out.1 _ hHeld _ (by omega)).mono ?_; rintro e w9 ⟨rfl, rfl⟩)
    refine hK9.out _ _ hHeld (fun hHeld => ?_)
    clear hK9
    (try simp only [Act.put, List.setIfInBounds_toArray, List.set_cons_zero, List.set_cons_succ])
    refine wpAnyH_ready (rs := [5, 10]) (by kernel_rfl) (by simp) ?_
    refine (AllReadyH.cons rfl (fun K9 hK9 => ?ca19) (AllReadyH.cons rfl (fun K9 hK9 => ?ca20) AllReadyH.nil))
    case ca19 =>
      go_simp
      go_wp2_with (go_at_call 67; refine (HR.out.2.1 _ hHeld _ (by omega)).mono ?_; rintro e w9 ⟨rfl, rfl⟩)
      refine hK9.out _ _ hHeld (fun hHeld => ?_)
      clear hK9
      (try simp only [Act.put, List.setIfInBounds_toArray, List.set_cons_zero, List.set_cons_succ])
      refine wpAnyH_ready (rs := [8, 10]) (by kernel_rfl) (by simp) ?_
      refine (AllReadyH.cons rfl (fun K9 hK9 => ?ca13) (AllReadyH.cons rfl (fun K9 hK9 => ?ca14) AllReadyH.nil))
      case ca13 =>
        go_simp
        go_wp2_with (go_at_call 67; refine (HR.out.2.2 _ hHeld _ (by omega)).mono ?_; rintro e w9 ⟨rfl, rfl⟩)
        refine hK9.out _ _ hHeld (fun hHeld => ?_)
        clear hK9
        (try simp only [Act.put, List.setIfInBounds_toArray, List.set_cons_zero, List.set_cons_succ])
        refine wpAnyH_take (i := 9) (oi := { dst := some 14, op := Go.Op.build 93 #[(0, Go.Operand.tmp 7), (1, Go.Operand.tmp 10), (2, Go.Operand.tmp 13)], type := 93, pos := _, after := #[{ on := 2, ground := Go.Ground.data }, { on := 5, ground := Go.Ground.data }, { on := 8, ground := Go.Ground.data }], guard := none }) (v := .agg #[.int .i64 (x : Nat), .int .i64 (l : Nat), .int .i64 (t : Nat)]) rfl (by kernel_rfl) (by kernel_rfl) (by kernel_rfl) (fun _ _ _ h => h) ?ya7 (by assumption) ?_
        case ya7 => exact Or.inl ⟨by rfl, fun w _ => by simp only [execOp, List.map_toArray, List.map_cons, List.map_nil]; exact Dk.L.run_val (run_build w 93 _ _ (by kernel_rfl))⟩
        simp only [Act.put, List.setIfInBounds_toArray, List.set_cons_zero, List.set_cons_succ]
        refine wpAnyH_ready (rs := [10]) (by kernel_rfl) (by simp) ?_
        refine (AllReadyH.cons rfl (fun K9 hK9 => ?ca9) AllReadyH.nil)
        case ca9 =>
          go_simp
          refine hK9.out _ _ (HB.out _ ((((Below.refl _ _).alloc (Nat.le_refl _) _).drew).alloc (by simp) _)) (fun hHeld => ?_)
          clear hK9
          (try simp only [Act.put, List.setIfInBounds_toArray, List.set_cons_zero, List.set_cons_succ])
          refine wpAnyH_ready (rs := [11]) (by kernel_rfl) (by simp) ?_
          refine (AllReadyH.cons rfl (fun K9 hK9 => ?ca8) AllReadyH.nil)
          case ca8 =>
            go_simp
            refine hK9.out _ _ (HB.out _ HG.out.1) (fun hHeld => ?_)
            clear hK9
            refine wpAnyH_done (by kernel_rfl) ?_ _
            refine NoPanic.normal ?_
            have d0 : W1.cell? ⟨w.heap.size + 1, 0, none⟩ = some (.int .i64 (x : Nat)) := HG.out.2.2.cell (i := 0) (by omega)
            have d1 : W1.cell? ⟨w.heap.size + 1, 1, none⟩ = some (.int .i64 (l : Nat)) := HG.out.2.2.cell (i := 1) (by omega)
            have d2 : W1.cell? ⟨w.heap.size + 1, 2, none⟩ = some (.int .i64 (t : Nat)) := HG.out.2.2.cell (i := 2) (by omega)
            have x0 : ¬ (1 : Int) < (x : Int) := by have := HK.out; omega
            have x1 : ¬ (960 : Int) < (l : Int) := by have := HK.out; omega
            have x2 : ¬ (t : Int) < 0 := by omega
            clear hW1
            go_wp2_with fail
            refine (page_any x l t (by have := HK.out; omega) (by have := HK.out; omega) (by have := HK.out; omega)).mono ?_
            rintro e W2 ⟨k2, rfl, hbt, -, -, hb2⟩
            go_wp2_with fail
            refine (equal32 HK.out.2.2.2.2 (headP_len x l t) (HB.out W2 (below_step HG.out.1 hb2)) hbt).mono ?_
            rintro e w9 ⟨rfl, rfl⟩
            have hr0 := HG.out.2.1.of_block (hb2.block _ HG.out.2.1.lt)
            have hr1 := HG.out.2.2.of_block (hb2.block _ HG.out.2.2.lt)
            have HB2 : Hid (Below w.heap.size w w9) := below_step HG.out.1 hb2
            clear d0 d1 d2 hbt hb2 HG
            have d0 : w9.cell? ⟨w.heap.size + 1, 0, none⟩ = some (.int .i64 (x : Nat)) := hr1.cell (i := 0) (by omega)
            have d1 : w9.cell? ⟨w.heap.size + 1, 1, none⟩ = some (.int .i64 (l : Nat)) := hr1.cell (i := 1) (by omega)
            have d2 : w9.cell? ⟨w.heap.size + 1, 2, none⟩ = some (.int .i64 (t : Nat)) := hr1.cell (i := 2) (by omega)
            have e0 : w9.cell? ⟨w.heap.size, 0, none⟩ = some (.int .i64 0) := hr0.cell (i := 0) (by omega)
            have e1 : w9.cell? ⟨w.heap.size, 1, none⟩ = some (.int .i64 0) := hr0.cell (i := 1) (by omega)
            have e2 : w9.cell? ⟨w.heap.size, 2, none⟩ = some (.int .i64 0) := hr0.cell (i := 2) (by omega)
            have z0 := hr0.frozen
            have HS : Hid (∀ a b c : Int, (((w9.setCell ⟨w.heap.size, 0, none⟩ (.int .i64 a)).setCell ⟨w.heap.size, 1, none⟩ (.int .i64 b)).setCell ⟨w.heap.size, 2, none⟩ (.int .i64 c)).rowIs w.heap.size 93 3 (cells3 a b c) ∧ Below w.heap.size w (((w9.setCell ⟨w.heap.size, 0, none⟩ (.int .i64 a)).setCell ⟨w.heap.size, 1, none⟩ (.int .i64 b)).setCell ⟨w.heap.size, 2, none⟩ (.int .i64 c))) := fun a b c => ⟨row3_set hr0, ((HB2.out.setCell (Nat.le_refl _) _).setCell (Nat.le_refl _) _).setCell (Nat.le_refl _) _⟩
            clear hr0 hr1 HB2
            by_cases hpq : p = headP x l t
            · have HQ : Hid (p = headP x l t ∧ (p == headP x l t) = true) := ⟨hpq, beq_iff_eq.2 hpq⟩
              rw [show (p == headP x l t) = true from HQ.out.2]
              clear hpq
              go_wp2_with fail
              refine bodyPost_ret (results_row_tmp rfl _ _ w.heap.size 93 _ (0, 0) _ rfl (row3_block (HS.out _ _ _).1) Tryd.underlying93 rfl Tryd.sizeHead) rfl ?_
              exact ⟨⟨_, _, _, by rw [HQ.out.2]; rfl, fun _ => ⟨rfl, rfl, rfl⟩⟩, (HS.out _ _ _).2⟩
            · have HQ : Hid (¬ p = headP x l t ∧ (p == headP x l t) = false) := ⟨hpq, beq_false_of_ne hpq⟩
              rw [show (p == headP x l t) = false from HQ.out.2]
              clear hpq
              go_wp2_with fail
              refine bodyPost_ret (results_row_tmp rfl _ _ w.heap.size 93 _ (0, 0) _ rfl (row3_block (HS.out _ _ _).1) Tryd.underlying93 rfl Tryd.sizeHead) rfl ?_
              exact ⟨⟨_, _, _, by rw [HQ.out.2]; rfl, fun q => absurd q HQ.out.1⟩, (HS.out _ _ _).2⟩
      case ca14 =>
        go_simp
        refine hK9.out _ _ (HB.out _ ((((Below.refl _ _).alloc (Nat.le_refl _) _).drew).alloc (by simp) _)) (fun hHeld => ?_)
        clear hK9
        (try simp only [Act.put, List.setIfInBounds_toArray, List.set_cons_zero, List.set_cons_succ])
        refine wpAnyH_ready (rs := [8]) (by kernel_rfl) (by simp) ?_
        refine (AllReadyH.cons rfl (fun K9 hK9 => ?ca12) AllReadyH.nil)
        case ca12 =>
          go_simp
          go_wp2_with (go_at_call 67; refine (HR.out.2.2 _ hHeld _ (by omega)).mono ?_; rintro e w9 ⟨rfl, rfl⟩)
          refine hK9.out _ _ hHeld (fun hHeld => ?_)
          clear hK9
          (try simp only [Act.put, List.setIfInBounds_toArray, List.set_cons_zero, List.set_cons_succ])
          refine wpAnyH_take (i := 9) (oi := { dst := some 14, op := Go.Op.build 93 #[(0, Go.Operand.tmp 7), (1, Go.Operand.tmp 10), (2, Go.Operand.tmp 13)], type := 93, pos := _, after := #[{ on := 2, ground := Go.Ground.data }, { on := 5, ground := Go.Ground.data }, { on := 8, ground := Go.Ground.data }], guard := none }) (v := .agg #[.int .i64 (x : Nat), .int .i64 (l : Nat), .int .i64 (t : Nat)]) rfl (by kernel_rfl) (by kernel_rfl) (by kernel_rfl) (fun _ _ _ h => h) ?ya10 (by assumption) ?_
          case ya10 => exact Or.inl ⟨by rfl, fun w _ => by simp only [execOp, List.map_toArray, List.map_cons, List.map_nil]; exact Dk.L.run_val (run_build w 93 _ _ (by kernel_rfl))⟩
          simp only [Act.put, List.setIfInBounds_toArray, List.set_cons_zero, List.set_cons_succ]
          refine wpAnyH_ready (rs := [11]) (by kernel_rfl) (by simp) ?_
          refine (AllReadyH.cons rfl (fun K9 hK9 => ?ca11) AllReadyH.nil)
          case ca11 =>
            go_simp
            refine hK9.out _ _ (HB.out _ HG.out.1) (fun hHeld => ?_)
            clear hK9
            refine wpAnyH_done (by kernel_rfl) ?_ _
            refine NoPanic.normal ?_
            have d0 : W1.cell? ⟨w.heap.size + 1, 0, none⟩ = some (.int .i64 (x : Nat)) := HG.out.2.2.cell (i := 0) (by omega)
            have d1 : W1.cell? ⟨w.heap.size + 1, 1, none⟩ = some (.int .i64 (l : Nat)) := HG.out.2.2.cell (i := 1) (by omega)
            have d2 : W1.cell? ⟨w.heap.size + 1, 2, none⟩ = some (.int .i64 (t : Nat)) := HG.out.2.2.cell (i := 2) (by omega)
            have x0 : ¬ (1 : Int) < (x : Int) := by have := HK.out; omega
            have x1 : ¬ (960 : Int) < (l : Int) := by have := HK.out; omega
            have x2 : ¬ (t : Int) < 0 := by omega
            clear hW1
            go_wp2_with fail
            refine (page_any x l t (by have := HK.out; omega) (by have := HK.out; omega) (by have := HK.out; omega)).mono ?_
            rintro e W2 ⟨k2, rfl, hbt, -, -, hb2⟩
            go_wp2_with fail
            refine (equal32 HK.out.2.2.2.2 (headP_len x l t) (HB.out W2 (below_step HG.out.1 hb2)) hbt).mono ?_
            rintro e w9 ⟨rfl, rfl⟩
            have hr0 := HG.out.2.1.of_block (hb2.block _ HG.out.2.1.lt)
            have hr1 := HG.out.2.2.of_block (hb2.block _ HG.out.2.2.lt)
            have HB2 : Hid (Below w.heap.size w w9) := below_step HG.out.1 hb2
            clear d0 d1 d2 hbt hb2 HG
            have d0 : w9.cell? ⟨w.heap.size + 1, 0, none⟩ = some (.int .i64 (x : Nat)) := hr1.cell (i := 0) (by omega)
            have d1 : w9.cell? ⟨w.heap.size + 1, 1, none⟩ = some (.int .i64 (l : Nat)) := hr1.cell (i := 1) (by omega)
            have d2 : w9.cell? ⟨w.heap.size + 1, 2, none⟩ = some (.int .i64 (t : Nat)) := hr1.cell (i := 2) (by omega)
            have e0 : w9.cell? ⟨w.heap.size, 0, none⟩ = some (.int .i64 0) := hr0.cell (i := 0) (by omega)
            have e1 : w9.cell? ⟨w.heap.size, 1, none⟩ = some (.int .i64 0) := hr0.cell (i := 1) (by omega)
            have e2 : w9.cell? ⟨w.heap.size, 2, none⟩ = some (.int .i64 0) := hr0.cell (i := 2) (by omega)
            have z0 := hr0.frozen
            have HS : Hid (∀ a b c : Int, (((w9.setCell ⟨w.heap.size, 0, none⟩ (.int .i64 a)).setCell ⟨w.heap.size, 1, none⟩ (.int .i64 b)).setCell ⟨w.heap.size, 2, none⟩ (.int .i64 c)).rowIs w.heap.size 93 3 (cells3 a b c) ∧ Below w.heap.size w (((w9.setCell ⟨w.heap.size, 0, none⟩ (.int .i64 a)).setCell ⟨w.heap.size, 1, none⟩ (.int .i64 b)).setCell ⟨w.heap.size, 2, none⟩ (.int .i64 c))) := fun a b c => ⟨row3_set hr0, ((HB2.out.setCell (Nat.le_refl _) _).setCell (Nat.le_refl _) _).setCell (Nat.le_refl _) _⟩
            clear hr0 hr1 HB2
            by_cases hpq : p = headP x l t
            · have HQ : Hid (p = headP x l t ∧ (p == headP x l t) = true) := ⟨hpq, beq_iff_eq.2 hpq⟩
              rw [show (p == headP x l t) = true from HQ.out.2]
              clear hpq
              go_wp2_with fail
              refine bodyPost_ret (results_row_tmp rfl _ _ w.heap.size 93 _ (0, 0) _ rfl (row3_block (HS.out _ _ _).1) Tryd.underlying93 rfl Tryd.sizeHead) rfl ?_
              exact ⟨⟨_, _, _, by rw [HQ.out.2]; rfl, fun _ => ⟨rfl, rfl, rfl⟩⟩, (HS.out _ _ _).2⟩
            · have HQ : Hid (¬ p = headP x l t ∧ (p == headP x l t) = false) := ⟨hpq, beq_false_of_ne hpq⟩
              rw [show (p == headP x l t) = false from HQ.out.2]
              clear hpq
              go_wp2_with fail
              refine bodyPost_ret (results_row_tmp rfl _ _ w.heap.size 93 _ (0, 0) _ rfl (row3_block (HS.out _ _ _).1) Tryd.underlying93 rfl Tryd.sizeHead) rfl ?_
              exact ⟨⟨_, _, _, by rw [HQ.out.2]; rfl, fun q => absurd q HQ.out.1⟩, (HS.out _ _ _).2⟩
    case ca20 =>
      go_simp
      refine hK9.out _ _ (HB.out _ ((((Below.refl _ _).alloc (Nat.le_refl _) _).drew).alloc (by simp) _)) (fun hHeld => ?_)
      clear hK9
      (try simp only [Act.put, List.setIfInBounds_toArray, List.set_cons_zero, List.set_cons_succ])
      refine wpAnyH_ready (rs := [5]) (by kernel_rfl) (by simp) ?_
      refine (AllReadyH.cons rfl (fun K9 hK9 => ?ca18) AllReadyH.nil)
      case ca18 =>
        go_simp
        go_wp2_with (go_at_call 67; refine (HR.out.2.1 _ hHeld _ (by omega)).mono ?_; rintro e w9 ⟨rfl, rfl⟩)
        refine hK9.out _ _ hHeld (fun hHeld => ?_)
        clear hK9
        (try simp only [Act.put, List.setIfInBounds_toArray, List.set_cons_zero, List.set_cons_succ])
        refine wpAnyH_ready (rs := [8]) (by kernel_rfl) (by simp) ?_
        refine (AllReadyH.cons rfl (fun K9 hK9 => ?ca17) AllReadyH.nil)
        case ca17 =>
          go_simp
          go_wp2_with (go_at_call 67; refine (HR.out.2.2 _ hHeld _ (by omega)).mono ?_; rintro e w9 ⟨rfl, rfl⟩)
          refine hK9.out _ _ hHeld (fun hHeld => ?_)
          clear hK9
          (try simp only [Act.put, List.setIfInBounds_toArray, List.set_cons_zero, List.set_cons_succ])
          refine wpAnyH_take (i := 9) (oi := { dst := some 14, op := Go.Op.build 93 #[(0, Go.Operand.tmp 7), (1, Go.Operand.tmp 10), (2, Go.Operand.tmp 13)], type := 93, pos := _, after := #[{ on := 2, ground := Go.Ground.data }, { on := 5, ground := Go.Ground.data }, { on := 8, ground := Go.Ground.data }], guard := none }) (v := .agg #[.int .i64 (x : Nat), .int .i64 (l : Nat), .int .i64 (t : Nat)]) rfl (by kernel_rfl) (by kernel_rfl) (by kernel_rfl) (fun _ _ _ h => h) ?ya15 (by assumption) ?_
          case ya15 => exact Or.inl ⟨by rfl, fun w _ => by simp only [execOp, List.map_toArray, List.map_cons, List.map_nil]; exact Dk.L.run_val (run_build w 93 _ _ (by kernel_rfl))⟩
          simp only [Act.put, List.setIfInBounds_toArray, List.set_cons_zero, List.set_cons_succ]
          refine wpAnyH_ready (rs := [11]) (by kernel_rfl) (by simp) ?_
          refine (AllReadyH.cons rfl (fun K9 hK9 => ?ca16) AllReadyH.nil)
          case ca16 =>
            go_simp
            refine hK9.out _ _ (HB.out _ HG.out.1) (fun hHeld => ?_)
            clear hK9
            refine wpAnyH_done (by kernel_rfl) ?_ _
            refine NoPanic.normal ?_
            have d0 : W1.cell? ⟨w.heap.size + 1, 0, none⟩ = some (.int .i64 (x : Nat)) := HG.out.2.2.cell (i := 0) (by omega)
            have d1 : W1.cell? ⟨w.heap.size + 1, 1, none⟩ = some (.int .i64 (l : Nat)) := HG.out.2.2.cell (i := 1) (by omega)
            have d2 : W1.cell? ⟨w.heap.size + 1, 2, none⟩ = some (.int .i64 (t : Nat)) := HG.out.2.2.cell (i := 2) (by omega)
            have x0 : ¬ (1 : Int) < (x : Int) := by have := HK.out; omega
            have x1 : ¬ (960 : Int) < (l : Int) := by have := HK.out; omega
            have x2 : ¬ (t : Int) < 0 := by omega
            clear hW1
            go_wp2_with fail
            refine (page_any x l t (by have := HK.out; omega) (by have := HK.out; omega) (by have := HK.out; omega)).mono ?_
            rintro e W2 ⟨k2, rfl, hbt, -, -, hb2⟩
            go_wp2_with fail
            refine (equal32 HK.out.2.2.2.2 (headP_len x l t) (HB.out W2 (below_step HG.out.1 hb2)) hbt).mono ?_
            rintro e w9 ⟨rfl, rfl⟩
            have hr0 := HG.out.2.1.of_block (hb2.block _ HG.out.2.1.lt)
            have hr1 := HG.out.2.2.of_block (hb2.block _ HG.out.2.2.lt)
            have HB2 : Hid (Below w.heap.size w w9) := below_step HG.out.1 hb2
            clear d0 d1 d2 hbt hb2 HG
            have d0 : w9.cell? ⟨w.heap.size + 1, 0, none⟩ = some (.int .i64 (x : Nat)) := hr1.cell (i := 0) (by omega)
            have d1 : w9.cell? ⟨w.heap.size + 1, 1, none⟩ = some (.int .i64 (l : Nat)) := hr1.cell (i := 1) (by omega)
            have d2 : w9.cell? ⟨w.heap.size + 1, 2, none⟩ = some (.int .i64 (t : Nat)) := hr1.cell (i := 2) (by omega)
            have e0 : w9.cell? ⟨w.heap.size, 0, none⟩ = some (.int .i64 0) := hr0.cell (i := 0) (by omega)
            have e1 : w9.cell? ⟨w.heap.size, 1, none⟩ = some (.int .i64 0) := hr0.cell (i := 1) (by omega)
            have e2 : w9.cell? ⟨w.heap.size, 2, none⟩ = some (.int .i64 0) := hr0.cell (i := 2) (by omega)
            have z0 := hr0.frozen
            have HS : Hid (∀ a b c : Int, (((w9.setCell ⟨w.heap.size, 0, none⟩ (.int .i64 a)).setCell ⟨w.heap.size, 1, none⟩ (.int .i64 b)).setCell ⟨w.heap.size, 2, none⟩ (.int .i64 c)).rowIs w.heap.size 93 3 (cells3 a b c) ∧ Below w.heap.size w (((w9.setCell ⟨w.heap.size, 0, none⟩ (.int .i64 a)).setCell ⟨w.heap.size, 1, none⟩ (.int .i64 b)).setCell ⟨w.heap.size, 2, none⟩ (.int .i64 c))) := fun a b c => ⟨row3_set hr0, ((HB2.out.setCell (Nat.le_refl _) _).setCell (Nat.le_refl _) _).setCell (Nat.le_refl _) _⟩
            clear hr0 hr1 HB2
            by_cases hpq : p = headP x l t
            · have HQ : Hid (p = headP x l t ∧ (p == headP x l t) = true) := ⟨hpq, beq_iff_eq.2 hpq⟩
              rw [show (p == headP x l t) = true from HQ.out.2]
              clear hpq
              go_wp2_with fail
              refine bodyPost_ret (results_row_tmp rfl _ _ w.heap.size 93 _ (0, 0) _ rfl (row3_block (HS.out _ _ _).1) Tryd.underlying93 rfl Tryd.sizeHead) rfl ?_
              exact ⟨⟨_, _, _, by rw [HQ.out.2]; rfl, fun _ => ⟨rfl, rfl, rfl⟩⟩, (HS.out _ _ _).2⟩
            · have HQ : Hid (¬ p = headP x l t ∧ (p == headP x l t) = false) := ⟨hpq, beq_false_of_ne hpq⟩
              rw [show (p == headP x l t) = false from HQ.out.2]
              clear hpq
              go_wp2_with fail
              refine bodyPost_ret (results_row_tmp rfl _ _ w.heap.size 93 _ (0, 0) _ rfl (row3_block (HS.out _ _ _).1) Tryd.underlying93 rfl Tryd.sizeHead) rfl ?_
              exact ⟨⟨_, _, _, by rw [HQ.out.2]; rfl, fun q => absurd q HQ.out.1⟩, (HS.out _ _ _).2⟩
  case ca27 =>
    go_simp
    refine hK9.out _ _ (HB.out _ ((((Below.refl _ _).alloc (Nat.le_refl _) _).drew).alloc (by simp) _)) (fun hHeld => ?_)
    clear hK9
    (try simp only [Act.put, List.setIfInBounds_toArray, List.set_cons_zero, List.set_cons_succ])
    refine wpAnyH_ready (rs := [2]) (by kernel_rfl) (by simp) ?_
    refine (AllReadyH.cons rfl (fun K9 hK9 => ?ca25) AllReadyH.nil)
    case ca25 =>
      go_simp
      go_wp2_with (go_at_call 67; refine (HR.out.1 _ hHeld _ (by omega)).mono ?_; rintro e w9 ⟨rfl, rfl⟩)
      refine hK9.out _ _ hHeld (fun hHeld => ?_)
      clear hK9
      (try simp only [Act.put, List.setIfInBounds_toArray, List.set_cons_zero, List.set_cons_succ])
      refine wpAnyH_ready (rs := [5]) (by kernel_rfl) (by simp) ?_
      refine (AllReadyH.cons rfl (fun K9 hK9 => ?ca24) AllReadyH.nil)
      case ca24 =>
        go_simp
        go_wp2_with (go_at_call 67; refine (HR.out.2.1 _ hHeld _ (by omega)).mono ?_; rintro e w9 ⟨rfl, rfl⟩)
        refine hK9.out _ _ hHeld (fun hHeld => ?_)
        clear hK9
        (try simp only [Act.put, List.setIfInBounds_toArray, List.set_cons_zero, List.set_cons_succ])
        refine wpAnyH_ready (rs := [8]) (by kernel_rfl) (by simp) ?_
        refine (AllReadyH.cons rfl (fun K9 hK9 => ?ca23) AllReadyH.nil)
        case ca23 =>
          go_simp
          go_wp2_with (go_at_call 67; refine (HR.out.2.2 _ hHeld _ (by omega)).mono ?_; rintro e w9 ⟨rfl, rfl⟩)
          refine hK9.out _ _ hHeld (fun hHeld => ?_)
          clear hK9
          (try simp only [Act.put, List.setIfInBounds_toArray, List.set_cons_zero, List.set_cons_succ])
          refine wpAnyH_take (i := 9) (oi := { dst := some 14, op := Go.Op.build 93 #[(0, Go.Operand.tmp 7), (1, Go.Operand.tmp 10), (2, Go.Operand.tmp 13)], type := 93, pos := _, after := #[{ on := 2, ground := Go.Ground.data }, { on := 5, ground := Go.Ground.data }, { on := 8, ground := Go.Ground.data }], guard := none }) (v := .agg #[.int .i64 (x : Nat), .int .i64 (l : Nat), .int .i64 (t : Nat)]) rfl (by kernel_rfl) (by kernel_rfl) (by kernel_rfl) (fun _ _ _ h => h) ?ya21 (by assumption) ?_
          case ya21 => exact Or.inl ⟨by rfl, fun w _ => by simp only [execOp, List.map_toArray, List.map_cons, List.map_nil]; exact Dk.L.run_val (run_build w 93 _ _ (by kernel_rfl))⟩
          simp only [Act.put, List.setIfInBounds_toArray, List.set_cons_zero, List.set_cons_succ]
          refine wpAnyH_ready (rs := [11]) (by kernel_rfl) (by simp) ?_
          refine (AllReadyH.cons rfl (fun K9 hK9 => ?ca22) AllReadyH.nil)
          case ca22 =>
            go_simp
            refine hK9.out _ _ (HB.out _ HG.out.1) (fun hHeld => ?_)
            clear hK9
            refine wpAnyH_done (by kernel_rfl) ?_ _
            refine NoPanic.normal ?_
            have d0 : W1.cell? ⟨w.heap.size + 1, 0, none⟩ = some (.int .i64 (x : Nat)) := HG.out.2.2.cell (i := 0) (by omega)
            have d1 : W1.cell? ⟨w.heap.size + 1, 1, none⟩ = some (.int .i64 (l : Nat)) := HG.out.2.2.cell (i := 1) (by omega)
            have d2 : W1.cell? ⟨w.heap.size + 1, 2, none⟩ = some (.int .i64 (t : Nat)) := HG.out.2.2.cell (i := 2) (by omega)
            have x0 : ¬ (1 : Int) < (x : Int) := by have := HK.out; omega
            have x1 : ¬ (960 : Int) < (l : Int) := by have := HK.out; omega
            have x2 : ¬ (t : Int) < 0 := by omega
            clear hW1
            go_wp2_with fail
            refine (page_any x l t (by have := HK.out; omega) (by have := HK.out; omega) (by have := HK.out; omega)).mono ?_
            rintro e W2 ⟨k2, rfl, hbt, -, -, hb2⟩
            go_wp2_with fail
            refine (equal32 HK.out.2.2.2.2 (headP_len x l t) (HB.out W2 (below_step HG.out.1 hb2)) hbt).mono ?_
            rintro e w9 ⟨rfl, rfl⟩
            have hr0 := HG.out.2.1.of_block (hb2.block _ HG.out.2.1.lt)
            have hr1 := HG.out.2.2.of_block (hb2.block _ HG.out.2.2.lt)
            have HB2 : Hid (Below w.heap.size w w9) := below_step HG.out.1 hb2
            clear d0 d1 d2 hbt hb2 HG
            have d0 : w9.cell? ⟨w.heap.size + 1, 0, none⟩ = some (.int .i64 (x : Nat)) := hr1.cell (i := 0) (by omega)
            have d1 : w9.cell? ⟨w.heap.size + 1, 1, none⟩ = some (.int .i64 (l : Nat)) := hr1.cell (i := 1) (by omega)
            have d2 : w9.cell? ⟨w.heap.size + 1, 2, none⟩ = some (.int .i64 (t : Nat)) := hr1.cell (i := 2) (by omega)
            have e0 : w9.cell? ⟨w.heap.size, 0, none⟩ = some (.int .i64 0) := hr0.cell (i := 0) (by omega)
            have e1 : w9.cell? ⟨w.heap.size, 1, none⟩ = some (.int .i64 0) := hr0.cell (i := 1) (by omega)
            have e2 : w9.cell? ⟨w.heap.size, 2, none⟩ = some (.int .i64 0) := hr0.cell (i := 2) (by omega)
            have z0 := hr0.frozen
            have HS : Hid (∀ a b c : Int, (((w9.setCell ⟨w.heap.size, 0, none⟩ (.int .i64 a)).setCell ⟨w.heap.size, 1, none⟩ (.int .i64 b)).setCell ⟨w.heap.size, 2, none⟩ (.int .i64 c)).rowIs w.heap.size 93 3 (cells3 a b c) ∧ Below w.heap.size w (((w9.setCell ⟨w.heap.size, 0, none⟩ (.int .i64 a)).setCell ⟨w.heap.size, 1, none⟩ (.int .i64 b)).setCell ⟨w.heap.size, 2, none⟩ (.int .i64 c))) := fun a b c => ⟨row3_set hr0, ((HB2.out.setCell (Nat.le_refl _) _).setCell (Nat.le_refl _) _).setCell (Nat.le_refl _) _⟩
            clear hr0 hr1 HB2
            by_cases hpq : p = headP x l t
            · have HQ : Hid (p = headP x l t ∧ (p == headP x l t) = true) := ⟨hpq, beq_iff_eq.2 hpq⟩
              rw [show (p == headP x l t) = true from HQ.out.2]
              clear hpq
              go_wp2_with fail
              refine bodyPost_ret (results_row_tmp rfl _ _ w.heap.size 93 _ (0, 0) _ rfl (row3_block (HS.out _ _ _).1) Tryd.underlying93 rfl Tryd.sizeHead) rfl ?_
              exact ⟨⟨_, _, _, by rw [HQ.out.2]; rfl, fun _ => ⟨rfl, rfl, rfl⟩⟩, (HS.out _ _ _).2⟩
            · have HQ : Hid (¬ p = headP x l t ∧ (p == headP x l t) = false) := ⟨hpq, beq_false_of_ne hpq⟩
              rw [show (p == headP x l t) = false from HQ.out.2]
              clear hpq
              go_wp2_with fail
              refine bodyPost_ret (results_row_tmp rfl _ _ w.heap.size 93 _ (0, 0) _ rfl (row3_block (HS.out _ _ _).1) Tryd.underlying93 rfl Tryd.sizeHead) rfl ?_
              exact ⟨⟨_, _, _, by rw [HQ.out.2]; rfl, fun q => absurd q HQ.out.1⟩, (HS.out _ _ _).2⟩

end Go.Proofs.YtdbebeemhomjkacDoor.Sk
