/-
  The landed store: bytes that are cloned, bytes that are held against others, the head on a page.
  A disk beside other memory: its calls, with what stands apart from it.
  The landed store: look, tell, start.
-/
import Derived.Test.YtcfemppdeidjmadGreatF12
import Derived.Test.YtcfemppdeidjmadGreatSh5
import Derived.Test.YtcfemppdeidjmadGreatF11
import Derived.Laws.IdiomStrings
namespace Go.Proofs.YtcfemppdeidjmadGreat.Sk
open Go.RowKit Go.Deep Go.Proofs.YtcfemppdeidjmadGreat.Dk
open Go.RowKit (Below)
set_option linter.unusedVariables false

variable {w w' : World} {b o k n N c : Nat} {p q l : List UInt8}

/-- Bytes as numbers. -/
def nums (l : List UInt8) : List Int := l.map fun x => (x.toNat : Int)
theorem nums_len (l : List UInt8) : (nums l).length = l.length := by simp [nums]
theorem nums_at (l : List UInt8) {i : Nat} (h : i < l.length) : Value.int .u8 ((nums l).getD i 0) = by1 (l.getD i 0) := by
  simp [nums, by1, List.getD_eq_getElem?_getD, List.getElem?_eq_getElem h]
theorem bytesOf_nums (l : List UInt8) : Lib.bytesOf (nums l) = l := by
  unfold Lib.bytesOf nums
  rw [List.map_map]
  refine (List.map_congr_left fun x _ => ?_).trans (List.map_id l)
  simp
theorem bytes_in {a : Option Addr} (h : BtAt w a l) : Lib.BytesIn w a l.length (nums l) := fun h0 => by
  obtain ⟨b, o, e, _⟩ := h 0 h0
  refine ⟨b, o, e, fun i hi => ?_⟩
  obtain ⟨b', o', e', hc⟩ := h i hi
  rw [e] at e'
  simp only [Option.some.injEq, Addr.mk.injEq, and_true] at e'
  obtain ⟨rfl, rfl⟩ := e'
  rw [hc, nums_at l hi]

theorem equal_any {a a' : Option Addr} {c c' : Nat} (h : BtAt w a p) (h' : BtAt w a' q) : Calls Tryz.prog 132 #[.slice a p.length c, .slice a' q.length c'] w fun e w' => e = .returned (.bool (p == q)) ∧ w' = w := by
  have := Any.bytes_Equal_all Tryz.lays115 a a' p.length c q.length c' (nums p) (nums q) w (nums_len p) (nums_len q) (bytes_in h) (bytes_in h')
  rw [bytesOf_nums, bytesOf_nums] at this
  exact this

theorem equal32 {a a' : Option Addr} {c c' : Nat} (hp : p.length = 32) (hq : q.length = 32) (h : BtAt w a p) (h' : BtAt w a' q) : Calls Tryz.prog 132 #[.slice a 32 c, .slice a' 32 c'] w fun e w' => e = .returned (.bool (p == q)) ∧ w' = w := by
  have := equal_any (c := c) (c' := c') h h'
  rwa [hp, hq] at this

theorem own_bt {base : Nat} {v : Value} (h : w.ownsRow base 5 1 v l.length (l.map by1)) : ∃ a c, v = .slice a l.length c ∧ BtAt w a l ∧ l.length ≤ c ∧ c ≤ maxLen ∧ (a = none → c = 0) ∧ (∀ b o, a = some ⟨b, o, none⟩ → base ≤ b ∧ b < w.heap.size) := by
  rcases h.2 with ⟨hv, h0⟩ | ⟨g, cap, cur, hv, hb, hg, h1, h2, h3, h4⟩
  · have hl : l = [] := List.length_eq_zero_iff.1 h0
    subst hl
    exact ⟨none, 0, hv, fun i hi => (by cases hi), Nat.le_refl _, Nat.zero_le _, fun _ => rfl, fun b o e => (by cases e)⟩
  · refine ⟨_, cap, hv, fun i hi => ⟨g, 0, rfl, ?_⟩, h1, h2, fun e => (by cases e), fun b o e => ?_⟩
    · subst hv
      have := h.cellAt i (by omega)
      rw [Nat.zero_add, this, List.getElem?_map, List.getD_eq_getElem?_getD, List.getElem?_eq_getElem hi]
      rfl
    · cases e
      exact ⟨hb, (Array.getElem?_eq_some_iff.1 hg).1⟩

theorem clone_any {a : Option Addr} {c : Nat} (h : BtAt w a l) (hc : l.length ≤ c) (hm : l.length ≤ 1000) (hnil : a = none → c = 0) :
    Calls Tryz.prog 72 #[.slice a l.length c] w fun e w' => ∃ a' c', e = .returned (.slice a' l.length c') ∧ BtAt w' a' l ∧ l.length ≤ c' ∧ c' ≤ maxLen ∧ (a' = none → c' = 0) ∧ (∀ b o, a' = some ⟨b, o, none⟩ → w.heap.size ≤ b ∧ b < w'.heap.size) ∧ Below w.heap.size w w' := by
  cases a with
  | none =>
    have hl : l = [] := List.length_eq_zero_iff.1 (by have := hnil rfl; omega)
    subst hl
    refine (Any.bytes_Clone_nil Tryz.lays4 0 c w).mono fun e w' ⟨h1, h2⟩ => ?_
    subst h2
    exact ⟨none, 0, h1, h, Nat.le_refl _, Nat.zero_le _, fun _ => rfl, fun b o e => (by cases e), Below.refl _ _⟩
  | some ad =>
    refine (Any.bytes_Clone_at Tryz.lays4 ad l.length c (nums l) w (nums_len l) (by omega) (fun i hi => ?_)).mono fun e w' ⟨v, h1, h2, _, h3⟩ => ?_
    · obtain ⟨b, o, e, hcell⟩ := h i hi
      cases e
      rw [Addr.add_lit, hcell, nums_at l hi]
    · have e1 : (nums l).map (Value.int .u8) = l.map by1 := by
        unfold nums
        rw [List.map_map]
        rfl
      rw [e1] at h2
      obtain ⟨a', c', e2, h4, h5, h6, h7, h8⟩ := own_bt h2
      exact ⟨a', c', by rw [h1, e2], h4, h5, h6, h7, h8, h3⟩

theorem results_row_tmp {P : Program} {fn : Func} {p u : Tmp} {ty : TypeId} (h : fn.results = #[.cell p ty, .tmp u]) (tmps : Array Value) (w : World) (g : Nat) (t : TypeId) (cs : Array Value) (fr : Nat × Nat) (d : TypeDesc)
    (hp : tmps.getD p undef = .pointer (some ⟨g, 0, none⟩)) (hg : w.heap[g]? = some (.cells cs t fr))
    (hu : P.underlying ty = some d) (hd : (match d with | .struct _ | .array _ _ => true | _ => false) = true) (hi : (P.info? ty).map (·.size) = some cs.size) :
    (results fn tmps).run P w = .ok (.tuple #[.agg cs, tmps.getD u undef]) w := by
  rw [results_cell_tmp h, hp]
  simp [asAddr, run_loadVar_row w g t ty cs fr d hg hu hd hi]

set_option maxRecDepth 1000000 in
theorem Tryz.sizeHead : (Tryz.prog.info? 137).map (·.size) = some 3 := by kernel_rfl

/-- Three numbers in a block. -/
def cells3 (x y z : Int) : Nat → Value := fun i => if i = 0 then .int .i64 x else if i = 1 then .int .i64 y else .int .i64 z

theorem row3_new (w : World) (x y z : Int) : (w.alloc (.cells #[.int .i64 x, .int .i64 y, .int .i64 z] 137)).rowIs w.heap.size 137 3 (cells3 x y z) :=
  World.rowIs_alloc w #[.int .i64 x, .int .i64 y, .int .i64 z] 137 (cells3 x y z) (fun i hi => by
    match i, hi with
    | 0, _ => rfl
    | 1, _ => rfl
    | 2, _ => rfl)

theorem row3_block {b : Nat} {x y z : Int} (h : w.rowIs b 137 3 (cells3 x y z)) : w.heap[b]? = some (.cells #[.int .i64 x, .int .i64 y, .int .i64 z] 137 (0, 0)) := by
  obtain ⟨c, hb, hs, hc⟩ := h
  have e : c = #[.int .i64 x, .int .i64 y, .int .i64 z] := by
    obtain ⟨c⟩ := c
    match c, hs, hc with
    | [p, q, r], _, hc =>
      have h0 := hc 0 (by omega)
      have h1 := hc 1 (by omega)
      have h2 := hc 2 (by omega)
      simp [cells3] at h0 h1 h2
      subst h0 h1 h2
      rfl
  rw [hb, e]

theorem row3_set {b : Nat} {x y z x' y' z' : Int} (h : w.rowIs b 137 3 (cells3 x y z)) : (((w.setCell ⟨b, 0, none⟩ (.int .i64 x')).setCell ⟨b, 1, none⟩ (.int .i64 y')).setCell ⟨b, 2, none⟩ (.int .i64 z')).rowIs b 137 3 (cells3 x' y' z') :=
  (((h.set 0 _).set 1 _).set 2 _).congr fun i hi => by
    match i, hi with
    | 0, _ => rfl
    | 1, _ => rfl
    | 2, _ => rfl

set_option maxRecDepth 100000 in
set_option maxHeartbeats 4000000 in
theorem headOf_any (h : BtAt w (some ⟨k, 0, none⟩) p) (hp : p.length = 32) {x l t : Nat} (hx : x ≤ 1) (hl : l ≤ 960) (ht : t ≤ 100000) (h1 : ∀ i, i < 1 → p.getD (16 + i) 0 = byt x i) (h2 : ∀ i, i < 2 → p.getD (17 + i) 0 = byt l i) (h3 : ∀ i, i < 8 → p.getD (19 + i) 0 = byt t i) :
    Calls Tryz.prog 106 #[.slice (some ⟨k, 0, none⟩) 32 32] w fun e w' => (∃ x' l' t' : Int, e = .returned (.tuple #[.agg #[.int .i64 x', .int .i64 l', .int .i64 t'], .bool (p == headP x l t)]) ∧ (p = headP x l t → x' = (x : Nat) ∧ l' = (l : Nat) ∧ t' = (t : Nat))) ∧ Below w.heap.size w w' := by
  have HB : Hid (∀ V, Below w.heap.size w V → BtAt V (some ⟨k, 0, none⟩) p) := fun V hb => h.below hb
  have HK : Hid (k < w.heap.size ∧ x ≤ 1 ∧ l ≤ 960 ∧ t ≤ 100000 ∧ p.length = 32) := ⟨by
    obtain ⟨b, o, e, hcell⟩ := h 0 (by omega)
    cases e
    exact World.block_lt_of_cell? _ _ hcell, hx, hl, ht, hp⟩
  have HR1 : ∀ V, BtAt V (some ⟨k, 0, none⟩) p → ∀ d, 1 ≤ d → Calls Tryz.prog 131 #[.slice (some ⟨k, 16, none⟩) 1 d] V fun e w' => e = .returned (.int .i64 (x : Nat)) ∧ w' = V := fun V hV d hd =>
    read_any (B := 0) (fun i hi => by
      obtain ⟨b, o, e, hcell⟩ := hV (16 + i) (by omega)
      cases e
      rw [← h1 i hi, ← hcell, Nat.zero_add]) (by omega) (by omega) hd (by omega) (by omega)
  have HR2 : ∀ V, BtAt V (some ⟨k, 0, none⟩) p → ∀ d, 2 ≤ d → Calls Tryz.prog 131 #[.slice (some ⟨k, 17, none⟩) 2 d] V fun e w' => e = .returned (.int .i64 (l : Nat)) ∧ w' = V := fun V hV d hd =>
    read_any (B := 0) (fun i hi => by
      obtain ⟨b, o, e, hcell⟩ := hV (17 + i) (by omega)
      cases e
      rw [← h2 i hi, ← hcell, Nat.zero_add]) (by omega) (by omega) hd (by omega) (by omega)
  have HR3 : ∀ V, BtAt V (some ⟨k, 0, none⟩) p → ∀ d, 8 ≤ d → Calls Tryz.prog 131 #[.slice (some ⟨k, 19, none⟩) 8 d] V fun e w' => e = .returned (.int .i64 (t : Nat)) ∧ w' = V := fun V hV d hd =>
    read_any (B := 0) (fun i hi => by
      obtain ⟨b, o, e, hcell⟩ := hV (19 + i) (by omega)
      cases e
      rw [← h3 i hi, ← hcell, Nat.zero_add]) (by omega) (by omega) hd (by omega) (by omega)
  have HR : Hid (_ ∧ _ ∧ _) := ⟨HR1, HR2, HR3⟩
  obtain ⟨W1, hW1⟩ : ∃ W1, ((w.alloc (.cells #[.int .i64 0, .int .i64 0, .int .i64 0] 137)).alloc (.cells #[.int .i64 (x : Nat), .int .i64 (l : Nat), .int .i64 (t : Nat)] 137)).drew = W1 := ⟨_, rfl⟩
  have g1 : Below w.heap.size w W1 := hW1 ▸ (((Below.refl _ _).alloc (Nat.le_refl _) _).alloc (by simp) _).drew
  have g2 : W1.rowIs w.heap.size 137 3 (cells3 0 0 0) := hW1 ▸ ((row3_new w 0 0 0).alloc _).drew
  have g3 : W1.rowIs (w.heap.size + 1) 137 3 (cells3 (x : Nat) (l : Nat) (t : Nat)) := by
    have := (row3_new (w.alloc (.cells #[.int .i64 0, .int .i64 0, .int .i64 0] 137)) (x : Nat) (l : Nat) (t : Nat)).drew
    rw [hW1] at this
    rwa [show (w.alloc (.cells #[.int .i64 0, .int .i64 0, .int .i64 0] 137)).heap.size = w.heap.size + 1 by simp] at this
  have HG : Hid (Below w.heap.size w W1 ∧ W1.rowIs w.heap.size 137 3 (cells3 0 0 0) ∧ W1.rowIs (w.heap.size + 1) 137 3 (cells3 (x : Nat) (l : Nat) (t : Nat))) := ⟨g1, g2, g3⟩
  clear g1 g2 g3 HR1 HR2 HR3 h hp hx hl ht h1 h2 h3
  go_enter Tryz.func106, Tryz.ntmps106
  go_wp2_with fail
  refine wp_region_noPanic ?_
  refine wp_region_held_drew (S := fun V => BtAt V (some ⟨k, 0, none⟩) p) (by kernel_rfl) (HB.out _ (((Below.refl _ _).alloc (Nat.le_refl _) _).drew)) (fun hHeld => ?_)
  refine wpAnyH_take (i := 0) (oi := { dst := some 5, op := Go.Op.move (Go.Operand.tmp 0), type := 97, pos := _, after := #[], guard := none }) (v := ?va1) rfl (by kernel_rfl) (by kernel_rfl) (by kernel_rfl) (fun _ _ _ h => h) (Or.inl ⟨by rfl, ?ya1⟩) (by assumption) ?_
  case ya1 =>
    intro w hSw
    (try dsimp only at hSw)
    go_simp
    (try with_reducible rfl)
  simp only [Act.put, List.setIfInBounds_toArray, List.set_cons_zero, List.set_cons_succ]
  refine wpAnyH_take (i := 3) (oi := { dst := some 8, op := Go.Op.move (Go.Operand.tmp 0), type := 97, pos := _, after := #[], guard := none }) (v := ?va2) rfl (by kernel_rfl) (by kernel_rfl) (by kernel_rfl) (fun _ _ _ h => h) (Or.inl ⟨by rfl, ?ya2⟩) (by assumption) ?_
  case ya2 =>
    intro w hSw
    (try dsimp only at hSw)
    go_simp
    (try with_reducible rfl)
  simp only [Act.put, List.setIfInBounds_toArray, List.set_cons_zero, List.set_cons_succ]
  refine wpAnyH_take (i := 6) (oi := { dst := some 11, op := Go.Op.move (Go.Operand.tmp 0), type := 97, pos := _, after := #[], guard := none }) (v := ?va3) rfl (by kernel_rfl) (by kernel_rfl) (by kernel_rfl) (fun _ _ _ h => h) (Or.inl ⟨by rfl, ?ya3⟩) (by assumption) ?_
  case ya3 =>
    intro w hSw
    (try dsimp only at hSw)
    go_simp
    (try with_reducible rfl)
  simp only [Act.put, List.setIfInBounds_toArray, List.set_cons_zero, List.set_cons_succ]
  refine wpAnyH_take (i := 1) (oi := { dst := some 6, op := Go.Op.slice 97 (Go.Operand.tmp 5) (some (Go.Operand.const (Go.Value.int Go.IntKind.i64 16))) (some (Go.Operand.const (Go.Value.int Go.IntKind.i64 17))) none, type := 97, pos := _, after := #[{ on := 0, ground := Go.Ground.data }], guard := none }) (v := ?va4) rfl (by kernel_rfl) (by kernel_rfl) (by kernel_rfl) (fun _ _ _ h => h) (Or.inl ⟨by rfl, ?ya4⟩) (by assumption) ?_
  case ya4 =>
    intro w hSw
    (try dsimp only at hSw)
    go_simp
    (try with_reducible rfl)
  simp only [Act.put, List.setIfInBounds_toArray, List.set_cons_zero, List.set_cons_succ]
  refine wpAnyH_take (i := 4) (oi := { dst := some 9, op := Go.Op.slice 97 (Go.Operand.tmp 8) (some (Go.Operand.const (Go.Value.int Go.IntKind.i64 17))) (some (Go.Operand.const (Go.Value.int Go.IntKind.i64 19))) none, type := 97, pos := _, after := #[{ on := 3, ground := Go.Ground.data }], guard := none }) (v := ?va5) rfl (by kernel_rfl) (by kernel_rfl) (by kernel_rfl) (fun _ _ _ h => h) (Or.inl ⟨by rfl, ?ya5⟩) (by assumption) ?_
  case ya5 =>
    intro w hSw
    (try dsimp only at hSw)
    go_simp
    (try with_reducible rfl)
  simp only [Act.put, List.setIfInBounds_toArray, List.set_cons_zero, List.set_cons_succ]
  refine wpAnyH_take (i := 7) (oi := { dst := some 12, op := Go.Op.slice 97 (Go.Operand.tmp 11) (some (Go.Operand.const (Go.Value.int Go.IntKind.i64 19))) (some (Go.Operand.const (Go.Value.int Go.IntKind.i64 27))) none, type := 97, pos := _, after := #[{ on := 6, ground := Go.Ground.data }], guard := none }) (v := ?va6) rfl (by kernel_rfl) (by kernel_rfl) (by kernel_rfl) (fun _ _ _ h => h) (Or.inl ⟨by rfl, ?ya6⟩) (by assumption) ?_
  case ya6 =>
    intro w hSw
    (try dsimp only at hSw)
    go_simp
    (try with_reducible rfl)
  simp only [Act.put, List.setIfInBounds_toArray, List.set_cons_zero, List.set_cons_succ]
  refine wpAnyH_ready (rs := [2, 10]) (by kernel_rfl) (by simp) ?_
  refine (AllReadyH.cons rfl (fun K9 hK9 => ?ca26) (AllReadyH.cons rfl (fun K9 hK9 => ?ca27) AllReadyH.nil))
  case ca26 =>
    go_simp
    go_wp2_with (go_at_call 131; refine (HR.out.1 _ hHeld _ (by omega)).mono ?_; rintro e w9 ⟨rfl, rfl⟩)
    refine hK9.out _ _ hHeld (fun hHeld => ?_)
    clear hK9
    (try simp only [Act.put, List.setIfInBounds_toArray, List.set_cons_zero, List.set_cons_succ])
    refine wpAnyH_ready (rs := [5, 10]) (by kernel_rfl) (by simp) ?_
    refine (AllReadyH.cons rfl (fun K9 hK9 => ?ca19) (AllReadyH.cons rfl (fun K9 hK9 => ?ca20) AllReadyH.nil))
    case ca19 =>
      go_simp
      go_wp2_with (go_at_call 131; refine (HR.out.2.1 _ hHeld _ (by omega)).mono ?_; rintro e w9 ⟨rfl, rfl⟩)
      refine hK9.out _ _ hHeld (fun hHeld => ?_)
      clear hK9
      (try simp only [Act.put, List.setIfInBounds_toArray, List.set_cons_zero, List.set_cons_succ])
      refine wpAnyH_ready (rs := [8, 10]) (by kernel_rfl) (by simp) ?_
      refine (AllReadyH.cons rfl (fun K9 hK9 => ?ca13) (AllReadyH.cons rfl (fun K9 hK9 => ?ca14) AllReadyH.nil))
      case ca13 =>
        go_simp
        go_wp2_with (go_at_call 131; refine (HR.out.2.2 _ hHeld _ (by omega)).mono ?_; rintro e w9 ⟨rfl, rfl⟩)
        refine hK9.out _ _ hHeld (fun hHeld => ?_)
        clear hK9
        (try simp only [Act.put, List.setIfInBounds_toArray, List.set_cons_zero, List.set_cons_succ])
        refine wpAnyH_take (i := 9) (oi := { dst := some 14, op := Go.Op.build 137 #[(0, Go.Operand.tmp 7), (1, Go.Operand.tmp 10), (2, Go.Operand.tmp 13)], type := 137, pos := _, after := #[{ on := 2, ground := Go.Ground.data }, { on := 5, ground := Go.Ground.data }, { on := 8, ground := Go.Ground.data }], guard := none }) (v := .agg #[.int .i64 (x : Nat), .int .i64 (l : Nat), .int .i64 (t : Nat)]) rfl (by kernel_rfl) (by kernel_rfl) (by kernel_rfl) (fun _ _ _ h => h) ?ya7 (by assumption) ?_
        case ya7 => exact Or.inl ⟨by rfl, fun w _ => by simp only [execOp, List.map_toArray, List.map_cons, List.map_nil]; exact Dk.L.run_val (run_build w 137 _ _ (by kernel_rfl))⟩
        simp only [Act.put, List.setIfInBounds_toArray, List.set_cons_zero, List.set_cons_succ]
        refine wpAnyH_ready (rs := [10]) (by kernel_rfl) (by simp) ?_
        refine (AllReadyH.cons rfl (fun K9 hK9 => ?ca9) AllReadyH.nil)
        case ca9 =>
          go_simp
          refine hK9.out _ _ (HB.out _ ((((Below.refl _ _).alloc (Nat.le_refl _) _).drew).alloc (by simp) _)) (fun hHeld => ?_)
          clear hK9
          (try simp only [Act.put, List.setIfInBounds_toArray, List.set_cons_zero, List.set_cons_succ])
          refine wpAnyH_ready (rs := [11]) (by kernel_rfl) (by simp) ?_
          refine (AllReadyH.cons rfl (fun K9 hK9 => ?ca8) AllReadyH.nil)
          case ca8 =>
            go_simp
            refine hK9.out _ _ (HB.out _ HG.out.1) (fun hHeld => ?_)
            clear hK9
            refine wpAnyH_done (by kernel_rfl) ?_ _
            refine NoPanic.normal ?_
            have d0 : W1.cell? ⟨w.heap.size + 1, 0, none⟩ = some (.int .i64 (x : Nat)) := HG.out.2.2.cell (i := 0) (by omega)
            have d1 : W1.cell? ⟨w.heap.size + 1, 1, none⟩ = some (.int .i64 (l : Nat)) := HG.out.2.2.cell (i := 1) (by omega)
            have d2 : W1.cell? ⟨w.heap.size + 1, 2, none⟩ = some (.int .i64 (t : Nat)) := HG.out.2.2.cell (i := 2) (by omega)
            have x0 : ¬ (1 : Int) < (x : Int) := by have := HK.out; omega
            have x1 : ¬ (960 : Int) < (l : Int) := by have := HK.out; omega
            have x2 : ¬ (t : Int) < 0 := by omega
            clear hW1
            go_wp2_with fail
            refine (page_any x l t (by have := HK.out; omega) (by have := HK.out; omega) (by have := HK.out; omega)).mono ?_
            rintro e W2 ⟨k2, rfl, hbt, -, -, hb2⟩
            go_wp2_with fail
            refine (equal32 HK.out.2.2.2.2 (headP_len x l t) (HB.out W2 (below_step HG.out.1 hb2)) hbt).mono ?_
            rintro e w9 ⟨rfl, rfl⟩
            have hr0 := HG.out.2.1.of_block (hb2.block _ HG.out.2.1.lt)
            have hr1 := HG.out.2.2.of_block (hb2.block _ HG.out.2.2.lt)
            have HB2 : Hid (Below w.heap.size w w9) := below_step HG.out.1 hb2
            clear d0 d1 d2 hbt hb2 HG
            have d0 : w9.cell? ⟨w.heap.size + 1, 0, none⟩ = some (.int .i64 (x : Nat)) := hr1.cell (i := 0) (by omega)
            have d1 : w9.cell? ⟨w.heap.size + 1, 1, none⟩ = some (.int .i64 (l : Nat)) := hr1.cell (i := 1) (by omega)
            have d2 : w9.cell? ⟨w.heap.size + 1, 2, none⟩ = some (.int .i64 (t : Nat)) := hr1.cell (i := 2) (by omega)
            have e0 : w9.cell? ⟨w.heap.size, 0, none⟩ = some (.int .i64 0) := hr0.cell (i := 0) (by omega)
            have e1 : w9.cell? ⟨w.heap.size, 1, none⟩ = some (.int .i64 0) := hr0.cell (i := 1) (by omega)
            have e2 : w9.cell? ⟨w.heap.size, 2, none⟩ = some (.int .i64 0) := hr0.cell (i := 2) (by omega)
            have z0 := hr0.frozen
            have HS : Hid (∀ a b c : Int, (((w9.setCell ⟨w.heap.size, 0, none⟩ (.int .i64 a)).setCell ⟨w.heap.size, 1, none⟩ (.int .i64 b)).setCell ⟨w.heap.size, 2, none⟩ (.int .i64 c)).rowIs w.heap.size 137 3 (cells3 a b c) ∧ Below w.heap.size w (((w9.setCell ⟨w.heap.size, 0, none⟩ (.int .i64 a)).setCell ⟨w.heap.size, 1, none⟩ (.int .i64 b)).setCell ⟨w.heap.size, 2, none⟩ (.int .i64 c))) := fun a b c => ⟨row3_set hr0, ((HB2.out.setCell (Nat.le_refl _) _).setCell (Nat.le_refl _) _).setCell (Nat.le_refl _) _⟩
            clear hr0 hr1 HB2
            by_cases hpq : p = headP x l t
            · have HQ : Hid (p = headP x l t ∧ (p == headP x l t) = true) := ⟨hpq, beq_iff_eq.2 hpq⟩
              rw [show (p == headP x l t) = true from HQ.out.2]
              clear hpq
              go_wp2_with fail
              refine bodyPost_ret (results_row_tmp rfl _ _ w.heap.size 137 _ (0, 0) _ rfl (row3_block (HS.out _ _ _).1) Tryz.underlying137 rfl Tryz.sizeHead) rfl ?_
              exact ⟨⟨_, _, _, by rw [HQ.out.2]; rfl, fun _ => ⟨rfl, rfl, rfl⟩⟩, (HS.out _ _ _).2⟩
            · have HQ : Hid (¬ p = headP x l t ∧ (p == headP x l t) = false) := ⟨hpq, beq_false_of_ne hpq⟩
              rw [show (p == headP x l t) = false from HQ.out.2]
              clear hpq
              go_wp2_with fail
              refine bodyPost_ret (results_row_tmp rfl _ _ w.heap.size 137 _ (0, 0) _ rfl (row3_block (HS.out _ _ _).1) Tryz.underlying137 rfl Tryz.sizeHead) rfl ?_
              exact ⟨⟨_, _, _, by rw [HQ.out.2]; rfl, fun q => absurd q HQ.out.1⟩, (HS.out _ _ _).2⟩
      case ca14 =>
        go_simp
        refine hK9.out _ _ (HB.out _ ((((Below.refl _ _).alloc (Nat.le_refl _) _).drew).alloc (by simp) _)) (fun hHeld => ?_)
        clear hK9
        (try simp only [Act.put, List.setIfInBounds_toArray, List.set_cons_zero, List.set_cons_succ])
        refine wpAnyH_ready (rs := [8]) (by kernel_rfl) (by simp) ?_
        refine (AllReadyH.cons rfl (fun K9 hK9 => ?ca12) AllReadyH.nil)
        case ca12 =>
          go_simp
          go_wp2_with (go_at_call 131; refine (HR.out.2.2 _ hHeld _ (by omega)).mono ?_; rintro e w9 ⟨rfl, rfl⟩)
          refine hK9.out _ _ hHeld (fun hHeld => ?_)
          clear hK9
          (try simp only [Act.put, List.setIfInBounds_toArray, List.set_cons_zero, List.set_cons_succ])
          refine wpAnyH_take (i := 9) (oi := { dst := some 14, op := Go.Op.build 137 #[(0, Go.Operand.tmp 7), (1, Go.Operand.tmp 10), (2, Go.Operand.tmp 13)], type := 137, pos := _, after := #[{ on := 2, ground := Go.Ground.data }, { on := 5, ground := Go.Ground.data }, { on := 8, ground := Go.Ground.data }], guard := none }) (v := .agg #[.int .i64 (x : Nat), .int .i64 (l : Nat), .int .i64 (t : Nat)]) rfl (by kernel_rfl) (by kernel_rfl) (by kernel_rfl) (fun _ _ _ h => h) ?ya10 (by assumption) ?_
          case ya10 => exact Or.inl ⟨by rfl, fun w _ => by simp only [execOp, List.map_toArray, List.map_cons, List.map_nil]; exact Dk.L.run_val (run_build w 137 _ _ (by kernel_rfl))⟩
          simp only [Act.put, List.setIfInBounds_toArray, List.set_cons_zero, List.set_cons_succ]
          refine wpAnyH_ready (rs := [11]) (by kernel_rfl) (by simp) ?_
          refine (AllReadyH.cons rfl (fun K9 hK9 => ?ca11) AllReadyH.nil)
          case ca11 =>
            go_simp
            refine hK9.out _ _ (HB.out _ HG.out.1) (fun hHeld => ?_)
            clear hK9
            refine wpAnyH_done (by kernel_rfl) ?_ _
            refine NoPanic.normal ?_
            have d0 : W1.cell? ⟨w.heap.size + 1, 0, none⟩ = some (.int .i64 (x : Nat)) := HG.out.2.2.cell (i := 0) (by omega)
            have d1 : W1.cell? ⟨w.heap.size + 1, 1, none⟩ = some (.int .i64 (l : Nat)) := HG.out.2.2.cell (i := 1) (by omega)
            have d2 : W1.cell? ⟨w.heap.size + 1, 2, none⟩ = some (.int .i64 (t : Nat)) := HG.out.2.2.cell (i := 2) (by omega)
            have x0 : ¬ (1 : Int) < (x : Int) := by have := HK.out; omega
            have x1 : ¬ (960 : Int) < (l : Int) := by have := HK.out; omega
            have x2 : ¬ (t : Int) < 0 := by omega
            clear hW1
            go_wp2_with fail
            refine (page_any x l t (by have := HK.out; omega) (by have := HK.out; omega) (by have := HK.out; omega)).mono ?_
            rintro e W2 ⟨k2, rfl, hbt, -, -, hb2⟩
            go_wp2_with fail
            refine (equal32 HK.out.2.2.2.2 (headP_len x l t) (HB.out W2 (below_step HG.out.1 hb2)) hbt).mono ?_
            rintro e w9 ⟨rfl, rfl⟩
            have hr0 := HG.out.2.1.of_block (hb2.block _ HG.out.2.1.lt)
            have hr1 := HG.out.2.2.of_block (hb2.block _ HG.out.2.2.lt)
            have HB2 : Hid (Below w.heap.size w w9) := below_step HG.out.1 hb2
            clear d0 d1 d2 hbt hb2 HG
            have d0 : w9.cell? ⟨w.heap.size + 1, 0, none⟩ = some (.int .i64 (x : Nat)) := hr1.cell (i := 0) (by omega)
            have d1 : w9.cell? ⟨w.heap.size + 1, 1, none⟩ = some (.int .i64 (l : Nat)) := hr1.cell (i := 1) (by omega)
            have d2 : w9.cell? ⟨w.heap.size + 1, 2, none⟩ = some (.int .i64 (t : Nat)) := hr1.cell (i := 2) (by omega)
            have e0 : w9.cell? ⟨w.heap.size, 0, none⟩ = some (.int .i64 0) := hr0.cell (i := 0) (by omega)
            have e1 : w9.cell? ⟨w.heap.size, 1, none⟩ = some (.int .i64 0) := hr0.cell (i := 1) (by omega)
            have e2 : w9.cell? ⟨w.heap.size, 2, none⟩ = some (.int .i64 0) := hr0.cell (i := 2) (by omega)
            have z0 := hr0.frozen
            have HS : Hid (∀ a b c : Int, (((w9.setCell ⟨w.heap.size, 0, none⟩ (.int .i64 a)).setCell ⟨w.heap.size, 1, none⟩ (.int .i64 b)).setCell ⟨w.heap.size, 2, none⟩ (.int .i64 c)).rowIs w.heap.size 137 3 (cells3 a b c) ∧ Below w.heap.size w (((w9.setCell ⟨w.heap.size, 0, none⟩ (.int .i64 a)).setCell ⟨w.heap.size, 1, none⟩ (.int .i64 b)).setCell ⟨w.heap.size, 2, none⟩ (.int .i64 c))) := fun a b c => ⟨row3_set hr0, ((HB2.out.setCell (Nat.le_refl _) _).setCell (Nat.le_refl _) _).setCell (Nat.le_refl _) _⟩
            clear hr0 hr1 HB2
            by_cases hpq : p = headP x l t
            · have HQ : Hid (p = headP x l t ∧ (p == headP x l t) = true) := ⟨hpq, beq_iff_eq.2 hpq⟩
              rw [show (p == headP x l t) = true from HQ.out.2]
              clear hpq
              go_wp2_with fail
              refine bodyPost_ret (results_row_tmp rfl _ _ w.heap.size 137 _ (0, 0) _ rfl (row3_block (HS.out _ _ _).1) Tryz.underlying137 rfl Tryz.sizeHead) rfl ?_
              exact ⟨⟨_, _, _, by rw [HQ.out.2]; rfl, fun _ => ⟨rfl, rfl, rfl⟩⟩, (HS.out _ _ _).2⟩
            · have HQ : Hid (¬ p = headP x l t ∧ (p == headP x l t) = false) := ⟨hpq, beq_false_of_ne hpq⟩
              rw [show (p == headP x l t) = false from HQ.out.2]
              clear hpq
              go_wp2_with fail
              refine bodyPost_ret (results_row_tmp rfl _ _ w.heap.size 137 _ (0, 0) _ rfl (row3_block (HS.out _ _ _).1) Tryz.underlying137 rfl Tryz.sizeHead) rfl ?_
              exact ⟨⟨_, _, _, by rw [HQ.out.2]; rfl, fun q => absurd q HQ.out.1⟩, (HS.out _ _ _).2⟩
    case ca20 =>
      go_simp
      refine hK9.out _ _ (HB.out _ ((((Below.refl _ _).alloc (Nat.le_refl _) _).drew).alloc (by simp) _)) (fun hHeld => ?_)
      clear hK9
      (try simp only [Act.put, List.setIfInBounds_toArray, List.set_cons_zero, List.set_cons_succ])
      refine wpAnyH_ready (rs := [5]) (by kernel_rfl) (by simp) ?_
      refine (AllReadyH.cons rfl (fun K9 hK9 => ?ca18) AllReadyH.nil)
      case ca18 =>
        go_simp
        go_wp2_with (go_at_call 131; refine (HR.out.2.1 _ hHeld _ (by omega)).mono ?_; rintro e w9 ⟨rfl, rfl⟩)
        refine hK9.out _ _ hHeld (fun hHeld => ?_)
        clear hK9
        (try simp only [Act.put, List.setIfInBounds_toArray, List.set_cons_zero, List.set_cons_succ])
        refine wpAnyH_ready (rs := [8]) (by kernel_rfl) (by simp) ?_
        refine (AllReadyH.cons rfl (fun K9 hK9 => ?ca17) AllReadyH.nil)
        case ca17 =>
          go_simp
          go_wp2_with (go_at_call 131; refine (HR.out.2.2 _ hHeld _ (by omega)).mono ?_; rintro e w9 ⟨rfl, rfl⟩)
          refine hK9.out _ _ hHeld (fun hHeld => ?_)
          clear hK9
          (try simp only [Act.put, List.setIfInBounds_toArray, List.set_cons_zero, List.set_cons_succ])
          refine wpAnyH_take (i := 9) (oi := { dst := some 14, op := Go.Op.build 137 #[(0, Go.Operand.tmp 7), (1, Go.Operand.tmp 10), (2, Go.Operand.tmp 13)], type := 137, pos := _, after := #[{ on := 2, ground := Go.Ground.data }, { on := 5, ground := Go.Ground.data }, { on := 8, ground := Go.Ground.data }], guard := none }) (v := .agg #[.int .i64 (x : Nat), .int .i64 (l : Nat), .int .i64 (t : Nat)]) rfl (by kernel_rfl) (by kernel_rfl) (by kernel_rfl) (fun _ _ _ h => h) ?ya15 (by assumption) ?_
          case ya15 => exact Or.inl ⟨by rfl, fun w _ => by simp only [execOp, List.map_toArray, List.map_cons, List.map_nil]; exact Dk.L.run_val (run_build w 137 _ _ (by kernel_rfl))⟩
          simp only [Act.put, List.setIfInBounds_toArray, List.set_cons_zero, List.set_cons_succ]
          refine wpAnyH_ready (rs := [11]) (by kernel_rfl) (by simp) ?_
          refine (AllReadyH.cons rfl (fun K9 hK9 => ?ca16) AllReadyH.nil)
          case ca16 =>
            go_simp
            refine hK9.out _ _ (HB.out _ HG.out.1) (fun hHeld => ?_)
            clear hK9
            refine wpAnyH_done (by kernel_rfl) ?_ _
            refine NoPanic.normal ?_
            have d0 : W1.cell? ⟨w.heap.size + 1, 0, none⟩ = some (.int .i64 (x : Nat)) := HG.out.2.2.cell (i := 0) (by omega)
            have d1 : W1.cell? ⟨w.heap.size + 1, 1, none⟩ = some (.int .i64 (l : Nat)) := HG.out.2.2.cell (i := 1) (by omega)
            have d2 : W1.cell? ⟨w.heap.size + 1, 2, none⟩ = some (.int .i64 (t : Nat)) := HG.out.2.2.cell (i := 2) (by omega)
            have x0 : ¬ (1 : Int) < (x : Int) := by have := HK.out; omega
            have x1 : ¬ (960 : Int) < (l : Int) := by have := HK.out; omega
            have x2 : ¬ (t : Int) < 0 := by omega
            clear hW1
            go_wp2_with fail
            refine (page_any x l t (by have := HK.out; omega) (by have := HK.out; omega) (by have := HK.out; omega)).mono ?_
            rintro e W2 ⟨k2, rfl, hbt, -, -, hb2⟩
            go_wp2_with fail
            refine (equal32 HK.out.2.2.2.2 (headP_len x l t) (HB.out W2 (below_step HG.out.1 hb2)) hbt).mono ?_
            rintro e w9 ⟨rfl, rfl⟩
            have hr0 := HG.out.2.1.of_block (hb2.block _ HG.out.2.1.lt)
            have hr1 := HG.out.2.2.of_block (hb2.block _ HG.out.2.2.lt)
            have HB2 : Hid (Below w.heap.size w w9) := below_step HG.out.1 hb2
            clear d0 d1 d2 hbt hb2 HG
            have d0 : w9.cell? ⟨w.heap.size + 1, 0, none⟩ = some (.int .i64 (x : Nat)) := hr1.cell (i := 0) (by omega)
            have d1 : w9.cell? ⟨w.heap.size + 1, 1, none⟩ = some (.int .i64 (l : Nat)) := hr1.cell (i := 1) (by omega)
            have d2 : w9.cell? ⟨w.heap.size + 1, 2, none⟩ = some (.int .i64 (t : Nat)) := hr1.cell (i := 2) (by omega)
            have e0 : w9.cell? ⟨w.heap.size, 0, none⟩ = some (.int .i64 0) := hr0.cell (i := 0) (by omega)
            have e1 : w9.cell? ⟨w.heap.size, 1, none⟩ = some (.int .i64 0) := hr0.cell (i := 1) (by omega)
            have e2 : w9.cell? ⟨w.heap.size, 2, none⟩ = some (.int .i64 0) := hr0.cell (i := 2) (by omega)
            have z0 := hr0.frozen
            have HS : Hid (∀ a b c : Int, (((w9.setCell ⟨w.heap.size, 0, none⟩ (.int .i64 a)).setCell ⟨w.heap.size, 1, none⟩ (.int .i64 b)).setCell ⟨w.heap.size, 2, none⟩ (.int .i64 c)).rowIs w.heap.size 137 3 (cells3 a b c) ∧ Below w.heap.size w (((w9.setCell ⟨w.heap.size, 0, none⟩ (.int .i64 a)).setCell ⟨w.heap.size, 1, none⟩ (.int .i64 b)).setCell ⟨w.heap.size, 2, none⟩ (.int .i64 c))) := fun a b c => ⟨row3_set hr0, ((HB2.out.setCell (Nat.le_refl _) _).setCell (Nat.le_refl _) _).setCell (Nat.le_refl _) _⟩
            clear hr0 hr1 HB2
            by_cases hpq : p = headP x l t
            · have HQ : Hid (p = headP x l t ∧ (p == headP x l t) = true) := ⟨hpq, beq_iff_eq.2 hpq⟩
              rw [show (p == headP x l t) = true from HQ.out.2]
              clear hpq
              go_wp2_with fail
              refine bodyPost_ret (results_row_tmp rfl _ _ w.heap.size 137 _ (0, 0) _ rfl (row3_block (HS.out _ _ _).1) Tryz.underlying137 rfl Tryz.sizeHead) rfl ?_
              exact ⟨⟨_, _, _, by rw [HQ.out.2]; rfl, fun _ => ⟨rfl, rfl, rfl⟩⟩, (HS.out _ _ _).2⟩
            · have HQ : Hid (¬ p = headP x l t ∧ (p == headP x l t) = false) := ⟨hpq, beq_false_of_ne hpq⟩
              rw [show (p == headP x l t) = false from HQ.out.2]
              clear hpq
              go_wp2_with fail
              refine bodyPost_ret (results_row_tmp rfl _ _ w.heap.size 137 _ (0, 0) _ rfl (row3_block (HS.out _ _ _).1) Tryz.underlying137 rfl Tryz.sizeHead) rfl ?_
              exact ⟨⟨_, _, _, by rw [HQ.out.2]; rfl, fun q => absurd q HQ.out.1⟩, (HS.out _ _ _).2⟩
  case ca27 =>
    go_simp
    refine hK9.out _ _ (HB.out _ ((((Below.refl _ _).alloc (Nat.le_refl _) _).drew).alloc (by simp) _)) (fun hHeld => ?_)
    clear hK9
    (try simp only [Act.put, List.setIfInBounds_toArray, List.set_cons_zero, List.set_cons_succ])
    refine wpAnyH_ready (rs := [2]) (by kernel_rfl) (by simp) ?_
    refine (AllReadyH.cons rfl (fun K9 hK9 => ?ca25) AllReadyH.nil)
    case ca25 =>
      go_simp
      go_wp2_with (go_at_call 131; refine (HR.out.1 _ hHeld _ (by omega)).mono ?_; rintro e w9 ⟨rfl, rfl⟩)
      refine hK9.out _ _ hHeld (fun hHeld => ?_)
      clear hK9
      (try simp only [Act.put, List.setIfInBounds_toArray, List.set_cons_zero, List.set_cons_succ])
      refine wpAnyH_ready (rs := [5]) (by kernel_rfl) (by simp) ?_
      refine (AllReadyH.cons rfl (fun K9 hK9 => ?ca24) AllReadyH.nil)
      case ca24 =>
        go_simp
        go_wp2_with (go_at_call 131; refine (HR.out.2.1 _ hHeld _ (by omega)).mono ?_; rintro e w9 ⟨rfl, rfl⟩)
        refine hK9.out _ _ hHeld (fun hHeld => ?_)
        clear hK9
        (try simp only [Act.put, List.setIfInBounds_toArray, List.set_cons_zero, List.set_cons_succ])
        refine wpAnyH_ready (rs := [8]) (by kernel_rfl) (by simp) ?_
        refine (AllReadyH.cons rfl (fun K9 hK9 => ?ca23) AllReadyH.nil)
        case ca23 =>
          go_simp
          go_wp2_with (go_at_call 131; refine (HR.out.2.2 _ hHeld _ (by omega)).mono ?_; rintro e w9 ⟨rfl, rfl⟩)
          refine hK9.out _ _ hHeld (fun hHeld => ?_)
          clear hK9
          (try simp only [Act.put, List.setIfInBounds_toArray, List.set_cons_zero, List.set_cons_succ])
          refine wpAnyH_take (i := 9) (oi := { dst := some 14, op := Go.Op.build 137 #[(0, Go.Operand.tmp 7), (1, Go.Operand.tmp 10), (2, Go.Operand.tmp 13)], type := 137, pos := _, after := #[{ on := 2, ground := Go.Ground.data }, { on := 5, ground := Go.Ground.data }, { on := 8, ground := Go.Ground.data }], guard := none }) (v := .agg #[.int .i64 (x : Nat), .int .i64 (l : Nat), .int .i64 (t : Nat)]) rfl (by kernel_rfl) (by kernel_rfl) (by kernel_rfl) (fun _ _ _ h => h) ?ya21 (by assumption) ?_
          case ya21 => exact Or.inl ⟨by rfl, fun w _ => by simp only [execOp, List.map_toArray, List.map_cons, List.map_nil]; exact Dk.L.run_val (run_build w 137 _ _ (by kernel_rfl))⟩
          simp only [Act.put, List.setIfInBounds_toArray, List.set_cons_zero, List.set_cons_succ]
          refine wpAnyH_ready (rs := [11]) (by kernel_rfl) (by simp) ?_
          refine (AllReadyH.cons rfl (fun K9 hK9 => ?ca22) AllReadyH.nil)
          case ca22 =>
            go_simp
            refine hK9.out _ _ (HB.out _ HG.out.1) (fun hHeld => ?_)
            clear hK9
            refine wpAnyH_done (by kernel_rfl) ?_ _
            refine NoPanic.normal ?_
            have d0 : W1.cell? ⟨w.heap.size + 1, 0, none⟩ = some (.int .i64 (x : Nat)) := HG.out.2.2.cell (i := 0) (by omega)
            have d1 : W1.cell? ⟨w.heap.size + 1, 1, none⟩ = some (.int .i64 (l : Nat)) := HG.out.2.2.cell (i := 1) (by omega)
            have d2 : W1.cell? ⟨w.heap.size + 1, 2, none⟩ = some (.int .i64 (t : Nat)) := HG.out.2.2.cell (i := 2) (by omega)
            have x0 : ¬ (1 : Int) < (x : Int) := by have := HK.out; omega
            have x1 : ¬ (960 : Int) < (l : Int) := by have := HK.out; omega
            have x2 : ¬ (t : Int) < 0 := by omega
            clear hW1
            go_wp2_with fail
            refine (page_any x l t (by have := HK.out; omega) (by have := HK.out; omega) (by have := HK.out; omega)).mono ?_
            rintro e W2 ⟨k2, rfl, hbt, -, -, hb2⟩
            go_wp2_with fail
            refine (equal32 HK.out.2.2.2.2 (headP_len x l t) (HB.out W2 (below_step HG.out.1 hb2)) hbt).mono ?_
            rintro e w9 ⟨rfl, rfl⟩
            have hr0 := HG.out.2.1.of_block (hb2.block _ HG.out.2.1.lt)
            have hr1 := HG.out.2.2.of_block (hb2.block _ HG.out.2.2.lt)
            have HB2 : Hid (Below w.heap.size w w9) := below_step HG.out.1 hb2
            clear d0 d1 d2 hbt hb2 HG
            have d0 : w9.cell? ⟨w.heap.size + 1, 0, none⟩ = some (.int .i64 (x : Nat)) := hr1.cell (i := 0) (by omega)
            have d1 : w9.cell? ⟨w.heap.size + 1, 1, none⟩ = some (.int .i64 (l : Nat)) := hr1.cell (i := 1) (by omega)
            have d2 : w9.cell? ⟨w.heap.size + 1, 2, none⟩ = some (.int .i64 (t : Nat)) := hr1.cell (i := 2) (by omega)
            have e0 : w9.cell? ⟨w.heap.size, 0, none⟩ = some (.int .i64 0) := hr0.cell (i := 0) (by omega)
            have e1 : w9.cell? ⟨w.heap.size, 1, none⟩ = some (.int .i64 0) := hr0.cell (i := 1) (by omega)
            have e2 : w9.cell? ⟨w.heap.size, 2, none⟩ = some (.int .i64 0) := hr0.cell (i := 2) (by omega)
            have z0 := hr0.frozen
            have HS : Hid (∀ a b c : Int, (((w9.setCell ⟨w.heap.size, 0, none⟩ (.int .i64 a)).setCell ⟨w.heap.size, 1, none⟩ (.int .i64 b)).setCell ⟨w.heap.size, 2, none⟩ (.int .i64 c)).rowIs w.heap.size 137 3 (cells3 a b c) ∧ Below w.heap.size w (((w9.setCell ⟨w.heap.size, 0, none⟩ (.int .i64 a)).setCell ⟨w.heap.size, 1, none⟩ (.int .i64 b)).setCell ⟨w.heap.size, 2, none⟩ (.int .i64 c))) := fun a b c => ⟨row3_set hr0, ((HB2.out.setCell (Nat.le_refl _) _).setCell (Nat.le_refl _) _).setCell (Nat.le_refl _) _⟩
            clear hr0 hr1 HB2
            by_cases hpq : p = headP x l t
            · have HQ : Hid (p = headP x l t ∧ (p == headP x l t) = true) := ⟨hpq, beq_iff_eq.2 hpq⟩
              rw [show (p == headP x l t) = true from HQ.out.2]
              clear hpq
              go_wp2_with fail
              refine bodyPost_ret (results_row_tmp rfl _ _ w.heap.size 137 _ (0, 0) _ rfl (row3_block (HS.out _ _ _).1) Tryz.underlying137 rfl Tryz.sizeHead) rfl ?_
              exact ⟨⟨_, _, _, by rw [HQ.out.2]; rfl, fun _ => ⟨rfl, rfl, rfl⟩⟩, (HS.out _ _ _).2⟩
            · have HQ : Hid (¬ p = headP x l t ∧ (p == headP x l t) = false) := ⟨hpq, beq_false_of_ne hpq⟩
              rw [show (p == headP x l t) = false from HQ.out.2]
              clear hpq
              go_wp2_with fail
              refine bodyPost_ret (results_row_tmp rfl _ _ w.heap.size 137 _ (0, 0) _ rfl (row3_block (HS.out _ _ _).1) Tryz.underlying137 rfl Tryz.sizeHead) rfl ?_
              exact ⟨⟨_, _, _, by rw [HQ.out.2]; rfl, fun q => absurd q HQ.out.1⟩, (HS.out _ _ _).2⟩

end Go.Proofs.YtcfemppdeidjmadGreat.Sk

namespace Go.Proofs.YtcfemppdeidjmadGreat.Dk
open Go.RowKit Go.Deep
open Go.RowKit (Below)
set_option linter.unusedVariables false

variable {w w' wr : World} {D : Face} {B n : Nat} {d : Value} {X : Nat → Prop} {s s' : St}

/-- A disk, the call's own, with what stands apart from it. -/
structure LW (D : Face) (w : World) (B n : Nat) (d : Value) (X : Nat → Prop) (wr : World) (s : St) : Prop where
  at_ : ∃ F, D wr B d n s F ∧ ∀ b, X b → ¬ F b ∧ b < wr.heap.size
  below : Below w.heap.size w wr
  b1 : w.heap.size ≤ B
  b2 : B ≤ wr.heap.size

/-- What stands apart is as it was. -/
def Same (X : Nat → Prop) (w w' : World) : Prop := ∀ b, X b → w'.heap[b]? = w.heap[b]?
theorem Same.refl (w : World) : Same X w w := fun _ _ => rfl
theorem Same.trans {w'' : World} (h : Same X w w') (h' : Same X w' w'') : Same X w w'' := fun b hb => (h' b hb).trans (h b hb)

theorem LW.turn (O : DiskOk D) {F F' : Nat → Prop} (h : LW D w B n d X wr s) (hF : D wr B d n s F) (hX : ∀ b, X b → ¬ F b ∧ b < wr.heap.size) (h1 : D w' B d n s' F') (h2 : ∀ b, F' b → F b ∨ wr.heap.size ≤ b) (h3 : Turn F wr w') : LW D w B n d X w' s' ∧ Same X wr w' :=
  ⟨⟨⟨F', h1, fun b hb => ⟨fun q => by
    rcases h2 b q with q' | q'
    · exact (hX b hb).1 q'
    · have := (hX b hb).2; omega, Nat.lt_of_lt_of_le (hX b hb).2 h3.size⟩⟩,
   h3.below h.below h.below.size (fun k hk => Nat.le_trans h.b1 (O.own hF k hk).1), h.b1, Nat.le_trans h.b2 h3.size⟩,
   fun b hb => h3.block b (hX b hb).2 (hX b hb).1⟩

/-- Other memory turns: the disk stands. -/
theorem LW.other (O : DiskOk D) {Y : Nat → Prop} (h : LW D w B n d X wr s) (t : Turn Y wr w') (hY : ∀ b, Y b → X b) (hB : ∀ b, Y b → w.heap.size ≤ b) : LW D w B n d X w' s := by
  obtain ⟨F, hF, hX⟩ := h.at_
  exact ⟨⟨F, O.keep hF t.size fun b hb => t.block b (O.own hF b hb).2 fun q => (hX b (hY b q)).1 hb, fun b hb => ⟨(hX b hb).1, Nat.lt_of_lt_of_le (hX b hb).2 t.size⟩⟩, t.below h.below h.below.size hB, h.b1, Nat.le_trans h.b2 t.size⟩

theorem LW.step (O : DiskOk D) (h : LW D w B n d X wr s) (hb : Below wr.heap.size wr w') : LW D w B n d X w' s :=
  h.other O (Y := fun _ => False) (Turn.of_below hb) (fun _ q => q.elim) (fun _ q => q.elim)

/-- A cell of what stands apart is set. -/
theorem LW.setCell (O : DiskOk D) (h : LW D w B n d X wr s) {b i : Nat} (hX : X b) (hb : w.heap.size ≤ b) (v : Value) : LW D w B n d X (wr.setCell ⟨b, i, none⟩ v) s :=
  h.other O (Y := fun k => k = b) ⟨rfl, rfl, rfl, by simp, fun k _ hk => by simp [World.setCell, Array.getElem?_modify, Ne.symm hk]⟩ (fun k e => e ▸ hX) (fun k e => e ▸ hb)

/-- One more block stands apart. -/
theorem LW.apart (O : DiskOk D) (h : LW D w B n d X wr s) (o : Obj) : LW D w B n d (fun b => X b ∨ b = wr.heap.size) (wr.alloc o) s := by
  obtain ⟨F, hF, hX⟩ := h.at_
  have hb : Below wr.heap.size wr (wr.alloc o) := (Below.refl _ _).alloc (Nat.le_refl _) _
  refine ⟨⟨F, O.keep hF hb.size fun b q => hb.block b (O.own hF b q).2, fun b q => ?_⟩, below_step h.below hb, h.b1, Nat.le_trans h.b2 hb.size⟩
  rcases q with q | rfl
  · exact ⟨(hX b q).1, Nat.lt_of_lt_of_le (hX b q).2 hb.size⟩
  · exact ⟨fun z => by have := (O.own hF _ z).2; omega, by simp⟩

theorem lw_new (O : DiskOk D) (h : Below w.heap.size w wr) (h1 : 1 ≤ n) (h2 : n ≤ 80) : Calls Tryz.prog 16 #[.int .i64 (n : Nat)] wr fun e w' => ∃ d, e = .returned (.tuple #[d, .nilIface]) ∧ LW D w wr.heap.size n d (fun _ => False) w' fresh :=
  (O.new_ok n h1 h2).mono fun e w' ⟨d, F, e1, e2, e3⟩ => ⟨d, e1, ⟨F, e2, fun b q => q.elim⟩, below_step h e3, h.size, e3.size⟩

theorem lw_write (O : DiskOk D) (h : LW D w B n d X wr s) {a : Option Addr} {l : List UInt8} {c : Nat} (k : Int) (ha : BtAt w a l) (hc : l.length ≤ c) (hc2 : c ≤ maxLen) (hnil : a = none → c = 0) (hw : s.wr.length ≤ 1000) :
    Calls Tryz.prog 102 #[d, .int .i64 k, .slice a l.length c] wr fun e w' => ∃ v x s', e = .returned v ∧ Er v x ∧ Writes n s k l x s' ∧ LW D w B n d X w' s' ∧ Same X wr w' := by
  obtain ⟨F, hF, hX⟩ := h.at_
  refine (O.write k hF h.b2 (ha.below h.below) hc hc2 (fun hl b o e q => ?_) hnil hw).mono fun e w' ⟨v, x, s', F', e1, e2, e3, e4, e5, e6⟩ => ⟨v, x, s', e1, e2, e3, h.turn O hF hX e4 e5 e6⟩
  obtain ⟨b', o', e', hcell⟩ := ha 0 (List.length_pos_iff.2 hl)
  rw [e] at e'
  simp only [Option.some.injEq, Addr.mk.injEq, and_true] at e'
  have h1 := World.block_lt_of_cell? _ _ hcell
  have h2 := (O.own hF b q).1
  have h3 := h.b1
  simp at h1
  omega

theorem lw_sync (O : DiskOk D) (h : LW D w B n d X wr s) : Calls Tryz.prog 104 #[d] wr fun e w' => ∃ v x s', e = .returned v ∧ Er v x ∧ Syncs s x s' ∧ LW D w B n d X w' s' ∧ Same X wr w' := by
  obtain ⟨F, hF, hX⟩ := h.at_
  exact (O.sync hF h.b2).mono fun e w' ⟨v, x, s', F', e1, e2, e3, e4, e5, e6⟩ => ⟨v, x, s', e1, e2, e3, h.turn O hF hX e4 e5 e6⟩

theorem lw_read (O : DiskOk D) (h : LW D w B n d X wr s) (i : Nat) (hi : i < n) :
    Calls Tryz.prog 105 #[d, .int .i64 (i : Nat)] wr fun e w' => ∃ k c, e = .returned (.tuple #[.slice (some ⟨k, 0, none⟩) 32 c, .nilIface]) ∧ (s.now i).length = 32 ∧ BtAt w' (some ⟨k, 0, none⟩) (s.now i) ∧ LW D w B n d X w' s ∧ Below wr.heap.size wr w' := by
  obtain ⟨F, hF, hX⟩ := h.at_
  exact (O.read_ok i hF h.b2 hi).mono fun e w' ⟨k, c, e1, e2, e3, e4, e5⟩ => ⟨k, c, e1, e2, e3, h.step O e5, e5⟩

def str (l : List UInt8) : ByteArray := ⟨l.toArray⟩

/-- A page as a text. -/
theorem conv_page {k c : Nat} {l : List UInt8} (hl : l.length = 32) (h : BtAt w (some ⟨k, 0, none⟩) l) : (convert 97 9 (.slice (some ⟨k, 0, none⟩) 32 c)).run Tryz.prog w = .ok (.string (str l)) w := by
  have := run_convert_bytes_back (P := Tryz.prog) w 97 9 5 ⟨k, 0, none⟩ c l Tryz.underlying97 Tryz.underlying5 Tryz.underlying9 (fun j hj => by
    obtain ⟨b, o, e, hc⟩ := h j hj
    simp only [Option.some.injEq, Addr.mk.injEq, and_true] at e
    obtain ⟨rfl, rfl⟩ := e
    rw [List.getD_eq_getElem?_getD, List.getElem?_eq_getElem hj] at hc
    rw [Addr.add_lit]
    exact hc)
  rw [hl] at this
  exact this

/-- The power is on, and stays on. -/
structure Alive (s : St) : Prop where
  left : s.left = -1
  down : s.down = false
  size : Sized s

theorem Alive.on {s : St} (h : Alive s) : ¬ Off s := fun q => by
  rcases q with q | q
  · rw [h.down] at q; cases q
  · rw [h.left] at q; cases q
theorem Alive.fresh : Alive fresh := ⟨rfl, rfl, Sized.fresh⟩
theorem Alive.wrote {s : St} (h : Alive s) (a : Nat) {p : List UInt8} (hp : p.length = 32) : Alive (wrote s a p) := ⟨by show (if 0 < s.left then _ else _) = _; rw [h.left]; rfl, h.down, h.size.wrote a hp⟩
theorem Alive.synced {s : St} (h : Alive s) : Alive (synced s) := ⟨by show (if 0 < s.left then _ else _) = _; rw [h.left]; rfl, h.down, h.size.synced⟩
theorem Alive.crashed {s : St} (h : Alive s) (q : Nat → Bool) : Alive (crashed s q) := ⟨rfl, rfl, h.size.crashed q⟩

theorem Alive.writes {k x : Int} {l : List UInt8} (h : Alive s) (hw : Writes n s k l x s') : (x ≠ 0 ∧ s' = s) ∨ (∃ a : Nat, k = (a : Int) ∧ a < n ∧ l.length ≤ 32 ∧ x = 0 ∧ s' = Dk.wrote s a (pad l)) := by
  rcases hw with ⟨_, h2, h3⟩ | ⟨_, _, h2, h3⟩ | ⟨_, _, h2, _⟩ | ⟨h1, h4, _, h2, h3⟩
  · exact Or.inl ⟨by omega, h3⟩
  · exact Or.inl ⟨by omega, h3⟩
  · exact absurd h2 h.on
  · exact Or.inr ⟨k.toNat, by omega, by omega, h4, h2, h3⟩
theorem Alive.syncs {x : Int} (h : Alive s) (hw : Syncs s x s') : x = 0 ∧ s' = Dk.synced s := by
  rcases hw with ⟨h1, _⟩ | ⟨_, h2, h3⟩
  · exact absurd h1 h.on
  · exact ⟨h2, h3⟩

theorem Er.nil {v : Value} (h : Er v 0) : v = .nilIface := by
  rcases h with ⟨h, _⟩ | ⟨_, h⟩
  · exact h
  · exact absurd rfl h
theorem Er.some {v : Value} {x : Int} (h : Er v x) (hx : x ≠ 0) : v = .iface 66 (.int .i64 x) := by
  rcases h with ⟨_, h⟩ | ⟨h, _⟩
  · exact absurd h hx
  · exact h

/-- Bytes that stand apart are written. -/
theorem lw_write_x (O : DiskOk D) (h : LW D w B n d X wr s) {a : Option Addr} {l : List UInt8} {c : Nat} (k : Int) (ha : BtAt wr a l) (hX : ∀ b o, a = some ⟨b, o, none⟩ → X b) (hc : l.length ≤ c) (hc2 : c ≤ maxLen) (hnil : a = none → c = 0) (hw : s.wr.length ≤ 1000) :
    Calls Tryz.prog 102 #[d, .int .i64 k, .slice a l.length c] wr fun e w' => ∃ v x s', e = .returned v ∧ Er v x ∧ Writes n s k l x s' ∧ LW D w B n d X w' s' ∧ Same X wr w' := by
  obtain ⟨F, hF, hF2⟩ := h.at_
  exact (O.write k hF h.b2 ha hc hc2 (fun _ b o e => (hF2 b (hX b o e)).1) hnil hw).mono fun e w' ⟨v, x, s', F', e1, e2, e3, e4, e5, e6⟩ => ⟨v, x, s', e1, e2, e3, h.turn O hF hF2 e4 e5 e6⟩

theorem Alive.may {a : Nat} {x : Int} {l : List UInt8} (h : Alive s) (hw : Writes n s (a : Int) l x s') (ha : a < n) (hl : l.length ≤ 32) : x = 0 ∧ s' = Dk.wrote s a (pad l) := by
  rcases hw with ⟨h1, _⟩ | ⟨_, h1, _⟩ | ⟨_, _, h1, _⟩ | ⟨_, _, _, h2, h3⟩
  · omega
  · omega
  · exact absurd h1 h.on
  · exact ⟨h2, h3⟩

end Go.Proofs.YtcfemppdeidjmadGreat.Dk

namespace Go.Proofs.YtcfemppdeidjmadGreat.Sk
open Go.RowKit Go.Deep Go.Proofs.YtcfemppdeidjmadGreat.Dk
open Go.RowKit (Below)
set_option linter.unusedVariables false

variable {w w' : World} {D : Dk.Face} {B n : Nat} {d : Value} {S S' : St} {F F' : Nat → Prop}

theorem dk_below (O : DiskOk D) (h : D w B d n S F) (hb : Below w.heap.size w w') : D w' B d n S F := O.keep h hb.size fun b q => hb.block b (O.own h b q).2

theorem turn_step {W : World} {F3 : Nat → Prop} (h : Turn F w w') (h' : Turn F3 w' W) (hF : ∀ b, F3 b → F b ∨ w.heap.size ≤ b) : Turn F w W :=
  ⟨h'.os.trans h.os, h'.tape.trans h.tape, h'.output.trans h.output, Nat.le_trans h.size h'.size, fun k hk hn => (h'.block k (Nat.lt_of_lt_of_le hk h.size) fun q => (hF k q).elim hn fun q => by omega).trans (h.block k hk hn)⟩

/-- What stands on the first page. -/
structure Page0 (p : List UInt8) (x l t : Nat) : Prop where
  len : p.length = 32
  px : ∀ i, i < 1 → p.getD (16 + i) 0 = byt x i
  pl : ∀ i, i < 2 → p.getD (17 + i) 0 = byt l i
  pt : ∀ i, i < 8 → p.getD (19 + i) 0 = byt t i
  x1 : x ≤ 1
  l1 : l ≤ 960
  t1 : t ≤ 100000

theorem page0_head {x l t : Nat} (hx : x ≤ 1) (hl : l ≤ 960) (ht : t ≤ 100000) : Page0 (headP x l t) x l t :=
  ⟨headP_len x l t, fun i hi => by rw [headP_at _ _ _ _ (by omega), if_neg (by omega), if_pos (by omega), Nat.add_sub_cancel_left], fun i hi => by rw [headP_at _ _ _ _ (by omega), if_neg (by omega), if_neg (by omega), if_pos (by omega), Nat.add_sub_cancel_left],
   fun i hi => by rw [headP_at _ _ _ _ (by omega), if_neg (by omega), if_neg (by omega), if_neg (by omega), if_pos (by omega), Nat.add_sub_cancel_left], hx, hl, ht⟩
theorem blank_getD (i : Nat) : Dk.blank.getD i 0 = 0 := by
  unfold Dk.blank
  rw [List.getD_eq_getElem?_getD, List.getElem?_replicate]
  split <;> rfl
theorem page0_blank : Page0 Dk.blank 0 0 0 := ⟨blank_len, fun i _ => by rw [blank_getD, byt_zero], fun i _ => by rw [blank_getD, byt_zero], fun i _ => by rw [blank_getD, byt_zero], by omega, by omega, by omega⟩

set_option maxRecDepth 100000 in
set_option maxHeartbeats 2000000 in
theorem look_any (O : DiskOk D) (h : D w B d n S F) (hB : B ≤ w.heap.size) {x l t : Nat} (h0 : Page0 (S.now 0) x l t) (h1 : 1 ≤ n) :
    Calls Tryz.prog 69 #[d] w fun e w' => (∃ x' l' t' : Int, ∃ ok : Bool, e = .returned (.tuple #[.agg #[.int .i64 x', .int .i64 l', .int .i64 t'], .bool ok]) ∧ (62 ≤ n → S.now 0 = headP x l t → ok = true ∧ x' = (x : Nat) ∧ l' = (l : Nat) ∧ t' = (t : Nat)) ∧ (n < 62 ∨ S.now 0 ≠ headP x l t → ok = false)) ∧ Below w.heap.size w w' := by
  have b1 : Below w.heap.size w (w.alloc (.cells #[.int .i64 0, .int .i64 0, .int .i64 0] 137)) := (Below.refl _ _).alloc (Nat.le_refl _) _
  have r1 := row3_new w 0 0 0
  have k1 := dk_below O h b1
  obtain ⟨W1, hW1⟩ : ∃ W1, w.alloc (.cells #[.int .i64 0, .int .i64 0, .int .i64 0] 137) = W1 := ⟨_, rfl⟩
  rw [hW1] at b1 r1 k1
  have HP : Hid (DiskOk D ∧ Page0 (S.now 0) x l t ∧ B ≤ w.heap.size ∧ 1 ≤ n) := ⟨O, h0, hB, h1⟩
  have H1 : Hid (D W1 B d n S F ∧ Below w.heap.size w W1 ∧ W1.rowIs w.heap.size 137 3 (cells3 0 0 0)) := ⟨k1, b1, r1⟩
  clear b1 r1 k1 O h hB h0 h1
  go_enter Tryz.func69, Tryz.ntmps69
  go_wp2_with fail
  refine (HP.out.1.pages H1.out.1).mono ?_
  rintro e W2 ⟨rfl, hb⟩
  have H2 : Hid (D W2 B d n S F ∧ Below w.heap.size w W2 ∧ W2.rowIs w.heap.size 137 3 (cells3 0 0 0)) := ⟨dk_below HP.out.1 H1.out.1 hb, below_step H1.out.2.1 hb, H1.out.2.2.of_block (hb.block _ H1.out.2.2.lt)⟩
  clear hW1 hb H1
  by_cases hn : n < 62
  · have hn' : (n : Int) < 62 := by omega
    have HN : Hid (n < 62) := hn
    have e0 : W2.cell? ⟨w.heap.size, 0, none⟩ = some (.int .i64 0) := H2.out.2.2.cell (i := 0) (by omega)
    have e1 : W2.cell? ⟨w.heap.size, 1, none⟩ = some (.int .i64 0) := H2.out.2.2.cell (i := 1) (by omega)
    have e2 : W2.cell? ⟨w.heap.size, 2, none⟩ = some (.int .i64 0) := H2.out.2.2.cell (i := 2) (by omega)
    have z0 := H2.out.2.2.frozen
    have HS : Hid ((((W2.setCell ⟨w.heap.size, 0, none⟩ (.int .i64 0)).setCell ⟨w.heap.size, 1, none⟩ (.int .i64 0)).setCell ⟨w.heap.size, 2, none⟩ (.int .i64 0)).rowIs w.heap.size 137 3 (cells3 0 0 0) ∧ Below w.heap.size w (((W2.setCell ⟨w.heap.size, 0, none⟩ (.int .i64 0)).setCell ⟨w.heap.size, 1, none⟩ (.int .i64 0)).setCell ⟨w.heap.size, 2, none⟩ (.int .i64 0))) := ⟨row3_set H2.out.2.2, ((H2.out.2.1.setCell (Nat.le_refl _) _).setCell (Nat.le_refl _) _).setCell (Nat.le_refl _) _⟩
    clear hn
    go_wp2_with fail
    refine bodyPost_ret (results_row_tmp rfl _ _ w.heap.size 137 _ (0, 0) _ rfl (row3_block HS.out.1) Tryz.underlying137 rfl Tryz.sizeHead) rfl ?_
    exact ⟨⟨0, 0, 0, false, rfl, fun q => by have := HN.out; omega, fun _ => rfl⟩, HS.out.2⟩
  · have hn' : ¬ (n : Int) < 62 := by omega
    have HN : Hid (¬ n < 62) := hn
    clear hn
    go_wp2_with fail
    refine (HP.out.1.read_32 0 H2.out.1 (by have := HP.out.2.2.1; have := H2.out.2.1.size; omega) (by have := HN.out; omega)).mono ?_
    rintro e W3 ⟨k3, rfl, hlen, hbt, -, hb⟩
    have H3 : Hid (BtAt W3 (some ⟨k3, 0, none⟩) (S.now 0) ∧ Below w.heap.size w W3 ∧ W3.rowIs w.heap.size 137 3 (cells3 0 0 0)) := ⟨hbt, below_step H2.out.2.1 hb, H2.out.2.2.of_block (hb.block _ H2.out.2.2.lt)⟩
    clear hlen hbt hb H2
    go_wp2_with fail
    refine (headOf_any H3.out.1 HP.out.2.1.len HP.out.2.1.x1 HP.out.2.1.l1 HP.out.2.1.t1 HP.out.2.1.px HP.out.2.1.pl HP.out.2.1.pt).mono ?_
    rintro e W4 ⟨⟨x', l', t', rfl, hx⟩, hb⟩
    obtain ⟨ok, hok⟩ : ∃ ok, (S.now 0 == headP x l t) = ok := ⟨_, rfl⟩
    rw [hok]
    have HX : Hid ((S.now 0 = headP x l t → ok = true ∧ x' = (x : Nat) ∧ l' = (l : Nat) ∧ t' = (t : Nat)) ∧ (S.now 0 ≠ headP x l t → ok = false)) := ⟨fun q => ⟨hok ▸ beq_iff_eq.2 q, hx q⟩, fun q => hok ▸ beq_false_of_ne q⟩
    have hr4 : W4.rowIs w.heap.size 137 3 (cells3 0 0 0) := H3.out.2.2.of_block (hb.block _ H3.out.2.2.lt)
    have hb4 := below_step H3.out.2.1 hb
    have e0 : W4.cell? ⟨w.heap.size, 0, none⟩ = some (.int .i64 0) := hr4.cell (i := 0) (by omega)
    have e1 : W4.cell? ⟨w.heap.size, 1, none⟩ = some (.int .i64 0) := hr4.cell (i := 1) (by omega)
    have e2 : W4.cell? ⟨w.heap.size, 2, none⟩ = some (.int .i64 0) := hr4.cell (i := 2) (by omega)
    have z0 := hr4.frozen
    have HS : Hid ((((W4.setCell ⟨w.heap.size, 0, none⟩ (.int .i64 x')).setCell ⟨w.heap.size, 1, none⟩ (.int .i64 l')).setCell ⟨w.heap.size, 2, none⟩ (.int .i64 t')).rowIs w.heap.size 137 3 (cells3 x' l' t') ∧ Below w.heap.size w (((W4.setCell ⟨w.heap.size, 0, none⟩ (.int .i64 x')).setCell ⟨w.heap.size, 1, none⟩ (.int .i64 l')).setCell ⟨w.heap.size, 2, none⟩ (.int .i64 t'))) := ⟨row3_set hr4, ((hb4.setCell (Nat.le_refl _) _).setCell (Nat.le_refl _) _).setCell (Nat.le_refl _) _⟩
    clear hok hx hr4 hb hb4 H3
    go_wp2_with fail
    refine bodyPost_ret (results_row_tmp rfl _ _ w.heap.size 137 _ (0, 0) _ rfl (row3_block HS.out.1) Tryz.underlying137 rfl Tryz.sizeHead) rfl ?_
    exact ⟨⟨x', l', t', ok, rfl, fun _ q => HX.out.1 q, fun q => HX.out.2 (q.resolve_left HN.out)⟩, HS.out.2⟩

theorem start_any (h : Nat) (hh : h ≤ 1) : Calls Tryz.prog 107 #[.int .i64 (h : Nat)] w fun e w' => e = .returned (.int .i64 (at0 h : Nat)) ∧ w' = w := by
  have h1 : h = 0 ∨ h = 1 := by omega
  clear hh
  rcases h1 with rfl | rfl
  · go_enter Tryz.func107, Tryz.ntmps107
    go_wp2_with fail
    go_ret
    exact ⟨rfl, rfl⟩
  · go_enter Tryz.func107, Tryz.ntmps107
    go_wp2_with fail
    go_ret
    exact ⟨rfl, rfl⟩

/-- How tell ends, and what state it leaves. -/
def Tellp (S : St) (p : List UInt8) (x : Int) (S' : St) : Prop :=
  (Off S ∧ x = 8 ∧ S' = fall S) ∨ (¬ Off S ∧ Off (wrote S 0 p) ∧ x = 8 ∧ S' = fall (wrote S 0 p)) ∨ (¬ Off S ∧ ¬ Off (wrote S 0 p) ∧ x = 0 ∧ S' = synced (wrote S 0 p))

set_option maxRecDepth 100000 in
set_option maxHeartbeats 2000000 in
theorem tell_any (O : DiskOk D) (h : D w B d n S F) (hB : B ≤ w.heap.size) (hw : S.wr.length ≤ 900) (hn : 1 ≤ n) {x l t : Nat} (hx : x ≤ 1) (hl : l ≤ 960) (ht : t ≤ 100000) :
    Calls Tryz.prog 68 #[d, .agg #[.int .i64 (x : Nat), .int .i64 (l : Nat), .int .i64 (t : Nat)]] w fun e w' => ∃ v y S' F', e = .returned v ∧ Er v y ∧ Tellp S (headP x l t) y S' ∧ D w' B d n S' F' ∧ (∀ b, F' b → F b ∨ w.heap.size ≤ b) ∧ Turn F w w' := by
  have b1 : Below w.heap.size w (w.alloc (.cells #[.int .i64 (x : Nat), .int .i64 (l : Nat), .int .i64 (t : Nat)] 137)) := (Below.refl _ _).alloc (Nat.le_refl _) _
  have HP : Hid (DiskOk D ∧ D w B d n S F ∧ B ≤ w.heap.size ∧ S.wr.length ≤ 900 ∧ 1 ≤ n) := ⟨O, h, hB, hw, hn⟩
  have HPg : Hid (x ≤ 1 ∧ l ≤ 960 ∧ t ≤ 100000) := ⟨hx, hl, ht⟩
  obtain ⟨W1, hW1⟩ : ∃ W1, w.alloc (.cells #[.int .i64 (x : Nat), .int .i64 (l : Nat), .int .i64 (t : Nat)] 137) = W1 := ⟨_, rfl⟩
  have r1 := row3_new w (x : Nat) (l : Nat) (t : Nat)
  rw [hW1] at b1 r1
  have e0 : W1.cell? ⟨w.heap.size, 0, none⟩ = some (.int .i64 (x : Nat)) := r1.cell (i := 0) (by omega)
  have e1 : W1.cell? ⟨w.heap.size, 1, none⟩ = some (.int .i64 (l : Nat)) := r1.cell (i := 1) (by omega)
  have e2 : W1.cell? ⟨w.heap.size, 2, none⟩ = some (.int .i64 (t : Nat)) := r1.cell (i := 2) (by omega)
  have H1 : Hid (Below w.heap.size w W1) := b1
  clear b1 r1 O h hB hw hn hx hl ht
  go_enter Tryz.func68, Tryz.ntmps68
  go_wp2_with fail
  refine (page_any x l t HPg.out.1 HPg.out.2.1 HPg.out.2.2).mono ?_
  rintro e W2 ⟨k2, rfl, hbt, hk1, hk2, hb2⟩
  have H2 : Hid (Below w.heap.size w W2 ∧ BtAt W2 (some ⟨k2, 0, none⟩) (headP x l t) ∧ W1.heap.size ≤ k2) := ⟨below_step H1.out hb2, hbt, hk1⟩
  clear hW1 e0 e1 e2 hbt hk1 hk2 hb2
  go_wp2_with fail
  have hwr := HP.out.1.write (l := headP x l t) (c := 32) (a := some ⟨k2, 0, none⟩) 0 (dk_below HP.out.1 HP.out.2.1 H2.out.1) (Nat.le_trans HP.out.2.2.1 H2.out.1.size) H2.out.2.1 (by rw [headP_len]; exact Nat.le_refl _) (by decide)
    (fun _ b o e q => by cases e; have h1 := (HP.out.1.own HP.out.2.1 _ q).2; have h2 := H2.out.2.2; have h3 := H1.out.size; omega) (fun e => by cases e) (by have := HP.out.2.2.2.1; omega)
  rw [headP_len] at hwr
  refine hwr.mono ?_
  clear hwr
  rintro e W3 ⟨v, y, S3, F3, rfl, her, hwr, hd, hf, ht⟩
  have HPad : Hid (pad (headP x l t) = headP x l t) := headP_pad x l t
  have H3 : Hid (D W3 B d n S3 F3 ∧ (∀ b, F3 b → F b ∨ w.heap.size ≤ b) ∧ Turn F w W3) := ⟨hd, fun b q => (hf b q).imp id fun q => Nat.le_trans H2.out.1.size q, (Turn.of_below H2.out.1).trans ht⟩
  have hcase : (Off S ∧ y = 8 ∧ S3 = fall S) ∨ (¬ Off S ∧ y = 0 ∧ S3 = wrote S 0 (headP x l t)) := by
    rcases hwr with ⟨h1, _⟩ | ⟨_, h1, _⟩ | ⟨_, _, h1, h2, h3⟩ | ⟨_, _, h1, h2, h3⟩
    · have := HP.out.2.2.2.2; omega
    · rw [headP_len] at h1; omega
    · exact Or.inl ⟨h1, h2, h3⟩
    · rw [HPad.out] at h3; exact Or.inr ⟨h1, h2, h3⟩
  clear hwr hd hf ht H2 H1 HPad
  rcases hcase with ⟨h1, rfl, rfl⟩ | ⟨h1, rfl, rfl⟩
  · obtain rfl := her.some (by decide)
    have HO : Hid (Off S) := h1
    clear h1
    go_wp2_with fail
    go_ret
    exact ⟨_, 8, _, _, rfl, her, Or.inl ⟨HO.out, rfl, rfl⟩, H3.out⟩
  · obtain rfl := her.nil
    have HO : Hid (¬ Off S) := h1
    clear h1 her
    go_wp2_with fail
    refine (HP.out.1.sync H3.out.1 (Nat.le_trans HP.out.2.2.1 H3.out.2.2.size)).mono ?_
    rintro e W4 ⟨v, y, S4, F4, rfl, her, hsy, hd, hf, ht⟩
    have H4 : Hid (D W4 B d n S4 F4 ∧ (∀ b, F4 b → F b ∨ w.heap.size ≤ b) ∧ Turn F w W4) := ⟨hd, fun b q => (hf b q).elim (fun q => H3.out.2.1 b q) fun q => Or.inr (Nat.le_trans H3.out.2.2.size q), turn_step H3.out.2.2 ht H3.out.2.1⟩
    have HS : Hid (Er v y ∧ Syncs (wrote S 0 (headP x l t)) y S4) := ⟨her, hsy⟩
    clear her hsy hd hf ht
    go_wp2_with fail
    go_ret
    refine ⟨v, y, S4, F4, rfl, HS.out.1, ?_, H4.out⟩
    rcases HS.out.2 with ⟨h1, h2, h3⟩ | ⟨h1, h2, h3⟩
    · exact Or.inr (Or.inl ⟨HO.out, h1, h2, h3⟩)
    · exact Or.inr (Or.inr ⟨HO.out, h1, h2, h3⟩)

end Go.Proofs.YtcfemppdeidjmadGreat.Sk
