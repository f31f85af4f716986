/-
  Fd Ff Fg Fh
-/
import Derived.Test.YtcfemppdeidjmacGreatW41
import Derived.Test.YtcfemppdeidjmacGreatSh5
import Derived.Test.YtcfemppdeidjmacGreatW36
namespace Go.Proofs.YtcfemppdeidjmacGreat.Sk
set_option linter.unusedSimpArgs false
open Go.RowKit Go.Deep Go.Proofs.YtcfemppdeidjmacGreat.Dk
open Go.RowKit (Below)
set_option linter.unusedVariables false

variable {w w' : World} {b o k n N c : Nat} {p q l : List UInt8}

def nums (l : List UInt8) : List Int := l.map fun x => (x.toNat : Int)
theorem nums_len (l : List UInt8) : (nums l).length = l.length := by simp [nums]
theorem nums_at (l : List UInt8) {i : Nat} (h : i < l.length) : Value.int .u8 ((nums l).getD i 0) = by1 (l.getD i 0) := by
  simp [nums, by1, List.getD_eq_getElem?_getD, List.getElem?_eq_getElem h]
theorem bytesOf_nums (l : List UInt8) : Lib.bytesOf (nums l) = l := by
  unfold Lib.bytesOf nums
  rw [List.map_map]
  refine (List.map_congr_left fun x _ => ?_).trans (List.map_id l)
  simp
theorem bytes_in {a : Option Addr} (h : BtAt w a l) : Lib.BytesIn w a l.length (nums l) := fun h0 => by
  obtain ⟨b, o, e, _⟩ := h 0 h0
  refine ⟨b, o, e, fun i hi => ?_⟩
  obtain ⟨b', o', e', hc⟩ := h i hi
  rw [e] at e'
  simp only [Option.some.injEq, Addr.mk.injEq, and_true] at e'
  obtain ⟨rfl, rfl⟩ := e'
  rw [hc, nums_at l hi]

theorem equal_any {a a' : Option Addr} {c c' : Nat} (h : BtAt w a p) (h' : BtAt w a' q) : Calls Tryz.prog 199 #[.slice a p.length c, .slice a' q.length c'] w fun e w' => e = .returned (.bool (p == q)) ∧ w' = w := by
  have := Any.bytes_Equal_all Tryz.lays115 a a' p.length c q.length c' (nums p) (nums q) w (nums_len p) (nums_len q) (bytes_in h) (bytes_in h')
  rw [bytesOf_nums, bytesOf_nums] at this
  exact this

theorem equal32 {a a' : Option Addr} {c c' : Nat} (hp : p.length = 32) (hq : q.length = 32) (h : BtAt w a p) (h' : BtAt w a' q) : Calls Tryz.prog 199 #[.slice a 32 c, .slice a' 32 c'] w fun e w' => e = .returned (.bool (p == q)) ∧ w' = w := by
  have := equal_any (c := c) (c' := c') h h'
  rwa [hp, hq] at this

theorem own_bt {base : Nat} {v : Value} (h : w.ownsRow base 5 1 v l.length (l.map by1)) : ∃ a c, v = .slice a l.length c ∧ BtAt w a l ∧ l.length ≤ c ∧ c ≤ maxLen ∧ (a = none → c = 0) ∧ (∀ b o, a = some ⟨b, o, none⟩ → base ≤ b ∧ b < w.heap.size) := by
  rcases h.2 with ⟨hv, h0⟩ | ⟨g, cap, cur, hv, hb, hg, h1, h2, h3, h4⟩
  · have hl : l = [] := List.length_eq_zero_iff.1 h0
    subst hl
    exact ⟨none, 0, hv, fun i hi => (by cases hi), Nat.le_refl _, Nat.zero_le _, fun _ => rfl, fun b o e => (by cases e)⟩
  · refine ⟨_, cap, hv, fun i hi => ⟨g, 0, rfl, ?_⟩, h1, h2, fun e => (by cases e), fun b o e => ?_⟩
    · subst hv
      have := h.cellAt i (by omega)
      rw [Nat.zero_add, this, List.getElem?_map, List.getD_eq_getElem?_getD, List.getElem?_eq_getElem hi]
      rfl
    · cases e
      exact ⟨hb, (Array.getElem?_eq_some_iff.1 hg).1⟩

theorem clone_any {a : Option Addr} {c : Nat} (h : BtAt w a l) (hc : l.length ≤ c) (hm : l.length ≤ 1000) (hnil : a = none → c = 0) :
    Calls Tryz.prog 119 #[.slice a l.length c] w fun e w' => ∃ a' c', e = .returned (.slice a' l.length c') ∧ BtAt w' a' l ∧ l.length ≤ c' ∧ c' ≤ maxLen ∧ (a' = none → c' = 0) ∧ (∀ b o, a' = some ⟨b, o, none⟩ → w.heap.size ≤ b ∧ b < w'.heap.size) ∧ Below w.heap.size w w' := by
  cases a with
  | none =>
    have hl : l = [] := List.length_eq_zero_iff.1 (by have := hnil rfl; omega)
    subst hl
    refine (Any.bytes_Clone_nil Tryz.lays4 0 c w).mono fun e w' ⟨h1, h2⟩ => ?_
    subst h2
    exact ⟨none, 0, h1, h, Nat.le_refl _, Nat.zero_le _, fun _ => rfl, fun b o e => (by cases e), Below.refl _ _⟩
  | some ad =>
    refine (Any.bytes_Clone_at Tryz.lays4 ad l.length c (nums l) w (nums_len l) (by omega) (fun i hi => ?_)).mono fun e w' ⟨v, h1, h2, _, h3⟩ => ?_
    · obtain ⟨b, o, e, hcell⟩ := h i hi
      cases e
      rw [Addr.add_lit, hcell, nums_at l hi]
    · have e1 : (nums l).map (Value.int .u8) = l.map by1 := by
        unfold nums
        rw [List.map_map]
        rfl
      rw [e1] at h2
      obtain ⟨a', c', e2, h4, h5, h6, h7, h8⟩ := own_bt h2
      exact ⟨a', c', by rw [h1, e2], h4, h5, h6, h7, h8, h3⟩

theorem results_row_tmp {P : Program} {fn : Func} {p u : Tmp} {ty : TypeId} (h : fn.results = #[.cell p ty, .tmp u]) (tmps : Array Value) (w : World) (g : Nat) (t : TypeId) (cs : Array Value) (fr : Nat × Nat) (d : TypeDesc)
    (hp : tmps.getD p undef = .pointer (some ⟨g, 0, none⟩)) (hg : w.heap[g]? = some (.cells cs t fr))
    (hu : P.underlying ty = some d) (hd : (match d with | .struct _ | .array _ _ => true | _ => false) = true) (hi : (P.info? ty).map (·.size) = some cs.size) :
    (results fn tmps).run P w = .ok (.tuple #[.agg cs, tmps.getD u undef]) w := by
  rw [results_cell_tmp h, hp]
  simp [asAddr, run_loadVar_row w g t ty cs fr d hg hu hd hi]

set_option maxRecDepth 1000000 in
theorem Tryz.sizeHead : (Tryz.prog.info? 189).map (·.size) = some 3 := by kernel_rfl

def cells3 (x y z : Int) : Nat → Value := fun i => if i = 0 then .int .i64 x else if i = 1 then .int .i64 y else .int .i64 z

theorem row3_new (w : World) (x y z : Int) : (w.alloc (.cells #[.int .i64 x, .int .i64 y, .int .i64 z] 189)).rowIs w.heap.size 189 3 (cells3 x y z) :=
  World.rowIs_alloc w #[.int .i64 x, .int .i64 y, .int .i64 z] 189 (cells3 x y z) (fun i hi => by
    match i, hi with
    | 0, _ => rfl
    | 1, _ => rfl
    | 2, _ => rfl)

theorem row3_block {b : Nat} {x y z : Int} (h : w.rowIs b 189 3 (cells3 x y z)) : w.heap[b]? = some (.cells #[.int .i64 x, .int .i64 y, .int .i64 z] 189 (0, 0)) := by
  obtain ⟨c, hb, hs, hc⟩ := h
  have e : c = #[.int .i64 x, .int .i64 y, .int .i64 z] := by
    obtain ⟨c⟩ := c
    match c, hs, hc with
    | [p, q, r], _, hc =>
      have h0 := hc 0 (by omega)
      have h1 := hc 1 (by omega)
      have h2 := hc 2 (by omega)
      simp [cells3] at h0 h1 h2
      subst h0 h1 h2
      rfl
  rw [hb, e]

theorem row3_set {b : Nat} {x y z x' y' z' : Int} (h : w.rowIs b 189 3 (cells3 x y z)) : (((w.setCell ⟨b, 0, none⟩ (.int .i64 x')).setCell ⟨b, 1, none⟩ (.int .i64 y')).setCell ⟨b, 2, none⟩ (.int .i64 z')).rowIs b 189 3 (cells3 x' y' z') :=
  (((h.set 0 _).set 1 _).set 2 _).congr fun i hi => by
    match i, hi with
    | 0, _ => rfl
    | 1, _ => rfl
    | 2, _ => rfl

set_option maxRecDepth 100000 in
set_option maxHeartbeats 4000000 in
theorem headOf_any (h : BtAt w (some ⟨k, 0, none⟩) p) (hp : p.length = 32) {x l t : Nat} (hx : x ≤ 1) (hl : l ≤ 960) (ht : t ≤ 100000) (h1 : ∀ i, i < 1 → p.getD (16 + i) 0 = byt x i) (h2 : ∀ i, i < 2 → p.getD (17 + i) 0 = byt l i) (h3 : ∀ i, i < 8 → p.getD (19 + i) 0 = byt t i) :
    Calls Tryz.prog 168 #[.slice (some ⟨k, 0, none⟩) 32 32] w fun e w' => (∃ x' l' t' : Int, e = .returned (.tuple #[.agg #[.int .i64 x', .int .i64 l', .int .i64 t'], .bool (p == headP x l t)]) ∧ (p = headP x l t → x' = (x : Nat) ∧ l' = (l : Nat) ∧ t' = (t : Nat))) ∧ Below w.heap.size w w' := by
  have HB : Hid (∀ V, Below w.heap.size w V → BtAt V (some ⟨k, 0, none⟩) p) := fun V hb => h.below hb
  have HK : Hid (k < w.heap.size ∧ x ≤ 1 ∧ l ≤ 960 ∧ t ≤ 100000 ∧ p.length = 32) := ⟨by
    obtain ⟨b, o, e, hcell⟩ := h 0 (by omega)
    cases e
    exact World.block_lt_of_cell? _ _ hcell, hx, hl, ht, hp⟩
  have HR1 : ∀ V, BtAt V (some ⟨k, 0, none⟩) p → ∀ d, 1 ≤ d → Calls Tryz.prog 198 #[.slice (some ⟨k, 16, none⟩) 1 d] V fun e w' => e = .returned (.int .i64 (x : Nat)) ∧ w' = V := fun V hV d hd =>
    read_any (B := 0) (fun i hi => by
      obtain ⟨b, o, e, hcell⟩ := hV (16 + i) (by omega)
      cases e
      rw [← h1 i hi, ← hcell, Nat.zero_add]) (by omega) (by omega) hd (by omega) (by omega)
  have HR2 : ∀ V, BtAt V (some ⟨k, 0, none⟩) p → ∀ d, 2 ≤ d → Calls Tryz.prog 198 #[.slice (some ⟨k, 17, none⟩) 2 d] V fun e w' => e = .returned (.int .i64 (l : Nat)) ∧ w' = V := fun V hV d hd =>
    read_any (B := 0) (fun i hi => by
      obtain ⟨b, o, e, hcell⟩ := hV (17 + i) (by omega)
      cases e
      rw [← h2 i hi, ← hcell, Nat.zero_add]) (by omega) (by omega) hd (by omega) (by omega)
  have HR3 : ∀ V, BtAt V (some ⟨k, 0, none⟩) p → ∀ d, 8 ≤ d → Calls Tryz.prog 198 #[.slice (some ⟨k, 19, none⟩) 8 d] V fun e w' => e = .returned (.int .i64 (t : Nat)) ∧ w' = V := fun V hV d hd =>
    read_any (B := 0) (fun i hi => by
      obtain ⟨b, o, e, hcell⟩ := hV (19 + i) (by omega)
      cases e
      rw [← h3 i hi, ← hcell, Nat.zero_add]) (by omega) (by omega) hd (by omega) (by omega)
  have HR : Hid (_ ∧ _ ∧ _) := ⟨HR1, HR2, HR3⟩
  obtain ⟨W1, hW1⟩ : ∃ W1, ((w.alloc (.cells #[.int .i64 0, .int .i64 0, .int .i64 0] 189)).alloc (.cells #[.int .i64 (x : Nat), .int .i64 (l : Nat), .int .i64 (t : Nat)] 189)).drew = W1 := ⟨_, rfl⟩
  have g1 : Below w.heap.size w W1 := hW1 ▸ (((Below.refl _ _).alloc (Nat.le_refl _) _).alloc (by simp) _).drew
  have g2 : W1.rowIs w.heap.size 189 3 (cells3 0 0 0) := hW1 ▸ ((row3_new w 0 0 0).alloc _).drew
  have g3 : W1.rowIs (w.heap.size + 1) 189 3 (cells3 (x : Nat) (l : Nat) (t : Nat)) := by
    have := (row3_new (w.alloc (.cells #[.int .i64 0, .int .i64 0, .int .i64 0] 189)) (x : Nat) (l : Nat) (t : Nat)).drew
    rw [hW1] at this
    rwa [show (w.alloc (.cells #[.int .i64 0, .int .i64 0, .int .i64 0] 189)).heap.size = w.heap.size + 1 by simp] at this
  have HG : Hid (Below w.heap.size w W1 ∧ W1.rowIs w.heap.size 189 3 (cells3 0 0 0) ∧ W1.rowIs (w.heap.size + 1) 189 3 (cells3 (x : Nat) (l : Nat) (t : Nat))) := ⟨g1, g2, g3⟩
  clear g1 g2 g3 HR1 HR2 HR3 h hp hx hl ht h1 h2 h3
  go_enter Tryz.func168, Tryz.ntmps168
  go_wp2_with fail
  refine wp_region_noPanic ?_
  refine wp_region_held_drew (S := fun V => BtAt V (some ⟨k, 0, none⟩) p) (by kernel_rfl) (HB.out _ (((Below.refl _ _).alloc (Nat.le_refl _) _).drew)) (fun hHeld => ?_)
  refine wpAnyH_take (i := 0) (v := ?va1) rfl (by kernel_rfl) (by kernel_rfl) (by kernel_rfl) (fun _ _ _ h => h) (Or.inl ⟨by rfl, ?ya1⟩) (by assumption) ?_
  case ya1 => intro w hSw; (try dsimp only at hSw); go_simp; (try with_reducible rfl)
  simp only [Act.put, List.setIfInBounds_toArray, List.set_cons_zero, List.set_cons_succ]
  refine wpAnyH_take (i := 3) (v := ?va2) rfl (by kernel_rfl) (by kernel_rfl) (by kernel_rfl) (fun _ _ _ h => h) (Or.inl ⟨by rfl, ?ya2⟩) (by assumption) ?_
  case ya2 => intro w hSw; (try dsimp only at hSw); go_simp; (try with_reducible rfl)
  simp only [Act.put, List.setIfInBounds_toArray, List.set_cons_zero, List.set_cons_succ]
  refine wpAnyH_take (i := 6) (v := ?va3) rfl (by kernel_rfl) (by kernel_rfl) (by kernel_rfl) (fun _ _ _ h => h) (Or.inl ⟨by rfl, ?ya3⟩) (by assumption) ?_
  case ya3 => intro w hSw; (try dsimp only at hSw); go_simp; (try with_reducible rfl)
  simp only [Act.put, List.setIfInBounds_toArray, List.set_cons_zero, List.set_cons_succ]
  refine wpAnyH_take (i := 1) (v := ?va4) rfl (by kernel_rfl) (by kernel_rfl) (by kernel_rfl) (fun _ _ _ h => h) (Or.inl ⟨by rfl, ?ya4⟩) (by assumption) ?_
  case ya4 => intro w hSw; (try dsimp only at hSw); go_simp; (try with_reducible rfl)
  simp only [Act.put, List.setIfInBounds_toArray, List.set_cons_zero, List.set_cons_succ]
  refine wpAnyH_take (i := 4) (v := ?va5) rfl (by kernel_rfl) (by kernel_rfl) (by kernel_rfl) (fun _ _ _ h => h) (Or.inl ⟨by rfl, ?ya5⟩) (by assumption) ?_
  case ya5 => intro w hSw; (try dsimp only at hSw); go_simp; (try with_reducible rfl)
  simp only [Act.put, List.setIfInBounds_toArray, List.set_cons_zero, List.set_cons_succ]
  refine wpAnyH_take (i := 7) (v := ?va6) rfl (by kernel_rfl) (by kernel_rfl) (by kernel_rfl) (fun _ _ _ h => h) (Or.inl ⟨by rfl, ?ya6⟩) (by assumption) ?_
  case ya6 => intro w hSw; (try dsimp only at hSw); go_simp; (try with_reducible rfl)
  simp only [Act.put, List.setIfInBounds_toArray, List.set_cons_zero, List.set_cons_succ]
  refine wpAnyH_ready (rs := [2, 10]) (by kernel_rfl) (by simp) ?_
  refine (AllReadyH.cons rfl (fun K9 hK9 => ?ca26) (AllReadyH.cons rfl (fun K9 hK9 => ?ca27) AllReadyH.nil))
  case ca26 =>
    go_simp
    go_wp2_with (go_at_call 198; refine (HR.out.1 _ hHeld _ (by omega)).mono ?_; rintro e w9 ⟨rfl, rfl⟩)
    refine hK9.out _ _ hHeld (fun hHeld => ?_)
    clear hK9
    (try simp only [Act.put, List.setIfInBounds_toArray, List.set_cons_zero, List.set_cons_succ])
    refine wpAnyH_ready (rs := [5, 10]) (by kernel_rfl) (by simp) ?_
    refine (AllReadyH.cons rfl (fun K9 hK9 => ?ca19) (AllReadyH.cons rfl (fun K9 hK9 => ?ca20) AllReadyH.nil))
    case ca19 =>
      go_simp
      go_wp2_with (go_at_call 198; refine (HR.out.2.1 _ hHeld _ (by omega)).mono ?_; rintro e w9 ⟨rfl, rfl⟩)
      refine hK9.out _ _ hHeld (fun hHeld => ?_)
      clear hK9
      (try simp only [Act.put, List.setIfInBounds_toArray, List.set_cons_zero, List.set_cons_succ])
      refine wpAnyH_ready (rs := [8, 10]) (by kernel_rfl) (by simp) ?_
      refine (AllReadyH.cons rfl (fun K9 hK9 => ?ca13) (AllReadyH.cons rfl (fun K9 hK9 => ?ca14) AllReadyH.nil))
      case ca13 =>
        go_simp
        go_wp2_with (go_at_call 198; refine (HR.out.2.2 _ hHeld _ (by omega)).mono ?_; rintro e w9 ⟨rfl, rfl⟩)
        refine hK9.out _ _ hHeld (fun hHeld => ?_)
        clear hK9
        (try simp only [Act.put, List.setIfInBounds_toArray, List.set_cons_zero, List.set_cons_succ])
        refine wpAnyH_take (i := 9) (v := .agg #[.int .i64 (x : Nat), .int .i64 (l : Nat), .int .i64 (t : Nat)]) rfl (by kernel_rfl) (by kernel_rfl) (by kernel_rfl) (fun _ _ _ h => h) ?ya7 (by assumption) ?_
        case ya7 => exact Or.inl ⟨by rfl, fun w _ => by simp only [execOp, List.map_toArray, List.map_cons, List.map_nil]; exact Dk.L.run_val (run_build w 189 _ _ (by kernel_rfl))⟩
        simp only [Act.put, List.setIfInBounds_toArray, List.set_cons_zero, List.set_cons_succ]
        refine wpAnyH_ready (rs := [10]) (by kernel_rfl) (by simp) ?_
        refine (AllReadyH.cons rfl (fun K9 hK9 => ?ca9) AllReadyH.nil)
        case ca9 =>
          go_simp
          refine hK9.out _ _ (HB.out _ ((((Below.refl _ _).alloc (Nat.le_refl _) _).drew).alloc (by simp) _)) (fun hHeld => ?_)
          clear hK9
          (try simp only [Act.put, List.setIfInBounds_toArray, List.set_cons_zero, List.set_cons_succ])
          refine wpAnyH_ready (rs := [11]) (by kernel_rfl) (by simp) ?_
          refine (AllReadyH.cons rfl (fun K9 hK9 => ?ca8) AllReadyH.nil)
          case ca8 =>
            go_simp
            refine hK9.out _ _ (HB.out _ HG.out.1) (fun hHeld => ?_)
            clear hK9
            refine wpAnyH_done (by kernel_rfl) ?_ _
            refine NoPanic.normal ?_
            have d0 : W1.cell? ⟨w.heap.size + 1, 0, none⟩ = some (.int .i64 (x : Nat)) := HG.out.2.2.cell (i := 0) (by omega)
            have d1 : W1.cell? ⟨w.heap.size + 1, 1, none⟩ = some (.int .i64 (l : Nat)) := HG.out.2.2.cell (i := 1) (by omega)
            have d2 : W1.cell? ⟨w.heap.size + 1, 2, none⟩ = some (.int .i64 (t : Nat)) := HG.out.2.2.cell (i := 2) (by omega)
            have x0 : ¬ (1 : Int) < (x : Int) := by have := HK.out; omega
            have x1 : ¬ (960 : Int) < (l : Int) := by have := HK.out; omega
            have x2 : ¬ (t : Int) < 0 := by omega
            clear hW1
            go_wp2_with fail
            refine (page_any x l t (by have := HK.out; omega) (by have := HK.out; omega) (by have := HK.out; omega)).mono ?_
            rintro e W2 ⟨k2, rfl, hbt, -, -, hb2⟩
            go_wp2_with fail
            refine (equal32 HK.out.2.2.2.2 (headP_len x l t) (HB.out W2 (below_step HG.out.1 hb2)) hbt).mono ?_
            rintro e w9 ⟨rfl, rfl⟩
            have hr0 := HG.out.2.1.of_block (hb2.block _ HG.out.2.1.lt)
            have hr1 := HG.out.2.2.of_block (hb2.block _ HG.out.2.2.lt)
            have HB2 : Hid (Below w.heap.size w w9) := below_step HG.out.1 hb2
            clear d0 d1 d2 hbt hb2 HG
            have d0 : w9.cell? ⟨w.heap.size + 1, 0, none⟩ = some (.int .i64 (x : Nat)) := hr1.cell (i := 0) (by omega)
            have d1 : w9.cell? ⟨w.heap.size + 1, 1, none⟩ = some (.int .i64 (l : Nat)) := hr1.cell (i := 1) (by omega)
            have d2 : w9.cell? ⟨w.heap.size + 1, 2, none⟩ = some (.int .i64 (t : Nat)) := hr1.cell (i := 2) (by omega)
            have e0 : w9.cell? ⟨w.heap.size, 0, none⟩ = some (.int .i64 0) := hr0.cell (i := 0) (by omega)
            have e1 : w9.cell? ⟨w.heap.size, 1, none⟩ = some (.int .i64 0) := hr0.cell (i := 1) (by omega)
            have e2 : w9.cell? ⟨w.heap.size, 2, none⟩ = some (.int .i64 0) := hr0.cell (i := 2) (by omega)
            have z0 := hr0.frozen
            have HS : Hid (∀ a b c : Int, (((w9.setCell ⟨w.heap.size, 0, none⟩ (.int .i64 a)).setCell ⟨w.heap.size, 1, none⟩ (.int .i64 b)).setCell ⟨w.heap.size, 2, none⟩ (.int .i64 c)).rowIs w.heap.size 189 3 (cells3 a b c) ∧ Below w.heap.size w (((w9.setCell ⟨w.heap.size, 0, none⟩ (.int .i64 a)).setCell ⟨w.heap.size, 1, none⟩ (.int .i64 b)).setCell ⟨w.heap.size, 2, none⟩ (.int .i64 c))) := fun a b c => ⟨row3_set hr0, ((HB2.out.setCell (Nat.le_refl _) _).setCell (Nat.le_refl _) _).setCell (Nat.le_refl _) _⟩
            clear hr0 hr1 HB2
            by_cases hpq : p = headP x l t
            · have HQ : Hid (p = headP x l t ∧ (p == headP x l t) = true) := ⟨hpq, beq_iff_eq.2 hpq⟩
              rw [show (p == headP x l t) = true from HQ.out.2]
              clear hpq
              go_wp2_with fail
              refine bodyPost_ret (results_row_tmp rfl _ _ w.heap.size 189 _ (0, 0) _ rfl (row3_block (HS.out _ _ _).1) Tryz.underlying189 rfl Tryz.sizeHead) rfl ?_
              exact ⟨⟨_, _, _, by rw [HQ.out.2]; rfl, fun _ => ⟨rfl, rfl, rfl⟩⟩, (HS.out _ _ _).2⟩
            · have HQ : Hid (¬ p = headP x l t ∧ (p == headP x l t) = false) := ⟨hpq, beq_false_of_ne hpq⟩
              rw [show (p == headP x l t) = false from HQ.out.2]
              clear hpq
              go_wp2_with fail
              refine bodyPost_ret (results_row_tmp rfl _ _ w.heap.size 189 _ (0, 0) _ rfl (row3_block (HS.out _ _ _).1) Tryz.underlying189 rfl Tryz.sizeHead) rfl ?_
              exact ⟨⟨_, _, _, by rw [HQ.out.2]; rfl, fun q => absurd q HQ.out.1⟩, (HS.out _ _ _).2⟩
      case ca14 =>
        go_simp
        refine hK9.out _ _ (HB.out _ ((((Below.refl _ _).alloc (Nat.le_refl _) _).drew).alloc (by simp) _)) (fun hHeld => ?_)
        clear hK9
        (try simp only [Act.put, List.setIfInBounds_toArray, List.set_cons_zero, List.set_cons_succ])
        refine wpAnyH_ready (rs := [8]) (by kernel_rfl) (by simp) ?_
        refine (AllReadyH.cons rfl (fun K9 hK9 => ?ca12) AllReadyH.nil)
        case ca12 =>
          go_simp
          go_wp2_with (go_at_call 198; refine (HR.out.2.2 _ hHeld _ (by omega)).mono ?_; rintro e w9 ⟨rfl, rfl⟩)
          refine hK9.out _ _ hHeld (fun hHeld => ?_)
          clear hK9
          (try simp only [Act.put, List.setIfInBounds_toArray, List.set_cons_zero, List.set_cons_succ])
          refine wpAnyH_take (i := 9) (v := .agg #[.int .i64 (x : Nat), .int .i64 (l : Nat), .int .i64 (t : Nat)]) rfl (by kernel_rfl) (by kernel_rfl) (by kernel_rfl) (fun _ _ _ h => h) ?ya10 (by assumption) ?_
          case ya10 => exact Or.inl ⟨by rfl, fun w _ => by simp only [execOp, List.map_toArray, List.map_cons, List.map_nil]; exact Dk.L.run_val (run_build w 189 _ _ (by kernel_rfl))⟩
          simp only [Act.put, List.setIfInBounds_toArray, List.set_cons_zero, List.set_cons_succ]
          refine wpAnyH_ready (rs := [11]) (by kernel_rfl) (by simp) ?_
          refine (AllReadyH.cons rfl (fun K9 hK9 => ?ca11) AllReadyH.nil)
          case ca11 =>
            go_simp
            refine hK9.out _ _ (HB.out _ HG.out.1) (fun hHeld => ?_)
            clear hK9
            refine wpAnyH_done (by kernel_rfl) ?_ _
            refine NoPanic.normal ?_
            have d0 : W1.cell? ⟨w.heap.size + 1, 0, none⟩ = some (.int .i64 (x : Nat)) := HG.out.2.2.cell (i := 0) (by omega)
            have d1 : W1.cell? ⟨w.heap.size + 1, 1, none⟩ = some (.int .i64 (l : Nat)) := HG.out.2.2.cell (i := 1) (by omega)
            have d2 : W1.cell? ⟨w.heap.size + 1, 2, none⟩ = some (.int .i64 (t : Nat)) := HG.out.2.2.cell (i := 2) (by omega)
            have x0 : ¬ (1 : Int) < (x : Int) := by have := HK.out; omega
            have x1 : ¬ (960 : Int) < (l : Int) := by have := HK.out; omega
            have x2 : ¬ (t : Int) < 0 := by omega
            clear hW1
            go_wp2_with fail
            refine (page_any x l t (by have := HK.out; omega) (by have := HK.out; omega) (by have := HK.out; omega)).mono ?_
            rintro e W2 ⟨k2, rfl, hbt, -, -, hb2⟩
            go_wp2_with fail
            refine (equal32 HK.out.2.2.2.2 (headP_len x l t) (HB.out W2 (below_step HG.out.1 hb2)) hbt).mono ?_
            rintro e w9 ⟨rfl, rfl⟩
            have hr0 := HG.out.2.1.of_block (hb2.block _ HG.out.2.1.lt)
            have hr1 := HG.out.2.2.of_block (hb2.block _ HG.out.2.2.lt)
            have HB2 : Hid (Below w.heap.size w w9) := below_step HG.out.1 hb2
            clear d0 d1 d2 hbt hb2 HG
            have d0 : w9.cell? ⟨w.heap.size + 1, 0, none⟩ = some (.int .i64 (x : Nat)) := hr1.cell (i := 0) (by omega)
            have d1 : w9.cell? ⟨w.heap.size + 1, 1, none⟩ = some (.int .i64 (l : Nat)) := hr1.cell (i := 1) (by omega)
            have d2 : w9.cell? ⟨w.heap.size + 1, 2, none⟩ = some (.int .i64 (t : Nat)) := hr1.cell (i := 2) (by omega)
            have e0 : w9.cell? ⟨w.heap.size, 0, none⟩ = some (.int .i64 0) := hr0.cell (i := 0) (by omega)
            have e1 : w9.cell? ⟨w.heap.size, 1, none⟩ = some (.int .i64 0) := hr0.cell (i := 1) (by omega)
            have e2 : w9.cell? ⟨w.heap.size, 2, none⟩ = some (.int .i64 0) := hr0.cell (i := 2) (by omega)
            have z0 := hr0.frozen
            have HS : Hid (∀ a b c : Int, (((w9.setCell ⟨w.heap.size, 0, none⟩ (.int .i64 a)).setCell ⟨w.heap.size, 1, none⟩ (.int .i64 b)).setCell ⟨w.heap.size, 2, none⟩ (.int .i64 c)).rowIs w.heap.size 189 3 (cells3 a b c) ∧ Below w.heap.size w (((w9.setCell ⟨w.heap.size, 0, none⟩ (.int .i64 a)).setCell ⟨w.heap.size, 1, none⟩ (.int .i64 b)).setCell ⟨w.heap.size, 2, none⟩ (.int .i64 c))) := fun a b c => ⟨row3_set hr0, ((HB2.out.setCell (Nat.le_refl _) _).setCell (Nat.le_refl _) _).setCell (Nat.le_refl _) _⟩
            clear hr0 hr1 HB2
            by_cases hpq : p = headP x l t
            · have HQ : Hid (p = headP x l t ∧ (p == headP x l t) = true) := ⟨hpq, beq_iff_eq.2 hpq⟩
              rw [show (p == headP x l t) = true from HQ.out.2]
              clear hpq
              go_wp2_with fail
              refine bodyPost_ret (results_row_tmp rfl _ _ w.heap.size 189 _ (0, 0) _ rfl (row3_block (HS.out _ _ _).1) Tryz.underlying189 rfl Tryz.sizeHead) rfl ?_
              exact ⟨⟨_, _, _, by rw [HQ.out.2]; rfl, fun _ => ⟨rfl, rfl, rfl⟩⟩, (HS.out _ _ _).2⟩
            · have HQ : Hid (¬ p = headP x l t ∧ (p == headP x l t) = false) := ⟨hpq, beq_false_of_ne hpq⟩
              rw [show (p == headP x l t) = false from HQ.out.2]
              clear hpq
              go_wp2_with fail
              refine bodyPost_ret (results_row_tmp rfl _ _ w.heap.size 189 _ (0, 0) _ rfl (row3_block (HS.out _ _ _).1) Tryz.underlying189 rfl Tryz.sizeHead) rfl ?_
              exact ⟨⟨_, _, _, by rw [HQ.out.2]; rfl, fun q => absurd q HQ.out.1⟩, (HS.out _ _ _).2⟩
    case ca20 =>
      go_simp
      refine hK9.out _ _ (HB.out _ ((((Below.refl _ _).alloc (Nat.le_refl _) _).drew).alloc (by simp) _)) (fun hHeld => ?_)
      clear hK9
      (try simp only [Act.put, List.setIfInBounds_toArray, List.set_cons_zero, List.set_cons_succ])
      refine wpAnyH_ready (rs := [5]) (by kernel_rfl) (by simp) ?_
      refine (AllReadyH.cons rfl (fun K9 hK9 => ?ca18) AllReadyH.nil)
      case ca18 =>
        go_simp
        go_wp2_with (go_at_call 198; refine (HR.out.2.1 _ hHeld _ (by omega)).mono ?_; rintro e w9 ⟨rfl, rfl⟩)
        refine hK9.out _ _ hHeld (fun hHeld => ?_)
        clear hK9
        (try simp only [Act.put, List.setIfInBounds_toArray, List.set_cons_zero, List.set_cons_succ])
        refine wpAnyH_ready (rs := [8]) (by kernel_rfl) (by simp) ?_
        refine (AllReadyH.cons rfl (fun K9 hK9 => ?ca17) AllReadyH.nil)
        case ca17 =>
          go_simp
          go_wp2_with (go_at_call 198; refine (HR.out.2.2 _ hHeld _ (by omega)).mono ?_; rintro e w9 ⟨rfl, rfl⟩)
          refine hK9.out _ _ hHeld (fun hHeld => ?_)
          clear hK9
          (try simp only [Act.put, List.setIfInBounds_toArray, List.set_cons_zero, List.set_cons_succ])
          refine wpAnyH_take (i := 9) (v := .agg #[.int .i64 (x : Nat), .int .i64 (l : Nat), .int .i64 (t : Nat)]) rfl (by kernel_rfl) (by kernel_rfl) (by kernel_rfl) (fun _ _ _ h => h) ?ya15 (by assumption) ?_
          case ya15 => exact Or.inl ⟨by rfl, fun w _ => by simp only [execOp, List.map_toArray, List.map_cons, List.map_nil]; exact Dk.L.run_val (run_build w 189 _ _ (by kernel_rfl))⟩
          simp only [Act.put, List.setIfInBounds_toArray, List.set_cons_zero, List.set_cons_succ]
          refine wpAnyH_ready (rs := [11]) (by kernel_rfl) (by simp) ?_
          refine (AllReadyH.cons rfl (fun K9 hK9 => ?ca16) AllReadyH.nil)
          case ca16 =>
            go_simp
            refine hK9.out _ _ (HB.out _ HG.out.1) (fun hHeld => ?_)
            clear hK9
            refine wpAnyH_done (by kernel_rfl) ?_ _
            refine NoPanic.normal ?_
            have d0 : W1.cell? ⟨w.heap.size + 1, 0, none⟩ = some (.int .i64 (x : Nat)) := HG.out.2.2.cell (i := 0) (by omega)
            have d1 : W1.cell? ⟨w.heap.size + 1, 1, none⟩ = some (.int .i64 (l : Nat)) := HG.out.2.2.cell (i := 1) (by omega)
            have d2 : W1.cell? ⟨w.heap.size + 1, 2, none⟩ = some (.int .i64 (t : Nat)) := HG.out.2.2.cell (i := 2) (by omega)
            have x0 : ¬ (1 : Int) < (x : Int) := by have := HK.out; omega
            have x1 : ¬ (960 : Int) < (l : Int) := by have := HK.out; omega
            have x2 : ¬ (t : Int) < 0 := by omega
            clear hW1
            go_wp2_with fail
            refine (page_any x l t (by have := HK.out; omega) (by have := HK.out; omega) (by have := HK.out; omega)).mono ?_
            rintro e W2 ⟨k2, rfl, hbt, -, -, hb2⟩
            go_wp2_with fail
            refine (equal32 HK.out.2.2.2.2 (headP_len x l t) (HB.out W2 (below_step HG.out.1 hb2)) hbt).mono ?_
            rintro e w9 ⟨rfl, rfl⟩
            have hr0 := HG.out.2.1.of_block (hb2.block _ HG.out.2.1.lt)
            have hr1 := HG.out.2.2.of_block (hb2.block _ HG.out.2.2.lt)
            have HB2 : Hid (Below w.heap.size w w9) := below_step HG.out.1 hb2
            clear d0 d1 d2 hbt hb2 HG
            have d0 : w9.cell? ⟨w.heap.size + 1, 0, none⟩ = some (.int .i64 (x : Nat)) := hr1.cell (i := 0) (by omega)
            have d1 : w9.cell? ⟨w.heap.size + 1, 1, none⟩ = some (.int .i64 (l : Nat)) := hr1.cell (i := 1) (by omega)
            have d2 : w9.cell? ⟨w.heap.size + 1, 2, none⟩ = some (.int .i64 (t : Nat)) := hr1.cell (i := 2) (by omega)
            have e0 : w9.cell? ⟨w.heap.size, 0, none⟩ = some (.int .i64 0) := hr0.cell (i := 0) (by omega)
            have e1 : w9.cell? ⟨w.heap.size, 1, none⟩ = some (.int .i64 0) := hr0.cell (i := 1) (by omega)
            have e2 : w9.cell? ⟨w.heap.size, 2, none⟩ = some (.int .i64 0) := hr0.cell (i := 2) (by omega)
            have z0 := hr0.frozen
            have HS : Hid (∀ a b c : Int, (((w9.setCell ⟨w.heap.size, 0, none⟩ (.int .i64 a)).setCell ⟨w.heap.size, 1, none⟩ (.int .i64 b)).setCell ⟨w.heap.size, 2, none⟩ (.int .i64 c)).rowIs w.heap.size 189 3 (cells3 a b c) ∧ Below w.heap.size w (((w9.setCell ⟨w.heap.size, 0, none⟩ (.int .i64 a)).setCell ⟨w.heap.size, 1, none⟩ (.int .i64 b)).setCell ⟨w.heap.size, 2, none⟩ (.int .i64 c))) := fun a b c => ⟨row3_set hr0, ((HB2.out.setCell (Nat.le_refl _) _).setCell (Nat.le_refl _) _).setCell (Nat.le_refl _) _⟩
            clear hr0 hr1 HB2
            by_cases hpq : p = headP x l t
            · have HQ : Hid (p = headP x l t ∧ (p == headP x l t) = true) := ⟨hpq, beq_iff_eq.2 hpq⟩
              rw [show (p == headP x l t) = true from HQ.out.2]
              clear hpq
              go_wp2_with fail
              refine bodyPost_ret (results_row_tmp rfl _ _ w.heap.size 189 _ (0, 0) _ rfl (row3_block (HS.out _ _ _).1) Tryz.underlying189 rfl Tryz.sizeHead) rfl ?_
              exact ⟨⟨_, _, _, by rw [HQ.out.2]; rfl, fun _ => ⟨rfl, rfl, rfl⟩⟩, (HS.out _ _ _).2⟩
            · have HQ : Hid (¬ p = headP x l t ∧ (p == headP x l t) = false) := ⟨hpq, beq_false_of_ne hpq⟩
              rw [show (p == headP x l t) = false from HQ.out.2]
              clear hpq
              go_wp2_with fail
              refine bodyPost_ret (results_row_tmp rfl _ _ w.heap.size 189 _ (0, 0) _ rfl (row3_block (HS.out _ _ _).1) Tryz.underlying189 rfl Tryz.sizeHead) rfl ?_
              exact ⟨⟨_, _, _, by rw [HQ.out.2]; rfl, fun q => absurd q HQ.out.1⟩, (HS.out _ _ _).2⟩
  case ca27 =>
    go_simp
    refine hK9.out _ _ (HB.out _ ((((Below.refl _ _).alloc (Nat.le_refl _) _).drew).alloc (by simp) _)) (fun hHeld => ?_)
    clear hK9
    (try simp only [Act.put, List.setIfInBounds_toArray, List.set_cons_zero, List.set_cons_succ])
    refine wpAnyH_ready (rs := [2]) (by kernel_rfl) (by simp) ?_
    refine (AllReadyH.cons rfl (fun K9 hK9 => ?ca25) AllReadyH.nil)
    case ca25 =>
      go_simp
      go_wp2_with (go_at_call 198; refine (HR.out.1 _ hHeld _ (by omega)).mono ?_; rintro e w9 ⟨rfl, rfl⟩)
      refine hK9.out _ _ hHeld (fun hHeld => ?_)
      clear hK9
      (try simp only [Act.put, List.setIfInBounds_toArray, List.set_cons_zero, List.set_cons_succ])
      refine wpAnyH_ready (rs := [5]) (by kernel_rfl) (by simp) ?_
      refine (AllReadyH.cons rfl (fun K9 hK9 => ?ca24) AllReadyH.nil)
      case ca24 =>
        go_simp
        go_wp2_with (go_at_call 198; refine (HR.out.2.1 _ hHeld _ (by omega)).mono ?_; rintro e w9 ⟨rfl, rfl⟩)
        refine hK9.out _ _ hHeld (fun hHeld => ?_)
        clear hK9
        (try simp only [Act.put, List.setIfInBounds_toArray, List.set_cons_zero, List.set_cons_succ])
        refine wpAnyH_ready (rs := [8]) (by kernel_rfl) (by simp) ?_
        refine (AllReadyH.cons rfl (fun K9 hK9 => ?ca23) AllReadyH.nil)
        case ca23 =>
          go_simp
          go_wp2_with (go_at_call 198; refine (HR.out.2.2 _ hHeld _ (by omega)).mono ?_; rintro e w9 ⟨rfl, rfl⟩)
          refine hK9.out _ _ hHeld (fun hHeld => ?_)
          clear hK9
          (try simp only [Act.put, List.setIfInBounds_toArray, List.set_cons_zero, List.set_cons_succ])
          refine wpAnyH_take (i := 9) (v := .agg #[.int .i64 (x : Nat), .int .i64 (l : Nat), .int .i64 (t : Nat)]) rfl (by kernel_rfl) (by kernel_rfl) (by kernel_rfl) (fun _ _ _ h => h) ?ya21 (by assumption) ?_
          case ya21 => exact Or.inl ⟨by rfl, fun w _ => by simp only [execOp, List.map_toArray, List.map_cons, List.map_nil]; exact Dk.L.run_val (run_build w 189 _ _ (by kernel_rfl))⟩
          simp only [Act.put, List.setIfInBounds_toArray, List.set_cons_zero, List.set_cons_succ]
          refine wpAnyH_ready (rs := [11]) (by kernel_rfl) (by simp) ?_
          refine (AllReadyH.cons rfl (fun K9 hK9 => ?ca22) AllReadyH.nil)
          case ca22 =>
            go_simp
            refine hK9.out _ _ (HB.out _ HG.out.1) (fun hHeld => ?_)
            clear hK9
            refine wpAnyH_done (by kernel_rfl) ?_ _
            refine NoPanic.normal ?_
            have d0 : W1.cell? ⟨w.heap.size + 1, 0, none⟩ = some (.int .i64 (x : Nat)) := HG.out.2.2.cell (i := 0) (by omega)
            have d1 : W1.cell? ⟨w.heap.size + 1, 1, none⟩ = some (.int .i64 (l : Nat)) := HG.out.2.2.cell (i := 1) (by omega)
            have d2 : W1.cell? ⟨w.heap.size + 1, 2, none⟩ = some (.int .i64 (t : Nat)) := HG.out.2.2.cell (i := 2) (by omega)
            have x0 : ¬ (1 : Int) < (x : Int) := by have := HK.out; omega
            have x1 : ¬ (960 : Int) < (l : Int) := by have := HK.out; omega
            have x2 : ¬ (t : Int) < 0 := by omega
            clear hW1
            go_wp2_with fail
            refine (page_any x l t (by have := HK.out; omega) (by have := HK.out; omega) (by have := HK.out; omega)).mono ?_
            rintro e W2 ⟨k2, rfl, hbt, -, -, hb2⟩
            go_wp2_with fail
            refine (equal32 HK.out.2.2.2.2 (headP_len x l t) (HB.out W2 (below_step HG.out.1 hb2)) hbt).mono ?_
            rintro e w9 ⟨rfl, rfl⟩
            have hr0 := HG.out.2.1.of_block (hb2.block _ HG.out.2.1.lt)
            have hr1 := HG.out.2.2.of_block (hb2.block _ HG.out.2.2.lt)
            have HB2 : Hid (Below w.heap.size w w9) := below_step HG.out.1 hb2
            clear d0 d1 d2 hbt hb2 HG
            have d0 : w9.cell? ⟨w.heap.size + 1, 0, none⟩ = some (.int .i64 (x : Nat)) := hr1.cell (i := 0) (by omega)
            have d1 : w9.cell? ⟨w.heap.size + 1, 1, none⟩ = some (.int .i64 (l : Nat)) := hr1.cell (i := 1) (by omega)
            have d2 : w9.cell? ⟨w.heap.size + 1, 2, none⟩ = some (.int .i64 (t : Nat)) := hr1.cell (i := 2) (by omega)
            have e0 : w9.cell? ⟨w.heap.size, 0, none⟩ = some (.int .i64 0) := hr0.cell (i := 0) (by omega)
            have e1 : w9.cell? ⟨w.heap.size, 1, none⟩ = some (.int .i64 0) := hr0.cell (i := 1) (by omega)
            have e2 : w9.cell? ⟨w.heap.size, 2, none⟩ = some (.int .i64 0) := hr0.cell (i := 2) (by omega)
            have z0 := hr0.frozen
            have HS : Hid (∀ a b c : Int, (((w9.setCell ⟨w.heap.size, 0, none⟩ (.int .i64 a)).setCell ⟨w.heap.size, 1, none⟩ (.int .i64 b)).setCell ⟨w.heap.size, 2, none⟩ (.int .i64 c)).rowIs w.heap.size 189 3 (cells3 a b c) ∧ Below w.heap.size w (((w9.setCell ⟨w.heap.size, 0, none⟩ (.int .i64 a)).setCell ⟨w.heap.size, 1, none⟩ (.int .i64 b)).setCell ⟨w.heap.size, 2, none⟩ (.int .i64 c))) := fun a b c => ⟨row3_set hr0, ((HB2.out.setCell (Nat.le_refl _) _).setCell (Nat.le_refl _) _).setCell (Nat.le_refl _) _⟩
            clear hr0 hr1 HB2
            by_cases hpq : p = headP x l t
            · have HQ : Hid (p = headP x l t ∧ (p == headP x l t) = true) := ⟨hpq, beq_iff_eq.2 hpq⟩
              rw [show (p == headP x l t) = true from HQ.out.2]
              clear hpq
              go_wp2_with fail
              refine bodyPost_ret (results_row_tmp rfl _ _ w.heap.size 189 _ (0, 0) _ rfl (row3_block (HS.out _ _ _).1) Tryz.underlying189 rfl Tryz.sizeHead) rfl ?_
              exact ⟨⟨_, _, _, by rw [HQ.out.2]; rfl, fun _ => ⟨rfl, rfl, rfl⟩⟩, (HS.out _ _ _).2⟩
            · have HQ : Hid (¬ p = headP x l t ∧ (p == headP x l t) = false) := ⟨hpq, beq_false_of_ne hpq⟩
              rw [show (p == headP x l t) = false from HQ.out.2]
              clear hpq
              go_wp2_with fail
              refine bodyPost_ret (results_row_tmp rfl _ _ w.heap.size 189 _ (0, 0) _ rfl (row3_block (HS.out _ _ _).1) Tryz.underlying189 rfl Tryz.sizeHead) rfl ?_
              exact ⟨⟨_, _, _, by rw [HQ.out.2]; rfl, fun q => absurd q HQ.out.1⟩, (HS.out _ _ _).2⟩

end Go.Proofs.YtcfemppdeidjmacGreat.Sk

namespace Go.Proofs.YtcfemppdeidjmacGreat.Sk
open Go.RowKit Go.Deep Go.Proofs.YtcfemppdeidjmacGreat.Dk
open Go.RowKit (Below)
set_option linter.unusedVariables false

variable {w w' : World} {D : Dk.Face} {B n : Nat} {d : Value} {S S' : St} {F F' : Nat → Prop}

theorem dk_below (O : DiskOk D) (h : D w B d n S F) (hb : Below w.heap.size w w') : D w' B d n S F := O.keep h hb.size fun b q => hb.block b (O.own h b q).2

theorem turn_step {W : World} {F3 : Nat → Prop} (h : Turn F w w') (h' : Turn F3 w' W) (hF : ∀ b, F3 b → F b ∨ w.heap.size ≤ b) : Turn F w W :=
  ⟨h'.os.trans h.os, h'.tape.trans h.tape, h'.output.trans h.output, Nat.le_trans h.size h'.size, fun k hk hn => (h'.block k (Nat.lt_of_lt_of_le hk h.size) fun q => (hF k q).elim hn fun q => by omega).trans (h.block k hk hn)⟩

structure Page0 (p : List UInt8) (x l t : Nat) : Prop where
  len : p.length = 32
  px : ∀ i, i < 1 → p.getD (16 + i) 0 = byt x i
  pl : ∀ i, i < 2 → p.getD (17 + i) 0 = byt l i
  pt : ∀ i, i < 8 → p.getD (19 + i) 0 = byt t i
  x1 : x ≤ 1
  l1 : l ≤ 960
  t1 : t ≤ 100000

theorem page0_head {x l t : Nat} (hx : x ≤ 1) (hl : l ≤ 960) (ht : t ≤ 100000) : Page0 (headP x l t) x l t :=
  ⟨headP_len x l t, fun i hi => by rw [headP_at _ _ _ _ (by omega), if_neg (by omega), if_pos (by omega), Nat.add_sub_cancel_left], fun i hi => by rw [headP_at _ _ _ _ (by omega), if_neg (by omega), if_neg (by omega), if_pos (by omega), Nat.add_sub_cancel_left],
   fun i hi => by rw [headP_at _ _ _ _ (by omega), if_neg (by omega), if_neg (by omega), if_neg (by omega), if_pos (by omega), Nat.add_sub_cancel_left], hx, hl, ht⟩
theorem blank_getD (i : Nat) : Dk.blank.getD i 0 = 0 := by
  unfold Dk.blank
  rw [List.getD_eq_getElem?_getD, List.getElem?_replicate]
  split <;> rfl
theorem page0_blank : Page0 Dk.blank 0 0 0 := ⟨blank_len, fun i _ => by rw [blank_getD, byt_zero], fun i _ => by rw [blank_getD, byt_zero], fun i _ => by rw [blank_getD, byt_zero], by omega, by omega, by omega⟩

set_option maxRecDepth 100000 in
set_option maxHeartbeats 2000000 in
theorem look_any (O : DiskOk D) (h : D w B d n S F) (hB : B ≤ w.heap.size) {x l t : Nat} (h0 : Page0 (S.now 0) x l t) (h1 : 1 ≤ n) :
    Calls Tryz.prog 116 #[d] w fun e w' => (∃ x' l' t' : Int, ∃ ok : Bool, e = .returned (.tuple #[.agg #[.int .i64 x', .int .i64 l', .int .i64 t'], .bool ok]) ∧ (62 ≤ n → S.now 0 = headP x l t → ok = true ∧ x' = (x : Nat) ∧ l' = (l : Nat) ∧ t' = (t : Nat)) ∧ (n < 62 ∨ S.now 0 ≠ headP x l t → ok = false)) ∧ Below w.heap.size w w' := by
  have b1 : Below w.heap.size w (w.alloc (.cells #[.int .i64 0, .int .i64 0, .int .i64 0] 189)) := (Below.refl _ _).alloc (Nat.le_refl _) _
  have r1 := row3_new w 0 0 0
  have k1 := dk_below O h b1
  obtain ⟨W1, hW1⟩ : ∃ W1, w.alloc (.cells #[.int .i64 0, .int .i64 0, .int .i64 0] 189) = W1 := ⟨_, rfl⟩
  rw [hW1] at b1 r1 k1
  have HP : Hid (DiskOk D ∧ Page0 (S.now 0) x l t ∧ B ≤ w.heap.size ∧ 1 ≤ n) := ⟨O, h0, hB, h1⟩
  have H1 : Hid (D W1 B d n S F ∧ Below w.heap.size w W1 ∧ W1.rowIs w.heap.size 189 3 (cells3 0 0 0)) := ⟨k1, b1, r1⟩
  clear b1 r1 k1 O h hB h0 h1
  go_enter Tryz.func116, Tryz.ntmps116
  go_wp2_with fail
  refine (HP.out.1.pages H1.out.1).mono ?_
  rintro e W2 ⟨rfl, hb⟩
  have H2 : Hid (D W2 B d n S F ∧ Below w.heap.size w W2 ∧ W2.rowIs w.heap.size 189 3 (cells3 0 0 0)) := ⟨dk_below HP.out.1 H1.out.1 hb, below_step H1.out.2.1 hb, H1.out.2.2.of_block (hb.block _ H1.out.2.2.lt)⟩
  clear hW1 hb H1
  by_cases hn : n < 62
  · have hn' : (n : Int) < 62 := by omega
    have HN : Hid (n < 62) := hn
    have e0 : W2.cell? ⟨w.heap.size, 0, none⟩ = some (.int .i64 0) := H2.out.2.2.cell (i := 0) (by omega)
    have e1 : W2.cell? ⟨w.heap.size, 1, none⟩ = some (.int .i64 0) := H2.out.2.2.cell (i := 1) (by omega)
    have e2 : W2.cell? ⟨w.heap.size, 2, none⟩ = some (.int .i64 0) := H2.out.2.2.cell (i := 2) (by omega)
    have z0 := H2.out.2.2.frozen
    have HS : Hid ((((W2.setCell ⟨w.heap.size, 0, none⟩ (.int .i64 0)).setCell ⟨w.heap.size, 1, none⟩ (.int .i64 0)).setCell ⟨w.heap.size, 2, none⟩ (.int .i64 0)).rowIs w.heap.size 189 3 (cells3 0 0 0) ∧ Below w.heap.size w (((W2.setCell ⟨w.heap.size, 0, none⟩ (.int .i64 0)).setCell ⟨w.heap.size, 1, none⟩ (.int .i64 0)).setCell ⟨w.heap.size, 2, none⟩ (.int .i64 0))) := ⟨row3_set H2.out.2.2, ((H2.out.2.1.setCell (Nat.le_refl _) _).setCell (Nat.le_refl _) _).setCell (Nat.le_refl _) _⟩
    clear hn
    go_wp2_with fail
    refine bodyPost_ret (results_row_tmp rfl _ _ w.heap.size 189 _ (0, 0) _ rfl (row3_block HS.out.1) Tryz.underlying189 rfl Tryz.sizeHead) rfl ?_
    exact ⟨⟨0, 0, 0, false, rfl, fun q => by have := HN.out; omega, fun _ => rfl⟩, HS.out.2⟩
  · have hn' : ¬ (n : Int) < 62 := by omega
    have HN : Hid (¬ n < 62) := hn
    clear hn
    go_wp2_with fail
    refine (HP.out.1.read_32 0 H2.out.1 (by have := HP.out.2.2.1; have := H2.out.2.1.size; omega) (by have := HN.out; omega)).mono ?_
    rintro e W3 ⟨k3, rfl, hlen, hbt, -, hb⟩
    have H3 : Hid (BtAt W3 (some ⟨k3, 0, none⟩) (S.now 0) ∧ Below w.heap.size w W3 ∧ W3.rowIs w.heap.size 189 3 (cells3 0 0 0)) := ⟨hbt, below_step H2.out.2.1 hb, H2.out.2.2.of_block (hb.block _ H2.out.2.2.lt)⟩
    clear hlen hbt hb H2
    go_wp2_with fail
    refine (headOf_any H3.out.1 HP.out.2.1.len HP.out.2.1.x1 HP.out.2.1.l1 HP.out.2.1.t1 HP.out.2.1.px HP.out.2.1.pl HP.out.2.1.pt).mono ?_
    rintro e W4 ⟨⟨x', l', t', rfl, hx⟩, hb⟩
    obtain ⟨ok, hok⟩ : ∃ ok, (S.now 0 == headP x l t) = ok := ⟨_, rfl⟩
    rw [hok]
    have HX : Hid ((S.now 0 = headP x l t → ok = true ∧ x' = (x : Nat) ∧ l' = (l : Nat) ∧ t' = (t : Nat)) ∧ (S.now 0 ≠ headP x l t → ok = false)) := ⟨fun q => ⟨hok ▸ beq_iff_eq.2 q, hx q⟩, fun q => hok ▸ beq_false_of_ne q⟩
    have hr4 : W4.rowIs w.heap.size 189 3 (cells3 0 0 0) := H3.out.2.2.of_block (hb.block _ H3.out.2.2.lt)
    have hb4 := below_step H3.out.2.1 hb
    have e0 : W4.cell? ⟨w.heap.size, 0, none⟩ = some (.int .i64 0) := hr4.cell (i := 0) (by omega)
    have e1 : W4.cell? ⟨w.heap.size, 1, none⟩ = some (.int .i64 0) := hr4.cell (i := 1) (by omega)
    have e2 : W4.cell? ⟨w.heap.size, 2, none⟩ = some (.int .i64 0) := hr4.cell (i := 2) (by omega)
    have z0 := hr4.frozen
    have HS : Hid ((((W4.setCell ⟨w.heap.size, 0, none⟩ (.int .i64 x')).setCell ⟨w.heap.size, 1, none⟩ (.int .i64 l')).setCell ⟨w.heap.size, 2, none⟩ (.int .i64 t')).rowIs w.heap.size 189 3 (cells3 x' l' t') ∧ Below w.heap.size w (((W4.setCell ⟨w.heap.size, 0, none⟩ (.int .i64 x')).setCell ⟨w.heap.size, 1, none⟩ (.int .i64 l')).setCell ⟨w.heap.size, 2, none⟩ (.int .i64 t'))) := ⟨row3_set hr4, ((hb4.setCell (Nat.le_refl _) _).setCell (Nat.le_refl _) _).setCell (Nat.le_refl _) _⟩
    clear hok hx hr4 hb hb4 H3
    go_wp2_with fail
    refine bodyPost_ret (results_row_tmp rfl _ _ w.heap.size 189 _ (0, 0) _ rfl (row3_block HS.out.1) Tryz.underlying189 rfl Tryz.sizeHead) rfl ?_
    exact ⟨⟨x', l', t', ok, rfl, fun _ q => HX.out.1 q, fun q => HX.out.2 (q.resolve_left HN.out)⟩, HS.out.2⟩

theorem start_any (h : Nat) (hh : h ≤ 1) : Calls Tryz.prog 169 #[.int .i64 (h : Nat)] w fun e w' => e = .returned (.int .i64 (at0 h : Nat)) ∧ w' = w := by
  have h1 : h = 0 ∨ h = 1 := by omega
  clear hh
  rcases h1 with rfl | rfl
  · go_enter Tryz.func169, Tryz.ntmps169
    go_wp2_with fail
    go_ret
    exact ⟨rfl, rfl⟩
  · go_enter Tryz.func169, Tryz.ntmps169
    go_wp2_with fail
    go_ret
    exact ⟨rfl, rfl⟩

def Tellp (S : St) (p : List UInt8) (x : Int) (S' : St) : Prop :=
  (Off S ∧ x = 8 ∧ S' = fall S) ∨ (¬ Off S ∧ Off (wrote S 0 p) ∧ x = 8 ∧ S' = fall (wrote S 0 p)) ∨ (¬ Off S ∧ ¬ Off (wrote S 0 p) ∧ x = 0 ∧ S' = synced (wrote S 0 p))

set_option maxRecDepth 100000 in
set_option maxHeartbeats 2000000 in
theorem tell_any (O : DiskOk D) (h : D w B d n S F) (hB : B ≤ w.heap.size) (hw : S.wr.length ≤ 900) (hn : 1 ≤ n) {x l t : Nat} (hx : x ≤ 1) (hl : l ≤ 960) (ht : t ≤ 100000) :
    Calls Tryz.prog 115 #[d, .agg #[.int .i64 (x : Nat), .int .i64 (l : Nat), .int .i64 (t : Nat)]] w fun e w' => ∃ v y S' F', e = .returned v ∧ Er v y ∧ Tellp S (headP x l t) y S' ∧ D w' B d n S' F' ∧ (∀ b, F' b → F b ∨ w.heap.size ≤ b) ∧ Turn F w w' := by
  have b1 : Below w.heap.size w (w.alloc (.cells #[.int .i64 (x : Nat), .int .i64 (l : Nat), .int .i64 (t : Nat)] 189)) := (Below.refl _ _).alloc (Nat.le_refl _) _
  have HP : Hid (DiskOk D ∧ D w B d n S F ∧ B ≤ w.heap.size ∧ S.wr.length ≤ 900 ∧ 1 ≤ n) := ⟨O, h, hB, hw, hn⟩
  have HPg : Hid (x ≤ 1 ∧ l ≤ 960 ∧ t ≤ 100000) := ⟨hx, hl, ht⟩
  obtain ⟨W1, hW1⟩ : ∃ W1, w.alloc (.cells #[.int .i64 (x : Nat), .int .i64 (l : Nat), .int .i64 (t : Nat)] 189) = W1 := ⟨_, rfl⟩
  have r1 := row3_new w (x : Nat) (l : Nat) (t : Nat)
  rw [hW1] at b1 r1
  have e0 : W1.cell? ⟨w.heap.size, 0, none⟩ = some (.int .i64 (x : Nat)) := r1.cell (i := 0) (by omega)
  have e1 : W1.cell? ⟨w.heap.size, 1, none⟩ = some (.int .i64 (l : Nat)) := r1.cell (i := 1) (by omega)
  have e2 : W1.cell? ⟨w.heap.size, 2, none⟩ = some (.int .i64 (t : Nat)) := r1.cell (i := 2) (by omega)
  have H1 : Hid (Below w.heap.size w W1) := b1
  clear b1 r1 O h hB hw hn hx hl ht
  go_enter Tryz.func115, Tryz.ntmps115
  go_wp2_with fail
  refine (page_any x l t HPg.out.1 HPg.out.2.1 HPg.out.2.2).mono ?_
  rintro e W2 ⟨k2, rfl, hbt, hk1, hk2, hb2⟩
  have H2 : Hid (Below w.heap.size w W2 ∧ BtAt W2 (some ⟨k2, 0, none⟩) (headP x l t) ∧ W1.heap.size ≤ k2) := ⟨below_step H1.out hb2, hbt, hk1⟩
  clear hW1 e0 e1 e2 hbt hk1 hk2 hb2
  go_wp2_with fail
  have hwr := HP.out.1.write (l := headP x l t) (c := 32) (a := some ⟨k2, 0, none⟩) 0 (dk_below HP.out.1 HP.out.2.1 H2.out.1) (Nat.le_trans HP.out.2.2.1 H2.out.1.size) H2.out.2.1 (by rw [headP_len]; exact Nat.le_refl _) (by decide)
    (fun _ b o e q => by cases e; have h1 := (HP.out.1.own HP.out.2.1 _ q).2; have h2 := H2.out.2.2; have h3 := H1.out.size; omega) (fun e => by cases e) (by have := HP.out.2.2.2.1; omega)
  rw [headP_len] at hwr
  refine hwr.mono ?_
  clear hwr
  rintro e W3 ⟨v, y, S3, F3, rfl, her, hwr, hd, hf, ht⟩
  have HPad : Hid (pad (headP x l t) = headP x l t) := headP_pad x l t
  have H3 : Hid (D W3 B d n S3 F3 ∧ (∀ b, F3 b → F b ∨ w.heap.size ≤ b) ∧ Turn F w W3) := ⟨hd, fun b q => (hf b q).imp id fun q => Nat.le_trans H2.out.1.size q, (Turn.of_below H2.out.1).trans ht⟩
  have hcase : (Off S ∧ y = 8 ∧ S3 = fall S) ∨ (¬ Off S ∧ y = 0 ∧ S3 = wrote S 0 (headP x l t)) := by
    rcases hwr with ⟨h1, _⟩ | ⟨_, h1, _⟩ | ⟨_, _, h1, h2, h3⟩ | ⟨_, _, h1, h2, h3⟩
    · have := HP.out.2.2.2.2; omega
    · rw [headP_len] at h1; omega
    · exact Or.inl ⟨h1, h2, h3⟩
    · rw [HPad.out] at h3; exact Or.inr ⟨h1, h2, h3⟩
  clear hwr hd hf ht H2 H1 HPad
  rcases hcase with ⟨h1, rfl, rfl⟩ | ⟨h1, rfl, rfl⟩
  · obtain rfl := her.some (by decide)
    have HO : Hid (Off S) := h1
    clear h1
    go_wp2_with fail
    go_ret
    exact ⟨_, 8, _, _, rfl, her, Or.inl ⟨HO.out, rfl, rfl⟩, H3.out⟩
  · obtain rfl := her.nil
    have HO : Hid (¬ Off S) := h1
    clear h1 her
    go_wp2_with fail
    refine (HP.out.1.sync H3.out.1 (Nat.le_trans HP.out.2.2.1 H3.out.2.2.size)).mono ?_
    rintro e W4 ⟨v, y, S4, F4, rfl, her, hsy, hd, hf, ht⟩
    have H4 : Hid (D W4 B d n S4 F4 ∧ (∀ b, F4 b → F b ∨ w.heap.size ≤ b) ∧ Turn F w W4) := ⟨hd, fun b q => (hf b q).elim (fun q => H3.out.2.1 b q) fun q => Or.inr (Nat.le_trans H3.out.2.2.size q), turn_step H3.out.2.2 ht H3.out.2.1⟩
    have HS : Hid (Er v y ∧ Syncs (wrote S 0 (headP x l t)) y S4) := ⟨her, hsy⟩
    clear her hsy hd hf ht
    go_wp2_with fail
    go_ret
    refine ⟨v, y, S4, F4, rfl, HS.out.1, ?_, H4.out⟩
    rcases HS.out.2 with ⟨h1, h2, h3⟩ | ⟨h1, h2, h3⟩
    · exact Or.inr (Or.inl ⟨HO.out, h1, h2, h3⟩)
    · exact Or.inr (Or.inr ⟨HO.out, h1, h2, h3⟩)

end Go.Proofs.YtcfemppdeidjmacGreat.Sk

namespace Go.Proofs.YtcfemppdeidjmacGreat.Sk
open Go.RowKit Go.Deep Go.Proofs.YtcfemppdeidjmacGreat.Dk
open Go.RowKit (Below)
set_option linter.unusedVariables false

variable {w w' : World} {D : Dk.Face} {B n : Nat} {d : Value} {S S' : St} {F F' : Nat → Prop} {l : List UInt8}

def laid (S : St) (o : Nat) (l : List UInt8) : Nat → St
  | 0 => S
  | j + 1 => wrote (laid S o l j) (o + j) (pad (chunk l j))

theorem laid_len (S : St) (o : Nat) (l : List UInt8) : ∀ j, (laid S o l j).wr.length = S.wr.length + j
  | 0 => rfl
  | j + 1 => by
    show ((laid S o l j).wr ++ [_]).length = _
    rw [List.length_append, laid_len S o l j]
    rfl

def Laidp (S : St) (o : Nat) (l : List UInt8) (y : Int) (S' : St) : Prop :=
  (∃ j, 32 * j < l.length ∧ Off (laid S o l j) ∧ y = 8 ∧ S' = fall (laid S o l j)) ∨ (∃ j, l.length ≤ 32 * j ∧ 32 * j < l.length + 32 ∧ y = 0 ∧ S' = laid S o l j)

theorem bt_cut {b o q m : Nat} (h : BtAt w (some ⟨b, o, none⟩) l) : BtAt w (some ⟨b, o + q, none⟩) ((l.drop q).take m) := fun i hi => by
  rw [List.length_take, List.length_drop] at hi
  obtain ⟨b', o', e, hc⟩ := h (q + i) (by omega)
  cases e
  refine ⟨b, o + q, rfl, ?_⟩
  rw [List.getD_eq_getElem?_getD, List.getElem?_take_of_lt (by omega), List.getElem?_drop, ← List.getD_eq_getElem?_getD, Nat.add_assoc]
  exact hc

set_option maxRecDepth 100000 in
set_option maxHeartbeats 4000000 in
theorem lay_any (O : DiskOk D) (h : D w B d n S F) (hB : B ≤ w.heap.size) (hw : S.wr.length ≤ 800) (hn : 62 ≤ n) {x : Nat} {L t : Int} (hx : x ≤ 1) {a : Option Addr} {c : Nat} (ha : BtAt w a l) (hc : l.length ≤ c) (hc2 : c ≤ maxLen)
    (hF : l ≠ [] → ∀ b o, a = some ⟨b, o, none⟩ → ¬ F b) (hl : l.length ≤ 960) :
    Calls Tryz.prog 170 #[d, .agg #[.int .i64 (x : Nat), .int .i64 L, .int .i64 t], .slice a l.length c] w fun e w' => ∃ v y S' F', e = .returned v ∧ Er v y ∧ Laidp S (at0 x) l y S' ∧ D w' B d n S' F' ∧ (∀ b, F' b → F b ∨ w.heap.size ≤ b) ∧ Turn F w w' := by
  have b1 : Below w.heap.size w (w.alloc (.cells #[.int .i64 (x : Nat), .int .i64 L, .int .i64 t] 189)) := (Below.refl _ _).alloc (Nat.le_refl _) _
  have HP : Hid (DiskOk D ∧ D w B d n S F ∧ B ≤ w.heap.size ∧ S.wr.length ≤ 800 ∧ 62 ≤ n ∧ x ≤ 1) := ⟨O, h, hB, hw, hn, hx⟩
  have HA : Hid (BtAt w a l ∧ l.length ≤ c ∧ c ≤ maxLen ∧ (l ≠ [] → ∀ b o, a = some ⟨b, o, none⟩ → ¬ F b) ∧ l.length ≤ 960) := ⟨ha, hc, hc2, hF, hl⟩
  obtain ⟨W1, hW1⟩ : ∃ W1, w.alloc (.cells #[.int .i64 (x : Nat), .int .i64 L, .int .i64 t] 189) = W1 := ⟨_, rfl⟩
  have r1 := row3_new w (x : Nat) L t
  rw [hW1] at b1 r1
  have e0 : W1.cell? ⟨w.heap.size, 0, none⟩ = some (.int .i64 (x : Nat)) := r1.cell (i := 0) (by omega)
  have H1 : Hid (Below w.heap.size w W1) := b1
  have HL : Hid (at0 x ≤ 31) := show _ ≤ _ by unfold at0; omega
  clear b1 r1 O h hB hw hn hx ha hc hc2 hF hl
  obtain ⟨N, hN⟩ : ∃ N, l.length = N := ⟨_, rfl⟩
  rw [hN]
  have HN : Hid (l.length = N) := hN
  clear hN
  go_enter Tryz.func170, Tryz.ntmps170
  go_wp2_with fail
  refine (start_any x HP.out.2.2.2.2.2).mono ?_
  rintro e w9 ⟨rfl, rfl⟩
  obtain ⟨o0, ho0⟩ : ∃ o0, at0 x = o0 := ⟨_, rfl⟩
  rw [ho0]
  have HO0 : Hid (at0 x = o0 ∧ o0 ≤ 31) := ⟨ho0, ho0 ▸ HL.out⟩
  clear ho0 e0 hW1 HL
  go_wp2_with fail
  go_loopw [7, 8] (fun at_ fr wr => ∃ (j : Nat) (Fj : Nat → Prop), 32 * j < N + 32 ∧ at_ = .int .i64 ((o0 + j : Nat) : Int) ∧ fr = .int .i64 ((32 * j : Nat) : Int) ∧ D wr B d n (laid S o0 l j) Fj ∧ (∀ b, Fj b → F b ∨ w.heap.size ≤ b) ∧ Turn F w wr) (fun _ fr _ => N + 32 - (intOf fr).toNat)
  case atStart => exact ⟨0, F, by omega, rfl, rfl, dk_below HP.out.1 HP.out.2.1 H1.out, fun b q => Or.inl q, Turn.of_below H1.out⟩
  case round =>
    obtain ⟨j, Fj, hj, rfl, rfl, hd, hf, ht⟩ := hrel
    have HJ : Hid (D wr B d n (laid S o0 l j) Fj ∧ (∀ b, Fj b → F b ∨ w.heap.size ≤ b) ∧ Turn F w wr) := ⟨hd, hf, ht⟩
    clear hd hf ht H1
    obtain ⟨q, hq⟩ : ∃ q, 32 * j = q := ⟨_, rfl⟩
    rw [hq]
    have HQ : Hid (32 * j = q ∧ 32 * j < N + 32 ∧ N ≤ 960 ∧ N ≤ c) := ⟨hq, hj, HN.out ▸ HA.out.2.2.2.2, HN.out ▸ HA.out.2.1⟩
    obtain ⟨p, hp⟩ : ∃ p, o0 + j = p := ⟨_, rfl⟩
    rw [hp]
    have HPp : Hid (o0 + j = p) := hp
    by_cases hlt : q < N
    · have i0 : (q : Int) < (N : Int) := by omega
      have i1 : IntKind.i64.wrap ((q : Int) + 32) = (q : Int) + 32 := by rw [IntKind.wrap_i64]; have := HQ.out; omega
      have i2 : IntKind.i64.wrap ((p : Int) + 1) = (p : Int) + 1 := by rw [IntKind.wrap_i64]; have := HQ.out; have := HO0.out; omega
      obtain ⟨H, hH⟩ : ∃ H, min (q + 32) N = H := ⟨_, rfl⟩
      have i3 : min ((q : Int) + 32) (N : Int) = (H : Int) := by omega
      have i4 : (0 : Int) ≤ (q : Int) := by omega
      have i5 : (q : Int) ≤ (H : Int) := by omega
      have i6 : (H : Int) ≤ (c : Int) := by have := HQ.out; omega
      have i7 : ¬ c = q := by have := HQ.out; omega
      obtain ⟨b, o, rfl⟩ : ∃ b o, a = some ⟨b, o, none⟩ := by
        obtain ⟨b, o, e, _⟩ := HA.out.1 0 (by have := HN.out; omega)
        exact ⟨b, o, e⟩
      clear hj hq hp
      go_wp2_with fail
      have hcl : (chunk l j).length = H - q := by
        unfold chunk
        rw [List.length_take, List.length_drop, HN.out]
        have := HQ.out
        omega
      have hbt : BtAt wr (some ⟨b, o + q, none⟩) (chunk l j) := by
        have h1 := Dk.L.bt_turn HA.out.1 HJ.out.2.2 HA.out.2.2.2.1
        have h2 := bt_cut (q := 32 * j) (m := 32) h1
        rw [HQ.out.1] at h2
        unfold chunk
        rw [HQ.out.1]
        exact h2
      have hne : l ≠ [] := fun e => by have := HN.out; rw [e] at this; simp at this; omega
      have hwr := HP.out.1.write (l := chunk l j) (a := some ⟨b, o + q, none⟩) (c := c - q) (p : Int) HJ.out.1 (Nat.le_trans HP.out.2.2.1 HJ.out.2.2.size) hbt (by rw [hcl]; have := HQ.out; omega) (by have := HA.out.2.2.1; omega)
        (fun _ b' o' e z => by
          cases e
          rcases HJ.out.2.1 b z with z | z
          · exact HA.out.2.2.2.1 hne b o rfl z
          · obtain ⟨b', o', e, hcell⟩ := HA.out.1 0 (by have := HN.out; omega)
            cases e
            have := World.block_lt_of_cell? _ _ hcell
            simp at this
            omega) (fun e => by cases e) (by rw [laid_len]; have := HP.out.2.2.2.1; have := HQ.out; omega)
      rw [hcl] at hwr
      refine hwr.mono ?_
      clear hwr hbt hcl
      rintro e W3 ⟨v, y, S3, F3, rfl, her, hwr, hd, hf, ht⟩
      have H3 : Hid (D W3 B d n S3 F3 ∧ (∀ b, F3 b → F b ∨ w.heap.size ≤ b) ∧ Turn F w W3) := ⟨hd, fun b z => (hf b z).elim (fun z => HJ.out.2.1 b z) fun z => Or.inr (Nat.le_trans HJ.out.2.2.size z), turn_step HJ.out.2.2 ht HJ.out.2.1⟩
      have hcase : (Off (laid S o0 l j) ∧ y = 8 ∧ S3 = fall (laid S o0 l j)) ∨ (y = 0 ∧ S3 = laid S o0 l (j + 1)) := by
        rcases hwr with ⟨h1, _⟩ | ⟨_, h1, _⟩ | ⟨_, _, h1, h2, h3⟩ | ⟨_, _, h1, h2, h3⟩
        · have := HP.out.2.2.2.2; have := HPp.out; have := HQ.out; have := HO0.out; omega
        · have := chunk_le l j; omega
        · exact Or.inl ⟨h1, h2, h3⟩
        · refine Or.inr ⟨h2, ?_⟩
          rw [h3]
          show _ = wrote (laid S o0 l j) (o0 + j) (pad (chunk l j))
          rw [HPp.out]
          rfl
      clear hwr hd hf ht HJ hH hne i3 i5 i6 i7
      rcases hcase with ⟨h1, rfl, rfl⟩ | ⟨rfl, rfl⟩
      · obtain rfl := Dk.Er.some her (by decide)
        have HO : Hid (Off (laid S o0 l j) ∧ 32 * j < l.length) := ⟨h1, by rw [HQ.out.1, HN.out]; exact hlt⟩
        clear h1
        go_wp2_with fail
        go_ret
        exact ⟨_, 8, _, _, rfl, her, Or.inl ⟨j, HO.out.2, by rw [HO0.out.1]; exact HO.out.1, rfl, by rw [HO0.out.1]⟩, H3.out⟩
      · obtain rfl := Dk.Er.nil her
        clear her
        go_wp2_with fail
        go_roundw
        case rel => exact ⟨j + 1, F3, by have := HQ.out; omega, by have := HPp.out; go_num, by have := HQ.out.1; go_num, H3.out⟩
        case measure => simp [intOf]; omega
    · have i0 : ¬ (q : Int) < (N : Int) := by omega
      clear hj hq hp
      go_wp2_with fail
      go_ret
      exact ⟨_, rfl, 0, Or.inl ⟨rfl, rfl⟩, _, Or.inr ⟨j, by have := HQ.out; have := HN.out; omega, by have := HQ.out; have := HN.out; omega, rfl, by rw [HO0.out.1]⟩, _, HJ.out⟩

end Go.Proofs.YtcfemppdeidjmacGreat.Sk

namespace Go.Proofs.YtcfemppdeidjmacGreat.Sk
open Go.RowKit Go.Deep Go.Proofs.YtcfemppdeidjmacGreat.Dk
open Go.RowKit (Below)
set_option linter.unusedVariables false

variable {w w' : World} {D : Dk.Face} {B n : Nat} {d : Value} {S S' : St} {F F' : Nat → Prop} {l : List UInt8}

theorem bt_cells {k : Nat} {p : List UInt8} (h : BtAt w (some ⟨k, 0, none⟩) p) : ∀ j u, (p.map by1)[j]? = some u → w.cell? (Addr.add ⟨k, 0, none⟩ j) = some u := fun j u hu => by
  rw [List.getElem?_map] at hu
  obtain ⟨c, hc, rfl⟩ := Option.map_eq_some_iff.1 hu
  obtain ⟨hj, _⟩ := List.getElem?_eq_some_iff.1 hc
  obtain ⟨b, o, e, hcell⟩ := h j hj
  cases e
  rw [Addr.add_lit, hcell, List.getD_eq_getElem?_getD, hc]
  rfl

set_option maxRecDepth 100000 in
set_option maxHeartbeats 4000000 in
theorem fetch_any (O : DiskOk D) (h : D w B d n S F) (hB : B ≤ w.heap.size) (hn : 62 ≤ n) {x : Nat} {t : Int} (hx : x ≤ 1) (hh : Has S.now x l) (hl : l.length ≤ 960) :
    Calls Tryz.prog 117 #[d, .agg #[.int .i64 (x : Nat), .int .i64 (l.length : Nat), .int .i64 t]] w fun e w' => ∃ a c, e = .returned (.slice a l.length c) ∧ BtAt w' a l ∧ l.length ≤ c ∧ c ≤ maxLen ∧ (a = none → c = 0) ∧ (∀ b o, a = some ⟨b, o, none⟩ → w.heap.size ≤ b ∧ b < w'.heap.size) ∧ Below w.heap.size w w' := by
  obtain ⟨N, hN⟩ : ∃ N, l.length = N := ⟨_, rfl⟩
  have b1 : Below w.heap.size w (w.alloc (.cells #[.int .i64 (x : Nat), .int .i64 (N : Nat), .int .i64 t] 189)) := (Below.refl _ _).alloc (Nat.le_refl _) _
  have HP : Hid (DiskOk D ∧ D w B d n S F ∧ B ≤ w.heap.size ∧ 62 ≤ n ∧ x ≤ 1 ∧ Has S.now x l ∧ l.length ≤ 960) := ⟨O, h, hB, hn, hx, hh, hl⟩
  obtain ⟨W1, hW1⟩ : ∃ W1, w.alloc (.cells #[.int .i64 (x : Nat), .int .i64 (N : Nat), .int .i64 t] 189) = W1 := ⟨_, rfl⟩
  have r1 := row3_new w (x : Nat) (N : Nat) t
  rw [hW1] at b1 r1
  have e0 : W1.cell? ⟨w.heap.size, 0, none⟩ = some (.int .i64 (x : Nat)) := r1.cell (i := 0) (by omega)
  have e1 : W1.cell? ⟨w.heap.size, 1, none⟩ = some (.int .i64 (N : Nat)) := r1.cell (i := 1) (by omega)
  have H1 : Hid (Below w.heap.size w W1 ∧ W1.cell? ⟨w.heap.size, 1, none⟩ = some (.int .i64 (N : Nat))) := ⟨b1, e1⟩
  have HL : Hid (at0 x ≤ 31) := show _ ≤ _ by unfold at0; omega
  obtain ⟨z0, hi0, hz0, hz1, hz2⟩ := info_parts Tryz.infoU8r
  have HN : Hid (l.length = N ∧ N ≤ 960) := ⟨hN, hN ▸ hl⟩
  clear b1 r1 O h hB hn hx hh hl e1
  rw [hN]
  clear hN
  go_enter Tryz.func117, Tryz.ntmps117
  go_wp2_with fail
  refine (start_any x HP.out.2.2.2.2.1).mono ?_
  rintro e w9 ⟨rfl, h9⟩
  rw [h9]
  clear h9
  obtain ⟨o0, ho0⟩ : ∃ o0, at0 x = o0 := ⟨_, rfl⟩
  rw [ho0]
  have HO0 : Hid (at0 x = o0 ∧ o0 ≤ 31) := ⟨ho0, ho0 ▸ HL.out⟩
  clear ho0 e0 hW1 HL
  go_wp2_with fail
  go_loopw [5, 6] (fun v at_ wr => ∃ (j M : Nat), 32 * j = M ∧ M < N + 32 ∧ at_ = .int .i64 ((o0 + j : Nat) : Int) ∧ Below W1.heap.size W1 wr ∧ wr.ownsRow W1.heap.size 5 1 v M (((long l).take M).map by1)) (fun _ at_ _ => N + 32 - 32 * ((intOf at_).toNat - o0))
  case atStart => exact ⟨0, 0, rfl, by omega, rfl, Below.refl _ _, World.ownsRow_nil ..⟩
  case round =>
    obtain ⟨j, M, hM, hj, rfl, hb, hown⟩ := hrel
    have HJ : Hid (Below W1.heap.size W1 wr ∧ wr.ownsRow W1.heap.size 5 1 u5 M (((long l).take M).map by1)) := ⟨hb, hown⟩
    have HQ : Hid (32 * j = M ∧ M < N + 32) := ⟨hM, hj⟩
    have c1 := cell_keep hb H1.out.2
    have hu5 : ∃ ao co, u5 = .slice ao M co ∧ M ≤ co ∧ (0 < M → ∃ g, ao = some ⟨g, 0, none⟩) ∧ (M = 0 → u5 = u5) := by
      rcases hown.2 with ⟨rfl, h0⟩ | ⟨g, cap, _, rfl, _, _, h1, _⟩
      · exact ⟨none, 0, by rw [h0], by omega, fun q => by omega, fun _ => rfl⟩
      · exact ⟨_, cap, rfl, h1, fun _ => ⟨g, rfl⟩, fun _ => rfl⟩
    obtain ⟨ao, co, rfl, hco, hg, -⟩ := hu5
    clear hb hown hM
    obtain ⟨p, hp⟩ : ∃ p, o0 + j = p := ⟨_, rfl⟩
    rw [hp]
    have HPp : Hid (o0 + j = p) := hp
    by_cases hlt : M < N
    · have i0 : (M : Int) < (N : Int) := by omega
      have i2 : IntKind.i64.wrap ((p : Int) + 1) = (p : Int) + 1 := by rw [IntKind.wrap_i64]; have := HQ.out; have := HO0.out; have := HN.out; omega
      clear hp hg hco
      go_wp2_with fail
      refine (HP.out.1.read_32 p (dk_below HP.out.1 HP.out.2.1 (below_step H1.out.1 HJ.out.1)) (by have := HP.out.2.2.1; have := H1.out.1.size; have := HJ.out.1.size; omega) (by have := HP.out.2.2.2.1; have := HPp.out; have := HQ.out; have := HO0.out; have := HN.out; omega)).mono ?_
      rintro e W3 ⟨k3, rfl, hlen, hbt, hk3, hb3⟩
      have hpg : S.now p = pad (chunk l j) := by
        rw [← HPp.out, ← HO0.out.1]
        exact HP.out.2.2.2.2.2.1 j (by rw [HQ.out.1, HN.out.1]; exact hlt)
      rw [hpg] at hlen hbt
      have HC : Hid (BtAt W3 (some ⟨k3, 0, none⟩) (pad (chunk l j)) ∧ (pad (chunk l j)).length = 32) := ⟨hbt, hlen⟩
      have HO3 : Hid (W3.ownsRow W1.heap.size 5 1 (.slice ao M co) M (((long l).take M).map by1)) := Dk.L.own_block HJ.out.2 fun k hk => hb3.block k (HJ.out.2.lt k hk).2
      have HB3 : Hid (Below W1.heap.size W1 W3) := below_step HJ.out.1 hb3
      have hc3 := bt_cells hbt
      have hl3 : ((pad (chunk l j)).map by1).length = 32 * 1 := by rw [List.length_map, hlen]
      obtain ⟨V, hV⟩ : ∃ V, (pad (chunk l j)).map by1 = V := ⟨_, rfl⟩
      rw [hV] at hc3 hl3
      have HV : Hid ((pad (chunk l j)).map by1 = V) := hV
      have ho3 : ∀ u ∈ V, u.oneCell' = true := fun u hu => by
        rw [← hV] at hu
        obtain ⟨y, _, rfl⟩ := List.mem_map.1 hu
        rfl
      obtain ⟨H, hH⟩ : ∃ H, W3.heap.size = H := ⟨_, rfl⟩
      clear hlen hbt hk3 hb3 hpg hV c1
      go_wp2_with (first
        | (at_builtin; refine wpList_append_lies _ rfl (.tmp 27) (.tmp 28) 74 rfl W1.heap.size 5 z0 (.int .u8 0) 1 1 Tryz.underlying74 hi0 hz0 hz1 hz2 rfl (by decide) (.slice ao M co) M (((long l).take M).map by1) rfl HO3.out ⟨k3, 0, none⟩ 32 32 V rfl hl3 hc3 ho3 (by decide) ?c3 ?c4 ?c5 H hH ?_))
      case c3 => unfold maxLen; have := HN.out; have := HQ.out; omega
      case c4 => have := HN.out; have := HQ.out; omega
      case c5 => exact HB3.out.size
      intro g1 cap1 w2 hown hgrow hat hlt2
      have hb2 : Below W1.heap.size W1 w2 := HB3.out.grown hgrow HB3.out.size (fun k e => (HO3.out.lt k e).1)
      have HN2 : Hid (Below W1.heap.size W1 w2 ∧ w2.ownsRow W1.heap.size 5 1 (.slice (some ⟨g1, 0, none⟩) (M + 32) cap1) (M + 32) (((long l).take (M + 32)).map by1)) := by
        refine ⟨hb2, ?_⟩
        have e1 : List.take M ((long l).map by1) ++ V = ((long l).take (M + 32)).map by1 := by
          rw [← HV.out, ← List.map_take, ← List.map_append, ← HQ.out.1, long_more (by rw [HQ.out.1, HN.out.1]; exact hlt)]
          rfl
        rw [← e1]
        exact hown
      clear hown hgrow hat hlt2 hb2 hc3 hl3 ho3 hH HO3
      go_wp2_with fail
      go_roundw
      case rel => exact ⟨j + 1, M + 32, by have := HQ.out; omega, by omega, by have := HPp.out; go_num, HN2.out⟩
      case measure => simp [intOf]; have := HPp.out; have := HQ.out; omega
    · have i0 : ¬ (M : Int) < (N : Int) := by omega
      have i1 : (N : Int) ≤ (M : Int) := by omega
      have i2 : (N : Int) ≤ (co : Int) := by omega
      have i3 : (0 : Int) ≤ (N : Int) := by omega
      have HR : Hid (∀ i, i < l.length → ∃ g, ao = some ⟨g, 0, none⟩ ∧ wr.cell? ⟨g, i, none⟩ = some (by1 (l.getD i 0))) := fun i hi => by
        obtain ⟨g, rfl⟩ := hg (by have := HN.out; omega)
        have := HJ.out.2.cellAt i (by have := HN.out; omega)
        refine ⟨g, rfl, ?_⟩
        rw [this, List.getElem?_map, List.getElem?_take_of_lt (by have := HN.out; omega)]
        unfold long
        rw [List.getElem?_append_left hi, List.getD_eq_getElem?_getD, List.getElem?_eq_getElem hi]
        rfl
      have HZ : Hid (N ≤ co ∧ co ≤ maxLen ∧ (ao = none → co = 0) ∧ (∀ b o, ao = some ⟨b, o, none⟩ → o = 0 ∧ w.heap.size ≤ b ∧ b < wr.heap.size) ∧ Below w.heap.size w wr) := by
        refine ⟨by omega, ?_, ?_, ?_, below_step H1.out.1 HJ.out.1⟩ <;> rcases HJ.out.2.2 with ⟨e, h0⟩ | ⟨g, cap, cur, e, hg1, hg2, h1, h2, _⟩ <;> cases e
        · exact Nat.zero_le _
        · exact h2
        · exact fun _ => rfl
        · exact fun q => (by cases q)
        · exact fun b o q => (by cases q)
        · exact fun b o q => by cases q; exact ⟨rfl, Nat.le_trans H1.out.1.size hg1, (Array.getElem?_eq_some_iff.1 hg2).1⟩
      clear hj hp hg hco
      go_wp2_with fail
      go_ret
      exact ⟨ao, co, rfl, fun i hi => by
        obtain ⟨g, e, hc⟩ := HR.out i hi
        exact ⟨g, 0, e, by rw [Nat.zero_add]; exact hc⟩, HZ.out.1, HZ.out.2.1, HZ.out.2.2.1, fun b o e => (HZ.out.2.2.2.1 b o e).2, HZ.out.2.2.2.2⟩

end Go.Proofs.YtcfemppdeidjmacGreat.Sk
