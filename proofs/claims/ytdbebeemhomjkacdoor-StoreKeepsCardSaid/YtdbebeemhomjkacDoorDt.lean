/-
  The landed disk: New; all of package disk.
-/
import Derived.Test.YtdbebeemhomjkacDoorDs
namespace Go.Proofs.YtdbebeemhomjkacDoor.Dk.L
open Go.RowKit Go.Deep
open Go.RowKit (Below)
set_option linter.unusedVariables false

variable {w w' : World} {B n kd g gn gk i j N : Nat} {F F' : Nat → Prop} {s : St} {v u R : Value} {l p : List UInt8} {x : Int}

theorem Tryd.infoPg : (Tryd.prog.info? 87).map (fun i => (i.zero, i.size, i.bytes)) = some (some (.agg #[.int .u8 0, .int .u8 0, .int .u8 0, .int .u8 0, .int .u8 0, .int .u8 0, .int .u8 0, .int .u8 0, .int .u8 0, .int .u8 0, .int .u8 0, .int .u8 0, .int .u8 0, .int .u8 0, .int .u8 0, .int .u8 0, .int .u8 0, .int .u8 0, .int .u8 0, .int .u8 0, .int .u8 0, .int .u8 0, .int .u8 0, .int .u8 0, .int .u8 0, .int .u8 0, .int .u8 0, .int .u8 0, .int .u8 0, .int .u8 0, .int .u8 0, .int .u8 0]), 32, 32) := by kernel_rfl

/-- Pages of 0. -/
abbrev nilPgs (n : Nat) : Obj := .cells (madeCells #[.int .u8 0, .int .u8 0, .int .u8 0, .int .u8 0, .int .u8 0, .int .u8 0, .int .u8 0, .int .u8 0, .int .u8 0, .int .u8 0, .int .u8 0, .int .u8 0, .int .u8 0, .int .u8 0, .int .u8 0, .int .u8 0, .int .u8 0, .int .u8 0, .int .u8 0, .int .u8 0, .int .u8 0, .int .u8 0, .int .u8 0, .int .u8 0, .int .u8 0, .int .u8 0, .int .u8 0, .int .u8 0, .int .u8 0, .int .u8 0, .int .u8 0, .int .u8 0] (n * 32)) 87

theorem run_pages (n : Nat) (hn : n ≤ 80) (w : World) : (Instr.makeSlice 79 (.int .i64 (n : Nat)) (.int .i64 (n : Nat))).run Tryd.prog w = .ok (.slice (some ⟨w.heap.size, 0, none⟩) n n) (w.alloc (nilPgs n)) := by
  obtain ⟨z0, hi0, hz0, hz1, hz2⟩ := info_parts Tryd.infoPg
  have := run_make (P := Tryd.prog) w 79 87 z0 _ Tryd.underlying79 hi0 hz0 .i64 .i64 (n : Nat) (n : Nat) (by omega) (Int.le_refl _) (by rw [hz2]; omega) (by omega)
  rw [hz1, Int.toNat_natCast] at this
  exact this

theorem pages_at (n : Nat) : PgsAt (w.alloc (nilPgs n)) w.heap.size n (fun _ => blank) := by
  refine ⟨fun i _ => blank_len, ⟨_, blk_alloc_new _ _, size_madeCells _ _, fun i hi => ?_⟩⟩
  have e : (madeCells #[.int .u8 0, .int .u8 0, .int .u8 0, .int .u8 0, .int .u8 0, .int .u8 0, .int .u8 0, .int .u8 0, .int .u8 0, .int .u8 0, .int .u8 0, .int .u8 0, .int .u8 0, .int .u8 0, .int .u8 0, .int .u8 0, .int .u8 0, .int .u8 0, .int .u8 0, .int .u8 0, .int .u8 0, .int .u8 0, .int .u8 0, .int .u8 0, .int .u8 0, .int .u8 0, .int .u8 0, .int .u8 0, .int .u8 0, .int .u8 0, .int .u8 0, .int .u8 0] (n * 32))[i]? = some ((#[.int .u8 0, .int .u8 0, .int .u8 0, .int .u8 0, .int .u8 0, .int .u8 0, .int .u8 0, .int .u8 0, .int .u8 0, .int .u8 0, .int .u8 0, .int .u8 0, .int .u8 0, .int .u8 0, .int .u8 0, .int .u8 0, .int .u8 0, .int .u8 0, .int .u8 0, .int .u8 0, .int .u8 0, .int .u8 0, .int .u8 0, .int .u8 0, .int .u8 0, .int .u8 0, .int .u8 0, .int .u8 0, .int .u8 0, .int .u8 0, .int .u8 0, .int .u8 0] : Array Value)[i % 32]!) := by
    simp [madeCells, hi]
  rw [e]
  have hb : (blank.getD (i % 32) 0) = 0 := by
    rw [List.getD_eq_getElem?_getD, blank, List.getElem?_replicate]
    split <;> rfl
  show _ = some (by1 (blank.getD (i % 32) 0))
  rw [hb]
  have hlt : i % 32 < 32 := Nat.mod_lt _ (by decide)
  have hz : (#[.int .u8 0, .int .u8 0, .int .u8 0, .int .u8 0, .int .u8 0, .int .u8 0, .int .u8 0, .int .u8 0, .int .u8 0, .int .u8 0, .int .u8 0, .int .u8 0, .int .u8 0, .int .u8 0, .int .u8 0, .int .u8 0, .int .u8 0, .int .u8 0, .int .u8 0, .int .u8 0, .int .u8 0, .int .u8 0, .int .u8 0, .int .u8 0, .int .u8 0, .int .u8 0, .int .u8 0, .int .u8 0, .int .u8 0, .int .u8 0, .int .u8 0, .int .u8 0] : Array Value) = Array.replicate 32 (.int .u8 0) := rfl
  rw [hz]
  simp [hlt, by1]

set_option maxRecDepth 100000 in
set_option maxHeartbeats 4000000 in
theorem l_new_no (k : Int) (hk : k < 1 ∨ 80 < k) : Calls Tryd.prog 13 #[.int .i64 k] w fun e w' => e = .returned (.tuple #[.pointer none, .iface 39 (.int .i64 1)]) ∧ w' = w := by
  by_cases h1 : k < 1
  · clear hk
    go_enter Tryd.func13, Tryd.ntmps13
    go_wp2_with fail
    go_ret2
    exact ⟨rfl, rfl⟩
  · have h2 : 80 < k := by omega
    clear hk
    go_enter Tryd.func13, Tryd.ntmps13
    go_wp2_with fail
    go_ret2
    exact ⟨rfl, rfl⟩

/-- A disk that was made, as it lies: two rows of pages, then its own cells. -/
theorem made_at (hn : 1 ≤ n ∧ n ≤ 80) {gn gk : Nat} (hg : (gn = w.heap.size ∧ gk = w.heap.size + 1) ∨ (gk = w.heap.size ∧ gn = w.heap.size + 1)) :
    ∃ F, Ex (((w.drew.alloc (nilPgs n)).alloc (nilPgs n)).alloc (.cells #[.slice (some ⟨gn, 0, none⟩) n n, .slice (some ⟨gk, 0, none⟩) n n, .slice none 0 0, .int .i64 (-1), .bool false] 82)) w.heap.size (w.heap.size + 2) n fresh F gn gk (.slice none 0 0) (-1) ∧
      Below w.heap.size w (((w.drew.alloc (nilPgs n)).alloc (nilPgs n)).alloc (.cells #[.slice (some ⟨gn, 0, none⟩) n n, .slice (some ⟨gk, 0, none⟩) n n, .slice none 0 0, .int .i64 (-1), .bool false] 82)) := by
  have p1 : PgsAt (w.drew.alloc (nilPgs n)) w.heap.size n (fun _ => blank) := pages_at (w := w.drew) n
  have p2 : PgsAt ((w.drew.alloc (nilPgs n)).alloc (nilPgs n)) (w.heap.size + 1) n (fun _ => blank) := by
    have := pages_at (w := w.drew.alloc (nilPgs n)) n
    rwa [show (w.drew.alloc (nilPgs n)).heap.size = w.heap.size + 1 by simp] at this
  obtain ⟨D, hD⟩ : ∃ D : Array Value, #[.slice (some ⟨gn, 0, none⟩) n n, .slice (some ⟨gk, 0, none⟩) n n, .slice none 0 0, .int .i64 (-1), .bool false] = D := ⟨_, rfl⟩
  have q1 : PgsAt (((w.drew.alloc (nilPgs n)).alloc (nilPgs n)).alloc (.cells D 82)) w.heap.size n (fun _ => blank) := ⟨p1.1, (p1.2.alloc _).alloc _⟩
  have q2 : PgsAt (((w.drew.alloc (nilPgs n)).alloc (nilPgs n)).alloc (.cells D 82)) (w.heap.size + 1) n (fun _ => blank) := ⟨p2.1, p2.2.alloc _⟩
  have hr : (((w.drew.alloc (nilPgs n)).alloc (nilPgs n)).alloc (.cells D 82)).rowIs (w.heap.size + 2) 82 5 (dcs gn gk n (.slice none 0 0) (-1) false) := by
    have := World.rowIs_alloc ((w.drew.alloc (nilPgs n)).alloc (nilPgs n)) D 82 (dcs gn gk n (.slice none 0 0) (-1) false) (fun i hi => by
      subst hD
      have : i = 0 ∨ i = 1 ∨ i = 2 ∨ i = 3 ∨ i = 4 := by simp at hi; omega
      rcases this with rfl | rfl | rfl | rfl | rfl <;> rfl)
    rwa [show D.size = 5 by subst hD; rfl, show ((w.drew.alloc (nilPgs n)).alloc (nilPgs n)).heap.size = w.heap.size + 2 by simp] at this
  have hb : Below w.heap.size w (((w.drew.alloc (nilPgs n)).alloc (nilPgs n)).alloc (.cells D 82)) := (((Below.refl _ _).drew.alloc (by simp) _).alloc (by simp) _).alloc (by simp; omega) _
  rw [hD]
  refine ⟨fun b => b = w.heap.size ∨ b = w.heap.size + 1 ∨ b = w.heap.size + 2, ⟨hr, ?_, ?_, ⟨World.ownsRow_nil .., fun y hy => by cases hy⟩, by omega, Or.inl rfl, by omega, by omega, fun k e => (by cases e), by omega, fun b e => ?_, hn, by omega⟩, hb⟩
  · rcases hg with ⟨e, _⟩ | ⟨_, e⟩ <;> rw [e]
    · exact q1
    · exact q2
  · rcases hg with ⟨_, e⟩ | ⟨e, _⟩ <;> rw [e]
    · exact q2
    · exact q1
  · simp
    omega

set_option maxRecDepth 100000 in
set_option maxHeartbeats 4000000 in
theorem l_new (n : Nat) (h1 : 1 ≤ n) (h2 : n ≤ 80) : Calls Tryd.prog 13 #[.int .i64 (n : Nat)] w fun e w' => ∃ kd, e = .returned (.tuple #[.pointer (some ⟨kd, 0, none⟩), .nilIface]) ∧ ∃ F gn gk, Ex w' w.heap.size kd n fresh F gn gk (.slice none 0 0) (-1) ∧ Below w.heap.size w w' := by
  have HP : Hid (∀ w, (Instr.makeSlice 79 (.int .i64 (n : Nat)) (.int .i64 (n : Nat))).run Tryd.prog w = .ok (.slice (some ⟨w.heap.size, 0, none⟩) n n) (w.alloc (nilPgs n))) := run_pages n h2
  have HA : Hid (∃ F, Ex (((w.drew.alloc (nilPgs n)).alloc (nilPgs n)).alloc (.cells #[.slice (some ⟨w.heap.size, 0, none⟩) n n, .slice (some ⟨w.heap.size + 1, 0, none⟩) n n, .slice none 0 0, .int .i64 (-1), .bool false] 82)) w.heap.size (w.heap.size + 2) n fresh F w.heap.size (w.heap.size + 1) (.slice none 0 0) (-1) ∧
      Below w.heap.size w (((w.drew.alloc (nilPgs n)).alloc (nilPgs n)).alloc (.cells #[.slice (some ⟨w.heap.size, 0, none⟩) n n, .slice (some ⟨w.heap.size + 1, 0, none⟩) n n, .slice none 0 0, .int .i64 (-1), .bool false] 82))) := made_at ⟨h1, h2⟩ (Or.inl ⟨rfl, rfl⟩)
  have HB : Hid (∃ F, Ex (((w.drew.alloc (nilPgs n)).alloc (nilPgs n)).alloc (.cells #[.slice (some ⟨w.heap.size + 1, 0, none⟩) n n, .slice (some ⟨w.heap.size, 0, none⟩) n n, .slice none 0 0, .int .i64 (-1), .bool false] 82)) w.heap.size (w.heap.size + 2) n fresh F (w.heap.size + 1) w.heap.size (.slice none 0 0) (-1) ∧
      Below w.heap.size w (((w.drew.alloc (nilPgs n)).alloc (nilPgs n)).alloc (.cells #[.slice (some ⟨w.heap.size + 1, 0, none⟩) n n, .slice (some ⟨w.heap.size, 0, none⟩) n n, .slice none 0 0, .int .i64 (-1), .bool false] 82))) := made_at ⟨h1, h2⟩ (Or.inr ⟨rfl, rfl⟩)
  have i0 : ¬ (n : Int) < 1 := by omega
  have i1 : ¬ (80 : Int) < (n : Int) := by omega
  obtain ⟨Z, hZ⟩ : ∃ Z, nilPgs n = Z := ⟨_, rfl⟩
  rw [hZ] at HP HA HB
  have hbd : ∀ (v1 v2 : Value), v1.cells.size = 1 → v2.cells.size = 1 → True := fun _ _ _ _ => trivial
  clear h1 h2 hZ hbd
  go_enter Tryd.func13, Tryd.ntmps13
  go_wp2_with fail
  clear i0 i1
  refine wp_region_noPanic ?_
  refine wp_region_held_drew (S := fun _ => True) (by kernel_rfl) trivial (fun hHeld => ?_)
  refine wpAnyH_take (i := 0) (oi := { dst := some 11, op := Go.Op.move (Go.Operand.tmp 0), type := 3, pos := _, after := #[], guard := none }) (v := ?va1) rfl (by kernel_rfl) (by kernel_rfl) (by kernel_rfl) (fun _ _ _ h => h) (Or.inl ⟨by rfl, ?ya1⟩) (by assumption) ?_
  case ya1 =>
    intro w hSw
    (try dsimp only at hSw)
    go_simp
    (try with_reducible rfl)
  simp only [Act.put, List.setIfInBounds_toArray, List.set_cons_zero, List.set_cons_succ]
  refine wpAnyH_take (i := 2) (oi := { dst := some 13, op := Go.Op.move (Go.Operand.tmp 0), type := 3, pos := _, after := #[], guard := none }) (v := ?va2) rfl (by kernel_rfl) (by kernel_rfl) (by kernel_rfl) (fun _ _ _ h => h) (Or.inl ⟨by rfl, ?ya2⟩) (by assumption) ?_
  case ya2 =>
    intro w hSw
    (try dsimp only at hSw)
    go_simp
    (try with_reducible rfl)
  simp only [Act.put, List.setIfInBounds_toArray, List.set_cons_zero, List.set_cons_succ]
  refine wpAnyH_ready (rs := [1, 3]) (by kernel_rfl) (by simp) ?_
  refine (AllReadyH.cons rfl (fun K9 hK9 => ?ca17) (AllReadyH.cons rfl (fun K9 hK9 => ?ca18) AllReadyH.nil))
  case ca17 =>
    refine step_run (v := .slice (some ⟨w.heap.size, 0, none⟩) n n) (w' := w.drew.alloc Z) ?ga3 ?ba3 ?_
    case ga3 => rfl
    case ba3 =>
      exact run_val (HP.out _)
    refine hK9.out _ _ trivial (fun hHeld => ?_)
    clear hK9
    (try simp only [List.getElem_toArray, List.getElem_cons_succ, List.getElem_cons_zero])
    (try simp only [Act.put, List.setIfInBounds_toArray, List.set_cons_zero, List.set_cons_succ])
    refine wpAnyH_ready (rs := [3]) (by kernel_rfl) (by simp) ?_
    refine (AllReadyH.cons rfl (fun K9 hK9 => ?ca9) AllReadyH.nil)
    case ca9 =>
      refine step_run (v := .slice (some ⟨w.heap.size + 1, 0, none⟩) n n) (w' := (w.drew.alloc Z).alloc Z) ?ga4 ?ba4 ?_
      case ga4 => rfl
      case ba4 =>
        have := HP.out (w.drew.alloc Z)
        rw [show (w.drew.alloc Z).heap.size = w.heap.size + 1 by simp] at this
        exact run_val this
      refine hK9.out _ _ trivial (fun hHeld => ?_)
      clear hK9
      (try simp only [List.getElem_toArray, List.getElem_cons_succ, List.getElem_cons_zero])
      (try simp only [Act.put, List.setIfInBounds_toArray, List.set_cons_zero, List.set_cons_succ])
      refine wpAnyH_take (i := 4) (oi := { dst := some 15, op := Go.Op.build 82 #[(0, Go.Operand.tmp 12), (1, Go.Operand.tmp 14), (3, Go.Operand.const (Go.Value.int Go.IntKind.i64 (-1)))], type := 82, pos := _, after := #[{ on := 1, ground := Go.Ground.data }, { on := 3, ground := Go.Ground.data }], guard := none }) (v := .agg #[.slice (some ⟨w.heap.size, 0, none⟩) n n, .slice (some ⟨w.heap.size + 1, 0, none⟩) n n, .slice none 0 0, .int .i64 (-1), .bool false]) rfl (by kernel_rfl) (by kernel_rfl) (by kernel_rfl) (fun _ _ _ h => h) ?ya5 (by assumption) ?_
      case ya5 => exact Or.inl ⟨by rfl, fun w _ => by simp only [execOp, List.map_toArray, List.map_cons, List.map_nil]; exact run_val (run_build w 82 _ _ (by kernel_rfl))⟩
      simp only [Act.put, List.setIfInBounds_toArray, List.set_cons_zero, List.set_cons_succ]
      refine wpAnyH_ready (rs := [5]) (by kernel_rfl) (by simp) ?_
      refine (AllReadyH.cons rfl (fun K9 hK9 => ?ca8) AllReadyH.nil)
      case ca8 =>
        go_simp
        refine hK9.out _ _ trivial (fun hHeld => ?_)
        clear hK9
        (try simp only [Act.put, List.setIfInBounds_toArray, List.set_cons_zero, List.set_cons_succ])
        refine wpAnyH_take (i := 6) (oi := { dst := some 2, op := Go.Op.assign (Go.Operand.tmp 16), type := 42, pos := _, after := #[{ on := 5, ground := Go.Ground.data }, { on := 0, ground := Go.Ground.phase }, { on := 1, ground := Go.Ground.phase }, { on := 2, ground := Go.Ground.phase }, { on := 3, ground := Go.Ground.phase }, { on := 4, ground := Go.Ground.phase }, { on := 5, ground := Go.Ground.phase }], guard := none }) (v := ?va6) rfl (by kernel_rfl) (by kernel_rfl) (by kernel_rfl) (fun _ _ _ h => h) (Or.inl ⟨by rfl, ?ya6⟩) (by assumption) ?_
        case ya6 =>
          intro w hSw
          (try dsimp only at hSw)
          go_simp
          (try with_reducible rfl)
        simp only [Act.put, List.setIfInBounds_toArray, List.set_cons_zero, List.set_cons_succ]
        refine wpAnyH_take (i := 7) (oi := { dst := some 3, op := Go.Op.assign (Go.Operand.const Go.Value.nilIface), type := 26, pos := _, after := #[{ on := 6, ground := Go.Ground.chain }, { on := 0, ground := Go.Ground.phase }, { on := 1, ground := Go.Ground.phase }, { on := 2, ground := Go.Ground.phase }, { on := 3, ground := Go.Ground.phase }, { on := 4, ground := Go.Ground.phase }, { on := 5, ground := Go.Ground.phase }, { on := 6, ground := Go.Ground.phase }], guard := none }) (v := ?va7) rfl (by kernel_rfl) (by kernel_rfl) (by kernel_rfl) (fun _ _ _ h => h) (Or.inl ⟨by rfl, ?ya7⟩) (by assumption) ?_
        case ya7 =>
          intro w hSw
          (try dsimp only at hSw)
          go_simp
          (try with_reducible rfl)
        simp only [Act.put, List.setIfInBounds_toArray, List.set_cons_zero, List.set_cons_succ]
        refine wpAnyH_done (by kernel_rfl) ?_ _
        refine NoPanic.normal ?_
        go_wp2_with fail
        go_ret2
        exact ⟨_, rfl, by obtain ⟨F, e1, e2⟩ := HA.out; exact ⟨F, _, _, e1, e2⟩⟩
  case ca18 =>
    refine step_run (v := .slice (some ⟨w.heap.size, 0, none⟩) n n) (w' := w.drew.alloc Z) ?ga10 ?ba10 ?_
    case ga10 => rfl
    case ba10 =>
      exact run_val (HP.out _)
    refine hK9.out _ _ trivial (fun hHeld => ?_)
    clear hK9
    (try simp only [List.getElem_toArray, List.getElem_cons_succ, List.getElem_cons_zero])
    (try simp only [Act.put, List.setIfInBounds_toArray, List.set_cons_zero, List.set_cons_succ])
    refine wpAnyH_ready (rs := [1]) (by kernel_rfl) (by simp) ?_
    refine (AllReadyH.cons rfl (fun K9 hK9 => ?ca16) AllReadyH.nil)
    case ca16 =>
      refine step_run (v := .slice (some ⟨w.heap.size + 1, 0, none⟩) n n) (w' := (w.drew.alloc Z).alloc Z) ?ga11 ?ba11 ?_
      case ga11 => rfl
      case ba11 =>
        have := HP.out (w.drew.alloc Z)
        rw [show (w.drew.alloc Z).heap.size = w.heap.size + 1 by simp] at this
        exact run_val this
      refine hK9.out _ _ trivial (fun hHeld => ?_)
      clear hK9
      (try simp only [List.getElem_toArray, List.getElem_cons_succ, List.getElem_cons_zero])
      (try simp only [Act.put, List.setIfInBounds_toArray, List.set_cons_zero, List.set_cons_succ])
      refine wpAnyH_take (i := 4) (oi := { dst := some 15, op := Go.Op.build 82 #[(0, Go.Operand.tmp 12), (1, Go.Operand.tmp 14), (3, Go.Operand.const (Go.Value.int Go.IntKind.i64 (-1)))], type := 82, pos := _, after := #[{ on := 1, ground := Go.Ground.data }, { on := 3, ground := Go.Ground.data }], guard := none }) (v := .agg #[.slice (some ⟨w.heap.size + 1, 0, none⟩) n n, .slice (some ⟨w.heap.size, 0, none⟩) n n, .slice none 0 0, .int .i64 (-1), .bool false]) rfl (by kernel_rfl) (by kernel_rfl) (by kernel_rfl) (fun _ _ _ h => h) ?ya12 (by assumption) ?_
      case ya12 => exact Or.inl ⟨by rfl, fun w _ => by simp only [execOp, List.map_toArray, List.map_cons, List.map_nil]; exact run_val (run_build w 82 _ _ (by kernel_rfl))⟩
      simp only [Act.put, List.setIfInBounds_toArray, List.set_cons_zero, List.set_cons_succ]
      refine wpAnyH_ready (rs := [5]) (by kernel_rfl) (by simp) ?_
      refine (AllReadyH.cons rfl (fun K9 hK9 => ?ca15) AllReadyH.nil)
      case ca15 =>
        go_simp
        refine hK9.out _ _ trivial (fun hHeld => ?_)
        clear hK9
        (try simp only [Act.put, List.setIfInBounds_toArray, List.set_cons_zero, List.set_cons_succ])
        refine wpAnyH_take (i := 6) (oi := { dst := some 2, op := Go.Op.assign (Go.Operand.tmp 16), type := 42, pos := _, after := #[{ on := 5, ground := Go.Ground.data }, { on := 0, ground := Go.Ground.phase }, { on := 1, ground := Go.Ground.phase }, { on := 2, ground := Go.Ground.phase }, { on := 3, ground := Go.Ground.phase }, { on := 4, ground := Go.Ground.phase }, { on := 5, ground := Go.Ground.phase }], guard := none }) (v := ?va13) rfl (by kernel_rfl) (by kernel_rfl) (by kernel_rfl) (fun _ _ _ h => h) (Or.inl ⟨by rfl, ?ya13⟩) (by assumption) ?_
        case ya13 =>
          intro w hSw
          (try dsimp only at hSw)
          go_simp
          (try with_reducible rfl)
        simp only [Act.put, List.setIfInBounds_toArray, List.set_cons_zero, List.set_cons_succ]
        refine wpAnyH_take (i := 7) (oi := { dst := some 3, op := Go.Op.assign (Go.Operand.const Go.Value.nilIface), type := 26, pos := _, after := #[{ on := 6, ground := Go.Ground.chain }, { on := 0, ground := Go.Ground.phase }, { on := 1, ground := Go.Ground.phase }, { on := 2, ground := Go.Ground.phase }, { on := 3, ground := Go.Ground.phase }, { on := 4, ground := Go.Ground.phase }, { on := 5, ground := Go.Ground.phase }, { on := 6, ground := Go.Ground.phase }], guard := none }) (v := ?va14) rfl (by kernel_rfl) (by kernel_rfl) (by kernel_rfl) (fun _ _ _ h => h) (Or.inl ⟨by rfl, ?ya14⟩) (by assumption) ?_
        case ya14 =>
          intro w hSw
          (try dsimp only at hSw)
          go_simp
          (try with_reducible rfl)
        simp only [Act.put, List.setIfInBounds_toArray, List.set_cons_zero, List.set_cons_succ]
        refine wpAnyH_done (by kernel_rfl) ?_ _
        refine NoPanic.normal ?_
        go_wp2_with fail
        go_ret2
        exact ⟨_, rfl, by obtain ⟨F, e1, e2⟩ := HB.out; exact ⟨F, _, _, e1, e2⟩⟩

/-- The landed disk, as the statements meet it. -/
def Fc : Face := fun w B d n s F => ∃ kd, d = .pointer (some ⟨kd, 0, none⟩) ∧ ∃ gn gk R x, Ex w B kd n s F gn gk R x

theorem disk_ok : DiskOk Fc where
  keep := fun ⟨kd, e, gn, gk, R, x, h⟩ hs hb => ⟨kd, e, gn, gk, R, x, h.keep hs hb⟩
  own := fun ⟨kd, e, gn, gk, R, x, h⟩ => h.own
  new_no := fun k hk => (l_new_no k hk).mono fun e w' ⟨h1, h2⟩ => ⟨h1, h2 ▸ Below.refl _ _⟩
  new_ok := fun n h1 h2 => (l_new n h1 h2).mono fun e w' ⟨kd, e1, F, gn, gk, e2, e3⟩ => ⟨_, F, e1, ⟨kd, rfl, gn, gk, _, _, e2⟩, e3⟩
  write := by
    rintro w B n d s F a l c k ⟨kd, rfl, gn, gk, R, x, h⟩ hB ha hc hc2 hF hnil hw
    exact (l_write h hB hw k ha hc hc2 hnil hF).mono fun e w' ⟨v, e1, x', e2, s', e3, F', ⟨R', y, e4⟩, e5, e6⟩ => ⟨v, x', s', F', e1, e2, e3, ⟨kd, rfl, gn, gk, R', y, e4⟩, e5, e6⟩
  sync := by
    rintro w B n d s F ⟨kd, rfl, gn, gk, R, x, h⟩ hB
    exact (l_sync h).mono fun e w' ⟨v, e1, x', e2, s', e3, ⟨R', y, e4⟩, e6⟩ => ⟨v, x', s', F, e1, e2, e3, ⟨kd, rfl, gn, gk, R', y, e4⟩, fun b q => Or.inl q, e6⟩
  crash := by
    rintro w B n d s F a m c f ⟨kd, rfl, gn, gk, R, x, h⟩ hB ha hc hc2 hF hw
    exact (l_crash h hw ha hc hc2 hF).mono fun e w' ⟨e1, ⟨R', y, e4⟩, e6⟩ => ⟨F, e1, ⟨kd, rfl, gn, gk, R', y, e4⟩, fun b q => Or.inl q, e6⟩
  read_ok := by
    rintro w B n d s F i ⟨kd, rfl, gn, gk, R, x, h⟩ hB hi
    exact l_read h hi
  read_32 := by
    rintro w B n d s F i ⟨kd, rfl, gn, gk, R, x, h⟩ hB hi
    exact l_read32 h hi
  read_no := by
    rintro w B n d s F i ⟨kd, rfl, gn, gk, R, x, h⟩ hi
    exact (l_read_no h i hi).mono fun e w' ⟨h1, h2⟩ => ⟨h1, h2 ▸ Below.refl _ _⟩
  fail := by
    rintro w B n d s F k ⟨kd, rfl, gn, gk, R, x, h⟩ hB hk
    exact (l_fail h k hk).mono fun e w' ⟨e1, e2, e3⟩ => ⟨e1, ⟨kd, rfl, gn, gk, R, k, e2⟩, e3⟩
  pages := by
    rintro w B n d s F ⟨kd, rfl, gn, gk, R, x, h⟩
    exact (l_pages h).mono fun e w' ⟨h1, h2⟩ => ⟨h1, h2 ▸ Below.refl _ _⟩

end Go.Proofs.YtdbebeemhomjkacDoor.Dk.L
