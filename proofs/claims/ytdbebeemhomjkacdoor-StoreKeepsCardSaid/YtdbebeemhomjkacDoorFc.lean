/-
  The landed store: the page of a head.
-/
import Derived.Test.YtdbebeemhomjkacDoorFb
namespace Go.Proofs.YtdbebeemhomjkacDoor.Sk
open Go.RowKit Go.Deep Go.Proofs.YtdbebeemhomjkacDoor.Dk
open Go.RowKit (Below)
set_option linter.unusedVariables false

variable {w w' : World} {b o k n N c : Nat} {f : Nat → Value}

theorem Tryd.infoU8r : (Tryd.prog.info? 5).map (fun i => (i.zero, i.size, i.bytes)) = some (some (.int .u8 0), 1, 1) := by kernel_rfl

def pg0 (j : Nat) : Value := if 0 ≤ j ∧ j < 0 + 16 then by1 (mrk.getD j 0) else by1 0
/-- What stands on a head's page while it is made. -/
def pgRow (h l t : Nat) : Nat → Value := putLow (putLow (putLow pg0 16 1 h) 17 2 l) 19 8 t

theorem pgRow_at (h l t i : Nat) (hi : i < 32) : pgRow h l t i = by1 ((headP h l t).getD i 0) := by
  rw [headP_at h l t i hi]
  unfold pgRow putLow pg0
  by_cases h1 : i < 16
  · rw [if_neg (by omega), if_neg (by omega), if_neg (by omega), if_pos (by omega), if_pos h1]
  · by_cases h2 : i < 17
    · rw [if_neg (by omega), if_neg (by omega), if_pos (by omega), if_neg h1, if_pos h2]
    · by_cases h3 : i < 19
      · rw [if_neg (by omega), if_pos (by omega), if_neg h1, if_neg h2, if_pos h3]
      · by_cases h4 : i < 27
        · rw [if_pos (by omega), if_neg h1, if_neg h2, if_neg h3, if_pos h4]
        · rw [if_neg (by omega), if_neg (by omega), if_neg (by omega), if_neg (by omega), if_neg h1, if_neg h2, if_neg h3, if_neg h4]

theorem copy_mark {W : World} {g : Nat} (h : W.rowIs g 5 32 fun _ => by1 0) :
    (Builtin.copy_ #[31, 9] 3 #[.slice (some ⟨g, 0, none⟩) 32 32, .string { data := #[102, 111, 111, 116, 98, 114, 105, 100, 103, 101, 32, 115, 116, 111, 114, 101] }]).run Tryd.prog W = .ok (.int .i64 16) (W.setCells g 0 (mrk.map by1)) := by
  have := run_copy_string (P := Tryd.prog) W 31 9 3 5 g 0 32 32 { data := #[102, 111, 111, 116, 98, 114, 105, 100, 103, 101, 32, 115, 116, 111, 114, 101] } Tryd.underlying31 (fun w => Tryd.sizeOf5 w) (by decide)
    (fun j hj => by have hj' : j < 16 := hj; rw [Nat.zero_add, h.cell (by omega)]; rfl) (fun j _ => by rw [Nat.zero_add]; exact h.frozen j)
  rw [this]
  rfl

set_option maxRecDepth 100000 in
set_option maxHeartbeats 4000000 in
theorem page_any (h l t : Nat) (hh : h ≤ 1) (hl : l ≤ 960) (ht : t ≤ 100000) :
    Calls Tryd.prog 51 #[.agg #[.int .i64 (h : Nat), .int .i64 (l : Nat), .int .i64 (t : Nat)]] w fun e w' => ∃ k, e = .returned (.slice (some ⟨k, 0, none⟩) 32 32) ∧ BtAt w' (some ⟨k, 0, none⟩) (headP h l t) ∧ w.heap.size ≤ k ∧ k < w'.heap.size ∧ Below w.heap.size w w' := by
  obtain ⟨O, hO⟩ : ∃ O, Obj.cells #[.int .i64 (h : Nat), .int .i64 (l : Nat), .int .i64 (t : Nat)] 93 = O := ⟨_, rfl⟩
  have hmk : (Instr.makeSlice 31 (.int .i64 32) (.int .i64 32)).run Tryd.prog (w.alloc O) = .ok (.slice (some ⟨w.heap.size + 1, 0, none⟩) 32 32) ((w.alloc O).alloc (.cells (madeCells #[.int .u8 0] 32) 5)) := by
    have := run_make_row' (P := Tryd.prog) 31 5 (.int .u8 0) 1 Tryd.underlying31 Tryd.infoU8r rfl .i64 .i64 32 (by omega) (by omega) (w.alloc O)
    rwa [show (w.alloc O).heap.size = w.heap.size + 1 by simp] at this
  have r2 : ((w.alloc O).alloc (.cells (madeCells #[.int .u8 0] 32) 5)).rowIs (w.heap.size + 1) 5 32 (fun _ => by1 0) := by
    have := World.rowIs_made (w.alloc O) (.int .u8 0) 32 5
    rwa [show (w.alloc O).heap.size = w.heap.size + 1 by simp] at this
  have c2 : ∀ i v, [Value.int .i64 (h : Nat), .int .i64 (l : Nat), .int .i64 (t : Nat)][i]? = some v → ((w.alloc O).alloc (.cells (madeCells #[.int .u8 0] 32) 5)).cell? ⟨w.heap.size, i, none⟩ = some v := fun i v hv => by
    refine cell_keep (W := w.alloc O) ((Below.refl _ _).alloc (Nat.le_refl _) _) ?_
    rw [← hO]
    have := Dk.L.new_cell w [Value.int .i64 (h : Nat), .int .i64 (l : Nat), .int .i64 (t : Nat)] 93 (j := i) (u := v) hv
    rwa [Nat.zero_add] at this
  have b2 : Below w.heap.size w ((w.alloc O).alloc (.cells (madeCells #[.int .u8 0] 32) 5)) := ((Below.refl _ _).alloc (Nat.le_refl _) _).alloc (by simp) _
  obtain ⟨W2, hW2⟩ : ∃ W2, (w.alloc O).alloc (.cells (madeCells #[.int .u8 0] 32) 5) = W2 := ⟨_, rfl⟩
  rw [hW2] at hmk r2 c2 b2
  have hcp := copy_mark r2
  have r3 : (W2.setCells (w.heap.size + 1) 0 (mrk.map by1)).rowIs (w.heap.size + 1) 5 32 pg0 := (rowIs_setCells (mrk.map by1) 0 W2 _ r2).congr fun j hj => by
    unfold pg0
    show (if 0 ≤ j ∧ j < 0 + 16 then _ else _) = _
    by_cases hj : 0 ≤ j ∧ j < 0 + 16
    · rw [if_pos hj, if_pos hj, Nat.sub_zero, List.getElem?_map, List.getD_eq_getElem?_getD, List.getElem?_eq_getElem (show j < mrk.length from by have := hj.2; exact (show j < 16 by omega))]
      rfl
    · rw [if_neg hj, if_neg hj]
  have b3 : Below w.heap.size w (W2.setCells (w.heap.size + 1) 0 (mrk.map by1)) := below_setCells (by omega) _ _ _ b2
  have c3 : ∀ i v, [Value.int .i64 (h : Nat), .int .i64 (l : Nat), .int .i64 (t : Nat)][i]? = some v → (W2.setCells (w.heap.size + 1) 0 (mrk.map by1)).cell? ⟨w.heap.size, i, none⟩ = some v := fun i v hv =>
    (World.cell?_setCells_out (w.heap.size + 1) _ _ _ _ (fun e _ => by simp at e)).trans (c2 i v hv)
  obtain ⟨W3, hW3⟩ : ∃ W3, W2.setCells (w.heap.size + 1) 0 (mrk.map by1) = W3 := ⟨_, rfl⟩
  rw [hW3] at hcp r3 b3 c3
  obtain ⟨E, hE⟩ : ∃ E, w.heap.size = E := ⟨_, rfl⟩
  have HP : Hid (h < 9223372036854775808 ∧ l < 9223372036854775808 ∧ t < 9223372036854775808) := show _ ∧ _ ∧ _ by omega
  have HR3 : Hid (W3.rowIs (E + 1) 5 32 pg0 ∧ Below w.heap.size w W3 ∧ w.heap.size = E) := ⟨hE ▸ r3, b3, hE⟩
  rw [hE] at hmk hcp c3
  have d0 := c3 0 _ rfl
  have d1 := c3 1 _ rfl
  have d2 := c3 2 _ rfl
  clear r2 c2 b2 r3 b3 c3 hW3 hh hl ht
  go_enter Tryd.func51, Tryd.ntmps51
  go_wp2_with (first | rw [hO] | rw [hE])
  go_region_held3 (fun V => V.cell? ⟨E, 0, none⟩ = some (.int .i64 (h : Nat)) ∧ V.cell? ⟨E, 1, none⟩ = some (.int .i64 (l : Nat)) ∧ V.cell? ⟨E, 2, none⟩ = some (.int .i64 (t : Nat)))
    (first | (go_keep; done) | exact ⟨ht4.cell (by omega) d0, ht4.cell (by omega) d1, ht4.cell (by omega) d2⟩)
    (first | (go_at_call 66; refine (write_any (w := W3.drew) (n := h) (k := 1) (o := 16) HR3.out.1.drew (by decide) (by decide) (by decide) (by decide) HP.out.1).mono ?_; rintro e W4 ⟨rfl, hr4, ht4⟩))
  replace d0 := ht4.cell (by omega) (show W3.drew.cell? _ = _ from d0)
  replace d1 := ht4.cell (by omega) (show W3.drew.cell? _ = _ from d1)
  replace d2 := ht4.cell (by omega) (show W3.drew.cell? _ = _ from d2)
  have HR4 : Hid (W4.rowIs (E + 1) 5 32 _ ∧ Below w.heap.size w W4 ∧ w.heap.size = E) := ⟨hr4, ht4.below HR3.out.2.1.drew HR3.out.2.1.size (fun q e => by have := HR3.out.2.2; omega), HR3.out.2.2⟩
  clear hr4 ht4 HR3
  go_wp2_with fail
  go_region_held3 (fun V => V.cell? ⟨E, 0, none⟩ = some (.int .i64 (h : Nat)) ∧ V.cell? ⟨E, 1, none⟩ = some (.int .i64 (l : Nat)) ∧ V.cell? ⟨E, 2, none⟩ = some (.int .i64 (t : Nat)))
    (first | (go_keep; done) | exact ⟨ht5.cell (by omega) d0, ht5.cell (by omega) d1, ht5.cell (by omega) d2⟩)
    (first | (go_at_call 66; refine (write_any (w := W4.drew) (n := l) (k := 2) (o := 17) HR4.out.1.drew (by decide) (by decide) (by decide) (by decide) HP.out.2.1).mono ?_; rintro e W5 ⟨rfl, hr5, ht5⟩))
  replace d0 := ht5.cell (by omega) (show W4.drew.cell? _ = _ from d0)
  replace d1 := ht5.cell (by omega) (show W4.drew.cell? _ = _ from d1)
  replace d2 := ht5.cell (by omega) (show W4.drew.cell? _ = _ from d2)
  have HR5 : Hid (W5.rowIs (E + 1) 5 32 _ ∧ Below w.heap.size w W5 ∧ w.heap.size = E) := ⟨hr5, ht5.below HR4.out.2.1.drew HR4.out.2.1.size (fun q e => by have := HR4.out.2.2; omega), HR4.out.2.2⟩
  clear hr5 ht5 HR4
  go_wp2_with fail
  go_region_held3 (fun V => V.cell? ⟨E, 0, none⟩ = some (.int .i64 (h : Nat)) ∧ V.cell? ⟨E, 1, none⟩ = some (.int .i64 (l : Nat)) ∧ V.cell? ⟨E, 2, none⟩ = some (.int .i64 (t : Nat)))
    (first | (go_keep; done) | exact ⟨ht6.cell (by omega) d0, ht6.cell (by omega) d1, ht6.cell (by omega) d2⟩)
    (first | (go_at_call 66; refine (write_any (w := W5.drew) (n := t) (k := 8) (o := 19) HR5.out.1.drew (by decide) (by decide) (by decide) (by decide) HP.out.2.2).mono ?_; rintro e W6 ⟨rfl, hr6, ht6⟩))
  replace d0 := ht6.cell (by omega) (show W5.drew.cell? _ = _ from d0)
  replace d1 := ht6.cell (by omega) (show W5.drew.cell? _ = _ from d1)
  replace d2 := ht6.cell (by omega) (show W5.drew.cell? _ = _ from d2)
  have HR6 : Hid (W6.rowIs (E + 1) 5 32 _ ∧ Below w.heap.size w W6 ∧ w.heap.size = E) := ⟨hr6, ht6.below HR5.out.2.1.drew HR5.out.2.1.size (fun q e => by have := HR5.out.2.2; omega), HR5.out.2.2⟩
  clear hr6 ht6 HR5
  go_wp2_with fail
  go_ret
  refine ⟨E + 1, rfl, fun i hi => ⟨E + 1, 0, rfl, ?_⟩, by have := HR6.out.2.2; omega, HR6.out.1.lt, HR6.out.2.1⟩
  rw [headP_len] at hi
  rw [Nat.zero_add, HR6.out.1.cell hi, ← pgRow_at h l t i hi]
  rfl

end Go.Proofs.YtdbebeemhomjkacDoor.Sk
