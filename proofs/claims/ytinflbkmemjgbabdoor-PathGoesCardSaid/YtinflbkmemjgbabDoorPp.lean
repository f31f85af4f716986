/-
  slices.Repeat of one number: as many as are asked.
-/
import Derived.Test.YtinflbkmemjgbabDoorPo
import Derived.Laws.Bits64b
import Derived.Laws.CopyOwn
namespace Go.Proofs.YtinflbkmemjgbabDoor.Pt
open Go.RowKit Go.Deep Go.Proofs.YtinflbkmemjgbabDoor.Br
open Go.RowKit (Below)
set_option linter.unusedVariables false

variable {w w' : World}

theorem mask_of (a : Nat) (ha : a < 4294967296) : bits .and .u64 (a : Int) 4294967295 = (a : Int) := by
  have h := bits_and_u64_nat a 4294967295 (by omega) (by omega)
  have e : a &&& 4294967295 = a % 4294967296 := Nat.and_two_pow_sub_one_eq_mod a 32
  rw [e, Nat.mod_eq_of_lt ha] at h
  exact h
theorem mask_one : bits .and .u64 1 4294967295 = 1 := mask_of 1 (by omega)
theorem mask_zero : bits .and .u64 0 4294967295 = 0 := mask_of 0 (by omega)

set_option maxHeartbeats 1000000 in
theorem mul64_one (y : Nat) (hy : y < 4294967296) (w : World) :
    Calls Tryd.prog 81 #[.int .u64 1, .int .u64 (y : Nat)] w fun e w' => e = .returned (.tuple #[.int .u64 0, .int .u64 (y : Nat)]) ∧ w' = w := by
  have m1 := mask_of y hy
  have d1 : ((y : Nat) : Int) / 4294967296 = 0 := by omega
  have w1 : IntKind.u64.wrap ((y : Nat) : Int) = (y : Nat) := by rw [IntKind.wrap_u64]; omega
  have m2 := mask_one
  have m3 := mask_zero
  clear hy
  go_enter Tryd.func81, Tryd.ntmps81
  go_wp2
  go_ret2
  exact ⟨rfl, rfl⟩

set_option maxHeartbeats 1000000 in
theorem mul_one (y : Nat) (hy : y < 4294967296) (w : World) :
    Calls Tryd.prog 74 #[.int .u64 1, .int .u64 (y : Nat)] w fun e w' => e = .returned (.tuple #[.int .u64 0, .int .u64 (y : Nat)]) ∧ w' = w := by
  have h64 := mul64_one y hy w
  clear hy
  go_enter Tryd.func74, Tryd.ntmps74
  go_wp2_with fail
  refine h64.mono ?_
  rintro e w' ⟨rfl, rfl⟩
  go_wp2_with fail
  go_ret2
  exact ⟨rfl, rfl⟩

/-- A row of which the first m are x. -/
def Some (w : World) (k n m : Nat) (x : Int) : Prop := ∃ l : List Value, w.heap[k]? = some (.cells l.toArray 3 (0, 0)) ∧ l.length = n ∧ ∀ i, i < m → l[i]? = some (.int .i64 x)

theorem Some.row {k n : Nat} {x : Int} (h : Some w k n n x) : w.rowIs k 3 n (fun _ => .int .i64 x) := by
  obtain ⟨l, h1, h2, h3⟩ := h
  exact ⟨_, h1, by simpa using h2, fun i hi => by simpa using h3 i hi⟩

theorem Some.cell {k n m j : Nat} {x : Int} (h : Some w k n m x) (hj : j < m) : w.cell? ((⟨k, 0, none⟩ : Addr).add j) = some (.int .i64 x) := by
  obtain ⟨l, h1, h2, h3⟩ := h
  have e : (⟨k, 0, none⟩ : Addr).add j = ⟨k, j, none⟩ := by
    unfold Addr.add
    split
    · simp
    · simp
  rw [e]
  simp [World.cell?, h1, h3 j hj]

theorem some_splice {l : List Value} {k n m c : Nat} {x : Int} (h1 : w.heap[k]? = some (.cells (splice l m (List.replicate c (.int .i64 x))).toArray 3 (0, 0))) (h2 : l.length = n) (h3 : ∀ i, i < m → l[i]? = some (.int .i64 x)) (hc : m + c ≤ n) : Some w k n (m + c) x := by
  refine ⟨_, h1, by rw [length_splice _ _ _ (by simp; omega)]; exact h2, fun i hi => ?_⟩
  unfold splice
  by_cases q : i < m
  · rw [List.getElem?_append_left (by rw [List.length_take]; omega), List.getElem?_take]
    simp [q, h3 i q]
  · rw [List.getElem?_append_right (by rw [List.length_take]; omega), List.length_take, Nat.min_eq_left (by omega), List.getElem?_append_left (by simp; omega), List.getElem?_replicate]
    rw [if_pos (by omega)]

theorem copy_some {k n m c sLen sCap base : Nat} {x : Int} {w0 : World} {a : Addr} (h : Some w k n m x) (hc : c = Nat.min sLen (n - m)) (hm : m ≤ n) (hs : ∀ j, j < c → w.cell? (a.add j) = some (.int .i64 x)) (hb : Below base w0 w) (hk : base ≤ k) :
    ∃ W1, (Builtin.copy_ #[45, 45] 3 #[.slice (some ⟨k, m, none⟩) (n - m) (n - m), .slice (some a) sLen sCap]).run Tryd.prog w = .ok (.int .i64 (c : Nat)) W1 ∧ Some W1 k n (m + c) x ∧ Below base w0 W1 := by
  obtain ⟨l, h1, h2, h3⟩ := h
  have hcn : m + c ≤ n := by have : c ≤ n - m := by rw [hc]; exact Nat.min_le_right _ _
                             omega
  have hr := run_copy_row (P := Tryd.prog) w 45 45 3 3 k m (n - m) (n - m) a sLen sCap l.toArray 3 (List.replicate c (.int .i64 x)) Tryd.underlying45 (by kernel_rfl) h1 (by rw [List.length_replicate]; exact hc) (fun j v hv => by
    rw [List.getElem?_replicate] at hv
    split at hv
    · rename_i q
      cases hv
      exact hs j q
    · cases hv) (by simp; omega) (fun v hv => by
    obtain ⟨_, rfl⟩ := List.mem_replicate.1 hv
    rfl)
  refine ⟨_, by rw [hr]; simp only [splice, goInt, List.append_assoc, List.length_replicate], some_splice (setRow_heap w k _ _ 3 _ h1) h2 h3 hcn, below_setRow hb hk _⟩

set_option maxRecDepth 100000 in
set_option maxHeartbeats 1000000 in
/-- Numbers of one kind, as many as are asked. -/
theorem repeat_any {g0 o0 c0 n : Nat} {x : Int} (hx : w.cell? ⟨g0, o0, none⟩ = some (.int .i64 x)) (hn : 1 ≤ n) (hn2 : n ≤ 60) :
    Calls Tryd.prog 60 #[.slice (some ⟨g0, o0, none⟩) 1 c0, .int .i64 (n : Nat)] w fun e w' => ∃ k, e = .returned (.slice (some ⟨k, 0, none⟩) n n) ∧ w.heap.size ≤ k ∧ w'.rowIs k 3 n (fun _ => .int .i64 x) ∧ Below w.heap.size w w' := by
  have hmu := mul_one n (by omega) w
  have i0 : ¬ (n : Int) < 0 := by omega
  have i1 : ¬ (9223372036854775807 : Int) < (n : Int) := by omega
  have w1 : IntKind.u64.wrap ((n : Nat) : Int) = (n : Nat) := by rw [IntKind.wrap_u64]; omega
  have w2 : IntKind.i64.wrap ((n : Nat) : Int) = (n : Nat) := by rw [IntKind.wrap_i64]; omega
  have hmk := run_make_row' (P := Tryd.prog) 45 3 (.int .i64 0) 8 Tryd.underlying45 Tryd.infoInt rfl .i64 .i64 n (by omega) (by omega) w
  have hlt := World.block_lt_of_cell? _ _ hx
  have hB0 := below_box w (.cells (madeCells #[.int .i64 0] n) 3)
  have hx2 := cell_keep hB0 hx
  obtain ⟨l0, hl0n, hG⟩ : ∃ l0 : List Value, l0.length = n ∧ (w.alloc (.cells (madeCells #[.int .i64 0] n) 3)).heap[w.heap.size]? = some (.cells l0.toArray 3 (0, 0)) := by
    obtain ⟨c, h1, h2, _⟩ := World.rowIs_made w (.int .i64 0) n 3
    exact ⟨c.toList, by simpa using h2, by rw [Array.toArray_toList]; exact h1⟩
  obtain ⟨W0, hW0⟩ : ∃ W0, w.alloc (.cells (madeCells #[.int .i64 0] n) 3) = W0 := ⟨_, rfl⟩
  rw [hW0] at hmk hB0 hx2 hG
  obtain ⟨B, hB⟩ : ∃ B, w.heap.size = B := ⟨_, rfl⟩
  rw [hB] at hmk hB0 hG hlt
  obtain ⟨W1, hcp, hS1, hB1⟩ := copy_some (m := 0) (sLen := 1) (sCap := c0) (a := ⟨g0, o0, none⟩) (x := x) (c := 1) ⟨l0, hG, hl0n, fun i hi => absurd hi (Nat.not_lt_zero _)⟩ (by rw [Nat.sub_zero]; exact (Nat.min_eq_left hn).symm) (Nat.zero_le _) (fun j hj => by
    obtain rfl : j = 0 := by omega
    exact hx2) hB0 (Nat.le_refl _)
  rw [Nat.sub_zero] at hcp
  have HS1 : Hid (Some W1 B n 1 x) := hS1
  have HB1 : Hid (Below B w W1) := hB1
  have HBs : Hid (w.heap.size = B) := hB
  clear hS1 hB1 hB hB0 hG hW0 hlt hx2 hl0n hx
  go_enter Tryd.func60, Tryd.ntmps60
  go_wp2_with fail
  refine hmu.mono ?_
  rintro e w' ⟨rfl, rfl⟩
  clear hmu
  go_wp2_with fail
  go_loopw [8] (fun i wr => ∃ m : Nat, m ≤ n ∧ 1 ≤ m ∧ i = .int .i64 (m : Nat) ∧ Some wr B n m x ∧ Below B w' wr) (fun i _ => n - (intOf i).toNat)
  case atStart => exact ⟨1, hn, Nat.le_refl _, rfl, HS1.out, HB1.out⟩
  case round =>
    obtain ⟨m, hm, hm1, rfl, hS, hb⟩ := hrel
    by_cases hlt : m < n
    · have j0 : (m : Int) < (n : Int) := by omega
      have j1 : (0 : Int) ≤ (m : Int) := by omega
      have j2 : (m : Int) ≤ (n : Int) := by omega
      have j3 : ¬ n = m := by omega
      obtain ⟨c, hc⟩ : ∃ c, c = Nat.min m (n - m) := ⟨_, rfl⟩
      have hc1 : 1 ≤ c ∧ c ≤ n - m := by rw [hc]; exact ⟨Nat.le_min.2 ⟨hm1, by omega⟩, Nat.min_le_right _ _⟩
      have hsd : Some wr.drew B n m x := hS
      have hbd : Below B w' wr.drew := hb.drew
      obtain ⟨W2, hcp2, hS2, hB2⟩ := copy_some (sLen := m) (sCap := n) (a := ⟨B, 0, none⟩) (x := x) (c := c) hsd hc hm (fun j hj => hsd.cell (Nat.lt_of_lt_of_le hj (by rw [hc]; exact Nat.min_le_left _ _))) hbd (Nat.le_refl _)
      have HS2 : Hid (Some W2 B n (m + c) x) := hS2
      have HB2 : Hid (Below B w' W2) := hB2
      have j4 : IntKind.i64.wrap ((m : Int) + (c : Int)) = ((m + c : Nat) : Int) := by rw [IntKind.wrap_i64]; omega
      have HC : Hid (1 ≤ c ∧ c ≤ n - m) := hc1
      clear hsd hbd hS2 hB2 hc hS hb hc1
      go_wp2_with fail
      go_region
      rw [show ((m : Int) + (c : Int)) = ((m + c : Nat) : Int) by omega]
      go_wp2_with fail
      go_roundw
      case rel => exact ⟨m + c, by have := HC.out; omega, by omega, rfl, HS2.out, HB2.out⟩
      case measure => have := HC.out; simp [intOf]; omega
    · obtain rfl : m = n := by omega
      have HX : Hid (wr.rowIs B 3 m (fun _ => .int .i64 x) ∧ Below B w' wr) := ⟨hS.row, hb⟩
      clear hS hb
      go_wp2_with fail
      go_ret
      rw [HBs.out]
      exact ⟨B, rfl, Nat.le_refl _, HX.out.1, HX.out.2⟩

end Go.Proofs.YtinflbkmemjgbabDoor.Pt
