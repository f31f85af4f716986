/-
  The faces of package seq that make rows: rowOf, tree, Len, Depth, spread, Of, Join, Split; and the statements' own look whether two lists are the same.
-/
import Derived.Test.YthhojlbfnffdeabGreatWalks2
import Derived.BigQuiet
import Derived.Deep.QuietTactic
namespace Go.Proofs.YthhojlbfnffdeabGreat
open Go.RowKit Go.Deep

/-- A row lies at a place: nil has none, any other points at its tree. -/
structure RowAt (w : World) (v : Option Addr) (T : BT Int) : Prop where
  or : (v = none ∧ T = .nil) ∨ ∃ b u, v = some ⟨b, 0, none⟩ ∧ w.cell? ⟨b, 0, none⟩ = some (.pointer u) ∧ At w u T ∧ Tag w b 128

theorem RowAt.below {w w' : World} {v : Option Addr} {T : BT Int} (h : RowAt w v T) (hb : Below w.heap.size w w') : RowAt w' v T := by
  rcases h.or with h | ⟨b, u, rfl, hc, ha, ht⟩
  · exact ⟨Or.inl h⟩
  · exact ⟨Or.inr ⟨b, u, rfl, cell_keep hb hc, ha.below hb, ht.below hb⟩⟩
theorem RowAt.drew {w : World} {v : Option Addr} {T : BT Int} (h : RowAt w v T) : RowAt w.drew v T := h.below (Below.refl _ _).drew
theorem RowAt.nil_ (w : World) : RowAt w none .nil := ⟨Or.inl ⟨rfl, rfl⟩⟩

set_option maxHeartbeats 400000 in
theorem tree_any {v : Option Addr} {T : BT Int} {w : World} (h : RowAt w v T) :
    Calls Tryz.prog 56 #[.pointer v] w fun e w' => ∃ u, e = .returned (.pointer u) ∧ w' = w ∧ At w u T := by
  rcases h.or with ⟨rfl, rfl⟩ | ⟨b, u, rfl, hc, ha, ht⟩
  · go_enter Tryz.func56, Tryz.ntmps56
    go_wp2
    go_ret
    exact ⟨_, rfl, rfl, At.nil_ _⟩
  · go_enter Tryz.func56, Tryz.ntmps56
    go_wp2
    go_ret
    exact ⟨_, rfl, rfl, ha⟩

set_option maxHeartbeats 400000 in
theorem rowOf_any {u : Option Addr} {T : BT Int} {w : World} (h : At w u T) :
    Calls Tryz.prog 71 #[.pointer u] w fun e w' => ∃ v, e = .returned (.pointer v) ∧ Below w.heap.size w w' ∧ RowAt w' v T := by
  cases T with
  | nil =>
    obtain rfl := h.open_nil
    go_enter Tryz.func71, Tryz.ntmps71
    go_wp2
    go_ret
    exact ⟨_, rfl, Below.refl _ _, RowAt.nil_ _⟩
  | node b o a l r =>
    have hu : u = some ⟨b, 0, none⟩ := h.at_.symm
    subst hu
    go_enter Tryz.func71, Tryz.ntmps71
    go_wp2
    go_ret
    refine ⟨_, rfl, (Below.refl _ _).alloc (Nat.le_refl _) _, ⟨Or.inr ⟨_, _, rfl, ?_, h.below ((Below.refl _ _).alloc (Nat.le_refl _) _), Tag.new _ _ _ _⟩⟩⟩
    simp

set_option maxHeartbeats 400000 in
theorem len_any {v : Option Addr} {T : BT Int} {w : World} (h : RowAt w v T) :
    Calls Tryz.prog 40 #[.pointer v] w fun e w' => e = .returned (.int .i64 (sz T : Nat)) ∧ w' = w := by
  go_enter Tryz.func40, Tryz.ntmps40
  go_wp2_with fail
  refine (tree_any h).mono ?_
  rintro e w' ⟨u, rfl, rfl, ha⟩
  go_wp2_with fail
  refine (size_any ha).mono ?_
  rintro e w' ⟨rfl, rfl⟩
  go_wp2_with fail
  go_ret
  exact ⟨rfl, rfl⟩

/-- A list of numbers lies in memory. -/
structure IntsAt (w : World) (a : Option Addr) (n cap : Nat) (xs : List Int) : Prop where
  len : xs.length = n
  le : n ≤ cap
  cell : ∀ i, i < n → ∃ b o, a = some ⟨b, o, none⟩ ∧ w.cell? ⟨b, o + i, none⟩ = some (.int .i64 (xs.getD i 0))

theorem IntsAt.below {w w' : World} {a : Option Addr} {n cap : Nat} {xs : List Int} (h : IntsAt w a n cap xs) (hb : Below w.heap.size w w') : IntsAt w' a n cap xs :=
  ⟨h.len, h.le, fun i hi => by obtain ⟨b, o, e, hc⟩ := h.cell i hi; exact ⟨b, o, e, cell_keep hb hc⟩⟩
theorem IntsAt.drew {w : World} {a : Option Addr} {n cap : Nat} {xs : List Int} (h : IntsAt w a n cap xs) : IntsAt w.drew a n cap xs := h.below (Below.refl _ _).drew

theorem IntsAt.take {w : World} {b o n cap : Nat} {xs : List Int} (h : IntsAt w (some ⟨b, o, none⟩) n cap xs) (m : Nat) (hm : m ≤ n) : IntsAt w (some ⟨b, o, none⟩) m cap (xs.take m) := by
  refine ⟨by rw [List.length_take, h.len]; omega, by have := h.le; omega, fun i hi => ?_⟩
  obtain ⟨b', o', e, hc⟩ := h.cell i (by omega)
  refine ⟨b', o', e, ?_⟩
  rw [hc]
  simp only [List.getD_eq_getElem?_getD, List.getElem?_take, if_pos hi]

theorem IntsAt.drop {w : World} {b o n cap : Nat} {xs : List Int} (h : IntsAt w (some ⟨b, o, none⟩) n cap xs) (m : Nat) (hm : m ≤ n) : IntsAt w (some ⟨b, o + m, none⟩) (n - m) (cap - m) (xs.drop m) := by
  refine ⟨by rw [List.length_drop, h.len], by have := h.le; omega, fun i hi => ?_⟩
  obtain ⟨b', o', e, hc⟩ := h.cell (m + i) (by omega)
  simp only [Option.some.injEq, Addr.mk.injEq, and_true] at e
  obtain ⟨rfl, rfl⟩ := e
  refine ⟨b, o + m, rfl, ?_⟩
  rw [Nat.add_assoc, hc]
  simp only [List.getD_eq_getElem?_getD, List.getElem?_drop]

theorem split_at (xs : List Int) (m : Nat) (h : m < xs.length) : xs = xs.take m ++ xs.getD m 0 :: xs.drop (m + 1) := by
  rw [List.getD_eq_getElem?_getD, List.getElem?_eq_getElem h, Option.getD_some, List.getElem_cons_drop, List.take_append_drop]

set_option maxRecDepth 100000 in
theorem slice_tail {w : World} {b o n cap : Nat} {xs : List Int} (h : IntsAt w (some ⟨b, o, none⟩) n cap xs) (m : Nat) (hm : m < n) :
    ∃ a2, (∀ W, (Instr.slice 33 (.slice (some ⟨b, o, none⟩) n cap) (some (.int .i64 ((m : Int) + 1))) none none).run Tryz.prog W = .ok (.slice a2 (n - (m + 1)) (cap - (m + 1))) W) ∧
      IntsAt w a2 (n - (m + 1)) (cap - (m + 1)) (xs.drop (m + 1)) := by
  have e : ((m : Int) + 1).toNat = m + 1 := by omega
  have hle := h.le
  have hd := h.drop (m + 1) (by omega)
  by_cases hc : cap = m + 1
  · refine ⟨some ⟨b, o, none⟩, fun W => ?_, ⟨hd.len, hd.le, fun i hi => by omega⟩⟩
    rw [run_slice_l (w := W) 33 _ n cap Tryz.underlying33 .i64 _ (by omega) (by omega), e]
    go_simp
  · refine ⟨some ⟨b, o + (m + 1), none⟩, fun W => ?_, hd⟩
    rw [run_slice_l (w := W) 33 _ n cap Tryz.underlying33 .i64 _ (by omega) (by omega), e]
    go_simp

def SpreadSaid (k : Nat) : Prop := ∀ {a : Option Addr} {n cap : Nat} {xs : List Int} {w : World}, IntsAt w a n cap xs → n ≤ k → n < 1000000 → cap ≤ maxLen →
  Calls Tryz.prog 72 #[.slice a n cap] w (Makes w (Spread xs))

set_option maxHeartbeats 400000 in
theorem spread_none {a : Option Addr} {cap : Nat} {xs : List Int} {w : World} (h : IntsAt w a 0 cap xs) : Calls Tryz.prog 72 #[.slice a 0 cap] w (Makes w (Spread xs)) := by
  have hx : xs = [] := List.eq_nil_of_length_eq_zero h.len
  subst hx
  go_enter Tryz.func72, Tryz.ntmps72
  go_wp2_with fail
  go_ret
  exact ⟨_, _, rfl, Below.refl _ _, At.nil_ _, spread_nil⟩

set_option maxHeartbeats 1000000 in
theorem spread_some {k : Nat} (ih : SpreadSaid k) {a : Option Addr} {n cap : Nat} {xs : List Int} {w : World} (h : IntsAt w a n cap xs) (hn0 : 0 < n) (hk : n ≤ k + 1) (hn : n < 1000000) (hc : cap ≤ maxLen) :
    Calls Tryz.prog 72 #[.slice a n cap] w (Makes w (Spread xs)) := by
  obtain ⟨b, o, rfl, _⟩ := h.cell 0 hn0
  obtain ⟨b', o', e, hcell⟩ := h.cell (n / 2) (by omega)
  simp only [Option.some.injEq, Addr.mk.injEq, and_true] at e
  obtain ⟨rfl, rfl⟩ := e
  have hle := h.le
  have h1 := h.take (n / 2) (by omega)
  obtain ⟨a2, hsl, h2⟩ := slice_tail h (n / 2) (by omega)
  have hsp : Hid (xs = xs.take (n / 2) ++ xs.getD (n / 2) 0 :: xs.drop (n / 2 + 1)) := split_at xs (n / 2) (by rw [h.len]; omega)
  have hc' : cap ≤ 2 ^ 63 - 1 := hc
  generalize hm : n / 2 = m at *
  have HM : Hid (n / 2 = m) := hm
  have hm1 : m < n := by omega
  have hm2 : 2 * m ≤ n := by omega
  have hm3 : n ≤ 2 * m + 1 := by omega
  have hne : ((n : Int) == 0) = false := by rw [beq_eq_false_iff_ne]; omega
  have hcc : cap - (m + 1) ≤ maxLen := by unfold maxLen at *; omega
  have HC : Hid (cap ≤ maxLen) := hc
  clear hm hc
  go_enter Tryz.func72, Tryz.ntmps72
  go_wp2_with fail
  rw [show ((n : Int) / 2) = (m : Int) from by have := HM.out; omega]
  have i0 : (0 : Int) ≤ (m : Int) := by omega
  have i1 : (m : Int) < (n : Int) := by omega
  have i2 : (n : Int) ≤ (cap : Int) := by omega
  have i3 : (m : Int) ≤ (cap : Int) := by omega
  have i4 : (0 : Int) ≤ (m : Int) + 1 := by omega
  have i5 : (m : Int) + 1 ≤ (n : Int) := by omega
  have i6 : IntKind.i64.wrap ((m : Int) + 1) = (m : Int) + 1 := by rw [IntKind.wrap_i64]; omega
  go_region_held3 (fun W => W.cell? ⟨b, o + m, none⟩ = some (.int .i64 (xs.getD m 0))) (first | (go_keep; done) | exact cell_keep hb1 hcell | exact cell_keep hb2 (cell_keep hb1 hcell) | exact cell_keep hb3 (cell_keep hb2 (cell_keep hb1 hcell)))
    (first
      | (go_at_call_of 72 a2; refine (ih (h2.drew.below hb1) ?_ ?_ hcc).mono ?_; (omega); (omega); rintro e w2 ⟨v2, T2, rfl, hb2, ha2, hq2⟩)
      | (go_at_call 72; refine (ih h1.drew ?_ ?_ HC.out).mono ?_; (omega); (omega); rintro e w1 ⟨v1, T1, rfl, hb1, ha1, hq1⟩)
      | (go_at_call 96; refine (grow_any _ (ha1.below hb2) ha2 ?_).mono ?_; (rw [sz_of_items hq1.items, sz_of_items hq2.items, h1.len, h2.len]; omega); rintro e w3 ⟨b3, rfl, hb3, ha3⟩))
  go_wp2_with fail
  go_ret
  refine ⟨_, _, rfl, below_step (below_step (below_drew hb1) hb2) hb3, ha3, ?_⟩
  have hsn := (spread_node (a := xs.getD m 0) (b := b3) (o := 0) hq1 hq2 (by rw [h1.len, h2.len]; omega) (by rw [h1.len, h2.len]; omega)).1
  rw [← hsp.out, List.getD_eq_getElem?_getD] at hsn
  exact hsn

theorem spread_all (k : Nat) : SpreadSaid k := by
  induction k with
  | zero =>
    intro a n cap xs w h hk hn hc
    obtain rfl : n = 0 := by omega
    exact spread_none h
  | succ k ih =>
    intro a n cap xs w h hk hn hc
    by_cases h0 : n = 0
    · subst h0; exact spread_none h
    · exact spread_some ih h (by omega) hk hn hc

theorem spread_any {a : Option Addr} {n cap : Nat} {xs : List Int} {w : World} (h : IntsAt w a n cap xs) (hn : n < 1000000) (hc : cap ≤ maxLen) : Calls Tryz.prog 72 #[.slice a n cap] w (Makes w (Spread xs)) := spread_all n h (Nat.le_refl _) hn hc

set_option maxHeartbeats 400000 in
theorem of_full {a : Option Addr} {n cap : Nat} {w : World} (hn : 400 < n) (hc : n ≤ 2 ^ 63 - 1) :
    Calls Tryz.prog 51 #[.slice a n cap] w fun e w' => e = .returned (.tuple #[.pointer none, .iface 58 (.int .i64 3)]) ∧ w' = w := by
  go_enter Tryz.func51, Tryz.ntmps51
  go_wp2_with fail
  go_ret2
  exact ⟨rfl, rfl⟩

set_option maxHeartbeats 400000 in
theorem of_any {a : Option Addr} {n cap : Nat} {xs : List Int} {w : World} (h : IntsAt w a n cap xs) (hn : n ≤ 400) (hc : cap ≤ maxLen) :
    Calls Tryz.prog 51 #[.slice a n cap] w fun e w' => ∃ v T, e = .returned (.tuple #[.pointer v, .nilIface]) ∧ Below w.heap.size w w' ∧ RowAt w' v T ∧ Bal T ∧ items T = xs := by
  go_enter Tryz.func51, Tryz.ntmps51
  go_wp2_with fail
  refine (spread_any h (by omega) hc).mono ?_
  rintro e w1 ⟨u, T, rfl, hb1, ha1, hq1⟩
  go_wp2_with fail
  refine (rowOf_any ha1).mono ?_
  rintro e w2 ⟨v, rfl, hb2, ha2⟩
  go_wp2_with fail
  go_ret2
  exact ⟨_, _, rfl, below_step hb1 hb2, ha2, hq1.bal, hq1.items⟩

set_option maxHeartbeats 400000 in
theorem join_full {v1 v2 : Option Addr} {T1 T2 : BT Int} {w : World} (h1 : RowAt w v1 T1) (h2 : RowAt w v2 T2) (hn : 400 < sz T1 + sz T2) (hs1 : sz T1 ≤ 400) (hs2 : sz T2 ≤ 400) :
    Calls Tryz.prog 52 #[.pointer v1, .pointer v2] w fun e w' => e = .returned (.tuple #[.pointer none, .iface 58 (.int .i64 3)]) ∧ w' = w := by
  go_enter Tryz.func52, Tryz.ntmps52
  go_wp2_with fail
  refine (len_any h1).mono ?_
  rintro e w' ⟨rfl, rfl⟩
  go_wp2_with fail
  refine (len_any h2).mono ?_
  rintro e w' ⟨rfl, rfl⟩
  go_wp2_with fail
  go_ret2
  exact ⟨rfl, rfl⟩

set_option maxHeartbeats 400000 in
theorem join_any {v1 v2 : Option Addr} {T1 T2 : BT Int} {w : World} (h1 : RowAt w v1 T1) (h2 : RowAt w v2 T2) (b1 : Bal T1) (b2 : Bal T2) (hn : sz T1 + sz T2 ≤ 400) :
    Calls Tryz.prog 52 #[.pointer v1, .pointer v2] w fun e w' => ∃ v T, e = .returned (.tuple #[.pointer v, .nilIface]) ∧ Below w.heap.size w w' ∧ RowAt w' v T ∧ Bal T ∧ items T = items T1 ++ items T2 := by
  go_enter Tryz.func52, Tryz.ntmps52
  go_wp2_with fail
  refine (len_any h1).mono ?_
  rintro e w' ⟨rfl, rfl⟩
  go_wp2_with fail
  refine (len_any h2).mono ?_
  rintro e w' ⟨rfl, rfl⟩
  go_wp2_with fail
  refine (tree_any h1).mono ?_
  rintro e w' ⟨u1, rfl, rfl, a1⟩
  go_wp2_with fail
  refine (tree_any h2).mono ?_
  rintro e w' ⟨u2, rfl, rfl, a2⟩
  go_wp2_with fail
  refine (concat_any a1 a2 b1 b2 (by omega)).mono ?_
  rintro e w1 ⟨u, T, rfl, hb1, ha1, hq1⟩
  go_wp2_with fail
  refine (rowOf_any ha1).mono ?_
  rintro e w2 ⟨v, rfl, hb2, ha2⟩
  go_wp2_with fail
  go_ret2
  exact ⟨_, _, rfl, below_step hb1 hb2, ha2, hq1.bal, hq1.items⟩

set_option maxHeartbeats 400000 in
theorem split_low {v : Option Addr} {w : World} (i : Int) (hi : i < 0) :
    Calls Tryz.prog 75 #[.pointer v, .int .i64 i] w fun e w' => e = .returned (.tuple #[.pointer none, .pointer none, .iface 58 (.int .i64 1)]) ∧ w' = w := by
  go_enter Tryz.func75, Tryz.ntmps75
  go_wp2_with fail
  go_ret3
  exact ⟨rfl, rfl⟩

set_option maxHeartbeats 400000 in
theorem split_high {v : Option Addr} {T : BT Int} {w : World} (h : RowAt w v T) (i : Int) (hi0 : 0 ≤ i) (hi : sz T < i) :
    Calls Tryz.prog 75 #[.pointer v, .int .i64 i] w fun e w' => e = .returned (.tuple #[.pointer none, .pointer none, .iface 58 (.int .i64 1)]) ∧ w' = w := by
  go_enter Tryz.func75, Tryz.ntmps75
  go_wp2_with fail
  refine (len_any h).mono ?_
  rintro e w' ⟨rfl, rfl⟩
  go_wp2_with fail
  go_ret3
  exact ⟨rfl, rfl⟩

set_option maxHeartbeats 400000 in
theorem split_any {v : Option Addr} {T : BT Int} {w : World} (h : RowAt w v T) (hb : Bal T) (hs : sz T ≤ 400) (k : Nat) (hk : k ≤ sz T) :
    Calls Tryz.prog 75 #[.pointer v, .int .i64 (k : Int)] w fun e w' => ∃ v1 v2 L H, e = .returned (.tuple #[.pointer v1, .pointer v2, .nilIface]) ∧ Below w.heap.size w w' ∧ RowAt w' v1 L ∧ RowAt w' v2 H ∧ Parted T k L H := by
  go_enter Tryz.func75, Tryz.ntmps75
  go_wp2_with fail
  refine (len_any h).mono ?_
  rintro e w' ⟨rfl, rfl⟩
  go_wp2_with fail
  refine (tree_any h).mono ?_
  rintro e w' ⟨u, rfl, rfl, ha⟩
  go_wp2_with fail
  refine (cut_any T _ k ha hb (by omega) rfl hk).mono ?_
  rintro e w1 ⟨u1, u2, L, H, rfl, hb1, haL, haH, hq⟩
  go_wp2_with fail
  refine (rowOf_any haL).mono ?_
  rintro e w2 ⟨v1, rfl, hb2, hr1⟩
  go_wp2_with fail
  refine (rowOf_any (haH.below hb2)).mono ?_
  rintro e w3 ⟨v2, rfl, hb3, hr2⟩
  go_wp2_with fail
  go_ret3
  exact ⟨_, _, _, _, rfl, below_step (below_step hb1 hb2) hb3, hr1.below hb3, hr2, hq⟩

end Go.Proofs.YthhojlbfnffdeabGreat
