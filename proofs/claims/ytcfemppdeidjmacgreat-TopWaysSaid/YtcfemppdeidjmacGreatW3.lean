/-
  Walks3 Walks4
-/
import Derived.BigQuiet
import Derived.Deep.QuietTactic
import Derived.Test.YtcfemppdeidjmacGreatW2
import Derived.Deep.RegionLaw
import Derived.Laws.EntriesVeiled
namespace Go.Proofs.YtcfemppdeidjmacGreat
set_option linter.unusedSectionVars false
variable [Inhabited Zed]
open Go.RowKit Go.Deep

structure RowAt (w : World) (v : Option Addr) (T : BT Int) : Prop where
  or : (v = none ∧ T = .nil) ∨ ∃ b u, v = some ⟨b, 0, none⟩ ∧ w.cell? ⟨b, 0, none⟩ = some (.pointer u) ∧ At w u T ∧ (Tag w b 252 ∧ zin b)
  zok : Zok w

theorem RowAt.below {w w' : World} {v : Option Addr} {T : BT Int} (h : RowAt w v T) (hb : Below w.heap.size w w') : RowAt w' v T := by
  have hz := h.zok
  rcases h.or with h | ⟨b, u, rfl, hc, ha, ht⟩
  · exact ⟨Or.inl h, hz.below hb⟩
  · exact ⟨Or.inr ⟨b, u, rfl, cell_keep hb hc, ha.below hb, ht.1.below hb, ht.2⟩, hz.below hb⟩
theorem RowAt.drew {w : World} {v : Option Addr} {T : BT Int} (h : RowAt w v T) : RowAt w.drew v T := h.below (Below.refl _ _).drew
theorem RowAt.nil_ {w : World} (hz : Zok w) : RowAt w none .nil := ⟨Or.inl ⟨rfl, rfl⟩, hz⟩

set_option maxHeartbeats 400000 in
theorem tree_any {v : Option Addr} {T : BT Int} {w : World} (h : RowAt w v T) :
    Calls Tryz.prog 135 #[.pointer v] w fun e w' => ∃ u, e = .returned (.pointer u) ∧ w' = w ∧ At w u T := by
  have hz := h.zok
  rcases h.or with ⟨rfl, rfl⟩ | ⟨b, u, rfl, hc, ha, ht⟩
  · go_enter Tryz.func135, Tryz.ntmps135
    go_wp2
    go_ret
    exact ⟨_, rfl, rfl, At.nil_ hz⟩
  · go_enter Tryz.func135, Tryz.ntmps135
    go_wp2
    go_ret
    exact ⟨_, rfl, rfl, ha⟩

set_option maxHeartbeats 400000 in
theorem rowOf_any {u : Option Addr} {T : BT Int} {w : World} (h : At w u T) :
    Calls Tryz.prog 132 #[.pointer u] w fun e w' => ∃ v, e = .returned (.pointer v) ∧ Below w.heap.size w w' ∧ RowAt w' v T := by
  cases T with
  | nil =>
    obtain rfl := h.open_nil
    go_enter Tryz.func132, Tryz.ntmps132
    go_wp2
    go_ret
    exact ⟨_, rfl, Below.refl _ _, RowAt.nil_ h.zok⟩
  | node b o a l r =>
    have hu : u = some ⟨b, 0, none⟩ := h.at_.symm
    subst hu
    go_enter Tryz.func132, Tryz.ntmps132
    go_wp2
    go_ret
    refine ⟨_, rfl, (Below.refl _ _).alloc (Nat.le_refl _) _, ⟨Or.inr ⟨_, _, rfl, ?_, h.below ((Below.refl _ _).alloc (Nat.le_refl _) _), Tag.new _ _ _ _, h.zok.new⟩, h.zok.below ((Below.refl _ _).alloc (Nat.le_refl _) _)⟩⟩
    simp

set_option maxHeartbeats 400000 in
theorem len_any {v : Option Addr} {T : BT Int} {w : World} (h : RowAt w v T) :
    Calls Tryz.prog 101 #[.pointer v] w fun e w' => e = .returned (.int .i64 (sz T : Nat)) ∧ w' = w := by
  go_enter Tryz.func101, Tryz.ntmps101
  go_wp2_with fail
  refine (tree_any h).mono ?_
  rintro e w' ⟨u, rfl, rfl, ha⟩
  go_wp2_with fail
  refine (size_any ha).mono ?_
  rintro e w' ⟨rfl, rfl⟩
  go_wp2_with fail
  go_ret
  exact ⟨rfl, rfl⟩

structure IntsAt (w : World) (a : Option Addr) (n cap : Nat) (xs : List Int) : Prop where
  len : xs.length = n
  le : n ≤ cap
  cell : ∀ i, i < n → ∃ b o, a = some ⟨b, o, none⟩ ∧ w.cell? ⟨b, o + i, none⟩ = some (.int .i64 (xs.getD i 0))

theorem IntsAt.below {w w' : World} {a : Option Addr} {n cap : Nat} {xs : List Int} (h : IntsAt w a n cap xs) (hb : Below w.heap.size w w') : IntsAt w' a n cap xs :=
  ⟨h.len, h.le, fun i hi => by obtain ⟨b, o, e, hc⟩ := h.cell i hi; exact ⟨b, o, e, cell_keep hb hc⟩⟩
theorem IntsAt.drew {w : World} {a : Option Addr} {n cap : Nat} {xs : List Int} (h : IntsAt w a n cap xs) : IntsAt w.drew a n cap xs := h.below (Below.refl _ _).drew

theorem IntsAt.take {w : World} {b o n cap : Nat} {xs : List Int} (h : IntsAt w (some ⟨b, o, none⟩) n cap xs) (m : Nat) (hm : m ≤ n) : IntsAt w (some ⟨b, o, none⟩) m cap (xs.take m) := by
  refine ⟨by rw [List.length_take, h.len]; omega, by have := h.le; omega, fun i hi => ?_⟩
  obtain ⟨b', o', e, hc⟩ := h.cell i (by omega)
  refine ⟨b', o', e, ?_⟩
  rw [hc]
  simp only [List.getD_eq_getElem?_getD, List.getElem?_take, if_pos hi]

theorem IntsAt.drop {w : World} {b o n cap : Nat} {xs : List Int} (h : IntsAt w (some ⟨b, o, none⟩) n cap xs) (m : Nat) (hm : m ≤ n) : IntsAt w (some ⟨b, o + m, none⟩) (n - m) (cap - m) (xs.drop m) := by
  refine ⟨by rw [List.length_drop, h.len], by have := h.le; omega, fun i hi => ?_⟩
  obtain ⟨b', o', e, hc⟩ := h.cell (m + i) (by omega)
  simp only [Option.some.injEq, Addr.mk.injEq, and_true] at e
  obtain ⟨rfl, rfl⟩ := e
  refine ⟨b, o + m, rfl, ?_⟩
  rw [Nat.add_assoc, hc]
  simp only [List.getD_eq_getElem?_getD, List.getElem?_drop]

theorem split_at (xs : List Int) (m : Nat) (h : m < xs.length) : xs = xs.take m ++ xs.getD m 0 :: xs.drop (m + 1) := by
  rw [List.getD_eq_getElem?_getD, List.getElem?_eq_getElem h, Option.getD_some, List.getElem_cons_drop, List.take_append_drop]

set_option maxRecDepth 100000 in
theorem slice_tail {w : World} {b o n cap : Nat} {xs : List Int} (h : IntsAt w (some ⟨b, o, none⟩) n cap xs) (m : Nat) (hm : m < n) :
    ∃ a2, (∀ W, (Instr.slice 33 (.slice (some ⟨b, o, none⟩) n cap) (some (.int .i64 ((m : Int) + 1))) none none).run Tryz.prog W = .ok (.slice a2 (n - (m + 1)) (cap - (m + 1))) W) ∧
      IntsAt w a2 (n - (m + 1)) (cap - (m + 1)) (xs.drop (m + 1)) := by
  have e : ((m : Int) + 1).toNat = m + 1 := by omega
  have hle := h.le
  have hd := h.drop (m + 1) (by omega)
  by_cases hc : cap = m + 1
  · refine ⟨some ⟨b, o, none⟩, fun W => ?_, ⟨hd.len, hd.le, fun i hi => by omega⟩⟩
    rw [run_slice_l (w := W) 33 _ n cap Tryz.underlying33 .i64 _ (by omega) (by omega), e]
    go_simp
  · refine ⟨some ⟨b, o + (m + 1), none⟩, fun W => ?_, hd⟩
    rw [run_slice_l (w := W) 33 _ n cap Tryz.underlying33 .i64 _ (by omega) (by omega), e]
    go_simp

def SpreadSaid (k : Nat) : Prop := ∀ {a : Option Addr} {n cap : Nat} {xs : List Int} {w : World}, IntsAt w a n cap xs → Zok w → n ≤ k → n < 1000000 → cap ≤ maxLen →
  Calls Tryz.prog 133 #[.slice a n cap] w (Makes w (Spread xs))

set_option maxHeartbeats 400000 in
theorem spread_none {a : Option Addr} {cap : Nat} {xs : List Int} {w : World} (h : IntsAt w a 0 cap xs) (hz : Zok w) : Calls Tryz.prog 133 #[.slice a 0 cap] w (Makes w (Spread xs)) := by
  have hx : xs = [] := List.eq_nil_of_length_eq_zero h.len
  subst hx
  go_enter Tryz.func133, Tryz.ntmps133
  go_wp2_with fail
  go_ret
  exact ⟨_, _, rfl, Below.refl _ _, At.nil_ hz, spread_nil⟩

set_option maxHeartbeats 1000000 in
theorem spread_some {k : Nat} (ih : SpreadSaid k) {a : Option Addr} {n cap : Nat} {xs : List Int} {w : World} (h : IntsAt w a n cap xs) (hz : Zok w) (hn0 : 0 < n) (hk : n ≤ k + 1) (hn : n < 1000000) (hc : cap ≤ maxLen) :
    Calls Tryz.prog 133 #[.slice a n cap] w (Makes w (Spread xs)) := by
  obtain ⟨b, o, rfl, _⟩ := h.cell 0 hn0
  obtain ⟨b', o', e, hcell⟩ := h.cell (n / 2) (by omega)
  simp only [Option.some.injEq, Addr.mk.injEq, and_true] at e
  obtain ⟨rfl, rfl⟩ := e
  have hle := h.le
  have h1 := h.take (n / 2) (by omega)
  obtain ⟨a2, hsl, h2⟩ := slice_tail h (n / 2) (by omega)
  have hsp : Hid (xs = xs.take (n / 2) ++ xs.getD (n / 2) 0 :: xs.drop (n / 2 + 1)) := split_at xs (n / 2) (by rw [h.len]; omega)
  have hc' : cap ≤ 2 ^ 63 - 1 := hc
  generalize hm : n / 2 = m at *
  have HM : Hid (n / 2 = m) := hm
  have hm1 : m < n := by omega
  have hm2 : 2 * m ≤ n := by omega
  have hm3 : n ≤ 2 * m + 1 := by omega
  have hne : ((n : Int) == 0) = false := by rw [beq_eq_false_iff_ne]; omega
  have hcc : cap - (m + 1) ≤ maxLen := by unfold maxLen at *; omega
  have HC : Hid (cap ≤ maxLen) := hc
  clear hm hc
  go_enter Tryz.func133, Tryz.ntmps133
  go_wp2_with fail
  rw [show ((n : Int) / 2) = (m : Int) from by have := HM.out; omega]
  have i0 : (0 : Int) ≤ (m : Int) := by omega
  have i1 : (m : Int) < (n : Int) := by omega
  have i2 : (n : Int) ≤ (cap : Int) := by omega
  have i3 : (m : Int) ≤ (cap : Int) := by omega
  have i4 : (0 : Int) ≤ (m : Int) + 1 := by omega
  have i5 : (m : Int) + 1 ≤ (n : Int) := by omega
  have i6 : IntKind.i64.wrap ((m : Int) + 1) = (m : Int) + 1 := by rw [IntKind.wrap_i64]; omega
  go_region_held3 (fun W => W.cell? ⟨b, o + m, none⟩ = some (.int .i64 (xs.getD m 0))) (first | (go_keep; done) | exact cell_keep hb1 hcell | exact cell_keep hb2 (cell_keep hb1 hcell) | exact cell_keep hb3 (cell_keep hb2 (cell_keep hb1 hcell)))
    (first
      | (go_at_call_of 133 a2; refine (ih (h2.drew.below hb1) (hz.drew.below hb1) ?_ ?_ hcc).mono ?_; (omega); (omega); rintro e w2 ⟨v2, T2, rfl, hb2, ha2, hq2⟩)
      | (go_at_call 133; refine (ih h1.drew hz.drew ?_ ?_ HC.out).mono ?_; (omega); (omega); rintro e w1 ⟨v1, T1, rfl, hb1, ha1, hq1⟩)
      | (go_at_call 182; refine (grow_any _ (ha1.below hb2) ha2 ?_).mono ?_; (rw [sz_of_items hq1.items, sz_of_items hq2.items, h1.len, h2.len]; omega); rintro e w3 ⟨b3, rfl, hb3, ha3⟩))
  go_wp2_with fail
  go_ret
  refine ⟨_, _, rfl, below_step (below_step (below_drew hb1) hb2) hb3, ha3, ?_⟩
  have hsn := (spread_node (a := xs.getD m 0) (b := b3) (o := 0) hq1 hq2 (by rw [h1.len, h2.len]; omega) (by rw [h1.len, h2.len]; omega)).1
  rw [← hsp.out, List.getD_eq_getElem?_getD] at hsn
  exact hsn

theorem spread_all (k : Nat) : SpreadSaid k := by
  induction k with
  | zero =>
    intro a n cap xs w h hz hk hn hc
    obtain rfl : n = 0 := by omega
    exact spread_none h hz
  | succ k ih =>
    intro a n cap xs w h hz hk hn hc
    by_cases h0 : n = 0
    · subst h0; exact spread_none h hz
    · exact spread_some ih h hz (by omega) hk hn hc

theorem spread_any {a : Option Addr} {n cap : Nat} {xs : List Int} {w : World} (h : IntsAt w a n cap xs) (hz : Zok w) (hn : n < 1000000) (hc : cap ≤ maxLen) : Calls Tryz.prog 133 #[.slice a n cap] w (Makes w (Spread xs)) := spread_all n h hz (Nat.le_refl _) hn hc

set_option maxHeartbeats 400000 in
theorem of_full {a : Option Addr} {n cap : Nat} {w : World} (hn : 400 < n) (hc : n ≤ 2 ^ 63 - 1) :
    Calls Tryz.prog 97 #[.slice a n cap] w fun e w' => e = .returned (.tuple #[.pointer none, .iface 102 (.int .i64 3)]) ∧ w' = w := by
  go_enter Tryz.func97, Tryz.ntmps97
  go_wp2_with fail
  go_ret2
  exact ⟨rfl, rfl⟩

set_option maxHeartbeats 400000 in
theorem of_any {a : Option Addr} {n cap : Nat} {xs : List Int} {w : World} (h : IntsAt w a n cap xs) (hz : Zok w) (hn : n ≤ 400) (hc : cap ≤ maxLen) :
    Calls Tryz.prog 97 #[.slice a n cap] w fun e w' => ∃ v T, e = .returned (.tuple #[.pointer v, .nilIface]) ∧ Below w.heap.size w w' ∧ RowAt w' v T ∧ Bal T ∧ items T = xs := by
  go_enter Tryz.func97, Tryz.ntmps97
  go_wp2_with fail
  refine (spread_any h hz (by omega) hc).mono ?_
  rintro e w1 ⟨u, T, rfl, hb1, ha1, hq1⟩
  go_wp2_with fail
  refine (rowOf_any ha1).mono ?_
  rintro e w2 ⟨v, rfl, hb2, ha2⟩
  go_wp2_with fail
  go_ret2
  exact ⟨_, _, rfl, below_step hb1 hb2, ha2, hq1.bal, hq1.items⟩

set_option maxHeartbeats 400000 in
theorem join_any {v1 v2 : Option Addr} {T1 T2 : BT Int} {w : World} (h1 : RowAt w v1 T1) (h2 : RowAt w v2 T2) (b1 : Bal T1) (b2 : Bal T2) (hn : sz T1 + sz T2 ≤ 400) :
    Calls Tryz.prog 98 #[.pointer v1, .pointer v2] w fun e w' => ∃ v T, e = .returned (.tuple #[.pointer v, .nilIface]) ∧ Below w.heap.size w w' ∧ RowAt w' v T ∧ Bal T ∧ items T = items T1 ++ items T2 := by
  go_enter Tryz.func98, Tryz.ntmps98
  go_wp2_with fail
  refine (len_any h1).mono ?_
  rintro e w' ⟨rfl, rfl⟩
  go_wp2_with fail
  refine (len_any h2).mono ?_
  rintro e w' ⟨rfl, rfl⟩
  go_wp2_with fail
  refine (tree_any h1).mono ?_
  rintro e w' ⟨u1, rfl, rfl, a1⟩
  go_wp2_with fail
  refine (tree_any h2).mono ?_
  rintro e w' ⟨u2, rfl, rfl, a2⟩
  go_wp2_with fail
  refine (concat_any a1 a2 b1 b2 (by omega)).mono ?_
  rintro e w1 ⟨u, T, rfl, hb1, ha1, hq1⟩
  go_wp2_with fail
  refine (rowOf_any ha1).mono ?_
  rintro e w2 ⟨v, rfl, hb2, ha2⟩
  go_wp2_with fail
  go_ret2
  exact ⟨_, _, rfl, below_step hb1 hb2, ha2, hq1.bal, hq1.items⟩

set_option maxHeartbeats 400000 in
theorem split_any {v : Option Addr} {T : BT Int} {w : World} (h : RowAt w v T) (hb : Bal T) (hs : sz T ≤ 400) (k : Nat) (hk : k ≤ sz T) :
    Calls Tryz.prog 137 #[.pointer v, .int .i64 (k : Int)] w fun e w' => ∃ v1 v2 L H, e = .returned (.tuple #[.pointer v1, .pointer v2, .nilIface]) ∧ Below w.heap.size w w' ∧ RowAt w' v1 L ∧ RowAt w' v2 H ∧ Parted T k L H := by
  go_enter Tryz.func137, Tryz.ntmps137
  go_wp2_with fail
  refine (len_any h).mono ?_
  rintro e w' ⟨rfl, rfl⟩
  go_wp2_with fail
  refine (tree_any h).mono ?_
  rintro e w' ⟨u, rfl, rfl, ha⟩
  go_wp2_with fail
  refine (cut_any T _ k ha hb (by omega) rfl hk).mono ?_
  rintro e w1 ⟨u1, u2, L, H, rfl, hb1, haL, haH, hq⟩
  go_wp2_with fail
  refine (rowOf_any haL).mono ?_
  rintro e w2 ⟨v1, rfl, hb2, hr1⟩
  go_wp2_with fail
  refine (rowOf_any (haH.below hb2)).mono ?_
  rintro e w3 ⟨v2, rfl, hb3, hr2⟩
  go_wp2_with fail
  go_ret3
  exact ⟨_, _, _, _, rfl, below_step (below_step hb1 hb2) hb3, hr1.below hb3, hr2, hq⟩

end Go.Proofs.YtcfemppdeidjmacGreat

namespace Go.Proofs.YtcfemppdeidjmacGreat
set_option linter.unusedSectionVars false
variable [Inhabited Zed]
open Go.RowKit Go.Deep

theorem Tryz.infoInt : (Tryz.prog.info? 3).map (fun i => (i.zero, i.size, i.bytes)) = some (some (.int .i64 0), 1, 8) := by kernel_rfl

theorem make_row (n : Nat) (hn : n ≤ 1000000) : ∃ CC : Array Value, CC.size = n ∧
    ∀ W : World, (Instr.makeSlice 33 (.int .i64 0) (.int .i64 (n : Int))).run Tryz.prog W = .ok (.slice (some ⟨W.heap.size, 0, none⟩) 0 n) (W.alloc (.cells CC 3)) := by
  obtain ⟨i0, hi, hz0, hz1, hz2⟩ := info_parts Tryz.infoInt
  refine ⟨madeCells #[.int .i64 0] n, size_madeCells _ _, fun W => ?_⟩
  have h := run_make (P := Tryz.prog) W 33 3 i0 (.int .i64 0) Tryz.underlying33 hi hz0 .i64 .i64 0 n (Int.le_refl _) (by omega) (by rw [hz2]; omega) (by omega)
  rw [hz1, Nat.mul_one] at h
  simpa [Value.cells] using h

structure Gone (w0 w : World) (gw go g cap : Nat) (xs : List Int) : Prop where
  below : Below w0.heap.size w0 w
  n1 : w0.heap.size ≤ gw
  n2 : w0.heap.size ≤ go
  n3 : w0.heap.size ≤ g
  d1 : g ≠ gw
  d2 : g ≠ go
  d3 : gw ≠ go
  fcell : w.cell? ⟨gw, 0, none⟩ = some (Value.func (Fn.func 181) #[] #[Value.pointer (some ⟨gw, 0, none⟩), Value.pointer (some ⟨go, 0, none⟩)])
  ocell : w.cell? ⟨go, 0, none⟩ = some (.slice (some ⟨g, 0, none⟩) xs.length cap)
  ofro : w.frozen? ⟨go, 0, none⟩ = false
  there : ∀ j, j < cap → (w.cell? ⟨g, j, none⟩).isSome = true ∧ w.frozen? ⟨g, j, none⟩ = false
  cells : ∀ j, j < xs.length → w.cell? ⟨g, j, none⟩ = some (.int .i64 (xs.getD j 0))

theorem Gone.drew {w0 w : World} {gw go g cap : Nat} {xs : List Int} (h : Gone w0 w gw go g cap xs) : Gone w0 w.drew gw go g cap xs :=
  ⟨h.below.drew, h.n1, h.n2, h.n3, h.d1, h.d2, h.d3, h.fcell, h.ocell, h.ofro, h.there, h.cells⟩

theorem Gone.grown {w0 w w' : World} {gw go g cap : Nat} {xs : List Int} (h : Gone w0 w gw go g cap xs) (hb : Below w.heap.size w w') : Gone w0 w' gw go g cap xs := by
  have z1 : gw < w.heap.size := World.block_lt_of_cell? _ _ h.fcell
  have z2 : go < w.heap.size := World.block_lt_of_cell? _ _ h.ocell
  have z3 : ∀ j, j < cap → g < w.heap.size := fun j hj => by
    obtain ⟨v, hv⟩ := Option.isSome_iff_exists.1 (h.there j hj).1
    exact World.block_lt_of_cell? _ _ hv
  refine ⟨below_step h.below hb, h.n1, h.n2, h.n3, h.d1, h.d2, h.d3, cell_keep hb h.fcell, cell_keep hb h.ocell, (hb.frozen (p := ⟨go, 0, none⟩) z2).trans h.ofro, fun j hj => ?_, fun j hj => cell_keep hb (h.cells j hj)⟩
  rw [hb.cell (p := ⟨g, j, none⟩) (z3 j hj), hb.frozen (p := ⟨g, j, none⟩) (z3 j hj)]
  exact h.there j hj

theorem cs_other {w : World} {a b : Addr} {v : Value} (h : a ≠ b) : (w.setCell a v).cell? b = w.cell? b := World.cell?_setCell_other (h := h) ..
theorem cs_same {w : World} {a : Addr} {v u : Value} (h : w.cell? a = some u) : (w.setCell a v).cell? a = some v := World.cell?_setCell_same (h := h) ..

theorem Gone.push {w0 w : World} {gw go g cap : Nat} {ys : List Int} (h : Gone w0 w gw go g cap ys) (hr : ys.length + 1 ≤ cap) (a : Int) :
    Gone w0 ((w.setCells g ys.length [Value.int IntKind.i64 a]).setCell ⟨go, 0, none⟩ (Value.slice (some ⟨g, 0, none⟩) (ys.length + 1) cap)) gw go g cap (ys ++ [a]) := by
  show Gone w0 ((w.setCell ⟨g, ys.length, none⟩ (Value.int IntKind.i64 a)).setCell ⟨go, 0, none⟩ (Value.slice (some ⟨g, 0, none⟩) (ys.length + 1) cap)) gw go g cap (ys ++ [a])
  obtain ⟨old, hold⟩ := Option.isSome_iff_exists.1 (h.there ys.length (by omega)).1
  have d1 := h.d1
  have d2 := h.d2
  have d3 := h.d3
  have off : ∀ (p : Addr), p.block ≠ g → p.block ≠ go → ((w.setCell ⟨g, ys.length, none⟩ (Value.int IntKind.i64 a)).setCell ⟨go, 0, none⟩ (Value.slice (some ⟨g, 0, none⟩) (ys.length + 1) cap)).cell? p = w.cell? p := fun p h1 h2 => by
    rw [cs_other (fun e => h2 (by rw [← e])), cs_other (fun e => h1 (by rw [← e]))]
  have inG : ∀ j, ((w.setCell ⟨g, ys.length, none⟩ (Value.int IntKind.i64 a)).setCell ⟨go, 0, none⟩ (Value.slice (some ⟨g, 0, none⟩) (ys.length + 1) cap)).cell? ⟨g, j, none⟩ = if j = ys.length then some (Value.int IntKind.i64 a) else w.cell? ⟨g, j, none⟩ := fun j => by
    rw [cs_other (by simp only [ne_eq, Addr.mk.injEq, not_and]; omega)]
    split
    · rename_i e; subst e; exact cs_same hold
    · exact cs_other (by simp only [ne_eq, Addr.mk.injEq, not_and]; omega)
  refine ⟨(h.below.setCell (p := ⟨g, ys.length, none⟩) h.n3 _).setCell (p := ⟨go, 0, none⟩) h.n2 _, h.n1, h.n2, h.n3, d1, d2, d3, ?_, ?_, ?_, fun j hj => ⟨?_, ?_⟩, fun j hj => ?_⟩
  · rw [off _ (by show gw ≠ g; omega) (by show gw ≠ go; omega)]; exact h.fcell
  · rw [List.length_append, List.length_singleton]
    exact cs_same (u := _) (by rw [cs_other (by simp only [ne_eq, Addr.mk.injEq, not_and]; omega)]; exact h.ocell)
  · rw [World.frozen?_setCell, World.frozen?_setCell]; exact h.ofro
  · rw [inG]; split
    · rfl
    · exact (h.there j hj).1
  · rw [World.frozen?_setCell, World.frozen?_setCell]; exact (h.there j hj).2
  · rw [List.length_append, List.length_singleton] at hj
    rw [inG]
    split
    · rename_i e; subst e; simp
    · rw [h.cells j (by omega)]
      simp only [List.getD_eq_getElem?_getD]
      rw [List.getElem?_append_left (by omega)]

def WalkSaid (T : BT Int) : Prop := ∀ {u : Option Addr} {w0 w : World} {gw go g cap : Nat} {xs : List Int}, At w0 u T → Gone w0 w gw go g cap xs → xs.length + sz T ≤ cap → cap < 1000000 →
  Calls Tryz.prog 181 #[.pointer u, .pointer (some ⟨gw, 0, none⟩), .pointer (some ⟨go, 0, none⟩)] w fun e w' => e = .returned (.tuple #[]) ∧ Gone w0 w' gw go g cap (xs ++ items T)

set_option maxHeartbeats 400000 in
theorem walk_nil : WalkSaid .nil := by
  intro u w0 w gw go g cap xs h hg _ _
  obtain rfl := h.open_nil
  go_enter Tryz.func181, Tryz.ntmps181
  go_wp2_with fail
  refine bodyPost_ret (results_none rfl _ _ _) rfl ?_
  exact ⟨rfl, by simpa [items] using hg⟩

set_option maxHeartbeats 1000000 in
theorem walk_node {b o : Nat} {a : Int} {l r : BT Int} (ihl : WalkSaid l) (ihr : WalkSaid r) : WalkSaid (.node b o a l r) := by
  intro u w0 w gw go g cap xs h hg hcap hm
  obtain ⟨u1, u2, rfl, h1, h2, c0, c1, c2, c3, c4⟩ := h.open_node
  clear c3 c4 h
  simp only [sz] at hcap
  have f0 := hg.fcell
  have k0 := (hg.below.cell (p := ⟨b, 0, none⟩) (World.block_lt_of_cell? _ _ c0)).trans c0
  go_enter Tryz.func181, Tryz.ntmps181
  go_wp2_with fail
  go_region_held3 (fun W => W.cell? ⟨gw, 0, none⟩ = some (Value.func (Fn.func 181) #[] #[Value.pointer (some ⟨gw, 0, none⟩), Value.pointer (some ⟨go, 0, none⟩)])  ∧ W.cell? ⟨b, 0, none⟩ = some (.pointer u1))
    (first | (go_keep; done) | exact ⟨hg1.fcell, (hg1.below.cell (p := ⟨b, 0, none⟩) (World.block_lt_of_cell? _ _ c0)).trans c0⟩)
    (first
      | (go_at_call 181; refine (ihl h1 hg.drew ?_ hm).mono ?_; (omega); rintro e w1 ⟨rfl, hg1⟩))
  go_wp2_with fail
  clear f0 k0
  have o1 := hg1.ocell
  have o2 := hg1.ofro
  have k2 := (hg1.below.cell (p := ⟨b, 2, none⟩) (World.block_lt_of_cell? _ _ c2)).trans c2
  have z1 : go < w1.heap.size := World.block_lt_of_cell? _ _ o1
  have z2 : b < w1.heap.size := World.block_lt_of_cell? _ _ k2
  have hroom : (xs ++ items l).length + 1 ≤ cap := by rw [List.length_append, items_len]; omega
  generalize hys : xs ++ items l = ys at *
  have HY : Hid (xs ++ items l = ys) := hys
  clear hys
  obtain ⟨i0, hi, hz0, hz1, hz2⟩ := info_parts Tryz.infoInt
  have s1 : Hid (([Value.int IntKind.i64 a] : List Value).length = 1 * 1) := rfl
  have s2 : Hid (∀ u ∈ [Value.int IntKind.i64 a], u.oneCell' = true) := by
    intro u hu
    simp only [List.mem_singleton] at hu
    subst hu
    rfl
  have s3 : ∀ (o : Obj), Hid (∀ j, j < ([Value.int IntKind.i64 a] : List Value).length → ((w1.alloc o).drew.cell? ⟨g, 0 + ys.length * 1 + j, none⟩).isSome = true ∧ (w1.alloc o).drew.frozen? ⟨g, 0 + ys.length * 1 + j, none⟩ = false) := by
    intro o j hj
    simp only [List.length_singleton] at hj
    have ht := hg1.there (ys.length) (by omega)
    have hlt : g < w1.heap.size := by
      obtain ⟨v, hv⟩ := Option.isSome_iff_exists.1 ht.1
      exact World.block_lt_of_cell? _ _ hv
    have hb : Below w1.heap.size w1 (w1.alloc o).drew := ((Below.refl _ _).alloc (Nat.le_refl _) _).drew
    have e : 0 + ys.length * 1 + j = ys.length := by omega
    rw [e, hb.cell (p := ⟨g, ys.length, none⟩) hlt, hb.frozen (p := ⟨g, ys.length, none⟩) hlt]
    exact ht
  have s4 : ∀ (t : TypeId), Hid (∀ j u, ([Value.int IntKind.i64 a] : List Value)[j]? = some u → (w1.alloc (.cells #[Value.int IntKind.i64 a] t)).drew.cell? ((⟨w1.heap.size, 0, none⟩ : Addr).add j) = some u) := by
    intro t j u hj
    match j, hj with
    | 0, hj => simp at hj; subst hj; simp [Addr.add]
  have q1 : ∀ o : Obj, ((w1.alloc o).drew.setCells g ys.length [Value.int IntKind.i64 a]).cell? ⟨go, 0, none⟩ = some (.slice (some ⟨g, 0, none⟩) ys.length cap) := fun o => by
    rw [World.cell?_setCells_out g _ _ _ _ (fun e => absurd e.symm hg1.d2)]
    exact (hg1.grown (((Below.refl _ _).alloc (Nat.le_refl _) _).drew)).ocell
  have q2 : ∀ o : Obj, ((w1.alloc o).drew.setCells g ys.length [Value.int IntKind.i64 a]).frozen? ⟨go, 0, none⟩ = false := fun o => by
    rw [World.frozen?_setCells]
    exact (hg1.grown (((Below.refl _ _).alloc (Nat.le_refl _) _).drew)).ofro
  go_region_law (refine step_append_room rfl (.tmp 12) (.tmp 17) 33 rfl 3 i0 1 Tryz.underlying33 hi hz1 g 0 ys.length cap (by simp [Act.eval]) ⟨w1.heap.size, 0, none⟩ 1 1 [Value.int IntKind.i64 a] (by simp [Act.eval]) s1.out (s4 _).out s2.out hroom (s3 _).out ?_)
  all_goals
    have hg2 := (hg1.grown (((Below.refl _ _).alloc (Nat.le_refl _) (Obj.cells #[Value.int IntKind.i64 a] 3)).drew)).push hroom a
    go_wp2_with fail
    generalize ((w1.alloc (Obj.cells #[Value.int IntKind.i64 a] 3)).drew.setCells g ys.length [Value.int IntKind.i64 a]).setCell ⟨go, 0, none⟩ (Value.slice (some ⟨g, 0, none⟩) (ys.length + 1) cap) = w2 at hg2 ⊢
    have f2 := hg2.fcell
    have k1 := (hg2.below.cell (p := ⟨b, 1, none⟩) (World.block_lt_of_cell? _ _ c1)).trans c1
    clear o1 o2 k2 s1 s2 s3 s4 q1 q2 hg1
    go_region_held3 (fun W => W.cell? ⟨gw, 0, none⟩ = some (Value.func (Fn.func 181) #[] #[Value.pointer (some ⟨gw, 0, none⟩), Value.pointer (some ⟨go, 0, none⟩)])  ∧ W.cell? ⟨b, 1, none⟩ = some (.pointer u2))
      (first | (go_keep; done) | exact ⟨hg3.fcell, (hg3.below.cell (p := ⟨b, 1, none⟩) (World.block_lt_of_cell? _ _ c1)).trans c1⟩)
      (first
        | (go_at_call 181; refine (ihr h2 hg2.drew ?_ hm).mono ?_; (rw [← HY.out, List.length_append, List.length_append, items_len, List.length_singleton]; omega); rintro e w3 ⟨rfl, hg3⟩))
    go_wp2_with fail
    go_end0
    refine ⟨rfl, ?_⟩
    rw [← HY.out] at hg3
    simpa [items] using hg3

theorem walk_any (T : BT Int) : WalkSaid T := by
  induction T with
  | nil => exact walk_nil
  | node b o a l r ihl ihr => exact walk_node ihl ihr

theorem RowAt.lies {w : World} {v : Option Addr} {T : BT Int} (h : RowAt w v T) : Lies w T := by
  rcases h.or with ⟨_, rfl⟩ | ⟨b, u, _, _, ha, _⟩
  · trivial
  · exact ha.lies

theorem gone_start {w : World} {CC : Array Value} {n : Nat} (h : CC.size = n) :
    Gone w (((w.alloc (Obj.cells CC 3)).alloc (Obj.cells #[Value.slice (some ⟨w.heap.size, 0, none⟩) 0 n] 33)).alloc (Obj.cells #[Value.func (Fn.func 181) #[] #[Value.pointer (some ⟨w.heap.size + 1 + 1, 0, none⟩), Value.pointer (some ⟨w.heap.size + 1, 0, none⟩)]] 248))
      (w.heap.size + 1 + 1) (w.heap.size + 1) w.heap.size n [] := by
  refine ⟨(((Below.refl _ _).alloc (Nat.le_refl _) _).alloc (by simp) _).alloc (by simp; omega) _, by omega, by omega, by omega, by omega, by omega, by omega, ?_, ?_, ?_, fun j hj => ⟨?_, ?_⟩, fun j hj => absurd hj (by simp)⟩
  · go_simp
  · go_simp
  · go_simp
  · go_simp
  · go_simp

end Go.Proofs.YtcfemppdeidjmacGreat
