/-
  Bg Bp Bq Br Bs
-/
import Derived.Test.YtcfemppdeidjmacGreatT17
import Derived.Test.YtcfemppdeidjmacGreatT18
namespace Go.Proofs.YtcfemppdeidjmacGreat.Br
open Go.RowKit Go.Deep
open Go.RowKit (Below)
set_option linter.unusedVariables false

variable {w w' : World} {E : List (Nat × Nat)} {l : List Nat} {f : Nat → Int × Int}

structure IntsAt (w : World) (a : Option Addr) (n : Nat) (l : List Nat) : Prop where
  len : l.length = n
  cell : ∀ i, i < n → ∃ b o, a = some ⟨b, o, none⟩ ∧ w.cell? ⟨b, o + i, none⟩ = some (.int .i64 ((l.getD i 0 : Nat) : Int))

theorem IntsAt.below {a : Option Addr} {n : Nat} (h : IntsAt w a n l) (hb : Below w.heap.size w w') : IntsAt w' a n l := ⟨h.len, fun i hi => by
  obtain ⟨b, o, e, q⟩ := h.cell i hi
  exact ⟨b, o, e, cell_keep hb q⟩⟩

theorem edges_none (w : World) (a : Option Addr) : EdgesAt w a [] := ⟨fun i hi => absurd hi (Nat.not_lt_zero _)⟩
def EgAt (w : World) (a : Option Addr) (m : Nat) (f : Nat → Int × Int) : Prop :=
  ∀ i, i < m → ∃ b o, a = some ⟨b, o, none⟩ ∧ w.cell? ⟨b, o + i * 2, none⟩ = some (.int .i64 (f i).1) ∧ w.cell? ⟨b, o + i * 2 + 1, none⟩ = some (.int .i64 (f i).2)

theorem EgAt.below {a : Option Addr} {m : Nat} (h : EgAt w a m f) (hb : Below w.heap.size w w') : EgAt w' a m f := fun i hi => by
  obtain ⟨b, o, e, h1, h2⟩ := h i hi
  exact ⟨b, o, e, cell_keep hb h1, cell_keep hb h2⟩

def ints (l : List Nat) : List Value := l.map fun x => Value.int .i64 ((x : Nat) : Int)

theorem ints_snoc (l : List Nat) (x : Nat) : ints (l ++ [x]) = ints l ++ [.int .i64 ((x : Nat) : Int)] := by simp [ints]

theorem own_ints {base n : Nat} {v : Value} {l : List Nat} (h : w.ownsRow base 3 1 v n (ints l)) (hn : l.length = n) : ∃ a c, v = .slice a n c ∧ IntsAt w a n l := by
  rcases h.2 with ⟨hv, h0⟩ | ⟨g', cap', cur, hv, hb, hg, h1, h2, h3, h4⟩
  · subst h0
    exact ⟨none, 0, hv, ⟨hn, fun i hi => by omega⟩⟩
  · subst hv
    refine ⟨_, _, rfl, ⟨hn, fun i hi => ⟨g', 0, rfl, ?_⟩⟩⟩
    have hi2 : i < l.length := by omega
    have e1 : (cur.toList.take (n * 1))[i]? = some (Value.int .i64 ((l.getD i 0 : Nat) : Int)) := by
      rw [h4, ints, List.getElem?_map, List.getElem?_eq_getElem hi2, List.getD_eq_getElem?_getD, List.getElem?_eq_getElem hi2]; rfl
    rw [List.getElem?_take, if_pos (by omega)] at e1
    simp only [World.cell?, hg, Nat.zero_add]
    simpa using e1

def fn (F : List (Nat × Nat)) : Nat → Int × Int := fun i => (((F.getD i (0, 0)).1 : Nat), ((F.getD i (0, 0)).2 : Nat))

theorem fn_edges (F : List (Nat × Nat)) : edges (fn F) F.length = F := by
  refine List.ext_getElem? fun i => ?_
  rcases Nat.lt_or_ge i F.length with h | h
  · rw [edges_get h, List.getElem?_eq_getElem h]
    simp [fn, List.getD_eq_getElem?_getD, List.getElem?_eq_getElem h]
  · rw [List.getElem?_eq_none (by rw [edges_len]; exact h), List.getElem?_eq_none h]

theorem fn_may {F : List (Nat × Nat)} {n : Nat} (hu : Up F) (hl : ∀ e ∈ F, e.1 < e.2 ∧ e.2 < n) : ∀ j, j < F.length → May n (fn F) j := fun j hj => by
  have e1 : ∀ i (h : i < F.length), F.getD i (0, 0) = F[i] := fun i h => by simp [List.getD_eq_getElem?_getD, List.getElem?_eq_getElem h]
  refine ⟨?_, fun h0 => ?_⟩
  · have := hl _ (List.getElem_mem hj)
    unfold Sane fn
    rw [e1 j hj]
    refine ⟨?_, ?_, ?_⟩ <;> show _ <;> simp <;> omega
  · have := List.pairwise_iff_getElem.1 hu (j - 1) j (by omega) hj (by omega)
    unfold fn
    rw [e1 j hj, e1 (j - 1) (by omega)]
    show ((F[j - 1].1 : Nat) : Int) < _ ∨ _ = _ ∧ ((F[j - 1].2 : Nat) : Int) < _
    simp
    omega

theorem fn_at {a : Option Addr} {F : List (Nat × Nat)} (h : EdgesAt w a F) : EgAt w a F.length (fn F) := fun i hi => h.cell i hi

end Go.Proofs.YtcfemppdeidjmacGreat.Br

namespace Go.Proofs.YtcfemppdeidjmacGreat.Br
open Go.RowKit Go.Deep
open Go.RowKit (Below)
set_option linter.unusedVariables false

variable {w w' : World} {f : Nat → Int × Int}

theorem below_box (w : World) (o : Obj) : Below w.heap.size w (w.alloc o) := (Below.refl _ _).alloc (Nat.le_refl _) _

def cmpI (a b : Int) : Int := if a < b then -1 else if b < a then 1 else 0

set_option maxHeartbeats 400000 in
theorem compare_any (a b : Int) (w : World) : Calls Tryz.prog 67 #[.int .i64 a, .int .i64 b] w fun e w' => e = .returned (.int .i64 (cmpI a b)) ∧ w' = w := by
  unfold cmpI
  rcases Int.lt_trichotomy a b with h | h | h
  · rw [if_pos h]
    go_enter Tryz.func67, Tryz.ntmps67
    go_wp2
    all_goals (go_ret; exact ⟨rfl, rfl⟩)
  · subst h
    rw [if_neg (by omega), if_neg (by omega)]
    go_enter Tryz.func67, Tryz.ntmps67
    go_wp2
    all_goals (go_ret; exact ⟨rfl, rfl⟩)
  · have h' : ¬ a < b := by omega
    rw [if_neg h', if_pos h]
    go_enter Tryz.func67, Tryz.ntmps67
    go_wp2
    all_goals (go_ret; exact ⟨rfl, rfl⟩)

def orOf (a b : Int) : Int := if a = 0 then b else a

set_option maxHeartbeats 1000000 in
theorem or_any {g : Nat} (a b : Int) (w : World) (h0 : w.cell? ⟨g, 0, none⟩ = some (.int .i64 a)) (h1 : w.cell? ⟨g, 1, none⟩ = some (.int .i64 b)) :
    Calls Tryz.prog 66 #[.slice (some ⟨g, 0, none⟩) 2 2] w fun e w' => e = .returned (.int .i64 (orOf a b)) ∧ w' = w := by
  have HA : Hid (w.cell? ⟨g, 0, none⟩ = some (.int .i64 a) ∧ w.cell? ⟨g, 1, none⟩ = some (.int .i64 b)) := ⟨h0, h1⟩
  clear h0 h1
  go_enter Tryz.func66, Tryz.ntmps66
  go_wp2_with fail
  go_loopw [5, 8] (fun _ i wr => ∃ j : Nat, j ≤ 2 ∧ i = .int .i64 (j : Nat) ∧ (0 < j → a = 0) ∧ (1 < j → b = 0) ∧ wr = w) (fun _ i _ => 2 - (intOf i).toNat)
  case atStart => exact ⟨0, by omega, rfl, fun h => absurd h (by omega), fun h => absurd h (by omega), rfl⟩
  case round =>
    obtain ⟨j, hj, rfl, ha, hb, rfl⟩ := hrel
    obtain ⟨h0, h1⟩ := HA.out
    match j, hj with
    | 0, _ =>
      by_cases c : a = 0
      · have e : (a != 0) = false := by simp [c]
        clear ha hb
        go_wp2_with fail
        go_roundw
        case rel => exact ⟨1, by omega, by go_num, fun _ => c, fun h => absurd h (by omega), by first | rfl | exact trivial⟩
        case measure => simp [intOf]
      · have e : (a != 0) = true := by simp [c]
        have HE : Hid (orOf a b = a) := show _ = _ by rw [orOf, if_neg c]
        clear ha hb c
        go_wp2_with fail
        go_ret
        exact ⟨by rw [HE.out]; rfl, rfl⟩
    | 1, _ =>
      have ha' := ha (by omega)
      by_cases c : b = 0
      · have e : (b != 0) = false := by simp [c]
        clear ha hb
        go_wp2_with fail
        go_roundw
        case rel => exact ⟨2, by omega, by go_num, fun _ => ha', fun _ => c, by first | rfl | exact trivial⟩
        case measure => simp [intOf]
      · have e : (b != 0) = true := by simp [c]
        have HE : Hid (orOf a b = b) := show _ = _ by rw [orOf, if_pos ha']
        clear ha hb c ha'
        go_wp2_with fail
        go_ret
        exact ⟨by rw [HE.out]; rfl, rfl⟩
    | 2, _ =>
      have HE : Hid (orOf a b = 0) := show _ = _ by rw [orOf, if_pos (ha (by omega)), hb (by omega)]
      clear ha hb
      go_wp2_with fail
      go_ret
      exact ⟨by rw [HE.out]; rfl, rfl⟩

def cmpE (x1 x2 y1 y2 : Int) : Int := orOf (cmpI x1 y1) (cmpI x2 y2)

theorem cmpE_lt (x1 x2 y1 y2 : Int) : cmpE x1 x2 y1 y2 < 0 ↔ x1 < y1 ∨ x1 = y1 ∧ x2 < y2 := by
  unfold cmpE orOf cmpI
  repeat' split
  all_goals omega

set_option maxRecDepth 100000 in
set_option maxHeartbeats 1000000 in
theorem rises_any (x1 x2 y1 y2 : Int) (W : World) (q : Bool) (hq : q = true ↔ (x1 < y1 ∨ x1 = y1 ∧ x2 < y2)) :
    Calls Tryz.prog 125 #[.agg #[.int .i64 x1, .int .i64 x2], .agg #[.int .i64 y1, .int .i64 y2]] W fun e w' => e = .returned (.bool q) ∧ Below W.heap.size W w' := by
  have hc : decide (cmpE x1 x2 y1 y2 < 0) = q := by rw [Bool.eq_iff_iff, decide_eq_true_iff, cmpE_lt, hq]
  have hd : cmpE x1 x2 y1 y2 = orOf (cmpI x1 y1) (cmpI x2 y2) := rfl
  rw [hd] at hc
  clear hd hq
  have q := compare_any
  generalize cmpI = cf at q hc
  go_enter Tryz.func125, Tryz.ntmps125
  go_wp2_with fail
  generalize hW2 : (W.alloc (.cells #[.int .i64 x1, .int .i64 x2] 44)).alloc (.cells #[.int .i64 y1, .int .i64 y2] 44) = W2
  have hb2 : Below W.heap.size W W2 := by rw [← hW2]; exact ((Below.refl _ _).alloc (Nat.le_refl _) _).alloc (by simp) _
  have c1 : W2.cell? ⟨W.heap.size, 0, none⟩ = some (.int .i64 x1) := by rw [← hW2]; simp
  have c2 : W2.cell? ⟨W.heap.size, 1, none⟩ = some (.int .i64 x2) := by rw [← hW2]; simp
  have c3 : W2.cell? ⟨W.heap.size + 1, 0, none⟩ = some (.int .i64 y1) := by rw [← hW2]; simp
  have c4 : W2.cell? ⟨W.heap.size + 1, 1, none⟩ = some (.int .i64 y2) := by rw [← hW2]; simp
  have HB2 : Hid (Below W.heap.size W W2) := hb2
  clear hW2 hb2
  generalize W.heap.size + 1 = B2 at c3 c4 ⊢
  generalize W.heap.size = B1 at c1 c2 ⊢
  have hor : Calls Tryz.prog 66 #[.slice (some ⟨W2.heap.size, 0, none⟩) 2 2] (W2.alloc (.cells #[.int .i64 (cf x1 y1), .int .i64 (cf x2 y2)] 3)).drew fun e w' => e = .returned (.int .i64 (orOf (cf x1 y1) (cf x2 y2))) ∧ w' = (W2.alloc (.cells #[.int .i64 (cf x1 y1), .int .i64 (cf x2 y2)] 3)).drew := or_any (cf x1 y1) (cf x2 y2) _ (by simp) (by simp)
  go_region_held3 (fun V => V.cell? ⟨B1, 0, none⟩ = some (.int .i64 x1) ∧ V.cell? ⟨B1, 1, none⟩ = some (.int .i64 x2) ∧ V.cell? ⟨B2, 0, none⟩ = some (.int .i64 y1) ∧ V.cell? ⟨B2, 1, none⟩ = some (.int .i64 y2)) (first | (go_keep; done))
    (first
      | (go_at_call 66; refine hor.mono ?_; rintro e w1 ⟨rfl, rfl⟩)
      | (go_at_call 67; refine (q _ _ _).mono ?_; rintro e w1 ⟨rfl, rfl⟩))
  go_wp2_with fail
  go_ret
  exact ⟨by rw [← hc]; rfl, below_step HB2.out (below_box _ _).drew⟩

set_option maxRecDepth 100000 in
set_option maxHeartbeats 1000000 in
theorem right_any (n a b : Int) (w : World) (q : Bool) (hq : q = true ↔ (0 ≤ a ∧ a < b ∧ b < n)) :
    Calls Tryz.prog 124 #[.int .i64 n, .agg #[.int .i64 a, .int .i64 b]] w fun e w' => e = .returned (.bool q) ∧ Below w.heap.size w w' := by
  by_cases h1 : 0 ≤ a
  · by_cases h2 : a < b
    · by_cases h3 : b < n
      · obtain rfl := hq.2 ⟨h1, h2, h3⟩
        clear hq
        go_enter Tryz.func124, Tryz.ntmps124
        go_wp2_with fail
        go_ret
        exact ⟨rfl, below_box _ _⟩
      · obtain rfl : q = false := by rw [Bool.eq_false_iff]; exact fun h => h3 (hq.1 h).2.2
        clear hq
        go_enter Tryz.func124, Tryz.ntmps124
        go_wp2_with fail
        go_ret
        exact ⟨rfl, below_box _ _⟩
    · obtain rfl : q = false := by rw [Bool.eq_false_iff]; exact fun h => h2 (hq.1 h).2.1
      clear hq
      go_enter Tryz.func124, Tryz.ntmps124
      go_wp2_with fail
      go_ret
      exact ⟨rfl, below_box _ _⟩
  · obtain rfl : q = false := by rw [Bool.eq_false_iff]; exact fun h => h1 (hq.1 h).1
    clear hq
    go_enter Tryz.func124, Tryz.ntmps124
    go_wp2_with fail
    go_ret
    exact ⟨rfl, below_box _ _⟩

def errV (e : Int) : Value := if e = 0 then .nilIface else .iface 102 (.int .i64 e)

set_option maxRecDepth 100000 in
set_option maxHeartbeats 1000000 in
theorem check_any {a : Option Addr} {m c : Nat} (h : EgAt w a m f) (n : Int) :
    Calls Tryz.prog 89 #[.int .i64 n, .slice a m c] w fun e w' => ∃ (k : Nat) (x : Int), e = .returned (.tuple #[.int .i64 (k : Int), errV x]) ∧ EFault n m f k x ∧ Below w.heap.size w w' := by
  have HH : Hid (EgAt w a m f) := h
  clear h
  by_cases h1 : n < 1
  · go_enter Tryz.func89, Tryz.ntmps89
    go_wp2_with fail
    go_ret2
    exact ⟨0, 1, rfl, Or.inl ⟨Or.inl h1, rfl, rfl⟩, Below.refl _ _⟩
  by_cases h2 : 60 < n
  · go_enter Tryz.func89, Tryz.ntmps89
    go_wp2_with fail
    go_ret2
    exact ⟨0, 1, rfl, Or.inl ⟨Or.inr h2, rfl, rfl⟩, Below.refl _ _⟩
  by_cases h3 : 200 < (m : Int)
  · go_enter Tryz.func89, Tryz.ntmps89
    go_wp2_with fail
    go_ret2
    exact ⟨0, 3, rfl, Or.inr (Or.inl ⟨by omega, by omega, rfl, rfl⟩), Below.refl _ _⟩
  go_enter Tryz.func89, Tryz.ntmps89
  go_wp2_with fail
  go_loopw [6, 7, 21] (fun _ _ i wr => ∃ j : Nat, j ≤ m ∧ i = .int .i64 (j : Nat) ∧ Below w.heap.size w wr ∧ ∀ i, i < j → May n.toNat f i) (fun _ _ i _ => m - (intOf i).toNat)
  case atStart => exact ⟨0, Nat.zero_le _, rfl, Below.refl _ _, fun i hi => absurd hi (Nat.not_lt_zero _)⟩
  case round =>
    obtain ⟨j, hj, rfl, hb, hall⟩ := hrel
    have HA : Hid (∀ i, i < j → May n.toNat f i) := hall
    have HB : Hid (Below w.heap.size w wr) := hb
    have HN : Hid ((1 ≤ n ∧ n ≤ 60) ∧ m ≤ 200 ∧ ((n.toNat : Nat) : Int) = n) := ⟨by omega, by omega, by omega⟩
    clear hall
    by_cases hlt : j < m
    · obtain ⟨b, o, rfl, c1, c2⟩ := HH.out.below hb j hlt
      have i0 : (0 : Int) ≤ (j : Int) := by omega
      have i1 : (j : Int) < (m : Int) := by omega
      obtain ⟨q1, hq1⟩ : ∃ q : Bool, q = true ↔ Sane n.toNat f j := ⟨@decide (Sane n.toNat f j) (Classical.propDecidable _), by simp⟩
      have hr := fun W => right_any n (f j).1 (f j).2 W q1 (by rw [hq1]; unfold Sane; rw [HN.out.2.2])
      have HQ1 : Hid (q1 = true ↔ Sane n.toNat f j) := hq1
      obtain ⟨q2, hq2⟩ : ∃ q : Bool, q = true ↔ ((f (j - 1)).1 < (f j).1 ∨ (f (j - 1)).1 = (f j).1 ∧ (f (j - 1)).2 < (f j).2) := ⟨decide ((f (j - 1)).1 < (f j).1 ∨ (f (j - 1)).1 = (f j).1 ∧ (f (j - 1)).2 < (f j).2), by simp⟩
      have hs := fun W => rises_any (f (j - 1)).1 (f (j - 1)).2 (f j).1 (f j).2 W q2 hq2
      have HQ2 : Hid (q2 = true ↔ ((f (j - 1)).1 < (f j).1 ∨ (f (j - 1)).1 = (f j).1 ∧ (f (j - 1)).2 < (f j).2)) := hq2
      clear hq1 hq2
      cases q1 with
      | false =>
        have HF : Hid (EFault n m f j 1) := Or.inr (Or.inr (Or.inl ⟨HN.out.1, HN.out.2.1, hlt, HA.out, Or.inl ⟨fun q => absurd (HQ1.out.2 q) (by decide), rfl⟩⟩))
        generalize (f j).1 = x1 at *
        generalize (f j).2 = x2 at *
        clear hb hs
        go_wp2_with fail
        refine (hr _).mono ?_
        rintro e w1 ⟨rfl, hb1⟩
        go_wp2_with fail
        go_ret2
        refine ⟨j, 1, rfl, HF.out, ?_⟩
        have hs := HB.out.size
        have hs1 := hb1.size
        exact (HB.out.alloc hs _).trans (hb1.mono (by simp; omega))
      | true =>
        have HS : Hid (Sane n.toNat f j) := HQ1.out.1 rfl
        rcases Nat.eq_zero_or_pos j with h0 | h0
        · have HM : Hid (∀ i, i < j + 1 → May n.toNat f i) := fun i hi => by
            obtain rfl : i = j := by omega
            exact ⟨HS.out, fun q => absurd q (by omega)⟩
          have hz : ¬ (0 : Int) < (j : Int) := by omega
          have hz' : decide ((0 : Int) < (j : Int)) = false := by simp [h0]
          have hz2 : ¬ 0 < j := by omega
          have hz3 : decide (0 < j) = false := by simp [h0]
          have HJ : Hid (j = 0) := h0
          clear hs HQ2 h0
          generalize (f j).1 = x1 at *
          generalize (f j).2 = x2 at *
          clear hb
          go_wp2_with fail
          refine (hr _).mono ?_
          rintro e w1 ⟨rfl, hb1⟩
          have HB1 : Hid (Below w.heap.size w w1) := below_step HB.out (below_step (below_box _ _) hb1)
          clear hb1
          go_wp2_with fail
          go_quiet (fail)
          go_wp2_with fail
          go_roundw
          case rel => exact ⟨j + 1, by omega, by go_num, below_step HB1.out (below_drewN rfl), HM.out⟩
          case measure => simp [intOf]; omega
        · obtain ⟨i, hi⟩ : ∃ i, j - 1 = i := ⟨_, rfl⟩
          rw [hi] at hs HQ2
          obtain ⟨b', o', e', d1, d2⟩ := HH.out.below hb i (by omega)
          simp only [Option.some.injEq, Addr.mk.injEq, and_true] at e'
          obtain ⟨rfl, rfl⟩ := e'
          have HC : Hid (q2 = true ↔ Climbs f j) := show _ ↔ _ by
            rw [HQ2.out]
            unfold Climbs
            rw [hi]
            exact ⟨fun q _ => q, fun q => q h0⟩
          have hz : (0 : Int) < (j : Int) := by omega
          have hz3 : decide (0 < j) = true := by simp [h0]
          have j1 : (j : Int) - 1 = (i : Int) := by omega
          have j2 : IntKind.i64.wrap (i : Int) = (i : Int) := by rw [IntKind.wrap_i64]; omega
          have i2 : (0 : Int) ≤ (i : Int) := by omega
          have i3 : (i : Int) < (m : Int) := by omega
          clear hi HQ2
          generalize (f j).1 = x1 at *
          generalize (f j).2 = x2 at *
          generalize (f i).1 = z1 at *
          generalize (f i).2 = z2 at *
          clear hb
          go_wp2_with fail
          refine (hr _).mono ?_
          rintro e w1 ⟨rfl, hb1⟩
          have HB1 : Hid (Below w.heap.size w w1) := below_step HB.out (below_step (below_box _ _) hb1)
          have hk : Below wr.heap.size wr w1 := below_step (below_box _ _) hb1
          have k1 := cell_keep hk d1
          have k2 := cell_keep hk d2
          have k3 : w1.cell? ⟨wr.heap.size, 0, none⟩ = some (.int .i64 x1) := cell_keep hb1 (by simp)
          have k4 : w1.cell? ⟨wr.heap.size, 1, none⟩ = some (.int .i64 x2) := cell_keep hb1 (by simp)
          clear hb1 hk c1 c2 d1 d2 hr
          generalize wr.heap.size = B at k3 k4 ⊢
          cases q2 with
          | false =>
            have HF : Hid (EFault n m f j 2) := Or.inr (Or.inr (Or.inl ⟨HN.out.1, HN.out.2.1, hlt, HA.out, Or.inr ⟨HS.out, fun q => absurd (HC.out.2 q) (by decide), rfl⟩⟩))
            go_wp2_with fail
            go_region_held3 (fun V => V.cell? ⟨b, o + i * 2, none⟩ = some (.int .i64 z1) ∧ V.cell? ⟨b, o + i * 2 + 1, none⟩ = some (.int .i64 z2) ∧ V.cell? ⟨B, 0, none⟩ = some (.int .i64 x1) ∧ V.cell? ⟨B, 1, none⟩ = some (.int .i64 x2)) (first | (go_keep; done) | exact ⟨cell_keep hb2 k1, cell_keep hb2 k2, cell_keep hb2 k3, cell_keep hb2 k4⟩)
              (first | (go_at_call 125; refine (hs w1.drew).mono ?_; rintro e w2 ⟨rfl, hb2⟩; replace hb2 : Below w1.heap.size w1 w2 := below_step (Below.refl _ _).drew hb2))
            go_wp2_with fail
            go_ret2
            exact ⟨j, 2, rfl, HF.out, below_step HB1.out hb2⟩
          | true =>
            have HM : Hid (∀ i, i < j + 1 → May n.toNat f i) := fun k hk => by
              rcases Nat.lt_or_ge k j with q | q
              · exact HA.out k q
              · obtain rfl : k = j := by omega
                exact ⟨HS.out, HC.out.1 rfl⟩
            go_wp2_with fail
            go_region_held3 (fun V => V.cell? ⟨b, o + i * 2, none⟩ = some (.int .i64 z1) ∧ V.cell? ⟨b, o + i * 2 + 1, none⟩ = some (.int .i64 z2) ∧ V.cell? ⟨B, 0, none⟩ = some (.int .i64 x1) ∧ V.cell? ⟨B, 1, none⟩ = some (.int .i64 x2)) (first | (go_keep; done) | exact ⟨cell_keep hb2 k1, cell_keep hb2 k2, cell_keep hb2 k3, cell_keep hb2 k4⟩)
              (first | (go_at_call 125; refine (hs w1.drew).mono ?_; rintro e w2 ⟨rfl, hb2⟩; replace hb2 : Below w1.heap.size w1 w2 := below_step (Below.refl _ _).drew hb2))
            have HB2 : Hid (Below w.heap.size w w2) := below_step HB1.out hb2
            clear hb2
            go_wp2_with fail
            go_roundw
            case rel => exact ⟨j + 1, by omega, by go_num, HB2.out, HM.out⟩
            case measure => simp [intOf]; omega
    · have HE : Hid (EFault n m f 0 0) := Or.inr (Or.inr (Or.inr ⟨HN.out.1, HN.out.2.1, fun i hi => HA.out i (by omega), rfl, rfl⟩))
      go_wp2_with fail
      go_ret2
      exact ⟨0, 0, rfl, HE.out, HB.out⟩

end Go.Proofs.YtcfemppdeidjmacGreat.Br

namespace Go.Proofs.YtcfemppdeidjmacGreat.Br
open Go.RowKit Go.Deep
open Go.RowKit (Below)
set_option linter.unusedVariables false

variable {w w' : World} {kw kn n a : Nat} {V : Nat → Value} {nb : Nat → List Nat} {s s' : St}

def cells2 (kn n T : Nat) : Nat → Value := fun i => if i = 0 then .slice (some ⟨kn, 0, none⟩) n n else .int .i64 (T : Nat)

structure Node (V : Nat → Value) (s : St) (g : Nat → Value) (i : Nat) : Prop where
  near : g (i * 6) = V i
  fr : g (i * 6 + 1) = .int .i64 (s.fr i)
  least : g (i * 6 + 2) = .int .i64 (s.least i : Nat)
  turn : g (i * 6 + 3) = .int .i64 (s.turn i : Nat)
  back : g (i * 6 + 4) = .int .i64 (s.back i : Nat)
  pieces : g (i * 6 + 5) = .int .i64 (s.pieces i : Nat)

structure WAt (w : World) (kw kn n : Nat) (V : Nat → Value) (nb : Nat → List Nat) (s : St) : Prop where
  st : w.rowIs kw 162 2 (cells2 kn n s.T)
  nd : ∃ g, w.rowIs kn 101 (n * 6) g ∧ ∀ i, i < n → Node V s g i
  ne : kw ≠ kn
  near : ∀ i, i < n → ∃ b c, V i = .slice b (nb i).length c ∧ IntsAt w b (nb i).length (nb i) ∧ ∀ p, b = some p → p.block ≠ kw ∧ p.block ≠ kn

theorem ints_set {b : Option Addr} {m : Nat} {l : List Nat} (h : IntsAt w b m l) {q : Addr} (hb : ∀ p, b = some p → p.block ≠ q.block) (v : Value) : IntsAt (w.setCell q v) b m l := ⟨h.len, fun i hi => by
  obtain ⟨k, o, e, c⟩ := h.cell i hi
  refine ⟨k, o, e, ?_⟩
  rw [World.cell?_of_block (w := w) (a := ⟨k, o + i, none⟩) (blk_setCell_other _ _ _ _ (hb ⟨k, o, none⟩ e))]
  exact c⟩

section

theorem WAt.w0 (h : WAt w kw kn n V nb s) : w.cell? ⟨kw, 0, none⟩ = some (.slice (some ⟨kn, 0, none⟩) n n) := h.st.cell (i := 0) (by omega)
theorem WAt.w1 (h : WAt w kw kn n V nb s) : w.cell? ⟨kw, 1, none⟩ = some (.int .i64 (s.T : Nat)) := h.st.cell (i := 1) (by omega)
theorem WAt.f0 (h : WAt w kw kn n V nb s) (ha : a < n) : w.cell? ⟨kn, a * 6, none⟩ = some (V a) := by
  obtain ⟨g, h1, h2⟩ := h.nd; rw [h1.cell (i := a * 6) (by omega), (h2 a ha).near]
theorem WAt.f1 (h : WAt w kw kn n V nb s) (ha : a < n) : w.cell? ⟨kn, a * 6 + 1, none⟩ = some (.int .i64 (s.fr a)) := by
  obtain ⟨g, h1, h2⟩ := h.nd; rw [h1.cell (i := a * 6 + 1) (by omega), (h2 a ha).fr]
theorem WAt.f2 (h : WAt w kw kn n V nb s) (ha : a < n) : w.cell? ⟨kn, a * 6 + 2, none⟩ = some (.int .i64 (s.least a : Nat)) := by
  obtain ⟨g, h1, h2⟩ := h.nd; rw [h1.cell (i := a * 6 + 2) (by omega), (h2 a ha).least]
theorem WAt.f3 (h : WAt w kw kn n V nb s) (ha : a < n) : w.cell? ⟨kn, a * 6 + 3, none⟩ = some (.int .i64 (s.turn a : Nat)) := by
  obtain ⟨g, h1, h2⟩ := h.nd; rw [h1.cell (i := a * 6 + 3) (by omega), (h2 a ha).turn]
theorem WAt.f4 (h : WAt w kw kn n V nb s) (ha : a < n) : w.cell? ⟨kn, a * 6 + 4, none⟩ = some (.int .i64 (s.back a : Nat)) := by
  obtain ⟨g, h1, h2⟩ := h.nd; rw [h1.cell (i := a * 6 + 4) (by omega), (h2 a ha).back]
theorem WAt.f5 (h : WAt w kw kn n V nb s) (ha : a < n) : w.cell? ⟨kn, a * 6 + 5, none⟩ = some (.int .i64 (s.pieces a : Nat)) := by
  obtain ⟨g, h1, h2⟩ := h.nd; rw [h1.cell (i := a * 6 + 5) (by omega), (h2 a ha).pieces]
theorem WAt.fz (h : WAt w kw kn n V nb s) (i : Nat) : w.frozen? ⟨kn, i, none⟩ = false := by
  obtain ⟨g, h1, h2⟩ := h.nd; exact h1.frozen i
theorem WAt.wz (h : WAt w kw kn n V nb s) (i : Nat) : w.frozen? ⟨kw, i, none⟩ = false := h.st.frozen i

theorem WAt.set (h : WAt w kw kn n V nb s) (j : Nat) (v : Value) (hT : s'.T = s.T) (hs : ∀ g, (∀ i, i < n → Node V s g i) → ∀ i, i < n → Node V s' (fun k => if k = j then v else g k) i) : WAt (w.setCell ⟨kn, j, none⟩ v) kw kn n V nb s' := by
  obtain ⟨g, h1, h2⟩ := h.nd
  refine ⟨by rw [hT]; exact h.st.setOther (a := ⟨kn, j, none⟩) (by exact h.ne) _, ⟨_, h1.set j v, hs g h2⟩, h.ne, fun i hi => ?_⟩
  obtain ⟨b, c, e1, e2, e3⟩ := h.near i hi
  exact ⟨b, c, e1, ints_set e2 (fun p hp => (e3 p hp).2) _, e3⟩

theorem WAt.set1 (h : WAt w kw kn n V nb s) (x : Int) : WAt (w.setCell ⟨kn, a * 6 + 1, none⟩ (.int .i64 x)) kw kn n V nb { s with fr := upd s.fr a x } := h.set _ _ rfl fun g hg i hi => by
  have q := hg i hi
  refine ⟨by simp only [if_neg (show i * 6 ≠ a * 6 + 1 by omega)]; exact q.near, ?_, by simp only [if_neg (show i * 6 + 2 ≠ a * 6 + 1 by omega)]; exact q.least, by simp only [if_neg (show i * 6 + 3 ≠ a * 6 + 1 by omega)]; exact q.turn, by simp only [if_neg (show i * 6 + 4 ≠ a * 6 + 1 by omega)]; exact q.back, by simp only [if_neg (show i * 6 + 5 ≠ a * 6 + 1 by omega)]; exact q.pieces⟩
  by_cases e : i = a
  · subst e; simp [upd_self]
  · simp only [if_neg (show i * 6 + 1 ≠ a * 6 + 1 by omega), upd_ne _ _ e]; exact q.fr
theorem WAt.set2 (h : WAt w kw kn n V nb s) (x : Nat) : WAt (w.setCell ⟨kn, a * 6 + 2, none⟩ (.int .i64 (x : Nat))) kw kn n V nb { s with least := upd s.least a x } := h.set _ _ rfl fun g hg i hi => by
  have q := hg i hi
  refine ⟨by simp only [if_neg (show i * 6 ≠ a * 6 + 2 by omega)]; exact q.near, by simp only [if_neg (show i * 6 + 1 ≠ a * 6 + 2 by omega)]; exact q.fr, ?_, by simp only [if_neg (show i * 6 + 3 ≠ a * 6 + 2 by omega)]; exact q.turn, by simp only [if_neg (show i * 6 + 4 ≠ a * 6 + 2 by omega)]; exact q.back, by simp only [if_neg (show i * 6 + 5 ≠ a * 6 + 2 by omega)]; exact q.pieces⟩
  by_cases e : i = a
  · subst e; simp [upd_self]
  · simp only [if_neg (show i * 6 + 2 ≠ a * 6 + 2 by omega), upd_ne _ _ e]; exact q.least
theorem WAt.set3 (h : WAt w kw kn n V nb s) (x : Nat) : WAt (w.setCell ⟨kn, a * 6 + 3, none⟩ (.int .i64 (x : Nat))) kw kn n V nb { s with turn := upd s.turn a x } := h.set _ _ rfl fun g hg i hi => by
  have q := hg i hi
  refine ⟨by simp only [if_neg (show i * 6 ≠ a * 6 + 3 by omega)]; exact q.near, by simp only [if_neg (show i * 6 + 1 ≠ a * 6 + 3 by omega)]; exact q.fr, by simp only [if_neg (show i * 6 + 2 ≠ a * 6 + 3 by omega)]; exact q.least, ?_, by simp only [if_neg (show i * 6 + 4 ≠ a * 6 + 3 by omega)]; exact q.back, by simp only [if_neg (show i * 6 + 5 ≠ a * 6 + 3 by omega)]; exact q.pieces⟩
  by_cases e : i = a
  · subst e; simp [upd_self]
  · simp only [if_neg (show i * 6 + 3 ≠ a * 6 + 3 by omega), upd_ne _ _ e]; exact q.turn
theorem WAt.set4 (h : WAt w kw kn n V nb s) (x : Nat) : WAt (w.setCell ⟨kn, a * 6 + 4, none⟩ (.int .i64 (x : Nat))) kw kn n V nb { s with back := upd s.back a x } := h.set _ _ rfl fun g hg i hi => by
  have q := hg i hi
  refine ⟨by simp only [if_neg (show i * 6 ≠ a * 6 + 4 by omega)]; exact q.near, by simp only [if_neg (show i * 6 + 1 ≠ a * 6 + 4 by omega)]; exact q.fr, by simp only [if_neg (show i * 6 + 2 ≠ a * 6 + 4 by omega)]; exact q.least, by simp only [if_neg (show i * 6 + 3 ≠ a * 6 + 4 by omega)]; exact q.turn, ?_, by simp only [if_neg (show i * 6 + 5 ≠ a * 6 + 4 by omega)]; exact q.pieces⟩
  by_cases e : i = a
  · subst e; simp [upd_self]
  · simp only [if_neg (show i * 6 + 4 ≠ a * 6 + 4 by omega), upd_ne _ _ e]; exact q.back
theorem WAt.set5 (h : WAt w kw kn n V nb s) (x : Nat) : WAt (w.setCell ⟨kn, a * 6 + 5, none⟩ (.int .i64 (x : Nat))) kw kn n V nb { s with pieces := upd s.pieces a x } := h.set _ _ rfl fun g hg i hi => by
  have q := hg i hi
  refine ⟨by simp only [if_neg (show i * 6 ≠ a * 6 + 5 by omega)]; exact q.near, by simp only [if_neg (show i * 6 + 1 ≠ a * 6 + 5 by omega)]; exact q.fr, by simp only [if_neg (show i * 6 + 2 ≠ a * 6 + 5 by omega)]; exact q.least, by simp only [if_neg (show i * 6 + 3 ≠ a * 6 + 5 by omega)]; exact q.turn, by simp only [if_neg (show i * 6 + 4 ≠ a * 6 + 5 by omega)]; exact q.back, ?_⟩
  by_cases e : i = a
  · subst e; simp [upd_self]
  · simp only [if_neg (show i * 6 + 5 ≠ a * 6 + 5 by omega), upd_ne _ _ e]; exact q.pieces
theorem WAt.setT (h : WAt w kw kn n V nb s) (x : Nat) : WAt (w.setCell ⟨kw, 1, none⟩ (.int .i64 (x : Nat))) kw kn n V nb { s with T := x } := by
  obtain ⟨g, h1, h2⟩ := h.nd
  refine ⟨(h.st.set 1 _).congr fun i hi => ?_, ⟨g, h1.setOther (a := ⟨kw, 1, none⟩) (fun e => h.ne e.symm) _, fun i hi => ⟨(h2 i hi).near, (h2 i hi).fr, (h2 i hi).least, (h2 i hi).turn, (h2 i hi).back, (h2 i hi).pieces⟩⟩, h.ne, fun i hi => ?_⟩
  · unfold cells2
    have : i = 0 ∨ i = 1 := by omega
    rcases this with rfl | rfl <;> rfl
  · obtain ⟨b, c, e1, e2, e3⟩ := h.near i hi
    exact ⟨b, c, e1, ints_set e2 (fun p hp => (e3 p hp).1) _, e3⟩

theorem WAt.as (h : WAt w kw kn n V nb s) (h1 : ∀ i, i < n → s'.turn i = s.turn i ∧ s'.fr i = s.fr i ∧ s'.least i = s.least i ∧ s'.back i = s.back i ∧ s'.pieces i = s.pieces i) (hT : s'.T = s.T) : WAt w kw kn n V nb s' := by
  obtain ⟨g, q1, q2⟩ := h.nd
  refine ⟨by rw [hT]; exact h.st, ⟨g, q1, fun i hi => ?_⟩, h.ne, h.near⟩
  obtain ⟨e1, e2, e3, e4, e5⟩ := h1 i hi
  have q := q2 i hi
  exact ⟨q.near, by rw [e2]; exact q.fr, by rw [e3]; exact q.least, by rw [e1]; exact q.turn, by rw [e4]; exact q.back, by rw [e5]; exact q.pieces⟩

theorem WAt.drewN (h : WAt w kw kn n V nb s) (q : Nat) (e : w' = w.drewN q) : WAt w' kw kn n V nb s := by
  have hb := below_drewN e
  obtain ⟨g, q1, q2⟩ := h.nd
  refine ⟨h.st.of_block (hb.block _ h.st.lt), ⟨g, q1.of_block (hb.block _ q1.lt), q2⟩, h.ne, fun i hi => ?_⟩
  obtain ⟨b, c, e1, e2, e3⟩ := h.near i hi
  exact ⟨b, c, e1, e2.below hb, e3⟩

end

set_option maxRecDepth 100000 in
set_option maxHeartbeats 2000000 in
theorem arrive_root {base : Nat} (h : WAt w kw kn n V nb s) (hbw : base ≤ kw) (hbn : base ≤ kn) (ha : a < n) (hT : s.T < n) (hn : n ≤ 60) (hz : s.pieces a = 0) :
    Calls Tryz.prog 128 #[.pointer (some ⟨kw, 0, none⟩), .int .i64 (a : Nat), .int .i64 (-1)] w fun e w' => e = .returned (.tuple #[]) ∧ WAt w' kw kn n V nb (arrived s a [] a) ∧ Below base w w' := by
  have i0 : (0 : Int) ≤ (a : Int) := by omega
  have i1 : (a : Int) < (n : Int) := by omega
  have c0 := h.w0
  have c1 := h.w1
  have z1 := h.wz
  have hw1 : IntKind.i64.wrap ((s.T : Nat) + 1 : Int) = ((s.T + 1 : Nat) : Int) := by rw [IntKind.wrap_i64]; omega
  have HT := h.setT (s.T + 1)
  obtain ⟨t, ht⟩ : ∃ t, s.T + 1 = t := ⟨_, rfl⟩
  rw [ht] at hw1 HT
  have Hb : Hid (Below base w (w.setCell ⟨kw, 1, none⟩ (.int .i64 (t : Nat)))) := Below.setCell (Below.refl _ _) hbw _
  clear h hT
  go_enter Tryz.func128, Tryz.ntmps128
  go_wp2_with fail
  clear c0 c1 z1 hw1
  generalize w.setCell ⟨kw, 1, none⟩ (.int .i64 (t : Nat)) = W at HT Hb ⊢
  have c0 := HT.w0
  have c1 : W.cell? ⟨kw, 1, none⟩ = some (.int .i64 (t : Nat)) := HT.w1
  have d1 := HT.f1 ha
  have d2 := HT.f2 ha
  have d3 := HT.f3 ha
  have d4 := HT.f4 ha
  have z0 := HT.fz
  have n1 := HT.ne
  have n2 := HT.ne.symm
  have H4 := ((((HT.set1 (a := a) (-1)).set2 (a := a) a).set3 (a := a) t).set4 (a := a) t).drewN 1 rfl
  have Hb4 : Hid (Below base w ((((W.setCell ⟨kn, a * 6 + 1, none⟩ (.int .i64 (-1))).setCell ⟨kn, a * 6 + 2, none⟩ (.int .i64 (a : Nat))).setCell ⟨kn, a * 6 + 3, none⟩ (.int .i64 (t : Nat))).setCell ⟨kn, a * 6 + 4, none⟩ (.int .i64 (t : Nat))).drew) := ((((Hb.out.setCell hbn _).setCell hbn _).setCell hbn _).setCell hbn _).drew
  clear HT Hb
  go_region
  clear c0 c1 d1 d2 d3 d4 z0
  have H5 : WAt ((((W.setCell ⟨kn, a * 6 + 1, none⟩ (.int .i64 (-1))).setCell ⟨kn, a * 6 + 2, none⟩ (.int .i64 (a : Nat))).setCell ⟨kn, a * 6 + 3, none⟩ (.int .i64 (t : Nat))).setCell ⟨kn, a * 6 + 4, none⟩ (.int .i64 (t : Nat))).drew kw kn n V nb _ := H4
  clear H4
  generalize ((((W.setCell ⟨kn, a * 6 + 1, none⟩ (.int .i64 (-1))).setCell ⟨kn, a * 6 + 2, none⟩ (.int .i64 (a : Nat))).setCell ⟨kn, a * 6 + 3, none⟩ (.int .i64 (t : Nat))).setCell ⟨kn, a * 6 + 4, none⟩ (.int .i64 (t : Nat))).drew = W2 at H5 Hb4 ⊢
  have H6 : Hid (WAt W2 kw kn n V nb (arrived s a [] a)) := H5.as (fun i hi => by
    refine ⟨by rw [← ht]; rfl, rfl, rfl, by rw [← ht]; rfl, ?_⟩
    show upd s.pieces a _ i = s.pieces i
    by_cases e : i = a
    · subst e; rw [upd_self, hz]; rfl
    · exact upd_ne _ _ e) (by rw [← ht]; rfl)
  clear H5
  go_wp2_with fail
  go_end0
  exact ⟨rfl, H6.out, Hb4.out⟩

set_option maxRecDepth 100000 in
set_option maxHeartbeats 2000000 in
theorem arrive_on {base k : Nat} {A : List Nat} (h : WAt w kw kn n V nb s) (hbw : base ≤ kw) (hbn : base ≤ kn) (ha : a < n) (hk : k < n) (hka : k ≠ a) (hT : s.T < n) (hn : n ≤ 60) :
    Calls Tryz.prog 128 #[.pointer (some ⟨kw, 0, none⟩), .int .i64 (a : Nat), .int .i64 (k : Nat)] w fun e w' => e = .returned (.tuple #[]) ∧ WAt w' kw kn n V nb (arrived s a (k :: A) (s.least k)) ∧ Below base w w' := by
  have i0 : (0 : Int) ≤ (a : Int) := by omega
  have i1 : (a : Int) < (n : Int) := by omega
  have c0 := h.w0
  have c1 := h.w1
  have z1 := h.wz
  have hw1 : IntKind.i64.wrap ((s.T : Nat) + 1 : Int) = ((s.T + 1 : Nat) : Int) := by rw [IntKind.wrap_i64]; omega
  have HT := h.setT (s.T + 1)
  obtain ⟨t, ht⟩ : ∃ t, s.T + 1 = t := ⟨_, rfl⟩
  rw [ht] at hw1 HT
  have Hb : Hid (Below base w (w.setCell ⟨kw, 1, none⟩ (.int .i64 (t : Nat)))) := Below.setCell (Below.refl _ _) hbw _
  clear h hT
  go_enter Tryz.func128, Tryz.ntmps128
  go_wp2_with fail
  clear c0 c1 z1 hw1
  generalize w.setCell ⟨kw, 1, none⟩ (.int .i64 (t : Nat)) = W at HT Hb ⊢
  have c0 := HT.w0
  have c1 : W.cell? ⟨kw, 1, none⟩ = some (.int .i64 (t : Nat)) := HT.w1
  have d1 := HT.f1 ha
  have d2 := HT.f2 ha
  have d3 := HT.f3 ha
  have d4 := HT.f4 ha
  have z0 := HT.fz
  have n1 := HT.ne
  have n2 := HT.ne.symm
  have H4 := ((((HT.set1 (a := a) ((k : Nat))).set2 (a := a) a).set3 (a := a) t).set4 (a := a) t).drewN 1 rfl
  have Hb4 : Hid (Below base w ((((W.setCell ⟨kn, a * 6 + 1, none⟩ (.int .i64 ((k : Nat)))).setCell ⟨kn, a * 6 + 2, none⟩ (.int .i64 (a : Nat))).setCell ⟨kn, a * 6 + 3, none⟩ (.int .i64 (t : Nat))).setCell ⟨kn, a * 6 + 4, none⟩ (.int .i64 (t : Nat))).drew) := ((((Hb.out.setCell hbn _).setCell hbn _).setCell hbn _).setCell hbn _).drew
  clear HT Hb
  go_region
  clear c0 c1 d1 d2 d3 d4 z0
  have H5 : WAt ((((W.setCell ⟨kn, a * 6 + 1, none⟩ (.int .i64 ((k : Nat)))).setCell ⟨kn, a * 6 + 2, none⟩ (.int .i64 (a : Nat))).setCell ⟨kn, a * 6 + 3, none⟩ (.int .i64 (t : Nat))).setCell ⟨kn, a * 6 + 4, none⟩ (.int .i64 (t : Nat))).drew kw kn n V nb _ := H4
  clear H4
  generalize ((((W.setCell ⟨kn, a * 6 + 1, none⟩ (.int .i64 ((k : Nat)))).setCell ⟨kn, a * 6 + 2, none⟩ (.int .i64 (a : Nat))).setCell ⟨kn, a * 6 + 3, none⟩ (.int .i64 (t : Nat))).setCell ⟨kn, a * 6 + 4, none⟩ (.int .i64 (t : Nat))).drew = W2 at H5 Hb4 ⊢
  have i2 : (0 : Int) ≤ (k : Int) := by omega
  have i3 : (k : Int) < (n : Int) := by omega
  have t1 : ((k : Int) != -1) = true := by simp
  have c0 := H5.w0
  have d2 : W2.cell? ⟨kn, k * 6 + 2, none⟩ = some (.int .i64 (s.least k : Nat)) := by rw [H5.f2 hk]; show some (Value.int .i64 ((upd s.least a a k : Nat) : Int)) = _; rw [upd_ne _ _ hka]
  have d2' := H5.f2 ha
  have d5 := H5.f5 ha
  have z0 := H5.fz
  have HS := (H5.set2 (a := a) (s.least k)).set5 (a := a) 1
  have Hb6 : Hid (Below base w ((W2.setCell ⟨kn, a * 6 + 2, none⟩ (.int .i64 (s.least k : Nat))).setCell ⟨kn, a * 6 + 5, none⟩ (.int .i64 ((1 : Nat) : Int)))) := (Hb4.out.setCell hbn _).setCell hbn _
  have H6 : Hid (WAt ((W2.setCell ⟨kn, a * 6 + 2, none⟩ (.int .i64 (s.least k : Nat))).setCell ⟨kn, a * 6 + 5, none⟩ (.int .i64 ((1 : Nat) : Int))) kw kn n V nb (arrived s a (k :: A) (s.least k))) := HS.as (fun i hi => by
    refine ⟨by rw [← ht]; rfl, rfl, ?_, by rw [← ht]; rfl, ?_⟩
    · show upd s.least a (s.least k) i = upd (upd s.least a a) a (s.least k) i
      by_cases e : i = a
      · subst e; rw [upd_self, upd_self]
      · rw [upd_ne _ _ e, upd_ne _ _ e, upd_ne _ _ e]
    · show upd s.pieces a (if ((k : Nat) : Int) = -1 then 0 else 1) i = upd s.pieces a 1 i
      rw [if_neg (by omega)]) (by rw [← ht]; rfl)
  clear H5 HS Hb4
  go_wp2_with fail
  go_end0
  exact ⟨rfl, H6.out, Hb6.out⟩

end Go.Proofs.YtcfemppdeidjmacGreat.Br

namespace Go.Proofs.YtcfemppdeidjmacGreat.Br
open Go.RowKit Go.Deep
open Go.RowKit (Below)
set_option linter.unusedVariables false

variable {w w' : World} {kw kn n a base : Nat} {V : Nat → Value} {nb : Nat → List Nat} {s s' : St} {E : List (Nat × Nat)} {A : List Nat} {L : Nat}

structure Near (E : List (Nat × Nat)) (n : Nat) (nb : Nat → List Nat) : Prop where
  adj : ∀ a y, Adj E a y ↔ y ∈ nb a
  lt : ∀ a y, y ∈ nb a → a < n ∧ y < n
  few : ∀ a, (nb a).length ≤ 200

theorem arrive_any (h : WAt w kw kn n V nb s) (hI : Inv E n s A) (hbw : base ≤ kw) (hbn : base ≤ kn) (ha : a < n) (h0 : s.turn a = 0) (hL : (A = [] ∧ L = a) ∨ ∃ k A', A = k :: A' ∧ L = s.least k) (hn : n ≤ 60) :
    Calls Tryz.prog 128 #[.pointer (some ⟨kw, 0, none⟩), .int .i64 (a : Nat), .int .i64 (frOf A)] w fun e w' => e = .returned (.tuple #[]) ∧ WAt w' kw kn n V nb (arrived s a A L) ∧ Below base w w' := by
  have hT : s.T < n := by
    have h1 := hI.sum
    have h2 := free_one (n := n) (t := s.turn) ha h0 (v := 1) (by omega)
    omega
  rcases hL with ⟨rfl, rfl⟩ | ⟨k, A', rfl, rfl⟩
  · exact arrive_root h hbw hbn ha hT hn (hI.zero _ h0)
  · have hk := hI.act k List.mem_cons_self
    exact arrive_on h hbw hbn ha (hI.lt k hk) (fun e => by subst e; omega) hT hn

set_option maxRecDepth 100000 in
set_option maxHeartbeats 2000000 in
theorem walk_any (hN : Near E n nb) (hn : n ≤ 60) (hbw : base ≤ kw) (hbn : base ≤ kn) : ∀ (m : Nat) {w : World} {s : St} {A : List Nat} {a L : Nat}, n - s.T ≤ m → WAt w kw kn n V nb s → Inv E n s A → a < n → s.turn a = 0 → ((A = [] ∧ L = a) ∨ ∃ k A', A = k :: A' ∧ L = s.least k ∧ Adj E a k) →
    Calls Tryz.prog 95 #[.pointer (some ⟨kw, 0, none⟩), .int .i64 (a : Nat), .int .i64 (frOf A)] w fun e w' => e = .returned (.tuple #[]) ∧ ∃ s', WAt w' kw kn n V nb s' ∧ Walked E n s s' a A L ∧ Below base w w' := by
  intro m
  induction m with
  | zero =>
    intro w s A a L hm h hI ha h0 hA
    exfalso
    have h1 := hI.sum
    have h2 := free_one (n := n) (t := s.turn) ha h0 (v := 1) (by omega)
    omega
  | succ m ih =>
  intro w s A a L hm h hI ha h0 hA
  have har := arrive_any (L := L) h hI hbw hbn ha h0 (hA.imp id fun ⟨k, A', h1, h2, _⟩ => ⟨k, A', h1, h2⟩) hn
  have HM : Hid (Mid E n s (arrived s a A L) a A [] L) := mid_start hI ha h0 (fun k hk => by
    rcases hA with ⟨rfl, _⟩ | ⟨k', A', rfl, _, h3⟩
    · cases hk
    · cases hk; exact h3)
  have HN : Hid (Near E n nb) := hN
  have HI : Hid (∀ {w : World} {s : St} {A : List Nat} {a L : Nat}, n - s.T ≤ m → WAt w kw kn n V nb s → Inv E n s A → a < n → s.turn a = 0 → ((A = [] ∧ L = a) ∨ ∃ k A', A = k :: A' ∧ L = s.least k ∧ Adj E a k) →
    Calls Tryz.prog 95 #[.pointer (some ⟨kw, 0, none⟩), .int .i64 (a : Nat), .int .i64 (frOf A)] w fun e w' => e = .returned (.tuple #[]) ∧ ∃ s', WAt w' kw kn n V nb s' ∧ Walked E n s s' a A L ∧ Below base w w') := ih
  have HMs : Hid (n - s.T ≤ m + 1) := hm
  have i0 : (0 : Int) ≤ (a : Int) := by omega
  have i1 : (a : Int) < (n : Int) := by omega
  obtain ⟨ba, ca, eV, -, eb⟩ := h.near a ha
  obtain ⟨x, hx⟩ : ∃ x, frOf A = x := ⟨_, rfl⟩
  obtain ⟨N, hlen⟩ : ∃ N, (nb a).length = N := ⟨_, rfl⟩
  have HX : Hid (frOf A = x) := hx
  have HLen : Hid ((nb a).length = N) := hlen
  have hN2 : N ≤ 200 := by rw [← hlen]; exact hN.few a
  rw [hlen] at eV
  rw [hx] at har ⊢
  clear ih h hI h0 hA hm hN hx
  go_enter Tryz.func95, Tryz.ntmps95
  go_wp2_with fail
  refine har.mono ?_
  rintro e w1 ⟨rfl, hW1, hb1⟩
  have c0 := hW1.w0
  have d0 := hW1.f0 ha
  rw [eV] at d0
  have HW : Hid (WAt w1 kw kn n V nb (arrived s a A L)) := hW1
  have HB : Hid (Below base w w1) := hb1
  clear har hW1 hb1
  go_wp2_with fail
  clear c0 d0
  go_loopw [8, 9, 25] (fun _ _ i wr => ∃ j : Nat, j ≤ N ∧ i = .int .i64 (j : Nat) ∧ ∃ sr, WAt wr kw kn n V nb sr ∧ Mid E n s sr a A ((nb a).take j) L ∧ Below base w wr) (fun _ _ i _ => N - (intOf i).toNat)
  case atStart => exact ⟨0, Nat.zero_le _, rfl, _, HW.out, by simpa using HM.out, HB.out⟩
  case round =>
    obtain ⟨j, hj, rfl, sr, hWr, hMr, hbr⟩ := hrel
    by_cases hlt : j < N
    · obtain ⟨y, hy⟩ : ∃ y, (nb a)[j]? = some y := ⟨(nb a)[j]'(by rw [HLen.out]; exact hlt), List.getElem?_eq_getElem (by rw [HLen.out]; exact hlt)⟩
      have hym : y ∈ nb a := List.mem_of_getElem? hy
      have hyn := (HN.out.lt a y hym).2
      have hady : Adj E a y := (HN.out.adj a y).2 hym
      have htk : (nb a).take (j + 1) = (nb a).take j ++ [y] := by rw [List.take_add_one, hy]; rfl
      obtain ⟨ba', ca', eV', hIn, -⟩ := hWr.near a ha
      rw [eV, HLen.out] at eV'
      obtain ⟨rfl, -⟩ : ba = ba' ∧ ca = ca' := by simpa using eV'
      obtain ⟨kb, ob, rfl, cy⟩ := hIn.cell j (by rw [HLen.out]; exact hlt)
      rw [List.getD_eq_getElem?_getD, hy] at cy
      replace cy : wr.cell? ⟨kb, ob + j, none⟩ = some (.int .i64 (y : Nat)) := cy
      have c0 := hWr.w0
      have e3 := hWr.f3 hyn
      have i2 : (0 : Int) ≤ (y : Int) := by omega
      have i3 : (y : Int) < (n : Int) := by omega
      have i4 : (0 : Int) ≤ (j : Int) := by omega
      have i5 : (j : Int) < (N : Int) := by omega
      have HWr : Hid (WAt wr kw kn n V nb sr) := hWr
      have HMr : Hid (Mid E n s sr a A ((nb a).take j) L) := hMr
      have HBr : Hid (Below base w wr) := hbr
      have HT : Hid ((nb a).take (j + 1) = (nb a).take j ++ [y] ∧ Adj E a y) := ⟨htk, hady⟩
      clear hy hym htk hady hIn eV'
      by_cases hyx : (y : Int) = x
      · have t1 : ((y : Int) == x) = true := by simp [hyx]
        have HS : Hid (Mid E n s sr a A ((nb a).take (j + 1)) L) := by
          have hf : sr.fr a = (y : Nat) := by rw [hMr.fra, HX.out, hyx]
          have hv : 0 < sr.turn y := by
            have hfa := HX.out
            cases A with
            | nil => rw [← hfa] at hyx; exact absurd hyx (by show ¬ ((y : Nat) : Int) = -1; omega)
            | cons k A' =>
              have : ((k : Nat) : Int) = x := hfa
              obtain rfl : k = y := by omega
              exact hMr.keep.pos (hMr.pre.act k List.mem_cons_self)
          show Mid _ _ _ _ _ _ _ _
          rw [HT.out.1]
          exact hMr.skip hf hv
        clear hWr hMr hbr e3
        go_wp2_with fail
        go_roundw
        case rel => exact ⟨j + 1, by omega, by go_num, sr, HWr.out, HS.out, HBr.out⟩
        case measure => simp [intOf]; omega
      have t1 : ((y : Int) == x) = false := by rw [beq_eq_false_iff_ne]; exact hyx
      have HF : Hid (sr.fr a ≠ (y : Nat)) := show _ ≠ _ by rw [hMr.fra, HX.out]; exact fun e => hyx e.symm
      clear hyx
      by_cases hty : 0 < sr.turn y
      · have HS : Hid (Mid E n s (touch sr a (min (sr.back a) (sr.turn y)) (sr.pieces a)) a A ((nb a).take (j + 1)) L) := by
          show Mid _ _ _ _ _ _ _ _
          rw [HT.out.1]
          exact hMr.back hty HT.out.2 HF.out
        have e4 := hWr.f4 ha
        have z0 := hWr.fz
        have HWS := hWr.set4 (a := a) (min (sr.back a) (sr.turn y))
        have i6 : (0 : Int) < (sr.turn y : Int) := by omega
        clear hMr
        go_wp2_with fail
        go_region
        have hmn : (if sr.turn y < sr.back a then ((sr.turn y : Nat) : Int) else ((sr.back a : Nat) : Int)) = ((min (sr.back a) (sr.turn y) : Nat) : Int) := by split <;> omega
        have hW2 : WAt (wr.setCell ⟨kn, a * 6 + 4, none⟩ (.int .i64 (if sr.turn y < sr.back a then ((sr.turn y : Nat) : Int) else ((sr.back a : Nat) : Int)))).drew kw kn n V nb (touch sr a (min (sr.back a) (sr.turn y)) (sr.pieces a)) := by
          rw [hmn]
          exact (HWS.drewN 1 rfl).as (fun i hi => ⟨rfl, rfl, rfl, rfl, by
            show upd sr.pieces a (sr.pieces a) i = sr.pieces i
            by_cases e : i = a
            · subst e; exact upd_self ..
            · exact upd_ne _ _ e⟩) rfl
        have hB2 : Below base w (wr.setCell ⟨kn, a * 6 + 4, none⟩ (.int .i64 (if sr.turn y < sr.back a then ((sr.turn y : Nat) : Int) else ((sr.back a : Nat) : Int)))).drew := (HBr.out.setCell hbn _).drew
        generalize (wr.setCell ⟨kn, a * 6 + 4, none⟩ (.int .i64 (if sr.turn y < sr.back a then ((sr.turn y : Nat) : Int) else ((sr.back a : Nat) : Int)))).drew = W2 at hW2 hB2 ⊢
        have HW2 : Hid (WAt W2 kw kn n V nb (touch sr a (min (sr.back a) (sr.turn y)) (sr.pieces a)) ∧ Below base w W2) := ⟨hW2, hB2⟩
        clear hWr hbr e3 e4 z0 HWS hmn hW2 hB2 c0 cy
        go_wp2_with fail
        go_roundw
        case rel => exact ⟨j + 1, by omega, by go_num, _, HW2.out.1, HS.out, HW2.out.2⟩
        case measure => simp [intOf]; omega
      · have hy0 : sr.turn y = 0 := by omega
        have hya : y ≠ a := fun e => by
          have := hMr.inv.act a List.mem_cons_self
          subst e
          omega
        have hrec := HI.out (w := wr) (s := sr) (A := a :: A) (a := y) (L := L) (by
          have h1 := hMr.T
          have h2 := hMr.inv.sum
          have h3 := HMs.out
          omega) hWr hMr.inv hyn hy0 (Or.inr ⟨a, A, rfl, (hMr.new a hMr.unseen (hMr.inv.act a List.mem_cons_self)).2.1.symm, HT.out.2.symm⟩)
        replace hrec : Calls Tryz.prog 95 #[.pointer (some ⟨kw, 0, none⟩), .int .i64 (y : Nat), .int .i64 (a : Nat)] wr fun e w' => e = .returned (.tuple #[]) ∧ ∃ s', WAt w' kw kn n V nb s' ∧ Walked E n sr s' y (a :: A) L ∧ Below base wr w' := hrec
        have i6 : ¬ (0 : Int) < (sr.turn y : Int) := by omega
        rw [hy0] at e3 i6
        clear hMr hWr hbr hty
        go_wp2_with fail
        refine hrec.mono ?_
        rintro e w2 ⟨rfl, s2, hW2, hWk, hb2⟩
        have HS : Hid (Mid E n s (touch s2 a (min (s2.back a) (s2.back y)) (s2.pieces a + if s2.turn a ≤ s2.back y then 1 else 0)) a A ((nb a).take (j + 1)) L) := by
          show Mid _ _ _ _ _ _ _ _
          rw [HT.out.1]
          exact HMr.out.kid hWk HT.out.2
        have hfew : s2.pieces a ≤ 201 := by
          rw [(hWk.keep a (HMr.out.inv.act a List.mem_cons_self)).pieces]
          have h1 := HMr.out.few
          rw [List.length_take, HLen.out] at h1
          omega
        have HB2 : Hid (Below base w w2) := HBr.out.trans hb2
        have d4 := hW2.f4 ha
        have e4 := hW2.f4 hyn
        have z0 := hW2.fz
        have HWS := hW2.set4 (a := a) (min (s2.back a) (s2.back y))
        clear hrec hWk hb2 e3 c0 cy i6
        go_wp2_with fail
        go_region
        have hmn : (if s2.back y < s2.back a then ((s2.back y : Nat) : Int) else ((s2.back a : Nat) : Int)) = ((min (s2.back a) (s2.back y) : Nat) : Int) := by split <;> omega
        rw [hmn]
        have hW3 : WAt (w2.setCell ⟨kn, a * 6 + 4, none⟩ (.int .i64 ((min (s2.back a) (s2.back y) : Nat) : Int))).drew kw kn n V nb { s2 with back := upd s2.back a (min (s2.back a) (s2.back y)) } := HWS.drewN 1 rfl
        have hB3 : Below base w (w2.setCell ⟨kn, a * 6 + 4, none⟩ (.int .i64 ((min (s2.back a) (s2.back y) : Nat) : Int))).drew := (HB2.out.setCell hbn _).drew
        clear d4 e4 z0 HWS hW2
        generalize (w2.setCell ⟨kn, a * 6 + 4, none⟩ (.int .i64 ((min (s2.back a) (s2.back y) : Nat) : Int))).drew = W3 at hW3 hB3 ⊢
        generalize ((min (s2.back a) (s2.back y) : Nat) : Int) = mn
        have HW3 : Hid (WAt W3 kw kn n V nb { s2 with back := upd s2.back a (min (s2.back a) (s2.back y)) } ∧ Below base w W3) := ⟨hW3, hB3⟩
        have d3 : W3.cell? ⟨kn, a * 6 + 3, none⟩ = some (.int .i64 (s2.turn a : Nat)) := hW3.f3 ha
        have e4 : W3.cell? ⟨kn, y * 6 + 4, none⟩ = some (.int .i64 (s2.back y : Nat)) := by
          rw [hW3.f4 hyn]
          show some (Value.int .i64 ((upd s2.back a _ y : Nat) : Int)) = _
          rw [upd_ne _ _ hya]
        have d5 : W3.cell? ⟨kn, a * 6 + 5, none⟩ = some (.int .i64 (s2.pieces a : Nat)) := hW3.f5 ha
        have z0 := hW3.fz
        clear hmn hW3 hB3
        by_cases hge : s2.turn a ≤ s2.back y
        · have hge' : ((s2.turn a : Nat) : Int) ≤ ((s2.back y : Nat) : Int) := by omega
          have hw5 : IntKind.i64.wrap ((s2.pieces a : Nat) + 1 : Int) = ((s2.pieces a + 1 : Nat) : Int) := by rw [IntKind.wrap_i64]; omega
          go_wp2_with fail
          go_quiet (fail)
          have hW4 := HW3.out.1.drewN nq rfl
          have hB4 : Below base w (W3.drewN nq) := HW3.out.2.trans ((below_drewN rfl).mono (by have := HW3.out.1.st.lt; omega))
          clear d3 e4 d5 z0
          generalize W3.drewN nq = W4 at hW4 hB4 ⊢
          have d5 : W4.cell? ⟨kn, a * 6 + 5, none⟩ = some (.int .i64 (s2.pieces a : Nat)) := hW4.f5 ha
          have z0 := hW4.fz
          have HW5 : Hid (WAt (W4.setCell ⟨kn, a * 6 + 5, none⟩ (.int .i64 ((s2.pieces a + 1 : Nat) : Int))) kw kn n V nb (touch s2 a (min (s2.back a) (s2.back y)) (s2.pieces a + if s2.turn a ≤ s2.back y then 1 else 0)) ∧ Below base w (W4.setCell ⟨kn, a * 6 + 5, none⟩ (.int .i64 ((s2.pieces a + 1 : Nat) : Int)))) := ⟨(hW4.set5 (a := a) (s2.pieces a + 1)).as (fun i hi => ⟨rfl, rfl, rfl, rfl, by
            show upd s2.pieces a (s2.pieces a + if s2.turn a ≤ s2.back y then 1 else 0) i = _
            rw [if_pos hge]⟩) rfl, hB4.setCell hbn _⟩
          clear hW4 hB4
          generalize s2.pieces a + 1 = pp at hw5 HW5
          go_wp2_with fail
          go_roundw
          case rel => exact ⟨j + 1, by omega, by go_num, _, HW5.out.1, HS.out, HW5.out.2⟩
          case measure => simp [intOf]; omega
        · have hge' : ¬ ((s2.turn a : Nat) : Int) ≤ ((s2.back y : Nat) : Int) := by omega
          go_wp2_with fail
          go_quiet (fail)
          have HW4 : Hid (WAt (W3.drewN nq) kw kn n V nb (touch s2 a (min (s2.back a) (s2.back y)) (s2.pieces a + if s2.turn a ≤ s2.back y then 1 else 0)) ∧ Below base w (W3.drewN nq)) := ⟨(HW3.out.1.drewN nq rfl).as (fun i hi => ⟨rfl, rfl, rfl, rfl, by
            show upd s2.pieces a (s2.pieces a + if s2.turn a ≤ s2.back y then 1 else 0) i = s2.pieces i
            rw [if_neg hge, Nat.add_zero]
            by_cases e : i = a
            · subst e; exact upd_self ..
            · exact upd_ne _ _ e⟩) rfl, HW3.out.2.trans ((below_drewN rfl).mono (by have := HW3.out.1.st.lt; omega))⟩
          clear d3 e4 d5 z0
          generalize W3.drewN nq = W4 at HW4 ⊢
          go_wp2_with fail
          go_roundw
          case rel => exact ⟨j + 1, by omega, by go_num, _, HW4.out.1, HS.out, HW4.out.2⟩
          case measure => simp [intOf]; omega
    · obtain rfl : j = N := by omega
      have HWd : Hid (∃ s', WAt wr kw kn n V nb s' ∧ Walked E n s s' a A L ∧ Below base w wr) := ⟨_, hWr.as (s' := { sr with N := upd sr.N a (fun x => s.turn x = 0 ∧ 0 < sr.turn x) }) (fun i hi => ⟨rfl, rfl, rfl, rfl, rfl⟩) rfl, hMr.walked (fun y hy => by
        rw [List.take_of_length_le (by rw [HLen.out]; exact Nat.le_refl _)]
        exact (HN.out.adj a y).1 hy), hbr⟩
      clear hWr hMr hbr
      go_wp2_with fail
      go_end0
      exact ⟨rfl, HWd.out⟩

end Go.Proofs.YtcfemppdeidjmacGreat.Br

namespace Go.Proofs.YtcfemppdeidjmacGreat.Br
open Go.RowKit Go.Deep
open Go.RowKit (Below)
set_option linter.unusedVariables false

variable {w w' w6 : World} {kw kn n u base : Nat} {V : Nat → Value} {nb : Nat → List Nat} {E : List (Nat × Nat)}

def nbl (E : List (Nat × Nat)) (i : Nat) : List Nat := E.flatMap fun e => if e.1 = i then [e.2] else if e.2 = i then [e.1] else []

theorem nbl_snoc (E : List (Nat × Nat)) (x y : Nat) (h : x ≠ y) (i : Nat) : nbl (E ++ [(x, y)]) i = upd (upd (nbl E) x (nbl E x ++ [y])) y (nbl E y ++ [x]) i := by
  unfold nbl
  rw [List.flatMap_append]
  by_cases h1 : i = y
  · subst h1
    rw [upd_self]
    simp [h]
  · rw [upd_ne _ _ h1]
    by_cases h2 : i = x
    · subst h2
      rw [upd_self]
      simp
    · rw [upd_ne _ _ h2]
      simp [Ne.symm h1, Ne.symm h2]
theorem nbl_len (E : List (Nat × Nat)) (i : Nat) : (nbl E i).length ≤ E.length := by
  induction E with
  | nil => exact Nat.le_refl _
  | cons e E ih =>
    unfold nbl at ih ⊢
    rw [List.flatMap_cons, List.length_append, List.length_cons]
    have : (if e.1 = i then [e.2] else if e.2 = i then [e.1] else []).length ≤ 1 := by
      split
      · simp
      · split <;> simp
    omega
theorem nbl_near (hlt : ∀ e ∈ E, e.1 < e.2 ∧ e.2 < n) (hl : E.length ≤ 200) : Near E n (nbl E) := by
  have key : ∀ a y, Adj E a y ↔ y ∈ nbl E a := fun a y => by
    unfold Adj nbl
    rw [List.mem_flatMap]
    constructor
    · rintro (h | h)
      · exact ⟨_, h, by simp⟩
      · have := hlt _ h
        simp only at this
        exact ⟨_, h, by simp only; rw [if_neg (by omega)]; simp⟩
    · rintro ⟨e, h1, h2⟩
      split at h2
      · rename_i q
        simp at h2
        subst q h2
        exact Or.inl h1
      · split at h2
        · rename_i q
          simp at h2
          subst q h2
          exact Or.inr h1
        · cases h2
  refine ⟨key, fun a y h => ?_, fun a => Nat.le_trans (nbl_len E a) hl⟩
  rcases (key a y).2 h with q | q
  · have := hlt _ q
    simp only at this
    omega
  · have := hlt _ q
    simp only at this
    omega

theorem own_same {base n : Nat} {ty : TypeId} {v : Value} {xs : List Value} {s : Nat} (h : w.ownsRow base ty s v n xs) (hb : ∀ g, v.ownBlock = some g → w'.heap[g]? = w.heap[g]?) : w'.ownsRow base ty s v n xs := by
  refine ⟨h.1, ?_⟩
  rcases h.2 with h0 | ⟨g, cap, cur, hv, h1, h2, h3⟩
  · exact Or.inl h0
  · refine Or.inr ⟨g, cap, cur, hv, h1, ?_, h3⟩
    rw [hb g (by rw [hv]; rfl)]; exact h2

theorem own_bound {base n : Nat} {ty : TypeId} {v : Value} {xs : List Value} {s k : Nat} (h : w.ownsRow base ty s v n xs) (hk : v.ownBlock = some k) : base ≤ k ∧ k < w.heap.size := by
  rcases h.2 with ⟨h0, _⟩ | ⟨g', cap, cur, hv, h1, h2, h3⟩
  · rw [h0] at hk; cases hk
  · rw [hv] at hk
    cases hk
    exact ⟨h1, (Array.getElem?_eq_some_iff.1 h2).1⟩

structure BAt (base : Nat) (w : World) (kw kn n : Nat) (V : Nat → Value) (nb : Nat → List Nat) : Prop where
  st : w.rowIs kw 162 2 (cells2 kn n 0)
  nd : ∃ g, w.rowIs kn 101 (n * 6) g ∧ ∀ i, i < n → Node V blank g i
  ne : kw ≠ kn
  bw : base ≤ kw
  bn : base ≤ kn
  own : ∀ i, i < n → w.ownsRow base 3 1 (V i) (nb i).length (ints (nb i))
  off : ∀ i, i < n → ∀ k, (V i).ownBlock = some k → k ≠ kw ∧ k ≠ kn
  apart : ∀ i j, i < n → j < n → i ≠ j → ∀ k, (V i).ownBlock = some k → (V j).ownBlock ≠ some k

theorem BAt.below (h : BAt base w kw kn n V nb) (hb : Below w.heap.size w w') : BAt base w' kw kn n V nb := by
  obtain ⟨g, h1, h2⟩ := h.nd
  exact ⟨h.st.of_block (hb.block _ h.st.lt), ⟨g, h1.of_block (hb.block _ h1.lt), h2⟩, h.ne, h.bw, h.bn, fun i hi => own_keep (h.own i hi) hb, h.off, h.apart⟩

theorem BAt.w0 (h : BAt base w kw kn n V nb) : w.cell? ⟨kw, 0, none⟩ = some (.slice (some ⟨kn, 0, none⟩) n n) := h.st.cell (i := 0) (by omega)
theorem BAt.f0 (h : BAt base w kw kn n V nb) (hu : u < n) : w.cell? ⟨kn, u * 6, none⟩ = some (V u) := by
  obtain ⟨g, h1, h2⟩ := h.nd; rw [h1.cell (i := u * 6) (by omega), (h2 u hu).near]
theorem BAt.fz (h : BAt base w kw kn n V nb) (i : Nat) : w.frozen? ⟨kn, i, none⟩ = false := by
  obtain ⟨g, h1, h2⟩ := h.nd; exact h1.frozen i

theorem BAt.push {K g1 cap x : Nat} (h : BAt base w kw kn n V nb) (hu : u < n) (hK : (nb u).length = K) (hown : w6.ownsRow base 3 1 (.slice (some ⟨g1, 0, none⟩) (K + 1) cap) (K + 1) (ints (nb u) ++ [.int .i64 ((x : Nat) : Int)])) (hg : w.grownBy w6 (V u).ownBlock) (hat : (V u).ownBlock = some g1 ∨ g1 = w.heap.size) :
    (w6.cell? ⟨kn, u * 6, none⟩ = some (V u) ∧ w6.frozen? ⟨kn, u * 6, none⟩ = false ∧ w6.cell? ⟨kw, 0, none⟩ = some (.slice (some ⟨kn, 0, none⟩) n n)) ∧ BAt base (w6.setCell ⟨kn, u * 6, none⟩ (.slice (some ⟨g1, 0, none⟩) (K + 1) cap)) kw kn n (upd V u (.slice (some ⟨g1, 0, none⟩) (K + 1) cap)) (upd nb u (nb u ++ [x])) := by
  obtain ⟨g, h1, h2⟩ := h.nd
  have e1 : w6.heap[kw]? = w.heap[kw]? := hg.block kw h.st.lt fun e => (h.off u hu kw e.symm).1 rfl
  have e2 : w6.heap[kn]? = w.heap[kn]? := hg.block kn h1.lt fun e => (h.off u hu kn e.symm).2 rfl
  have hne : g1 ≠ kw ∧ g1 ≠ kn := by
    rcases hat with e | e
    · exact h.off u hu g1 e
    · have := h.st.lt
      have := h1.lt
      omega
  have hst := h.st.of_block e1
  have hn6 := h1.of_block e2
  refine ⟨⟨by rw [hn6.cell (i := u * 6) (by omega), (h2 u hu).near], hn6.frozen _, hst.cell (i := 0) (by omega)⟩, ⟨hst.setOther (a := ⟨kn, u * 6, none⟩) (by exact h.ne) _, ⟨_, hn6.set (u * 6) _, fun i hi => ?_⟩, h.ne, h.bw, h.bn, fun i hi => ?_, fun i hi k hk => ?_, fun i j hi hj hij k hk => ?_⟩⟩
  · have q := h2 i hi
    refine ⟨?_, by simp only [if_neg (show i * 6 + 1 ≠ u * 6 by omega)]; exact q.fr, by simp only [if_neg (show i * 6 + 2 ≠ u * 6 by omega)]; exact q.least, by simp only [if_neg (show i * 6 + 3 ≠ u * 6 by omega)]; exact q.turn, by simp only [if_neg (show i * 6 + 4 ≠ u * 6 by omega)]; exact q.back, by simp only [if_neg (show i * 6 + 5 ≠ u * 6 by omega)]; exact q.pieces⟩
    by_cases e : i = u
    · subst e; simp [upd_self]
    · simp only [if_neg (show i * 6 ≠ u * 6 by omega), upd_ne _ _ e]; exact q.near
  · by_cases e : i = u
    · subst e
      rw [upd_self, upd_self, List.length_append, hK, ints_snoc]
      exact ownsRow_setCell_other hown (a := ⟨kn, i * 6, none⟩) (by simp [Value.ownBlock]; exact hne.2) _
    · rw [upd_ne _ _ e, upd_ne _ _ e]
      refine ownsRow_setCell_other (own_same (h.own i hi) fun k hk => hg.block k (own_bound (h.own i hi) hk).2 fun q => h.apart i u hi hu e k hk q.symm) (a := ⟨kn, u * 6, none⟩) (fun q => ?_) _
      exact (h.off i hi kn q).2 rfl
  · by_cases e : i = u
    · subst e; rw [upd_self] at hk; cases hk; exact hne
    · rw [upd_ne _ _ e] at hk; exact h.off i hi k hk
  · by_cases e : i = u
    · subst e
      rw [upd_self] at hk
      cases hk
      rw [upd_ne _ _ (Ne.symm hij)]
      rcases hat with q | q
      · exact h.apart i j hi hj hij _ q
      · intro r
        have r1 : g1 < w.heap.size := (own_bound (h.own j hj) r).2
        omega
    · rw [upd_ne _ _ e] at hk
      by_cases e' : j = u
      · subst e'
        rw [upd_self]
        intro r
        cases r
        rcases hat with q | q
        · exact h.apart i j hi hj hij _ hk q
        · have r1 : g1 < w.heap.size := (own_bound (h.own i hi) hk).2
          omega
      · rw [upd_ne _ _ e']
        exact h.apart i j hi hj hij k hk

theorem BAt.walker (h : BAt base w kw kn n V nb) : WAt w kw kn n V nb blank := by
  refine ⟨h.st, h.nd, h.ne, fun i hi => ?_⟩
  obtain ⟨a, c, e, hI⟩ := own_ints (h.own i hi) rfl
  refine ⟨a, c, e, hI, fun p hp => ?_⟩
  have ho := h.own i hi
  rcases ho.2 with ⟨h0, _⟩ | ⟨g', cap, cur, hv, h1, h2, h3⟩
  · rw [e, hp] at h0; cases h0
  · rw [e, hp] at hv
    cases hv
    exact h.off i hi _ (by rw [e, hp]; rfl)

end Go.Proofs.YtcfemppdeidjmacGreat.Br
