/-
  Bg Bp Bq
-/
import Derived.Test.YtcfemppdeidjmacGreatW18
namespace Go.Proofs.YtcfemppdeidjmacGreat.Br
open Go.RowKit Go.Deep
open Go.RowKit (Below)
set_option linter.unusedVariables false

variable {w w' : World} {E : List (Nat × Nat)} {l : List Nat} {f : Nat → Int × Int}

structure IntsAt (w : World) (a : Option Addr) (n : Nat) (l : List Nat) : Prop where
  len : l.length = n
  cell : ∀ i, i < n → ∃ b o, a = some ⟨b, o, none⟩ ∧ w.cell? ⟨b, o + i, none⟩ = some (.int .i64 ((l.getD i 0 : Nat) : Int))

theorem IntsAt.below {a : Option Addr} {n : Nat} (h : IntsAt w a n l) (hb : Below w.heap.size w w') : IntsAt w' a n l := ⟨h.len, fun i hi => by
  obtain ⟨b, o, e, q⟩ := h.cell i hi
  exact ⟨b, o, e, cell_keep hb q⟩⟩

theorem edges_none (w : World) (a : Option Addr) : EdgesAt w a [] := ⟨fun i hi => absurd hi (Nat.not_lt_zero _)⟩
def EgAt (w : World) (a : Option Addr) (m : Nat) (f : Nat → Int × Int) : Prop :=
  ∀ i, i < m → ∃ b o, a = some ⟨b, o, none⟩ ∧ w.cell? ⟨b, o + i * 2, none⟩ = some (.int .i64 (f i).1) ∧ w.cell? ⟨b, o + i * 2 + 1, none⟩ = some (.int .i64 (f i).2)

theorem EgAt.below {a : Option Addr} {m : Nat} (h : EgAt w a m f) (hb : Below w.heap.size w w') : EgAt w' a m f := fun i hi => by
  obtain ⟨b, o, e, h1, h2⟩ := h i hi
  exact ⟨b, o, e, cell_keep hb h1, cell_keep hb h2⟩

def ints (l : List Nat) : List Value := l.map fun x => Value.int .i64 ((x : Nat) : Int)

theorem ints_snoc (l : List Nat) (x : Nat) : ints (l ++ [x]) = ints l ++ [.int .i64 ((x : Nat) : Int)] := by simp [ints]

theorem own_ints {base n : Nat} {v : Value} {l : List Nat} (h : w.ownsRow base 3 1 v n (ints l)) (hn : l.length = n) : ∃ a c, v = .slice a n c ∧ IntsAt w a n l := by
  rcases h.2 with ⟨hv, h0⟩ | ⟨g', cap', cur, hv, hb, hg, h1, h2, h3, h4⟩
  · subst h0
    exact ⟨none, 0, hv, ⟨hn, fun i hi => by omega⟩⟩
  · subst hv
    refine ⟨_, _, rfl, ⟨hn, fun i hi => ⟨g', 0, rfl, ?_⟩⟩⟩
    have hi2 : i < l.length := by omega
    have e1 : (cur.toList.take (n * 1))[i]? = some (Value.int .i64 ((l.getD i 0 : Nat) : Int)) := by
      rw [h4, ints, List.getElem?_map, List.getElem?_eq_getElem hi2, List.getD_eq_getElem?_getD, List.getElem?_eq_getElem hi2]; rfl
    rw [List.getElem?_take, if_pos (by omega)] at e1
    simp only [World.cell?, hg, Nat.zero_add]
    simpa using e1

def parts (n : Nat) (p : Nat → Nat) : List Nat := (List.range n).map p

theorem parts_at {k n : Nat} {p : Nat → Nat} (h : ∀ i, i < n → w.cell? ⟨k, i, none⟩ = some (.int .i64 (p i : Nat))) : IntsAt w (some ⟨k, 0, none⟩) n (parts n p) := ⟨by simp [parts], fun i hi => ⟨k, 0, rfl, by
  rw [Nat.zero_add, h i hi]
  simp [parts, List.getD_eq_getElem?_getD, hi]⟩⟩

def fn (F : List (Nat × Nat)) : Nat → Int × Int := fun i => (((F.getD i (0, 0)).1 : Nat), ((F.getD i (0, 0)).2 : Nat))

theorem fn_edges (F : List (Nat × Nat)) : edges (fn F) F.length = F := by
  refine List.ext_getElem? fun i => ?_
  rcases Nat.lt_or_ge i F.length with h | h
  · rw [edges_get h, List.getElem?_eq_getElem h]
    simp [fn, List.getD_eq_getElem?_getD, List.getElem?_eq_getElem h]
  · rw [List.getElem?_eq_none (by rw [edges_len]; exact h), List.getElem?_eq_none h]

theorem fn_may {F : List (Nat × Nat)} {n : Nat} (hu : Up F) (hl : ∀ e ∈ F, e.1 < e.2 ∧ e.2 < n) : ∀ j, j < F.length → May n (fn F) j := fun j hj => by
  have e1 : ∀ i (h : i < F.length), F.getD i (0, 0) = F[i] := fun i h => by simp [List.getD_eq_getElem?_getD, List.getElem?_eq_getElem h]
  refine ⟨?_, fun h0 => ?_⟩
  · have := hl _ (List.getElem_mem hj)
    unfold Sane fn
    rw [e1 j hj]
    refine ⟨?_, ?_, ?_⟩ <;> show _ <;> simp <;> omega
  · have := List.pairwise_iff_getElem.1 hu (j - 1) j (by omega) hj (by omega)
    unfold fn
    rw [e1 j hj, e1 (j - 1) (by omega)]
    show ((F[j - 1].1 : Nat) : Int) < _ ∨ _ = _ ∧ ((F[j - 1].2 : Nat) : Int) < _
    simp
    omega

theorem fn_at {a : Option Addr} {F : List (Nat × Nat)} (h : EdgesAt w a F) : EgAt w a F.length (fn F) := fun i hi => h.cell i hi

end Go.Proofs.YtcfemppdeidjmacGreat.Br

namespace Go.Proofs.YtcfemppdeidjmacGreat.Br
open Go.RowKit Go.Deep
open Go.RowKit (Below)
set_option linter.unusedVariables false

variable {w w' : World} {f : Nat → Int × Int}

theorem below_box (w : World) (o : Obj) : Below w.heap.size w (w.alloc o) := (Below.refl _ _).alloc (Nat.le_refl _) _

def cmpI (a b : Int) : Int := if a < b then -1 else if b < a then 1 else 0

set_option maxHeartbeats 400000 in
theorem compare_any (a b : Int) (w : World) : Calls Tryz.prog 67 #[.int .i64 a, .int .i64 b] w fun e w' => e = .returned (.int .i64 (cmpI a b)) ∧ w' = w := by
  unfold cmpI
  rcases Int.lt_trichotomy a b with h | h | h
  · rw [if_pos h]
    go_enter Tryz.func67, Tryz.ntmps67
    go_wp2
    all_goals (go_ret; exact ⟨rfl, rfl⟩)
  · subst h
    rw [if_neg (by omega), if_neg (by omega)]
    go_enter Tryz.func67, Tryz.ntmps67
    go_wp2
    all_goals (go_ret; exact ⟨rfl, rfl⟩)
  · have h' : ¬ a < b := by omega
    rw [if_neg h', if_pos h]
    go_enter Tryz.func67, Tryz.ntmps67
    go_wp2
    all_goals (go_ret; exact ⟨rfl, rfl⟩)

def orOf (a b : Int) : Int := if a = 0 then b else a

set_option maxHeartbeats 1000000 in
theorem or_any {g : Nat} (a b : Int) (w : World) (h0 : w.cell? ⟨g, 0, none⟩ = some (.int .i64 a)) (h1 : w.cell? ⟨g, 1, none⟩ = some (.int .i64 b)) :
    Calls Tryz.prog 66 #[.slice (some ⟨g, 0, none⟩) 2 2] w fun e w' => e = .returned (.int .i64 (orOf a b)) ∧ w' = w := by
  have HA : Hid (w.cell? ⟨g, 0, none⟩ = some (.int .i64 a) ∧ w.cell? ⟨g, 1, none⟩ = some (.int .i64 b)) := ⟨h0, h1⟩
  clear h0 h1
  go_enter Tryz.func66, Tryz.ntmps66
  go_wp2_with fail
  go_loopw [5, 8] (fun _ i wr => ∃ j : Nat, j ≤ 2 ∧ i = .int .i64 (j : Nat) ∧ (0 < j → a = 0) ∧ (1 < j → b = 0) ∧ wr = w) (fun _ i _ => 2 - (intOf i).toNat)
  case atStart => exact ⟨0, by omega, rfl, fun h => absurd h (by omega), fun h => absurd h (by omega), rfl⟩
  case round =>
    obtain ⟨j, hj, rfl, ha, hb, rfl⟩ := hrel
    obtain ⟨h0, h1⟩ := HA.out
    match j, hj with
    | 0, _ =>
      by_cases c : a = 0
      · have e : (a != 0) = false := by simp [c]
        clear ha hb
        go_wp2_with fail
        go_roundw
        case rel => exact ⟨1, by omega, by go_num, fun _ => c, fun h => absurd h (by omega), by first | rfl | exact trivial⟩
        case measure => simp [intOf]
      · have e : (a != 0) = true := by simp [c]
        have HE : Hid (orOf a b = a) := show _ = _ by rw [orOf, if_neg c]
        clear ha hb c
        go_wp2_with fail
        go_ret
        exact ⟨by rw [HE.out]; rfl, rfl⟩
    | 1, _ =>
      have ha' := ha (by omega)
      by_cases c : b = 0
      · have e : (b != 0) = false := by simp [c]
        clear ha hb
        go_wp2_with fail
        go_roundw
        case rel => exact ⟨2, by omega, by go_num, fun _ => ha', fun _ => c, by first | rfl | exact trivial⟩
        case measure => simp [intOf]
      · have e : (b != 0) = true := by simp [c]
        have HE : Hid (orOf a b = b) := show _ = _ by rw [orOf, if_pos ha']
        clear ha hb c ha'
        go_wp2_with fail
        go_ret
        exact ⟨by rw [HE.out]; rfl, rfl⟩
    | 2, _ =>
      have HE : Hid (orOf a b = 0) := show _ = _ by rw [orOf, if_pos (ha (by omega)), hb (by omega)]
      clear ha hb
      go_wp2_with fail
      go_ret
      exact ⟨by rw [HE.out]; rfl, rfl⟩

def cmpE (x1 x2 y1 y2 : Int) : Int := orOf (cmpI x1 y1) (cmpI x2 y2)

theorem cmpE_lt (x1 x2 y1 y2 : Int) : cmpE x1 x2 y1 y2 < 0 ↔ x1 < y1 ∨ x1 = y1 ∧ x2 < y2 := by
  unfold cmpE orOf cmpI
  repeat' split
  all_goals omega

set_option maxRecDepth 100000 in
set_option maxHeartbeats 1000000 in
theorem rises_any (x1 x2 y1 y2 : Int) (W : World) (q : Bool) (hq : q = true ↔ (x1 < y1 ∨ x1 = y1 ∧ x2 < y2)) :
    Calls Tryz.prog 125 #[.agg #[.int .i64 x1, .int .i64 x2], .agg #[.int .i64 y1, .int .i64 y2]] W fun e w' => e = .returned (.bool q) ∧ Below W.heap.size W w' := by
  have hc : decide (cmpE x1 x2 y1 y2 < 0) = q := by rw [Bool.eq_iff_iff, decide_eq_true_iff, cmpE_lt, hq]
  have hd : cmpE x1 x2 y1 y2 = orOf (cmpI x1 y1) (cmpI x2 y2) := rfl
  rw [hd] at hc
  clear hd hq
  have q := compare_any
  generalize cmpI = cf at q hc
  go_enter Tryz.func125, Tryz.ntmps125
  go_wp2_with fail
  generalize hW2 : (W.alloc (.cells #[.int .i64 x1, .int .i64 x2] 44)).alloc (.cells #[.int .i64 y1, .int .i64 y2] 44) = W2
  have hb2 : Below W.heap.size W W2 := by rw [← hW2]; exact ((Below.refl _ _).alloc (Nat.le_refl _) _).alloc (by simp) _
  have c1 : W2.cell? ⟨W.heap.size, 0, none⟩ = some (.int .i64 x1) := by rw [← hW2]; simp
  have c2 : W2.cell? ⟨W.heap.size, 1, none⟩ = some (.int .i64 x2) := by rw [← hW2]; simp
  have c3 : W2.cell? ⟨W.heap.size + 1, 0, none⟩ = some (.int .i64 y1) := by rw [← hW2]; simp
  have c4 : W2.cell? ⟨W.heap.size + 1, 1, none⟩ = some (.int .i64 y2) := by rw [← hW2]; simp
  have HB2 : Hid (Below W.heap.size W W2) := hb2
  clear hW2 hb2
  generalize W.heap.size + 1 = B2 at c3 c4 ⊢
  generalize W.heap.size = B1 at c1 c2 ⊢
  have hor : Calls Tryz.prog 66 #[.slice (some ⟨W2.heap.size, 0, none⟩) 2 2] (W2.alloc (.cells #[.int .i64 (cf x1 y1), .int .i64 (cf x2 y2)] 3)).drew fun e w' => e = .returned (.int .i64 (orOf (cf x1 y1) (cf x2 y2))) ∧ w' = (W2.alloc (.cells #[.int .i64 (cf x1 y1), .int .i64 (cf x2 y2)] 3)).drew := or_any (cf x1 y1) (cf x2 y2) _ (by simp) (by simp)
  go_region_held3 (fun V => V.cell? ⟨B1, 0, none⟩ = some (.int .i64 x1) ∧ V.cell? ⟨B1, 1, none⟩ = some (.int .i64 x2) ∧ V.cell? ⟨B2, 0, none⟩ = some (.int .i64 y1) ∧ V.cell? ⟨B2, 1, none⟩ = some (.int .i64 y2)) (first | (go_keep; done))
    (first
      | (go_at_call 66; refine hor.mono ?_; rintro e w1 ⟨rfl, rfl⟩)
      | (go_at_call 67; refine (q _ _ _).mono ?_; rintro e w1 ⟨rfl, rfl⟩))
  go_wp2_with fail
  go_ret
  exact ⟨by rw [← hc]; rfl, below_step HB2.out (below_box _ _).drew⟩

set_option maxRecDepth 100000 in
set_option maxHeartbeats 1000000 in
theorem right_any (n a b : Int) (w : World) (q : Bool) (hq : q = true ↔ (0 ≤ a ∧ a < b ∧ b < n)) :
    Calls Tryz.prog 124 #[.int .i64 n, .agg #[.int .i64 a, .int .i64 b]] w fun e w' => e = .returned (.bool q) ∧ Below w.heap.size w w' := by
  by_cases h1 : 0 ≤ a
  · by_cases h2 : a < b
    · by_cases h3 : b < n
      · obtain rfl := hq.2 ⟨h1, h2, h3⟩
        clear hq
        go_enter Tryz.func124, Tryz.ntmps124
        go_wp2_with fail
        go_ret
        exact ⟨rfl, below_box _ _⟩
      · obtain rfl : q = false := by rw [Bool.eq_false_iff]; exact fun h => h3 (hq.1 h).2.2
        clear hq
        go_enter Tryz.func124, Tryz.ntmps124
        go_wp2_with fail
        go_ret
        exact ⟨rfl, below_box _ _⟩
    · obtain rfl : q = false := by rw [Bool.eq_false_iff]; exact fun h => h2 (hq.1 h).2.1
      clear hq
      go_enter Tryz.func124, Tryz.ntmps124
      go_wp2_with fail
      go_ret
      exact ⟨rfl, below_box _ _⟩
  · obtain rfl : q = false := by rw [Bool.eq_false_iff]; exact fun h => h1 (hq.1 h).1
    clear hq
    go_enter Tryz.func124, Tryz.ntmps124
    go_wp2_with fail
    go_ret
    exact ⟨rfl, below_box _ _⟩

def errV (e : Int) : Value := if e = 0 then .nilIface else .iface 102 (.int .i64 e)

set_option maxRecDepth 100000 in
set_option maxHeartbeats 1000000 in
theorem check_any {a : Option Addr} {m c : Nat} (h : EgAt w a m f) (n : Int) :
    Calls Tryz.prog 89 #[.int .i64 n, .slice a m c] w fun e w' => ∃ (k : Nat) (x : Int), e = .returned (.tuple #[.int .i64 (k : Int), errV x]) ∧ EFault n m f k x ∧ Below w.heap.size w w' := by
  have HH : Hid (EgAt w a m f) := h
  clear h
  by_cases h1 : n < 1
  · go_enter Tryz.func89, Tryz.ntmps89
    go_wp2_with fail
    go_ret2
    exact ⟨0, 1, rfl, Or.inl ⟨Or.inl h1, rfl, rfl⟩, Below.refl _ _⟩
  by_cases h2 : 60 < n
  · go_enter Tryz.func89, Tryz.ntmps89
    go_wp2_with fail
    go_ret2
    exact ⟨0, 1, rfl, Or.inl ⟨Or.inr h2, rfl, rfl⟩, Below.refl _ _⟩
  by_cases h3 : 200 < (m : Int)
  · go_enter Tryz.func89, Tryz.ntmps89
    go_wp2_with fail
    go_ret2
    exact ⟨0, 3, rfl, Or.inr (Or.inl ⟨by omega, by omega, rfl, rfl⟩), Below.refl _ _⟩
  go_enter Tryz.func89, Tryz.ntmps89
  go_wp2_with fail
  go_loopw [6, 7, 21] (fun _ _ i wr => ∃ j : Nat, j ≤ m ∧ i = .int .i64 (j : Nat) ∧ Below w.heap.size w wr ∧ ∀ i, i < j → May n.toNat f i) (fun _ _ i _ => m - (intOf i).toNat)
  case atStart => exact ⟨0, Nat.zero_le _, rfl, Below.refl _ _, fun i hi => absurd hi (Nat.not_lt_zero _)⟩
  case round =>
    obtain ⟨j, hj, rfl, hb, hall⟩ := hrel
    have HA : Hid (∀ i, i < j → May n.toNat f i) := hall
    have HB : Hid (Below w.heap.size w wr) := hb
    have HN : Hid ((1 ≤ n ∧ n ≤ 60) ∧ m ≤ 200 ∧ ((n.toNat : Nat) : Int) = n) := ⟨by omega, by omega, by omega⟩
    clear hall
    by_cases hlt : j < m
    · obtain ⟨b, o, rfl, c1, c2⟩ := HH.out.below hb j hlt
      have i0 : (0 : Int) ≤ (j : Int) := by omega
      have i1 : (j : Int) < (m : Int) := by omega
      obtain ⟨q1, hq1⟩ : ∃ q : Bool, q = true ↔ Sane n.toNat f j := ⟨@decide (Sane n.toNat f j) (Classical.propDecidable _), by simp⟩
      have hr := fun W => right_any n (f j).1 (f j).2 W q1 (by rw [hq1]; unfold Sane; rw [HN.out.2.2])
      have HQ1 : Hid (q1 = true ↔ Sane n.toNat f j) := hq1
      obtain ⟨q2, hq2⟩ : ∃ q : Bool, q = true ↔ ((f (j - 1)).1 < (f j).1 ∨ (f (j - 1)).1 = (f j).1 ∧ (f (j - 1)).2 < (f j).2) := ⟨decide ((f (j - 1)).1 < (f j).1 ∨ (f (j - 1)).1 = (f j).1 ∧ (f (j - 1)).2 < (f j).2), by simp⟩
      have hs := fun W => rises_any (f (j - 1)).1 (f (j - 1)).2 (f j).1 (f j).2 W q2 hq2
      have HQ2 : Hid (q2 = true ↔ ((f (j - 1)).1 < (f j).1 ∨ (f (j - 1)).1 = (f j).1 ∧ (f (j - 1)).2 < (f j).2)) := hq2
      clear hq1 hq2
      cases q1 with
      | false =>
        have HF : Hid (EFault n m f j 1) := Or.inr (Or.inr (Or.inl ⟨HN.out.1, HN.out.2.1, hlt, HA.out, Or.inl ⟨fun q => absurd (HQ1.out.2 q) (by decide), rfl⟩⟩))
        generalize (f j).1 = x1 at *
        generalize (f j).2 = x2 at *
        clear hb hs
        go_wp2_with fail
        refine (hr _).mono ?_
        rintro e w1 ⟨rfl, hb1⟩
        go_wp2_with fail
        go_ret2
        refine ⟨j, 1, rfl, HF.out, ?_⟩
        have hs := HB.out.size
        have hs1 := hb1.size
        exact (HB.out.alloc hs _).trans (hb1.mono (by simp; omega))
      | true =>
        have HS : Hid (Sane n.toNat f j) := HQ1.out.1 rfl
        rcases Nat.eq_zero_or_pos j with h0 | h0
        · have HM : Hid (∀ i, i < j + 1 → May n.toNat f i) := fun i hi => by
            obtain rfl : i = j := by omega
            exact ⟨HS.out, fun q => absurd q (by omega)⟩
          have hz : ¬ (0 : Int) < (j : Int) := by omega
          have hz' : decide ((0 : Int) < (j : Int)) = false := by simp [h0]
          have hz2 : ¬ 0 < j := by omega
          have hz3 : decide (0 < j) = false := by simp [h0]
          have HJ : Hid (j = 0) := h0
          clear hs HQ2 h0
          generalize (f j).1 = x1 at *
          generalize (f j).2 = x2 at *
          clear hb
          go_wp2_with fail
          refine (hr _).mono ?_
          rintro e w1 ⟨rfl, hb1⟩
          have HB1 : Hid (Below w.heap.size w w1) := below_step HB.out (below_step (below_box _ _) hb1)
          clear hb1
          go_wp2_with fail
          go_quiet (fail)
          go_wp2_with fail
          go_roundw
          case rel => exact ⟨j + 1, by omega, by go_num, below_step HB1.out (below_drewN rfl), HM.out⟩
          case measure => simp [intOf]; omega
        · obtain ⟨i, hi⟩ : ∃ i, j - 1 = i := ⟨_, rfl⟩
          rw [hi] at hs HQ2
          obtain ⟨b', o', e', d1, d2⟩ := HH.out.below hb i (by omega)
          simp only [Option.some.injEq, Addr.mk.injEq, and_true] at e'
          obtain ⟨rfl, rfl⟩ := e'
          have HC : Hid (q2 = true ↔ Climbs f j) := show _ ↔ _ by
            rw [HQ2.out]
            unfold Climbs
            rw [hi]
            exact ⟨fun q _ => q, fun q => q h0⟩
          have hz : (0 : Int) < (j : Int) := by omega
          have hz3 : decide (0 < j) = true := by simp [h0]
          have j1 : (j : Int) - 1 = (i : Int) := by omega
          have j2 : IntKind.i64.wrap (i : Int) = (i : Int) := by rw [IntKind.wrap_i64]; omega
          have i2 : (0 : Int) ≤ (i : Int) := by omega
          have i3 : (i : Int) < (m : Int) := by omega
          clear hi HQ2
          generalize (f j).1 = x1 at *
          generalize (f j).2 = x2 at *
          generalize (f i).1 = z1 at *
          generalize (f i).2 = z2 at *
          clear hb
          go_wp2_with fail
          refine (hr _).mono ?_
          rintro e w1 ⟨rfl, hb1⟩
          have HB1 : Hid (Below w.heap.size w w1) := below_step HB.out (below_step (below_box _ _) hb1)
          have hk : Below wr.heap.size wr w1 := below_step (below_box _ _) hb1
          have k1 := cell_keep hk d1
          have k2 := cell_keep hk d2
          have k3 : w1.cell? ⟨wr.heap.size, 0, none⟩ = some (.int .i64 x1) := cell_keep hb1 (by simp)
          have k4 : w1.cell? ⟨wr.heap.size, 1, none⟩ = some (.int .i64 x2) := cell_keep hb1 (by simp)
          clear hb1 hk c1 c2 d1 d2 hr
          generalize wr.heap.size = B at k3 k4 ⊢
          cases q2 with
          | false =>
            have HF : Hid (EFault n m f j 2) := Or.inr (Or.inr (Or.inl ⟨HN.out.1, HN.out.2.1, hlt, HA.out, Or.inr ⟨HS.out, fun q => absurd (HC.out.2 q) (by decide), rfl⟩⟩))
            go_wp2_with fail
            go_region_held3 (fun V => V.cell? ⟨b, o + i * 2, none⟩ = some (.int .i64 z1) ∧ V.cell? ⟨b, o + i * 2 + 1, none⟩ = some (.int .i64 z2) ∧ V.cell? ⟨B, 0, none⟩ = some (.int .i64 x1) ∧ V.cell? ⟨B, 1, none⟩ = some (.int .i64 x2)) (first | (go_keep; done) | exact ⟨cell_keep hb2 k1, cell_keep hb2 k2, cell_keep hb2 k3, cell_keep hb2 k4⟩)
              (first | (go_at_call 125; refine (hs w1.drew).mono ?_; rintro e w2 ⟨rfl, hb2⟩; replace hb2 : Below w1.heap.size w1 w2 := below_step (Below.refl _ _).drew hb2))
            go_wp2_with fail
            go_ret2
            exact ⟨j, 2, rfl, HF.out, below_step HB1.out hb2⟩
          | true =>
            have HM : Hid (∀ i, i < j + 1 → May n.toNat f i) := fun k hk => by
              rcases Nat.lt_or_ge k j with q | q
              · exact HA.out k q
              · obtain rfl : k = j := by omega
                exact ⟨HS.out, HC.out.1 rfl⟩
            go_wp2_with fail
            go_region_held3 (fun V => V.cell? ⟨b, o + i * 2, none⟩ = some (.int .i64 z1) ∧ V.cell? ⟨b, o + i * 2 + 1, none⟩ = some (.int .i64 z2) ∧ V.cell? ⟨B, 0, none⟩ = some (.int .i64 x1) ∧ V.cell? ⟨B, 1, none⟩ = some (.int .i64 x2)) (first | (go_keep; done) | exact ⟨cell_keep hb2 k1, cell_keep hb2 k2, cell_keep hb2 k3, cell_keep hb2 k4⟩)
              (first | (go_at_call 125; refine (hs w1.drew).mono ?_; rintro e w2 ⟨rfl, hb2⟩; replace hb2 : Below w1.heap.size w1 w2 := below_step (Below.refl _ _).drew hb2))
            have HB2 : Hid (Below w.heap.size w w2) := below_step HB1.out hb2
            clear hb2
            go_wp2_with fail
            go_roundw
            case rel => exact ⟨j + 1, by omega, by go_num, HB2.out, HM.out⟩
            case measure => simp [intOf]; omega
    · have HE : Hid (EFault n m f 0 0) := Or.inr (Or.inr (Or.inr ⟨HN.out.1, HN.out.2.1, fun i hi => HA.out i (by omega), rfl, rfl⟩))
      go_wp2_with fail
      go_ret2
      exact ⟨0, 0, rfl, HE.out, HB.out⟩

end Go.Proofs.YtcfemppdeidjmacGreat.Br

namespace Go.Proofs.YtcfemppdeidjmacGreat.Br
open Go.RowKit Go.Deep
open Go.RowKit (Below)
set_option linter.unusedVariables false

variable {w w' : World} {kw kn n a : Nat} {V : Nat → Value} {nb : Nat → List Nat} {s s' : St}

def cells2 (kn n T : Nat) : Nat → Value := fun i => if i = 0 then .slice (some ⟨kn, 0, none⟩) n n else .int .i64 (T : Nat)

structure Node (V : Nat → Value) (s : St) (g : Nat → Value) (i : Nat) : Prop where
  near : g (i * 6) = V i
  fr : g (i * 6 + 1) = .int .i64 (s.fr i)
  least : g (i * 6 + 2) = .int .i64 (s.least i : Nat)
  turn : g (i * 6 + 3) = .int .i64 (s.turn i : Nat)
  back : g (i * 6 + 4) = .int .i64 (s.back i : Nat)
  pieces : g (i * 6 + 5) = .int .i64 (s.pieces i : Nat)

structure WAt (w : World) (kw kn n : Nat) (V : Nat → Value) (nb : Nat → List Nat) (s : St) : Prop where
  st : w.rowIs kw 162 2 (cells2 kn n s.T)
  nd : ∃ g, w.rowIs kn 101 (n * 6) g ∧ ∀ i, i < n → Node V s g i
  ne : kw ≠ kn
  near : ∀ i, i < n → ∃ b c, V i = .slice b (nb i).length c ∧ IntsAt w b (nb i).length (nb i) ∧ ∀ p, b = some p → p.block ≠ kw ∧ p.block ≠ kn

theorem ints_set {b : Option Addr} {m : Nat} {l : List Nat} (h : IntsAt w b m l) {q : Addr} (hb : ∀ p, b = some p → p.block ≠ q.block) (v : Value) : IntsAt (w.setCell q v) b m l := ⟨h.len, fun i hi => by
  obtain ⟨k, o, e, c⟩ := h.cell i hi
  refine ⟨k, o, e, ?_⟩
  rw [World.cell?_of_block (w := w) (a := ⟨k, o + i, none⟩) (blk_setCell_other _ _ _ _ (hb ⟨k, o, none⟩ e))]
  exact c⟩

section

theorem WAt.w0 (h : WAt w kw kn n V nb s) : w.cell? ⟨kw, 0, none⟩ = some (.slice (some ⟨kn, 0, none⟩) n n) := h.st.cell (i := 0) (by omega)
theorem WAt.w1 (h : WAt w kw kn n V nb s) : w.cell? ⟨kw, 1, none⟩ = some (.int .i64 (s.T : Nat)) := h.st.cell (i := 1) (by omega)
theorem WAt.f0 (h : WAt w kw kn n V nb s) (ha : a < n) : w.cell? ⟨kn, a * 6, none⟩ = some (V a) := by
  obtain ⟨g, h1, h2⟩ := h.nd; rw [h1.cell (i := a * 6) (by omega), (h2 a ha).near]
theorem WAt.f1 (h : WAt w kw kn n V nb s) (ha : a < n) : w.cell? ⟨kn, a * 6 + 1, none⟩ = some (.int .i64 (s.fr a)) := by
  obtain ⟨g, h1, h2⟩ := h.nd; rw [h1.cell (i := a * 6 + 1) (by omega), (h2 a ha).fr]
theorem WAt.f2 (h : WAt w kw kn n V nb s) (ha : a < n) : w.cell? ⟨kn, a * 6 + 2, none⟩ = some (.int .i64 (s.least a : Nat)) := by
  obtain ⟨g, h1, h2⟩ := h.nd; rw [h1.cell (i := a * 6 + 2) (by omega), (h2 a ha).least]
theorem WAt.f3 (h : WAt w kw kn n V nb s) (ha : a < n) : w.cell? ⟨kn, a * 6 + 3, none⟩ = some (.int .i64 (s.turn a : Nat)) := by
  obtain ⟨g, h1, h2⟩ := h.nd; rw [h1.cell (i := a * 6 + 3) (by omega), (h2 a ha).turn]
theorem WAt.f4 (h : WAt w kw kn n V nb s) (ha : a < n) : w.cell? ⟨kn, a * 6 + 4, none⟩ = some (.int .i64 (s.back a : Nat)) := by
  obtain ⟨g, h1, h2⟩ := h.nd; rw [h1.cell (i := a * 6 + 4) (by omega), (h2 a ha).back]
theorem WAt.f5 (h : WAt w kw kn n V nb s) (ha : a < n) : w.cell? ⟨kn, a * 6 + 5, none⟩ = some (.int .i64 (s.pieces a : Nat)) := by
  obtain ⟨g, h1, h2⟩ := h.nd; rw [h1.cell (i := a * 6 + 5) (by omega), (h2 a ha).pieces]
theorem WAt.fz (h : WAt w kw kn n V nb s) (i : Nat) : w.frozen? ⟨kn, i, none⟩ = false := by
  obtain ⟨g, h1, h2⟩ := h.nd; exact h1.frozen i
theorem WAt.wz (h : WAt w kw kn n V nb s) (i : Nat) : w.frozen? ⟨kw, i, none⟩ = false := h.st.frozen i

theorem WAt.set (h : WAt w kw kn n V nb s) (j : Nat) (v : Value) (hT : s'.T = s.T) (hs : ∀ g, (∀ i, i < n → Node V s g i) → ∀ i, i < n → Node V s' (fun k => if k = j then v else g k) i) : WAt (w.setCell ⟨kn, j, none⟩ v) kw kn n V nb s' := by
  obtain ⟨g, h1, h2⟩ := h.nd
  refine ⟨by rw [hT]; exact h.st.setOther (a := ⟨kn, j, none⟩) (by exact h.ne) _, ⟨_, h1.set j v, hs g h2⟩, h.ne, fun i hi => ?_⟩
  obtain ⟨b, c, e1, e2, e3⟩ := h.near i hi
  exact ⟨b, c, e1, ints_set e2 (fun p hp => (e3 p hp).2) _, e3⟩

theorem WAt.set1 (h : WAt w kw kn n V nb s) (x : Int) : WAt (w.setCell ⟨kn, a * 6 + 1, none⟩ (.int .i64 x)) kw kn n V nb { s with fr := upd s.fr a x } := h.set _ _ rfl fun g hg i hi => by
  have q := hg i hi
  refine ⟨by simp only [if_neg (show i * 6 ≠ a * 6 + 1 by omega)]; exact q.near, ?_, by simp only [if_neg (show i * 6 + 2 ≠ a * 6 + 1 by omega)]; exact q.least, by simp only [if_neg (show i * 6 + 3 ≠ a * 6 + 1 by omega)]; exact q.turn, by simp only [if_neg (show i * 6 + 4 ≠ a * 6 + 1 by omega)]; exact q.back, by simp only [if_neg (show i * 6 + 5 ≠ a * 6 + 1 by omega)]; exact q.pieces⟩
  by_cases e : i = a
  · subst e; simp [upd_self]
  · simp only [if_neg (show i * 6 + 1 ≠ a * 6 + 1 by omega), upd_ne _ _ e]; exact q.fr
theorem WAt.set2 (h : WAt w kw kn n V nb s) (x : Nat) : WAt (w.setCell ⟨kn, a * 6 + 2, none⟩ (.int .i64 (x : Nat))) kw kn n V nb { s with least := upd s.least a x } := h.set _ _ rfl fun g hg i hi => by
  have q := hg i hi
  refine ⟨by simp only [if_neg (show i * 6 ≠ a * 6 + 2 by omega)]; exact q.near, by simp only [if_neg (show i * 6 + 1 ≠ a * 6 + 2 by omega)]; exact q.fr, ?_, by simp only [if_neg (show i * 6 + 3 ≠ a * 6 + 2 by omega)]; exact q.turn, by simp only [if_neg (show i * 6 + 4 ≠ a * 6 + 2 by omega)]; exact q.back, by simp only [if_neg (show i * 6 + 5 ≠ a * 6 + 2 by omega)]; exact q.pieces⟩
  by_cases e : i = a
  · subst e; simp [upd_self]
  · simp only [if_neg (show i * 6 + 2 ≠ a * 6 + 2 by omega), upd_ne _ _ e]; exact q.least
theorem WAt.set3 (h : WAt w kw kn n V nb s) (x : Nat) : WAt (w.setCell ⟨kn, a * 6 + 3, none⟩ (.int .i64 (x : Nat))) kw kn n V nb { s with turn := upd s.turn a x } := h.set _ _ rfl fun g hg i hi => by
  have q := hg i hi
  refine ⟨by simp only [if_neg (show i * 6 ≠ a * 6 + 3 by omega)]; exact q.near, by simp only [if_neg (show i * 6 + 1 ≠ a * 6 + 3 by omega)]; exact q.fr, by simp only [if_neg (show i * 6 + 2 ≠ a * 6 + 3 by omega)]; exact q.least, ?_, by simp only [if_neg (show i * 6 + 4 ≠ a * 6 + 3 by omega)]; exact q.back, by simp only [if_neg (show i * 6 + 5 ≠ a * 6 + 3 by omega)]; exact q.pieces⟩
  by_cases e : i = a
  · subst e; simp [upd_self]
  · simp only [if_neg (show i * 6 + 3 ≠ a * 6 + 3 by omega), upd_ne _ _ e]; exact q.turn
theorem WAt.set4 (h : WAt w kw kn n V nb s) (x : Nat) : WAt (w.setCell ⟨kn, a * 6 + 4, none⟩ (.int .i64 (x : Nat))) kw kn n V nb { s with back := upd s.back a x } := h.set _ _ rfl fun g hg i hi => by
  have q := hg i hi
  refine ⟨by simp only [if_neg (show i * 6 ≠ a * 6 + 4 by omega)]; exact q.near, by simp only [if_neg (show i * 6 + 1 ≠ a * 6 + 4 by omega)]; exact q.fr, by simp only [if_neg (show i * 6 + 2 ≠ a * 6 + 4 by omega)]; exact q.least, by simp only [if_neg (show i * 6 + 3 ≠ a * 6 + 4 by omega)]; exact q.turn, ?_, by simp only [if_neg (show i * 6 + 5 ≠ a * 6 + 4 by omega)]; exact q.pieces⟩
  by_cases e : i = a
  · subst e; simp [upd_self]
  · simp only [if_neg (show i * 6 + 4 ≠ a * 6 + 4 by omega), upd_ne _ _ e]; exact q.back
theorem WAt.set5 (h : WAt w kw kn n V nb s) (x : Nat) : WAt (w.setCell ⟨kn, a * 6 + 5, none⟩ (.int .i64 (x : Nat))) kw kn n V nb { s with pieces := upd s.pieces a x } := h.set _ _ rfl fun g hg i hi => by
  have q := hg i hi
  refine ⟨by simp only [if_neg (show i * 6 ≠ a * 6 + 5 by omega)]; exact q.near, by simp only [if_neg (show i * 6 + 1 ≠ a * 6 + 5 by omega)]; exact q.fr, by simp only [if_neg (show i * 6 + 2 ≠ a * 6 + 5 by omega)]; exact q.least, by simp only [if_neg (show i * 6 + 3 ≠ a * 6 + 5 by omega)]; exact q.turn, by simp only [if_neg (show i * 6 + 4 ≠ a * 6 + 5 by omega)]; exact q.back, ?_⟩
  by_cases e : i = a
  · subst e; simp [upd_self]
  · simp only [if_neg (show i * 6 + 5 ≠ a * 6 + 5 by omega), upd_ne _ _ e]; exact q.pieces
theorem WAt.setT (h : WAt w kw kn n V nb s) (x : Nat) : WAt (w.setCell ⟨kw, 1, none⟩ (.int .i64 (x : Nat))) kw kn n V nb { s with T := x } := by
  obtain ⟨g, h1, h2⟩ := h.nd
  refine ⟨(h.st.set 1 _).congr fun i hi => ?_, ⟨g, h1.setOther (a := ⟨kw, 1, none⟩) (fun e => h.ne e.symm) _, fun i hi => ⟨(h2 i hi).near, (h2 i hi).fr, (h2 i hi).least, (h2 i hi).turn, (h2 i hi).back, (h2 i hi).pieces⟩⟩, h.ne, fun i hi => ?_⟩
  · unfold cells2
    have : i = 0 ∨ i = 1 := by omega
    rcases this with rfl | rfl <;> rfl
  · obtain ⟨b, c, e1, e2, e3⟩ := h.near i hi
    exact ⟨b, c, e1, ints_set e2 (fun p hp => (e3 p hp).1) _, e3⟩

theorem WAt.as (h : WAt w kw kn n V nb s) (h1 : ∀ i, i < n → s'.turn i = s.turn i ∧ s'.fr i = s.fr i ∧ s'.least i = s.least i ∧ s'.back i = s.back i ∧ s'.pieces i = s.pieces i) (hT : s'.T = s.T) : WAt w kw kn n V nb s' := by
  obtain ⟨g, q1, q2⟩ := h.nd
  refine ⟨by rw [hT]; exact h.st, ⟨g, q1, fun i hi => ?_⟩, h.ne, h.near⟩
  obtain ⟨e1, e2, e3, e4, e5⟩ := h1 i hi
  have q := q2 i hi
  exact ⟨q.near, by rw [e2]; exact q.fr, by rw [e3]; exact q.least, by rw [e1]; exact q.turn, by rw [e4]; exact q.back, by rw [e5]; exact q.pieces⟩

theorem WAt.drewN (h : WAt w kw kn n V nb s) (q : Nat) (e : w' = w.drewN q) : WAt w' kw kn n V nb s := by
  have hb := below_drewN e
  obtain ⟨g, q1, q2⟩ := h.nd
  refine ⟨h.st.of_block (hb.block _ h.st.lt), ⟨g, q1.of_block (hb.block _ q1.lt), q2⟩, h.ne, fun i hi => ?_⟩
  obtain ⟨b, c, e1, e2, e3⟩ := h.near i hi
  exact ⟨b, c, e1, e2.below hb, e3⟩

end

set_option maxRecDepth 100000 in
set_option maxHeartbeats 2000000 in
theorem arrive_root {base : Nat} (h : WAt w kw kn n V nb s) (hbw : base ≤ kw) (hbn : base ≤ kn) (ha : a < n) (hT : s.T < n) (hn : n ≤ 60) (hz : s.pieces a = 0) :
    Calls Tryz.prog 128 #[.pointer (some ⟨kw, 0, none⟩), .int .i64 (a : Nat), .int .i64 (-1)] w fun e w' => e = .returned (.tuple #[]) ∧ WAt w' kw kn n V nb (arrived s a [] a) ∧ Below base w w' := by
  have i0 : (0 : Int) ≤ (a : Int) := by omega
  have i1 : (a : Int) < (n : Int) := by omega
  have c0 := h.w0
  have c1 := h.w1
  have z1 := h.wz
  have hw1 : IntKind.i64.wrap ((s.T : Nat) + 1 : Int) = ((s.T + 1 : Nat) : Int) := by rw [IntKind.wrap_i64]; omega
  have HT := h.setT (s.T + 1)
  obtain ⟨t, ht⟩ : ∃ t, s.T + 1 = t := ⟨_, rfl⟩
  rw [ht] at hw1 HT
  have Hb : Hid (Below base w (w.setCell ⟨kw, 1, none⟩ (.int .i64 (t : Nat)))) := Below.setCell (Below.refl _ _) hbw _
  clear h hT
  go_enter Tryz.func128, Tryz.ntmps128
  go_wp2_with fail
  clear c0 c1 z1 hw1
  generalize w.setCell ⟨kw, 1, none⟩ (.int .i64 (t : Nat)) = W at HT Hb ⊢
  have c0 := HT.w0
  have c1 : W.cell? ⟨kw, 1, none⟩ = some (.int .i64 (t : Nat)) := HT.w1
  have d1 := HT.f1 ha
  have d2 := HT.f2 ha
  have d3 := HT.f3 ha
  have d4 := HT.f4 ha
  have z0 := HT.fz
  have n1 := HT.ne
  have n2 := HT.ne.symm
  have H4 := ((((HT.set1 (a := a) (-1)).set2 (a := a) a).set3 (a := a) t).set4 (a := a) t).drewN 1 rfl
  have Hb4 : Hid (Below base w ((((W.setCell ⟨kn, a * 6 + 1, none⟩ (.int .i64 (-1))).setCell ⟨kn, a * 6 + 2, none⟩ (.int .i64 (a : Nat))).setCell ⟨kn, a * 6 + 3, none⟩ (.int .i64 (t : Nat))).setCell ⟨kn, a * 6 + 4, none⟩ (.int .i64 (t : Nat))).drew) := ((((Hb.out.setCell hbn _).setCell hbn _).setCell hbn _).setCell hbn _).drew
  clear HT Hb
  go_region
  clear c0 c1 d1 d2 d3 d4 z0
  have H5 : WAt ((((W.setCell ⟨kn, a * 6 + 1, none⟩ (.int .i64 (-1))).setCell ⟨kn, a * 6 + 2, none⟩ (.int .i64 (a : Nat))).setCell ⟨kn, a * 6 + 3, none⟩ (.int .i64 (t : Nat))).setCell ⟨kn, a * 6 + 4, none⟩ (.int .i64 (t : Nat))).drew kw kn n V nb _ := H4
  clear H4
  generalize ((((W.setCell ⟨kn, a * 6 + 1, none⟩ (.int .i64 (-1))).setCell ⟨kn, a * 6 + 2, none⟩ (.int .i64 (a : Nat))).setCell ⟨kn, a * 6 + 3, none⟩ (.int .i64 (t : Nat))).setCell ⟨kn, a * 6 + 4, none⟩ (.int .i64 (t : Nat))).drew = W2 at H5 Hb4 ⊢
  have H6 : Hid (WAt W2 kw kn n V nb (arrived s a [] a)) := H5.as (fun i hi => by
    refine ⟨by rw [← ht]; rfl, rfl, rfl, by rw [← ht]; rfl, ?_⟩
    show upd s.pieces a _ i = s.pieces i
    by_cases e : i = a
    · subst e; rw [upd_self, hz]; rfl
    · exact upd_ne _ _ e) (by rw [← ht]; rfl)
  clear H5
  go_wp2_with fail
  go_end0
  exact ⟨rfl, H6.out, Hb4.out⟩

set_option maxRecDepth 100000 in
set_option maxHeartbeats 2000000 in
theorem arrive_on {base k : Nat} {A : List Nat} (h : WAt w kw kn n V nb s) (hbw : base ≤ kw) (hbn : base ≤ kn) (ha : a < n) (hk : k < n) (hka : k ≠ a) (hT : s.T < n) (hn : n ≤ 60) :
    Calls Tryz.prog 128 #[.pointer (some ⟨kw, 0, none⟩), .int .i64 (a : Nat), .int .i64 (k : Nat)] w fun e w' => e = .returned (.tuple #[]) ∧ WAt w' kw kn n V nb (arrived s a (k :: A) (s.least k)) ∧ Below base w w' := by
  have i0 : (0 : Int) ≤ (a : Int) := by omega
  have i1 : (a : Int) < (n : Int) := by omega
  have c0 := h.w0
  have c1 := h.w1
  have z1 := h.wz
  have hw1 : IntKind.i64.wrap ((s.T : Nat) + 1 : Int) = ((s.T + 1 : Nat) : Int) := by rw [IntKind.wrap_i64]; omega
  have HT := h.setT (s.T + 1)
  obtain ⟨t, ht⟩ : ∃ t, s.T + 1 = t := ⟨_, rfl⟩
  rw [ht] at hw1 HT
  have Hb : Hid (Below base w (w.setCell ⟨kw, 1, none⟩ (.int .i64 (t : Nat)))) := Below.setCell (Below.refl _ _) hbw _
  clear h hT
  go_enter Tryz.func128, Tryz.ntmps128
  go_wp2_with fail
  clear c0 c1 z1 hw1
  generalize w.setCell ⟨kw, 1, none⟩ (.int .i64 (t : Nat)) = W at HT Hb ⊢
  have c0 := HT.w0
  have c1 : W.cell? ⟨kw, 1, none⟩ = some (.int .i64 (t : Nat)) := HT.w1
  have d1 := HT.f1 ha
  have d2 := HT.f2 ha
  have d3 := HT.f3 ha
  have d4 := HT.f4 ha
  have z0 := HT.fz
  have n1 := HT.ne
  have n2 := HT.ne.symm
  have H4 := ((((HT.set1 (a := a) ((k : Nat))).set2 (a := a) a).set3 (a := a) t).set4 (a := a) t).drewN 1 rfl
  have Hb4 : Hid (Below base w ((((W.setCell ⟨kn, a * 6 + 1, none⟩ (.int .i64 ((k : Nat)))).setCell ⟨kn, a * 6 + 2, none⟩ (.int .i64 (a : Nat))).setCell ⟨kn, a * 6 + 3, none⟩ (.int .i64 (t : Nat))).setCell ⟨kn, a * 6 + 4, none⟩ (.int .i64 (t : Nat))).drew) := ((((Hb.out.setCell hbn _).setCell hbn _).setCell hbn _).setCell hbn _).drew
  clear HT Hb
  go_region
  clear c0 c1 d1 d2 d3 d4 z0
  have H5 : WAt ((((W.setCell ⟨kn, a * 6 + 1, none⟩ (.int .i64 ((k : Nat)))).setCell ⟨kn, a * 6 + 2, none⟩ (.int .i64 (a : Nat))).setCell ⟨kn, a * 6 + 3, none⟩ (.int .i64 (t : Nat))).setCell ⟨kn, a * 6 + 4, none⟩ (.int .i64 (t : Nat))).drew kw kn n V nb _ := H4
  clear H4
  generalize ((((W.setCell ⟨kn, a * 6 + 1, none⟩ (.int .i64 ((k : Nat)))).setCell ⟨kn, a * 6 + 2, none⟩ (.int .i64 (a : Nat))).setCell ⟨kn, a * 6 + 3, none⟩ (.int .i64 (t : Nat))).setCell ⟨kn, a * 6 + 4, none⟩ (.int .i64 (t : Nat))).drew = W2 at H5 Hb4 ⊢
  have i2 : (0 : Int) ≤ (k : Int) := by omega
  have i3 : (k : Int) < (n : Int) := by omega
  have t1 : ((k : Int) != -1) = true := by simp
  have c0 := H5.w0
  have d2 : W2.cell? ⟨kn, k * 6 + 2, none⟩ = some (.int .i64 (s.least k : Nat)) := by rw [H5.f2 hk]; show some (Value.int .i64 ((upd s.least a a k : Nat) : Int)) = _; rw [upd_ne _ _ hka]
  have d2' := H5.f2 ha
  have d5 := H5.f5 ha
  have z0 := H5.fz
  have HS := (H5.set2 (a := a) (s.least k)).set5 (a := a) 1
  have Hb6 : Hid (Below base w ((W2.setCell ⟨kn, a * 6 + 2, none⟩ (.int .i64 (s.least k : Nat))).setCell ⟨kn, a * 6 + 5, none⟩ (.int .i64 ((1 : Nat) : Int)))) := (Hb4.out.setCell hbn _).setCell hbn _
  have H6 : Hid (WAt ((W2.setCell ⟨kn, a * 6 + 2, none⟩ (.int .i64 (s.least k : Nat))).setCell ⟨kn, a * 6 + 5, none⟩ (.int .i64 ((1 : Nat) : Int))) kw kn n V nb (arrived s a (k :: A) (s.least k))) := HS.as (fun i hi => by
    refine ⟨by rw [← ht]; rfl, rfl, ?_, by rw [← ht]; rfl, ?_⟩
    · show upd s.least a (s.least k) i = upd (upd s.least a a) a (s.least k) i
      by_cases e : i = a
      · subst e; rw [upd_self, upd_self]
      · rw [upd_ne _ _ e, upd_ne _ _ e, upd_ne _ _ e]
    · show upd s.pieces a (if ((k : Nat) : Int) = -1 then 0 else 1) i = upd s.pieces a 1 i
      rw [if_neg (by omega)]) (by rw [← ht]; rfl)
  clear H5 HS Hb4
  go_wp2_with fail
  go_end0
  exact ⟨rfl, H6.out, Hb6.out⟩

end Go.Proofs.YtcfemppdeidjmacGreat.Br
