/-
  Kb
-/
import Derived.Test.YtcfemppdeidjmacGreatT23
import Derived.Test.YtcfemppdeidjmacGreatT24
namespace Go.Proofs.YtcfemppdeidjmacGreat.Sp
open Go.RowKit Go.Deep
set_option linter.unusedVariables false

def HeavyAt (w : World) (a : Option Addr) (m : Nat) (hv : Nat → Int × Int × Int) : Prop :=
  ∀ i, i < m → ∃ b o, a = some ⟨b, o, none⟩ ∧ w.cell? ⟨b, o + i * 3, none⟩ = some (.int .i64 (hv i).1) ∧ w.cell? ⟨b, o + i * 3 + 1, none⟩ = some (.int .i64 (hv i).2.1) ∧ w.cell? ⟨b, o + i * 3 + 2, none⟩ = some (.int .i64 (hv i).2.2)

theorem HeavyAt.below {w w' : World} {a : Option Addr} {m : Nat} {hv : Nat → Int × Int × Int} (h : HeavyAt w a m hv) (hb : Below w.heap.size w w') : HeavyAt w' a m hv := fun i hi => by
  obtain ⟨b, o, e, h1, h2, h3⟩ := h i hi
  exact ⟨b, o, e, Un.cell_keep hb h1, Un.cell_keep hb h2, Un.cell_keep hb h3⟩

def Okay (n : Int) (x : Int × Int × Int) : Prop := 0 ≤ x.1 ∧ x.1 < x.2.1 ∧ x.2.1 < n ∧ 0 ≤ x.2.2 ∧ x.2.2 ≤ 1000000

def Fault (n : Int) (m : Nat) (hv : Nat → Int × Int × Int) (k : Nat) (e : Int) : Prop :=
  ((n < 1 ∨ 60 < n) ∧ k = 0 ∧ e = 1) ∨ ((1 ≤ n ∧ n ≤ 60) ∧ 200 < m ∧ k = 0 ∧ e = 3) ∨ ((1 ≤ n ∧ n ≤ 60) ∧ m ≤ 200 ∧ k < m ∧ ¬ Okay n (hv k) ∧ (∀ i, i < k → Okay n (hv i)) ∧ e = 1) ∨
    ((1 ≤ n ∧ n ≤ 60) ∧ m ≤ 200 ∧ (∀ i, i < m → Okay n (hv i)) ∧ k = 0 ∧ e = 0)

theorem Fault.nodes {n : Int} {m : Nat} {hv : Nat → Int × Int × Int} (h : n < 1 ∨ 60 < n) : Fault n m hv 0 1 := Or.inl ⟨h, rfl, rfl⟩
theorem Fault.full {n : Int} {m : Nat} {hv : Nat → Int × Int × Int} (h1 : 1 ≤ n) (h2 : n ≤ 60) (h : 200 < m) : Fault n m hv 0 3 := Or.inr (Or.inl ⟨⟨h1, h2⟩, h, rfl, rfl⟩)
theorem Fault.wrong {n : Int} {m : Nat} {hv : Nat → Int × Int × Int} (k : Nat) (h1 : 1 ≤ n) (h2 : n ≤ 60) (h3 : m ≤ 200) (h4 : k < m) (h5 : ¬ Okay n (hv k)) (h6 : ∀ i, i < k → Okay n (hv i)) : Fault n m hv k 1 := Or.inr (Or.inr (Or.inl ⟨⟨h1, h2⟩, h3, h4, h5, h6, rfl⟩))
theorem Fault.right {n : Int} {m : Nat} {hv : Nat → Int × Int × Int} (h1 : 1 ≤ n) (h2 : n ≤ 60) (h3 : m ≤ 200) (h4 : ∀ i, i < m → Okay n (hv i)) : Fault n m hv 0 0 := Or.inr (Or.inr (Or.inr ⟨⟨h1, h2⟩, h3, h4, rfl, rfl⟩))

theorem Fault.ok {n : Int} {m : Nat} {hv : Nat → Int × Int × Int} {k : Nat} (h : Fault n m hv k 0) : 1 ≤ n ∧ n ≤ 60 ∧ m ≤ 200 ∧ (∀ i, i < m → Okay n (hv i)) := by
  rcases h with ⟨_, _, h⟩ | ⟨_, _, _, h⟩ | ⟨_, _, _, _, _, h⟩ | ⟨⟨h1, h2⟩, h3, h4, _, _⟩
  · exact absurd h (by decide)
  · exact absurd h (by decide)
  · exact absurd h (by decide)
  · exact ⟨h1, h2, h3, h4⟩

theorem Fault.one {n : Int} {m : Nat} {hv : Nat → Int × Int × Int} {k k' : Nat} {e e' : Int} (h : Fault n m hv k e) (h' : Fault n m hv k' e') : k = k' ∧ e = e' := by
  rcases h with ⟨a1, a2, a3⟩ | ⟨a1, a4, a2, a3⟩ | ⟨a1, a4, a5, a6, a7, a3⟩ | ⟨a1, a4, a5, a2, a3⟩
  · rcases h' with ⟨b1, b2, b3⟩ | ⟨b1, b4, b2, b3⟩ | ⟨b1, b4, b5, b6, b7, b3⟩ | ⟨b1, b4, b5, b2, b3⟩
    · exact ⟨a2.trans b2.symm, a3.trans b3.symm⟩
    · exfalso; omega
    · exfalso; omega
    · exfalso; omega
  · rcases h' with ⟨b1, b2, b3⟩ | ⟨b1, b4, b2, b3⟩ | ⟨b1, b4, b5, b6, b7, b3⟩ | ⟨b1, b4, b5, b2, b3⟩
    · exfalso; omega
    · exact ⟨a2.trans b2.symm, a3.trans b3.symm⟩
    · exfalso; omega
    · exfalso; omega
  · rcases h' with ⟨b1, b2, b3⟩ | ⟨b1, b4, b2, b3⟩ | ⟨b1, b4, b5, b6, b7, b3⟩ | ⟨b1, b4, b5, b2, b3⟩
    · exfalso; omega
    · exfalso; omega
    · refine ⟨?_, a3.trans b3.symm⟩
      rcases Nat.lt_trichotomy k k' with hl | hl | hl
      · exact absurd (b7 k hl) a6
      · exact hl
      · exact absurd (a7 k' hl) b6
    · exact absurd (b5 k a5) a6
  · rcases h' with ⟨b1, b2, b3⟩ | ⟨b1, b4, b2, b3⟩ | ⟨b1, b4, b5, b6, b7, b3⟩ | ⟨b1, b4, b5, b2, b3⟩
    · exfalso; omega
    · exfalso; omega
    · exact absurd (a5 k' b5) b6
    · exact ⟨a2.trans b2.symm, a3.trans b3.symm⟩

def errV (e : Int) : Value := if e = 0 then .nilIface else .iface 102 (.int .i64 e)

set_option maxHeartbeats 400000 in
theorem isNode_any (n a : Int) (w : World) (q : Bool) (hq : q = true ↔ (0 ≤ a ∧ a < n)) : Calls Tryz.prog 144 #[.int .i64 n, .int .i64 a] w fun e w' => e = .returned (.bool q) ∧ w' = w := by
  by_cases h1 : 0 ≤ a
  · by_cases h2 : a < n
    · obtain rfl := hq.2 ⟨h1, h2⟩
      clear hq
      go_enter Tryz.func144, Tryz.ntmps144
      go_wp2_with fail
      go_ret
      exact ⟨rfl, rfl⟩
    · obtain rfl : q = false := by rw [Bool.eq_false_iff]; exact fun h => h2 (hq.1 h).2
      clear hq
      go_enter Tryz.func144, Tryz.ntmps144
      go_wp2_with fail
      go_ret
      exact ⟨rfl, rfl⟩
  · obtain rfl : q = false := by rw [Bool.eq_false_iff]; exact fun h => h1 (hq.1 h).1
    clear hq
    go_enter Tryz.func144, Tryz.ntmps144
    go_wp2_with fail
    go_ret
    exact ⟨rfl, rfl⟩

set_option maxRecDepth 100000 in
set_option maxHeartbeats 1000000 in
theorem right_yes (n a b c : Int) (w : World) (h1 : 0 ≤ a) (h2 : a < b) (h3 : b < n) (h4 : 0 ≤ c) (h5 : c ≤ 1000000) :
    Calls Tryz.prog 108 #[.int .i64 n, .agg #[.int .i64 a, .int .i64 b, .int .i64 c]] w fun e w' => e = .returned (.bool true) ∧ Below w.heap.size w w' := by
  have q1 := fun W => isNode_any n a W true (by simp; omega)
  have q2 := fun W => isNode_any n b W true (by simp; omega)
  go_enter Tryz.func108, Tryz.ntmps108
  go_wp2_with fail
  refine (q1 _).mono ?_
  rintro e w1 ⟨rfl, rfl⟩
  go_wp2_with fail
  refine (q2 _).mono ?_
  rintro e w1 ⟨rfl, rfl⟩
  go_wp2_with fail
  go_ret
  exact ⟨rfl, (Below.refl _ _).alloc (Nat.le_refl _) _⟩

theorem below_box (w : World) (o : Obj) : Below w.heap.size w (w.alloc o) := (Below.refl _ _).alloc (Nat.le_refl _) _

set_option maxRecDepth 100000 in
set_option maxHeartbeats 1000000 in
theorem right_no (n a b c : Int) (w : World) (h : ¬ Okay n (a, b, c)) :
    Calls Tryz.prog 108 #[.int .i64 n, .agg #[.int .i64 a, .int .i64 b, .int .i64 c]] w fun e w' => e = .returned (.bool false) ∧ Below w.heap.size w w' := by
  have h' : ¬ (0 ≤ a ∧ a < b ∧ b < n ∧ 0 ≤ c ∧ c ≤ 1000000) := h
  clear h
  by_cases h1 : 0 ≤ a ∧ a < n
  · have q1 := fun W => isNode_any n a W true (by simp; omega)
    by_cases h2 : 0 ≤ b ∧ b < n
    · have q2 := fun W => isNode_any n b W true (by simp; omega)
      by_cases h3 : a < b
      · by_cases h4 : 0 ≤ c
        · have h5 : decide (c ≤ 1000000) = false := by rw [decide_eq_false_iff_not]; omega
          clear h' h1 h2
          go_enter Tryz.func108, Tryz.ntmps108
          go_wp2_with fail
          refine (q1 _).mono ?_
          rintro e w1 ⟨rfl, rfl⟩
          go_wp2_with fail
          refine (q2 _).mono ?_
          rintro e w1 ⟨rfl, rfl⟩
          go_wp2_with fail
          go_ret
          exact ⟨rfl, below_box _ _⟩
        · clear h' h1 h2
          go_enter Tryz.func108, Tryz.ntmps108
          go_wp2_with fail
          refine (q1 _).mono ?_
          rintro e w1 ⟨rfl, rfl⟩
          go_wp2_with fail
          refine (q2 _).mono ?_
          rintro e w1 ⟨rfl, rfl⟩
          go_wp2_with fail
          go_ret
          exact ⟨rfl, below_box _ _⟩
      · clear h' h1 h2
        go_enter Tryz.func108, Tryz.ntmps108
        go_wp2_with fail
        refine (q1 _).mono ?_
        rintro e w1 ⟨rfl, rfl⟩
        go_wp2_with fail
        refine (q2 _).mono ?_
        rintro e w1 ⟨rfl, rfl⟩
        go_wp2_with fail
        go_ret
        exact ⟨rfl, below_box _ _⟩
    · have q2 := fun W => isNode_any n b W false (by simp; omega)
      clear h' h1 h2
      go_enter Tryz.func108, Tryz.ntmps108
      go_wp2_with fail
      refine (q1 _).mono ?_
      rintro e w1 ⟨rfl, rfl⟩
      go_wp2_with fail
      refine (q2 _).mono ?_
      rintro e w1 ⟨rfl, rfl⟩
      go_wp2_with fail
      go_ret
      exact ⟨rfl, below_box _ _⟩
  · have q1 := fun W => isNode_any n a W false (by simp; omega)
    clear h' h1
    go_enter Tryz.func108, Tryz.ntmps108
    go_wp2_with fail
    refine (q1 _).mono ?_
    rintro e w1 ⟨rfl, rfl⟩
    go_wp2_with fail
    go_ret
    exact ⟨rfl, below_box _ _⟩

def Checks (n : Int) (m : Nat) (hv : Nat → Int × Int × Int) (w : World) (e : Ending) (w' : World) : Prop :=
  ∃ (k : Nat) (x : Int), e = .returned (.tuple #[.int .i64 (k : Int), errV x]) ∧ Fault n m hv k x ∧ Below w.heap.size w w'

set_option maxRecDepth 100000 in
set_option maxHeartbeats 1000000 in
theorem check_any {a : Option Addr} {m c : Nat} {hv : Nat → Int × Int × Int} {w : World} (h : HeavyAt w a m hv) (n : Int) :
    Calls Tryz.prog 75 #[.int .i64 n, .slice a m c] w (Checks n m hv w) := by
  have HH : Hid (HeavyAt w a m hv) := h
  clear h
  by_cases h1 : n < 1
  · go_enter Tryz.func75, Tryz.ntmps75
    go_wp2_with fail
    go_ret2
    exact ⟨0, 1, rfl, .nodes (Or.inl h1), Below.refl _ _⟩
  by_cases h2 : 60 < n
  · go_enter Tryz.func75, Tryz.ntmps75
    go_wp2_with fail
    go_ret2
    exact ⟨0, 1, rfl, .nodes (Or.inr h2), Below.refl _ _⟩
  by_cases h3 : 200 < (m : Int)
  · go_enter Tryz.func75, Tryz.ntmps75
    go_wp2_with fail
    go_ret2
    exact ⟨0, 3, rfl, .full (by omega) (by omega) (by omega), Below.refl _ _⟩
  go_enter Tryz.func75, Tryz.ntmps75
  go_wp2_with fail
  go_loopw [6, 7, 21] (fun _ _ i wr => ∃ j : Nat, j ≤ m ∧ i = .int .i64 (j : Nat) ∧ Below w.heap.size w wr ∧ ∀ i, i < j → Okay n (hv i)) (fun _ _ i _ => m - (intOf i).toNat)
  case atStart => exact ⟨0, Nat.zero_le _, rfl, Below.refl _ _, fun i hi => absurd hi (Nat.not_lt_zero _)⟩
  case round =>
    obtain ⟨j, hj, rfl, hb, hall⟩ := hrel
    have HA : Hid (∀ i, i < j → Okay n (hv i)) := hall
    have HB : Hid (Below w.heap.size w wr) := hb
    clear hall
    by_cases hlt : j < m
    · obtain ⟨b, o, rfl, c1, c2, c3⟩ := HH.out.below hb j hlt
      have i0 : (0 : Int) ≤ (j : Int) := by omega
      have i1 : (j : Int) < (m : Int) := by omega
      by_cases hok : Okay n (hv j)
      · have HO : Hid (Okay n (hv j)) := hok
        obtain ⟨o1, o2, o3, o4, o5⟩ := hok
        have q := fun W => right_yes n _ _ _ W o1 o2 o3 o4 o5
        generalize (hv j).1 = x1 at *
        generalize (hv j).2.1 = x2 at *
        generalize (hv j).2.2 = x3 at *
        clear hb
        go_wp2_with fail
        refine (q _).mono ?_
        rintro e w1 ⟨rfl, hb1⟩
        go_wp2_with fail
        go_roundw
        case rel =>
          refine ⟨j + 1, by omega, by go_num, ?_, fun i hi => ?_⟩
          · have hs := HB.out.size
            have hs1 := hb1.size
            exact (HB.out.alloc hs _).trans (hb1.mono (by simp; omega))
          · rcases Nat.lt_or_ge i j with h5 | h5
            · exact HA.out i h5
            · obtain rfl : i = j := by omega
              exact HO.out
        case measure => simp [intOf]; omega
      · have HO : Hid (¬ Okay n (hv j)) := hok
        have hok' : ¬ Okay n ((hv j).1, (hv j).2.1, (hv j).2.2) := hok
        have q := fun W => right_no n _ _ _ W hok'
        clear hok hok'
        generalize (hv j).1 = x1 at *
        generalize (hv j).2.1 = x2 at *
        generalize (hv j).2.2 = x3 at *
        clear hb
        go_wp2_with fail
        refine (q _).mono ?_
        rintro e w1 ⟨rfl, hb1⟩
        go_wp2_with fail
        go_ret2
        refine ⟨j, 1, rfl, .wrong j (by omega) (by omega) (by omega) hlt HO.out HA.out, ?_⟩
        have hs := HB.out.size
        have hs1 := hb1.size
        exact (HB.out.alloc hs _).trans (hb1.mono (by simp; omega))
    · have HE : Hid (∀ i, i < m → Okay n (hv i)) := fun i hi => HA.out i (by omega)
      go_wp2_with fail
      go_ret2
      exact ⟨0, 0, rfl, .right (by omega) (by omega) (by omega) HE.out, HB.out⟩

structure Edgs (n m : Nat) (ed : Nat → Nat × Nat) (wt : Nat → Nat) : Prop where
  n1 : 1 ≤ n
  n60 : n ≤ 60
  m200 : m ≤ 200
  among : ∀ i, i < m → (ed i).1 < n ∧ (ed i).2 < n
  light : ∀ i, i < m → wt i ≤ 1000000

def HvAt (w : World) (a : Option Addr) (m : Nat) (ed : Nat → Nat × Nat) (wt : Nat → Nat) : Prop :=
  ∀ i, i < m → ∃ b o, a = some ⟨b, o, none⟩ ∧ w.cell? ⟨b, o + i * 3, none⟩ = some (.int .i64 ((ed i).1 : Nat)) ∧ w.cell? ⟨b, o + i * 3 + 1, none⟩ = some (.int .i64 ((ed i).2 : Nat)) ∧ w.cell? ⟨b, o + i * 3 + 2, none⟩ = some (.int .i64 (wt i : Nat))

theorem HvAt.below {w w' : World} {a : Option Addr} {m : Nat} {ed : Nat → Nat × Nat} {wt : Nat → Nat} (h : HvAt w a m ed wt) (hb : Below w.heap.size w w') : HvAt w' a m ed wt := fun i hi => by
  obtain ⟨b, o, e, h1, h2, h3⟩ := h i hi
  exact ⟨b, o, e, Un.cell_keep hb h1, Un.cell_keep hb h2, Un.cell_keep hb h3⟩

def edOf (hv : Nat → Int × Int × Int) : Nat → Nat × Nat := fun i => ((hv i).1.toNat, (hv i).2.1.toNat)
def wtOf (hv : Nat → Int × Int × Int) : Nat → Nat := fun i => (hv i).2.2.toNat

theorem fault_plain {n : Int} {m : Nat} {hv : Nat → Int × Int × Int} {k : Nat} (h : Fault n m hv k 0) : ∃ n' : Nat, n = (n' : Int) ∧ Edgs n' m (edOf hv) (wtOf hv) ∧ ∀ i, i < m → 0 ≤ (hv i).1 ∧ 0 ≤ (hv i).2.1 ∧ 0 ≤ (hv i).2.2 := by
  obtain ⟨h1, h2, h3, h4⟩ := h.ok
  obtain ⟨n', rfl⟩ := Int.eq_ofNat_of_zero_le (show 0 ≤ n by omega)
  refine ⟨n', rfl, ⟨by omega, by omega, h3, fun i hi => ?_, fun i hi => ?_⟩, fun i hi => ?_⟩
  · obtain ⟨o1, o2, o3, o4, o5⟩ := h4 i hi
    show (hv i).1.toNat < n' ∧ (hv i).2.1.toNat < n'
    omega
  · obtain ⟨o1, o2, o3, o4, o5⟩ := h4 i hi
    show (hv i).2.2.toNat ≤ 1000000
    omega
  · obtain ⟨o1, o2, o3, o4, o5⟩ := h4 i hi
    omega

theorem HeavyAt.plain {w : World} {a : Option Addr} {m : Nat} {hv : Nat → Int × Int × Int} (h : HeavyAt w a m hv) (h0 : ∀ i, i < m → 0 ≤ (hv i).1 ∧ 0 ≤ (hv i).2.1 ∧ 0 ≤ (hv i).2.2) : HvAt w a m (edOf hv) (wtOf hv) := fun i hi => by
  obtain ⟨b, o, e, h1, h2, h3⟩ := h i hi
  obtain ⟨p1, p2, p3⟩ := h0 i hi
  refine ⟨b, o, e, ?_, ?_, ?_⟩
  · rw [h1]; show _ = some (Value.int .i64 ((hv i).1.toNat : Nat)); rw [Int.toNat_of_nonneg p1]
  · rw [h2]; show _ = some (Value.int .i64 ((hv i).2.1.toNat : Nat)); rw [Int.toNat_of_nonneg p2]
  · rw [h3]; show _ = some (Value.int .i64 ((hv i).2.2.toNat : Nat)); rw [Int.toNat_of_nonneg p3]

end Go.Proofs.YtcfemppdeidjmacGreat.Sp
