/-
  Package path in memory: the lists of what is near; what is wrong is asked first.
-/
import Derived.Test.YtinflbkmemjgbabDoorPn
import Derived.Test.YtinflbkmemjgbabDoorPf
namespace Go.Proofs.YtinflbkmemjgbabDoor.Pt
open Go.RowKit Go.Deep Go.Proofs.YtinflbkmemjgbabDoor.Br
open Go.RowKit (Below)
set_option linter.unusedVariables false

variable {w w' w6 : World} {f : Nat → Int × Int} {kn n u base : Nat} {V : Nat → Value} {nb : Nat → List Nat} {E : List (Nat × Nat)}

/-- The lists of what is near, while they grow. -/
structure LAt (base : Nat) (w : World) (kn n : Nat) (V : Nat → Value) (nb : Nat → List Nat) : Prop where
  row : w.rowIs kn 45 n V
  bn : base ≤ kn
  own : ∀ i, i < n → w.ownsRow base 3 1 (V i) (nb i).length (ints (nb i))
  off : ∀ i, i < n → ∀ k, (V i).ownBlock = some k → k ≠ kn
  apart : ∀ i j, i < n → j < n → i ≠ j → ∀ k, (V i).ownBlock = some k → (V j).ownBlock ≠ some k

theorem LAt.below (h : LAt base w kn n V nb) (hb : Below w.heap.size w w') : LAt base w' kn n V nb :=
  ⟨h.row.of_block (hb.block _ h.row.lt), h.bn, fun i hi => own_keep (h.own i hi) hb, h.off, h.apart⟩

theorem LAt.at (h : LAt base w kn n V nb) (hu : u < n) : w.cell? ⟨kn, u, none⟩ = some (V u) := h.row.cell hu
theorem LAt.fz (h : LAt base w kn n V nb) (i : Nat) : w.frozen? ⟨kn, i, none⟩ = false := h.row.frozen i

/-- A list has grown, and is put in its place. -/
theorem LAt.push {K g1 cap x : Nat} (h : LAt base w kn n V nb) (hu : u < n) (hK : (nb u).length = K) (hown : w6.ownsRow base 3 1 (.slice (some ⟨g1, 0, none⟩) (K + 1) cap) (K + 1) (ints (nb u) ++ [.int .i64 ((x : Nat) : Int)])) (hg : w.grownBy w6 (V u).ownBlock) (hat : (V u).ownBlock = some g1 ∨ g1 = w.heap.size) :
    LAt base (w6.setCell ⟨kn, u, none⟩ (.slice (some ⟨g1, 0, none⟩) (K + 1) cap)) kn n (upd V u (.slice (some ⟨g1, 0, none⟩) (K + 1) cap)) (upd nb u (nb u ++ [x])) := by
  have e2 : w6.heap[kn]? = w.heap[kn]? := hg.block kn h.row.lt fun e => h.off u hu kn e.symm rfl
  have hne : g1 ≠ kn := by
    rcases hat with e | e
    · exact h.off u hu g1 e
    · have := h.row.lt
      omega
  have hn6 := h.row.of_block e2
  refine ⟨(hn6.set u _).congr fun i hi => ?_, h.bn, fun i hi => ?_, fun i hi k hk => ?_, fun i j hi hj hij k hk => ?_⟩
  · by_cases e : i = u
    · subst e; simp [upd_self]
    · simp only [if_neg e, upd_ne _ _ e]
  · by_cases e : i = u
    · subst e
      rw [upd_self, upd_self, List.length_append, hK, ints_snoc]
      exact ownsRow_setCell_other hown (a := ⟨kn, i, none⟩) (by simp [Value.ownBlock]; exact hne) _
    · rw [upd_ne _ _ e, upd_ne _ _ e]
      refine ownsRow_setCell_other (own_same (h.own i hi) fun k hk => hg.block k (own_bound (h.own i hi) hk).2 fun q => h.apart i u hi hu e k hk q.symm) (a := ⟨kn, u, none⟩) (fun q => ?_) _
      exact h.off i hi kn q rfl
  · by_cases e : i = u
    · subst e; rw [upd_self] at hk; cases hk; exact hne
    · rw [upd_ne _ _ e] at hk; exact h.off i hi k hk
  · by_cases e : i = u
    · subst e
      rw [upd_self] at hk
      cases hk
      rw [upd_ne _ _ (Ne.symm hij)]
      rcases hat with q | q
      · exact h.apart i j hi hj hij _ q
      · intro r
        have r1 : g1 < w.heap.size := (own_bound (h.own j hj) r).2
        omega
    · rw [upd_ne _ _ e] at hk
      by_cases e' : j = u
      · subst e'
        rw [upd_self]
        intro r
        cases r
        rcases hat with q | q
        · exact h.apart i j hi hj hij _ hk q
        · have r1 : g1 < w.heap.size := (own_bound (h.own i hi) hk).2
          omega
      · rw [upd_ne _ _ e']
        exact h.apart i j hi hj hij k hk

/-- The lists of what is near, to be read. -/
structure NearAt (w : World) (kn n : Nat) (V : Nat → Value) (nb : Nat → List Nat) : Prop where
  cell : ∀ i, i < n → w.cell? ⟨kn, i, none⟩ = some (V i)
  list : ∀ i, i < n → ∃ a c, V i = .slice a (nb i).length c ∧ IntsAt w a (nb i).length (nb i)

theorem LAt.near (h : LAt base w kn n V nb) : NearAt w kn n V nb := ⟨fun i hi => h.at hi, fun i hi => own_ints (h.own i hi) rfl⟩

theorem NearAt.below (h : NearAt w kn n V nb) (hb : Below w.heap.size w w') : NearAt w' kn n V nb := ⟨fun i hi => cell_keep hb (h.cell i hi), fun i hi => by
  obtain ⟨a, c, e, hI⟩ := h.list i hi
  exact ⟨a, c, e, hI.below hb⟩⟩

set_option maxRecDepth 100000 in
set_option maxHeartbeats 1000000 in
theorem pcheck_no {a : Option Addr} {m c : Nat} (h : EgAt w a m f) (n : Int) (k : Nat) (x : Int) (hF : EFault n m f k x) (hx : x ≠ 0) (v : Value) :
    Calls Tryd.prog 47 #[.int .i64 n, .slice a m c, v] w fun e w' => e = .returned (.iface 23 (.int .i64 x)) ∧ Below w.heap.size w w' := by
  have hch := check_any (c := c) h n
  have HF : Hid (EFault n m f k x ∧ x ≠ 0) := ⟨hF, hx⟩
  clear h hF hx
  go_enter Tryd.func47, Tryd.ntmps47
  go_wp2_with fail
  refine hch.mono ?_
  rintro e w1 ⟨k1, x1, rfl, hF1, hb1⟩
  obtain ⟨rfl, rfl⟩ := hF1.one HF.out.1
  have he : errV x1 = .iface 23 (.int .i64 x1) := if_neg HF.out.2
  rw [he]
  clear hch hF1 he
  go_wp2_with fail
  go_ret
  exact ⟨rfl, hb1⟩

/-- What is told of nodes. -/
def NodesTold (n : Int) (q : Nat) (g : Nat → Int) (v : Value) : Prop := ((∃ i, i < q ∧ ¬ Node n (g i)) ∧ v = .iface 23 (.int .i64 1)) ∨ ((∀ i, i < q → Node n (g i)) ∧ v = .nilIface)

set_option maxRecDepth 100000 in
set_option maxHeartbeats 1000000 in
theorem pcheck_ok {a a' : Option Addr} {m c q c' : Nat} {g : Nat → Int} (h : EgAt w a m f) (n : Int) (hv : Valid n m f) (hg : NumsAt w a' q g) (hq : q ≤ 2) :
    Calls Tryd.prog 47 #[.int .i64 n, .slice a m c, .slice a' q c'] w fun e w' => ∃ v, e = .returned v ∧ NodesTold n q g v ∧ Below w.heap.size w w' := by
  have hch := check_any (c := c) h n
  have HV : Hid (EFault n m f 0 0) := hv.fault
  have HG : Hid (NumsAt w a' q g) := hg
  have hn : 1 ≤ n ∧ n ≤ 60 := hv.1
  clear h hv hg
  go_enter Tryd.func47, Tryd.ntmps47
  go_wp2_with fail
  refine hch.mono ?_
  rintro e w1 ⟨k1, x1, rfl, hF1, hb1⟩
  obtain ⟨rfl, rfl⟩ := hF1.one HV.out
  have he : errV 0 = .nilIface := if_pos rfl
  rw [he]
  have HB1 : Hid (Below w.heap.size w w1) := hb1
  clear hch hF1 he hb1
  go_wp2_with fail
  go_loopw [10, 22] (fun _ i wr => ∃ j : Nat, j ≤ q ∧ i = .int .i64 (j : Nat) ∧ (∀ i, i < j → Node n (g i)) ∧ Below w.heap.size w wr) (fun _ i _ => q - (intOf i).toNat)
  case atStart => exact ⟨0, Nat.zero_le _, rfl, fun i h => absurd h (Nat.not_lt_zero _), HB1.out⟩
  case round =>
    obtain ⟨j, hj, rfl, hall, hb⟩ := hrel
    have HA : Hid (∀ i, i < j → Node n (g i)) := hall
    have HB : Hid (Below w.heap.size w wr) := hb
    by_cases hlt : j < q
    · obtain ⟨b, o, rfl, c0⟩ := HG.out.below hb j hlt
      have i0 : (0 : Int) ≤ (j : Int) := by omega
      have i1 : (j : Int) < (q : Int) := by omega
      clear hall hb
      by_cases h1 : g j < 0
      · have HT : Hid (NodesTold n q g (.iface 23 (.int .i64 1))) := Or.inl ⟨⟨j, hlt, fun z => by unfold Node at z; omega⟩, rfl⟩
        go_wp2_with fail
        go_ret
        exact ⟨_, rfl, HT.out, HB.out⟩
      · by_cases h2 : n ≤ g j
        · have HT : Hid (NodesTold n q g (.iface 23 (.int .i64 1))) := Or.inl ⟨⟨j, hlt, fun z => by unfold Node at z; omega⟩, rfl⟩
          go_wp2_with fail
          go_ret
          exact ⟨_, rfl, HT.out, HB.out⟩
        · have HA2 : Hid (∀ i, i < j + 1 → Node n (g i)) := fun i hi => by
            by_cases e : i = j
            · subst e; unfold Node; omega
            · exact HA.out i (by omega)
          go_wp2_with fail
          go_roundw
          case rel => exact ⟨j + 1, by omega, by go_num, HA2.out, HB.out⟩
          case measure => simp [intOf]; omega
    · obtain rfl : j = q := by omega
      have HT : Hid (NodesTold n j g .nilIface) := Or.inr ⟨hall, rfl⟩
      clear hall hb
      go_wp2_with fail
      go_ret
      exact ⟨_, rfl, HT.out, HB.out⟩

end Go.Proofs.YtinflbkmemjgbabDoor.Pt
