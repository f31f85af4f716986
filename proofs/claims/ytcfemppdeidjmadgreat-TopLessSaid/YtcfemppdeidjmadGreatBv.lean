/-
  Parts and Joints of package bridge.
-/
import Derived.Test.YtcfemppdeidjmadGreatBu
namespace Go.Proofs.YtcfemppdeidjmadGreat.Br
open Go.RowKit Go.Deep
open Go.RowKit (Below)
set_option linter.unusedVariables false

variable {w w' : World} {f : Nat → Int × Int}

set_option maxRecDepth 100000 in
set_option maxHeartbeats 1000000 in
theorem joints_no {a : Option Addr} {m c : Nat} (h : EgAt w a m f) (n : Int) (k : Nat) (x : Int) (hF : EFault n m f k x) (hx : x ≠ 0) :
    Calls Tryz.prog 12 #[.int .i64 n, .slice a m c] w fun e w' => e = .returned (.tuple #[.slice none 0 0, .iface 66 (.int .i64 x)]) ∧ Below w.heap.size w w' := by
  have hw := walked_no (c := c) h n k x hF hx
  clear h hF
  go_enter Tryz.func12, Tryz.ntmps12
  go_wp2_with fail
  refine hw.mono ?_
  rintro e w1 ⟨rfl, hb1⟩
  clear hw
  go_wp2_with fail
  go_ret2
  exact ⟨rfl, hb1⟩

/-- What the walk tells of a node. -/
theorem roots_jts {E : List (Nat × Nat)} {p : Nat → Nat} {s : St} {n : Nat} (hR : Roots E n p s n) : Jts n E ((List.range n).filter fun a => decide (1 < s.pieces a)) :=
  ⟨_, fun a ha => by
    rw [decide_eq_true_iff]
    refine ⟨joint_yes hR.inv.deep (hR.seen a ha), fun hj => Classical.byContradiction fun q => joint_no hR.inv.deep (hR.seen a ha) (by omega) hj⟩, rfl⟩

set_option maxRecDepth 100000 in
set_option maxHeartbeats 2000000 in
theorem joints_ok {a : Option Addr} {m c n : Nat} (h : EgAt w a m f) (hv : Valid (n : Nat) m f) :
    Calls Tryz.prog 12 #[.int .i64 (n : Nat), .slice a m c] w fun e w' => ∃ (v : Value) (L : List Nat), e = .returned (.tuple #[v, .nilIface]) ∧ Jts n (edges f m) L ∧ w'.ownsRow w.heap.size 3 1 v L.length (ints L) ∧ Below w.heap.size w w' := by
  obtain ⟨p, hp⟩ := rest_of (edges f m)
  have hw := walked_ok (c := c) h hv hp
  have hn60 : n ≤ 60 := by have := hv.1; omega
  obtain ⟨i9, hj9, hi9, hi91, hi92⟩ := info_parts Tryz.infoInt
  clear h hv hp
  go_enter Tryz.func12, Tryz.ntmps12
  go_wp2_with fail
  refine hw.mono ?_
  rintro e w1 ⟨kw, kn, V, nb, s, rfl, hW, hR, hb1⟩
  obtain ⟨t, ht⟩ : ∃ t : Nat → Bool, t = fun a => decide (1 < s.pieces a) := ⟨_, rfl⟩
  have HJ : Hid (Jts n (edges f m) ((List.range n).filter t)) := by rw [ht]; exact roots_jts hR
  have HT : Hid (∀ a, t a = decide (1 < s.pieces a)) := fun a => by rw [ht]
  have HW : Hid (WAt w1 kw kn n V nb s) := hW
  have HB1 : Hid (Below w.heap.size w w1) := hb1
  clear hw hW hR ht hb1
  go_wp2_with fail
  go_loopw [8, 9, 21] (fun vo _ i wr => ∃ j : Nat, j ≤ n ∧ i = .int .i64 (j : Nat) ∧ Below w1.heap.size w1 wr ∧ wr.ownsRow w1.heap.size 3 1 vo ((List.range j).filter t).length (ints ((List.range j).filter t))) (fun _ _ i _ => n - (intOf i).toNat)
  case atStart => exact ⟨0, Nat.zero_le _, rfl, Below.refl _ _, by simp [ints]; exact World.ownsRow_nil ..⟩
  case round =>
    obtain ⟨j, hj, rfl, hb, hown⟩ := hrel
    have HB : Hid (Below w1.heap.size w1 wr) := hb
    by_cases hlt : j < n
    · have c5 := (HW.out.below hb).f5 hlt
      obtain ⟨F, hF⟩ : ∃ F, (List.range j).filter t = F := ⟨_, rfl⟩
      obtain ⟨K, hK⟩ : ∃ K, F.length = K := ⟨_, rfl⟩
      have hK2 : K ≤ 60 := by
        rw [← hK, ← hF]
        have h1 := List.length_filter_le t (List.range j)
        rw [List.length_range] at h1
        omega
      rw [hF, hK] at hown
      have HO : Hid (wr.ownsRow w1.heap.size 3 1 u8 K (ints F) ∧ F.length = K) := ⟨hown, hK⟩
      have hs : w1.heap.size ≤ wr.heap.size := hb.size
      have i0 : (0 : Int) ≤ (j : Int) := by omega
      have i1 : (j : Int) < (n : Int) := by omega
      by_cases hq : 1 < s.pieces j
      · have hq' : (1 : Int) < ((s.pieces j : Nat) : Int) := by omega
        have HF : Hid ((List.range (j + 1)).filter t = F ++ [j]) := show _ = _ by
          rw [List.range_succ, List.filter_append, hF]
          have : t j = true := by rw [HT.out]; simp [hq]
          simp [this]
        clear hF hK hown hb hq
        go_wp2_with (first
          | (at_builtin; refine wpList_append_lies _ rfl (.tmp 30) (.tmp 32) 44 rfl w1.heap.size 3 i9 (.int .i64 0) 1 8 Tryz.underlying44 hj9 hi9 hi91 hi92 rfl (by decide) u8 K (ints F) rfl (HO.out.1.alloc _) ⟨wr.heap.size, 0, none⟩ 1 1 [.int .i64 (j : Int)] rfl rfl (cell_one_new _ _ _) ?c2 (by decide) ?c3 ?c4 ?c5 _ rfl ?_))
        case c2 => intro z hz; simp at hz; subst hz; rfl
        case c3 => unfold maxLen; omega
        case c4 => omega
        case c5 => first | omega | (simp; omega)
        intro g1 cap1 w6 hown hgrow hat hlt2
        have HB6 : Hid (Below w1.heap.size w1 w6) := (HB.out.alloc hs _).grown hgrow (by simp; omega) (fun k e => (HO.out.1.lt k e).1)
        have HO6 : Hid (w6.ownsRow w1.heap.size 3 1 (.slice (some ⟨g1, 0, none⟩) (K + 1) cap1) ((List.range (j + 1)).filter t).length (ints ((List.range (j + 1)).filter t))) := show World.ownsRow .. by
          rw [HF.out, ints_snoc, List.length_append, HO.out.2]; exact hown
        clear hown hgrow hat hlt2
        go_wp2_with fail
        go_roundw
        case rel => exact ⟨j + 1, by omega, by go_num, HB6.out, HO6.out⟩
        case measure => simp [intOf]; omega
      · have hq' : ¬ (1 : Int) < ((s.pieces j : Nat) : Int) := by omega
        have HF : Hid ((List.range (j + 1)).filter t = F) := show _ = _ by
          rw [List.range_succ, List.filter_append, hF]
          have : t j = false := by rw [HT.out]; simp [hq]
          simp [this]
        clear hF hK hown hb hq
        go_wp2_with fail
        go_roundw
        case rel => exact ⟨j + 1, by omega, by go_num, HB.out, by rw [HF.out, HO.out.2]; exact HO.out.1⟩
        case measure => simp [intOf]; omega
    · obtain rfl : j = n := by omega
      have HO : Hid (wr.ownsRow w.heap.size 3 1 u8 ((List.range j).filter t).length (ints ((List.range j).filter t))) := own_mono hown HB1.out.size
      clear hown hb
      go_wp2_with fail
      go_ret2
      exact ⟨u8, _, rfl, HJ.out, HO.out, below_step HB1.out HB.out⟩

end Go.Proofs.YtcfemppdeidjmadGreat.Br
