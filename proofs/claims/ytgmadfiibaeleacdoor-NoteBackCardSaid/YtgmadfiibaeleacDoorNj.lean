/-
  Edges as bytes: Encode.
-/
import Derived.Test.YtgmadfiibaeleacDoorNi
import Derived.Test.YtgmadfiibaeleacDoorBp
namespace Go.Proofs.YtgmadfiibaeleacDoor.Nt
open Go.RowKit Go.Deep Go.Proofs.YtgmadfiibaeleacDoor.Br
open Go.RowKit (Below)
set_option linter.unusedVariables false

variable {w w' : World} {f : Nat → Int × Int} {m n : Nat}

set_option maxRecDepth 100000 in
set_option maxHeartbeats 1000000 in
theorem encode_no {a : Option Addr} {c : Nat} (h : EgAt w a m f) (n : Int) (k : Nat) (x : Int) (hF : EFault n m f k x) (hx : x ≠ 0) :
    Calls Tryd.prog 6 #[.int .i64 n, .slice a m c] w fun e w' => e = .returned (.tuple #[.slice none 0 0, .iface 39 (.int .i64 x)]) ∧ Below w.heap.size w w' := by
  have hw : Calls Tryd.prog 14 #[.int .i64 n, .slice a m c] w fun e w' => e = .returned (.tuple #[.int .i64 (k : Int), .iface 39 (.int .i64 x)]) ∧ Below w.heap.size w w' := (check_any (c := c) h n).mono fun e w' ⟨k', x', h1, h2, h3⟩ => by
    obtain ⟨rfl, rfl⟩ := hF.one h2
    refine ⟨?_, h3⟩
    rw [h1]
    unfold errV
    rw [if_neg hx]
  clear h hF
  go_enter Tryd.func6, Tryd.ntmps6
  go_wp2_with fail
  refine hw.mono ?_
  rintro e w1 ⟨rfl, hb1⟩
  clear hw
  go_wp2_with fail
  go_ret2
  exact ⟨rfl, hb1⟩

set_option maxRecDepth 100000 in
set_option maxHeartbeats 4000000 in
theorem encode_ok {a : Option Addr} {c : Nat} (h : EgAt w a m f) (hv : Valid (n : Nat) m f) :
    Calls Tryd.prog 6 #[.int .i64 (n : Nat), .slice a m c] w fun e w' => ∃ v, e = .returned (.tuple #[v, .nilIface]) ∧ w'.ownsRow w.heap.size 5 1 v (2 + 2 * m) (bys (bt n m f m)) ∧ Below w.heap.size w w' := by
  have hw : Calls Tryd.prog 14 #[.int .i64 (n : Nat), .slice a m c] w fun e w' => e = .returned (.tuple #[.int .i64 0, .nilIface]) ∧ Below w.heap.size w w' := (check_any (c := c) h n).mono fun e w' ⟨k', x', h1, h2, h3⟩ => by
    obtain ⟨rfl, rfl⟩ := h2.one hv.fault
    exact ⟨h1, h3⟩
  have HE : Hid (EgAt w a m f ∧ Valid (n : Nat) m f) := ⟨h, hv⟩
  have hn := hv.1
  have hm := hv.2.1
  have n0 : IntKind.u8.wrap (n : Int) = (n : Int) := by rw [IntKind.wrap_u8]; omega
  have m0 : IntKind.u8.wrap (m : Int) = (m : Int) := by rw [IntKind.wrap_u8]; omega
  obtain ⟨z0, hi0, hz0, hz1, hz2⟩ := info_parts Tryd.infoU8
  obtain ⟨K0, hK0⟩ : ∃ K, 2 + 2 * m = K := ⟨_, rfl⟩
  have k1 : IntKind.i64.wrap (2 * (m : Int)) = 2 * (m : Int) := by rw [IntKind.wrap_i64]; omega
  have k2 : IntKind.i64.wrap (2 + 2 * (m : Int)) = (K0 : Int) := by rw [IntKind.wrap_i64]; omega
  have HK0 : Hid (K0 ≤ 402) := show _ ≤ _ by omega
  have HB0 : Hid (bys (bt n m f 0) = [.int .u8 (n : Int), .int .u8 (m : Int)]) := show _ = _ by
    show [by1 (UInt8.ofNat n), by1 (UInt8.ofNat m)] = _
    unfold by1
    rw [u8_of (by omega), u8_of (by omega)]
  clear h hv hn hK0
  go_enter Tryd.func6, Tryd.ntmps6
  go_wp2_with fail
  refine hw.mono ?_
  rintro e w1 ⟨rfl, hb1⟩
  have HB1 : Hid (Below w.heap.size w w1) := hb1
  have hmk : ∃ w2, (Instr.makeSlice 31 (.int .i64 0) (.int .i64 (K0 : Int))).run Tryd.prog w1 = .ok (.slice (some ⟨w1.heap.size, 0, none⟩) 0 K0) w2 ∧ w2.ownsRow w.heap.size 5 1 (.slice (some ⟨w1.heap.size, 0, none⟩) 0 K0) 0 [] ∧ w1.grownBy w2 none :=
    run_makeSlice_owned w1 w.heap.size 31 5 z0 (.int .u8 0) 1 Tryd.underlying31 hi0 hz0 hz1 .i64 .i64 K0 (by have := HK0.out; omega) (by rw [hz2]; have := HK0.out; omega) (by have := HK0.out; unfold maxLen; omega) hb1.size
  obtain ⟨w2, hmk, hown2, hgrow2⟩ := hmk
  have hb2 : Below w.heap.size w w2 := hb1.grown hgrow2 hb1.size (fun k e => by cases e)
  have HO2 : Hid (w2.ownsRow w.heap.size 5 1 (.slice (some ⟨w1.heap.size, 0, none⟩) 0 K0) 0 [] ∧ Below w.heap.size w w2) := ⟨hown2, hb2⟩
  have hs2 : w.heap.size ≤ w2.heap.size := hb2.size
  clear hw hb1 hown2 hgrow2 hb2
  go_wp2_with (first
    | (at_builtin; refine wpList_append_lies _ rfl (.tmp 25) (.tmp 31) 31 rfl w.heap.size 5 z0 (.int .u8 0) 1 1 Tryd.underlying31 hi0 hz0 hz1 hz2 rfl (by decide) (.slice (some ⟨w1.heap.size, 0, none⟩) 0 K0) 0 [] rfl (HO2.out.1.alloc _) ⟨w2.heap.size, 0, none⟩ 2 2 [.int .u8 (n : Int), .int .u8 (m : Int)] rfl rfl (two_bytes _ _ _) ?c2 (by decide) ?c3 ?c4 ?c5 _ rfl ?_))
  case c2 => intro z hz; simp at hz; rcases hz with rfl | rfl <;> rfl
  case c3 => unfold maxLen; omega
  case c4 => omega
  case c5 => first | omega | (simp; omega)
  intro g1 cap1 w3 hown hgrow hat hlt2
  have HS : Hid (Below w.heap.size w w3 ∧ w3.ownsRow w.heap.size 5 1 (.slice (some ⟨g1, 0, none⟩) (0 + 2) cap1) (2 + 2 * 0) (bys (bt n m f 0))) := ⟨(HO2.out.2.alloc hs2 _).grown hgrow (by simp; omega) (fun k e => (own_heapB HO2.out.1 e).1), by rw [HB0.out]; exact hown⟩
  clear hown hgrow hat hlt2
  go_wp2_with fail
  go_loopw [8, 35] (fun vo i wr => ∃ j : Nat, j ≤ m ∧ i = .int .i64 (j : Nat) ∧ Below w.heap.size w wr ∧ wr.ownsRow w.heap.size 5 1 vo (2 + 2 * j) (bys (bt n m f j))) (fun _ i _ => m - (intOf i).toNat)
  case atStart => exact ⟨0, Nat.zero_le _, rfl, HS.out.1, HS.out.2⟩
  case round =>
    obtain ⟨j, hj, rfl, hb, hown⟩ := hrel
    obtain ⟨K, hK⟩ : ∃ K, 2 + 2 * j = K := ⟨_, rfl⟩
    rw [hK] at hown
    have HO1 : Hid (wr.ownsRow w.heap.size 5 1 u8 K (bys (bt n m f j))) := hown
    have HB1 : Hid (Below w.heap.size w wr) := hb
    by_cases hlt : j < m
    · obtain ⟨X, Y, hX, hY, hX1, hY1, heb⟩ := may_num HE.out.2 hlt
      obtain ⟨b, o, rfl, q1, q2⟩ := (HE.out.1.below hb) j hlt
      rw [hX] at q1
      rw [hY] at q2
      have x0 : IntKind.u8.wrap (X : Int) = (X : Int) := by rw [IntKind.wrap_u8]; omega
      have y0 : IntKind.u8.wrap (Y : Int) = (Y : Int) := by rw [IntKind.wrap_u8]; omega
      have HN : Hid (bys (bt n m f (j + 1)) = bys (bt n m f j) ++ [.int .u8 (X : Int), .int .u8 (Y : Int)] ∧ K + 2 = 2 + 2 * (j + 1)) := ⟨by
        rw [bt_succ, bys_app, heb]
        show _ ++ [by1 (UInt8.ofNat X), by1 (UInt8.ofNat Y)] = _
        unfold by1
        rw [u8_of (by omega), u8_of (by omega)], by omega⟩
      have hKm : K ≤ 500 := by omega
      have i0 : (0 : Int) ≤ (j : Int) := by omega
      have i1 : (j : Int) < (m : Int) := by omega
      have hbase : w.heap.size ≤ wr.heap.size := HB1.out.size
      have hnews := two_bytes (wr.alloc (.cells #[.int .i64 (X : Int), .int .i64 (Y : Int)] 47)) (X : Int) (Y : Int)
      rw [show (wr.alloc (.cells #[.int .i64 (X : Int), .int .i64 (Y : Int)] 47)).heap.size = wr.heap.size + 1 by simp] at hnews
      have HNews : Hid (∀ j' u, [Value.int .u8 (X : Int), Value.int .u8 (Y : Int)][j']? = some u → ((wr.alloc (.cells #[.int .i64 (X : Int), .int .i64 (Y : Int)] 47)).alloc (.cells #[.int .u8 (X : Int), .int .u8 (Y : Int)] 5)).cell? (Addr.add ⟨wr.heap.size + 1, 0, none⟩ j') = some u) := hnews
      clear hown hb hK hX hY heb hnews
      go_wp2_with (first
        | (at_builtin; refine wpList_append_lies _ rfl (.tmp 39) (.tmp 46) 31 rfl w.heap.size 5 z0 (.int .u8 0) 1 1 Tryd.underlying31 hi0 hz0 hz1 hz2 rfl (by decide) u8 K (bys (bt n m f j)) rfl ((HO1.out.alloc _).alloc _) ⟨wr.heap.size + 1, 0, none⟩ 2 2 [.int .u8 (X : Int), .int .u8 (Y : Int)] rfl rfl HNews.out ?c2 (by decide) ?c3 ?c4 ?c5 _ rfl ?_))
      case c2 => intro z hz; simp at hz; rcases hz with rfl | rfl <;> rfl
      case c3 => unfold maxLen; omega
      case c4 => omega
      case c5 => first | omega | (simp; omega)
      intro g2 cap2 w4 hown hgrow hat hlt2
      have HX : Hid (Below w.heap.size w w4 ∧ w4.ownsRow w.heap.size 5 1 (.slice (some ⟨g2, 0, none⟩) (K + 2) cap2) (2 + 2 * (j + 1)) (bys (bt n m f (j + 1)))) := ⟨((HB1.out.alloc hbase _).alloc (by simp; omega) _).grown hgrow (by simp; omega) (fun k e => (own_heapB HO1.out e).1), by
        rw [HN.out.1, ← HN.out.2]
        exact hown⟩
      clear hown hgrow hat hlt2
      go_wp2_with fail
      exact ⟨⟨j + 1, by omega, by go_num, HX.out.1, HX.out.2⟩, by simp [intOf]; omega⟩
    · obtain rfl : j = m := by omega
      have HF : Hid (wr.ownsRow w.heap.size 5 1 u8 (2 + 2 * j) (bys (bt n j f j))) := show World.ownsRow .. by rw [hK]; exact HO1.out
      clear hown hb
      go_wp2_with fail
      go_ret2
      exact ⟨_, rfl, HF.out, HB1.out⟩

end Go.Proofs.YtgmadfiibaeleacDoor.Nt
