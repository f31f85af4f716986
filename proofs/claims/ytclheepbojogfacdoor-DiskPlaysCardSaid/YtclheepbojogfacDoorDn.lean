/-
  DiskPlays returns true, whatever package disk that answers as it is to.
-/
import Derived.Test.YtclheepbojogfacDoorDm
import Derived.Test.YtclheepbojogfacDoorTold
namespace Go.Proofs.YtclheepbojogfacDoor.Dk
open Go.RowKit Go.Deep
open Go.RowKit (Below)
set_option linter.unusedVariables false

variable {w w' wr : World} {D : Face} {B n kd : Nat} {d : Value} {X F F' : Nat → Prop} {s s' s1 s2 sd sr : St} {l : List UInt8} {k x x1 x2 : Int}

theorem Er.is {v : Value} (h : Er v x) : ErrIs v x := by
  rcases h with ⟨h, h1⟩ | ⟨h, _⟩
  · exact ⟨Or.inl ⟨h, h1⟩⟩
  · exact ⟨Or.inr h⟩

set_option maxRecDepth 100000 in
set_option maxHeartbeats 4000000 in
/-- A number of pages that may not be. -/
theorem plays_no (O : DiskOk D) (h0 : ErrType w) {a : Option Addr} {m c : Nat} (p : Int) (hp : p < 1 ∨ 80 < p) :
    Calls Tryd.prog 4 #[.int .i64 p, .slice a m c] w fun e w' => e = .returned (.bool true) ∧ Below w.heap.size w w' := by
  have HO : Hid (DiskOk D) := O
  have HP : Hid (p < 1 ∨ 80 < p) := hp
  clear O hp
  go_enter Tryd.func4, Tryd.ntmps4
  go_wp2_with fail
  refine (HO.out.new_no p HP.out).mono ?_
  rintro e w1 ⟨rfl, hb⟩
  have HB : Hid (Below w.heap.size w w1) := hb
  clear hb
  rcases HP.out with h1 | h1
  · go_wp2_with fail
    refine (error_any (n := 1) ⟨Or.inr rfl⟩ (h0.below HB.out)).mono ?_
    rintro e w2 ⟨rfl, hb2⟩
    have HB2 : Hid (Below w.heap.size w w2) := below_step HB.out hb2
    clear hb2
    go_wp2_with fail
    go_ret
    exact ⟨rfl, HB2.out⟩
  · have h2 : ¬ p < 1 := by omega
    go_wp2_with fail
    refine (error_any (n := 1) ⟨Or.inr rfl⟩ (h0.below HB.out)).mono ?_
    rintro e w2 ⟨rfl, hb2⟩
    have HB2 : Hid (Below w.heap.size w w2) := below_step HB.out hb2
    clear hb2
    go_wp2_with fail
    go_ret
    exact ⟨rfl, HB2.out⟩

set_option maxRecDepth 100000 in
set_option maxHeartbeats 64000000 in
theorem plays_ok (O : DiskOk D) (h0 : ErrType w) {a : Option Addr} {m c : Nat} {f : Nat → Stp} (hs : ScAt w a m f) (hmc : m ≤ c) (hcm : c ≤ maxLen) (n : Nat) (hn : 1 ≤ n) (hn2 : n ≤ 80) :
    Calls Tryd.prog 4 #[.int .i64 (n : Nat), .slice a m c] w fun e w' => e = .returned (.bool true) ∧ Below w.heap.size w w' := by
  have HO : Hid (DiskOk D) := O
  have HH : Hid (ScAt w a m f ∧ m ≤ maxLen ∧ 1 ≤ n ∧ n ≤ 80) := ⟨hs, Nat.le_trans hmc hcm, hn, hn2⟩
  have i0 : ¬ (n : Int) < 1 := by omega
  have i1 : ¬ (80 : Int) < (n : Int) := by omega
  clear hs hmc hcm O hn hn2
  go_enter Tryd.func4, Tryd.ntmps4
  go_wp2_with fail
  refine (lw_new (w := w) HO.out (Below.refl _ w) HH.out.2.2.1 HH.out.2.2.2).mono ?_
  rintro e w1 ⟨d, rfl, hl⟩
  have HL : Hid (LW D w w.heap.size n d (fun _ => False) w1 fresh) := hl
  clear hl
  go_wp2_with fail
  refine (j_pages HO.out HL.out).mono ?_
  rintro e w2 ⟨rfl, hl⟩
  have HL2 : Hid (LW D w w.heap.size n d (fun _ => False) w2 fresh) := hl
  clear hl HL
  go_wp2_with fail
  refine (j_new HO.out HH.out.2.2.1 HH.out.2.2.2 HL2.out).mono ?_
  rintro e w3 ⟨kd, rfl, hj⟩
  have HJ : Hid (JW D w w.heap.size n d kd (fun _ => False) w3 fresh fresh) := hj
  obtain ⟨B, hB⟩ : ∃ B, w.heap.size = B := ⟨_, rfl⟩
  rw [hB] at HJ
  clear hj HL2 hB
  go_wp2_with fail
  go_loopw [8] (fun i wr => ∃ (j : Nat) (s : St), j ≤ m ∧ j ≤ 50 ∧ i = .int .i64 (j : Nat) ∧ JW D w B n d kd (fun _ => False) wr s s ∧ s.wr.length ≤ j) (fun i _ => 50 - (intOf i).toNat)
  case atStart => exact ⟨0, fresh, Nat.zero_le _, Nat.zero_le _, rfl, HJ.out, Nat.le_refl _⟩
  case round =>
    clear HJ
    obtain ⟨j, s, hj, hj50, rfl, hjw, hlen⟩ := hrel
    have HJ : Hid (JW D w B n d kd (fun _ => False) wr s s ∧ s.wr.length ≤ j ∧ j ≤ 50) := ⟨hjw, hlen, hj50⟩
    clear hjw hlen
    by_cases hlt : j < m ∧ j < 50
    · obtain ⟨hlt, hlt50⟩ := hlt
      obtain ⟨b, o, rfl, hst⟩ := HH.out.1 j hlt
      have hst' := hst.below HJ.out.1.below
      have q0 := hst'.what
      have q1 := hst'.num
      have q2 := hst'.bytes
      have q3 := hst'.keep
      have q4 := hst'.evs
      have i0 : (0 : Int) ≤ (j : Int) := by omega
      have i1 : (j : Int) < (m : Int) := by omega
      have i2 : (j : Int) < 50 := by omega
      generalize hwh : (f j).what = what at q0
      generalize hnm : (f j).num = nm at q1
      generalize (f j).ea = ea at q4
      generalize (f j).el = el at q4
      generalize (f j).ec = ec at q4
      have HWN : Hid ((f j).what = what ∧ (f j).num = nm) := ⟨hwh, hnm⟩
      have HSt : Hid (StpAt w b (o + j * 5) (f j)) := hst
      obtain ⟨E, hE⟩ : ∃ E, wr.heap.size = E := ⟨_, rfl⟩
      have hap := HJ.out.1.apart HO.out (.cells #[.int .i64 what, .int .i64 nm, .slice (f j).ba (f j).bs.length (f j).bc, .slice (f j).ka (f j).kl (f j).kc, .slice ea el ec] 51)
      have e1 : (wr.alloc (.cells #[.int .i64 what, .int .i64 nm, .slice (f j).ba (f j).bs.length (f j).bc, .slice (f j).ka (f j).kl (f j).kc, .slice ea el ec] 51)).rowIs E 51 5 (fun i => if i = 0 then .int .i64 what else if i = 1 then .int .i64 nm else if i = 2 then .slice (f j).ba (f j).bs.length (f j).bc else if i = 3 then .slice (f j).ka (f j).kl (f j).kc else .slice ea el ec) := by
        rw [← hE]
        refine World.rowIs_alloc wr _ 51 _ fun i hi => ?_
        have : i = 0 ∨ i = 1 ∨ i = 2 ∨ i = 3 ∨ i = 4 := by simp at hi; omega
        rcases this with rfl | rfl | rfl | rfl | rfl <;> rfl
      rw [hE] at hap
      obtain ⟨Wl, hWl⟩ : ∃ Wl, wr.alloc (.cells #[.int .i64 what, .int .i64 nm, .slice (f j).ba (f j).bs.length (f j).bc, .slice (f j).ka (f j).kl (f j).kc, .slice ea el ec] 51) = Wl := ⟨_, rfl⟩
      rw [hWl] at hap e1
      have HW : Hid (JW D w B n d kd (fun b => b = E) Wl s s ∧ s.wr.length ≤ j ∧ j ≤ 50) := ⟨hap.drop HO.out (fun _ z => Or.inr z), HJ.out.2⟩
      have HE : Hid (Wl.rowIs E 51 5 (fun i => if i = 0 then .int .i64 what else if i = 1 then .int .i64 nm else if i = 2 then .slice (f j).ba (f j).bs.length (f j).bc else if i = 3 then .slice (f j).ka (f j).kl (f j).kc else .slice ea el ec)) := e1
      have g0 : Wl.cell? ⟨E, 0, none⟩ = some (.int .i64 what) := e1.cell (i := 0) (by omega)
      clear hst hst' hwh hnm hj hj50 hap e1
      by_cases t0 : what = 4
      · skip
        subst t0
        go_wp2_with (first | rw [hWl])
        refine (j_rsync HO.out HW.out.1 HH.out.2.2.1 HH.out.2.2.2).mono ?_
        rintro e w6 ⟨x6, rfl, t, hs6, hj6, -⟩
        have H6 : Hid (Syncs s x6 t ∧ JW D w B n d kd (fun b => b = E) w6 s t) := ⟨hs6, hj6⟩
        clear hs6 hj6
        go_wp2_with fail
        refine (j_sync HO.out H6.out.2).mono ?_
        rintro e w7 ⟨v7, rfl, x7, he7, s7, hs7, hj7, -⟩
        obtain ⟨rfl, rfl⟩ := hs7.one H6.out.1
        have H7 : Hid (Er v7 x7 ∧ JW D w B n d kd (fun b => b = E) w7 s7 s7) := ⟨he7, hj7⟩
        clear he7 hs7 hj7
        go_wp2_with fail
        refine (error_any H7.out.1.is (h0.below H7.out.2.below)).mono ?_
        rintro e w8 ⟨rfl, hb8⟩
        obtain ⟨t, ht⟩ : ∃ t, s7 = t := ⟨_, rfl⟩
        have HT : Hid (JW D w B n d kd (fun b => b = E) w8 t t ∧ t.wr.length ≤ j + 1) := by
          rw [← ht]
          have := H6.out.1.len
          have := HW.out.2.1
          exact ⟨H7.out.2.step HO.out hb8, by omega⟩
        clear hb8 ht
        go_wp2_with fail
        go_loopw [13] (fun i wr => ∃ q : Nat, q ≤ n ∧ i = .int .i64 (q : Nat) ∧ JW D w B n d kd (fun b => b = E) wr t t) (fun i _ => n - (intOf i).toNat)
        case atStart => exact ⟨0, Nat.zero_le _, rfl, HT.out.1⟩
        case round =>
          obtain ⟨q, hq, rfl, hjq⟩ := hrel
          have HQ : Hid (JW D w B n d kd (fun b => b = E) wr t t) := hjq
          clear hjq
          have hn80 := HH.out.2.2.2
          by_cases hqn : q < n
          · have j0 : (0 : Int) ≤ (q : Int) := by omega
            have j1 : (q : Int) < (n : Int) := by omega
            have j5 : IntKind.i64.wrap ((q : Int) + 1) = (q : Int) + 1 := by rw [IntKind.wrap_i64]; omega
            go_wp2_with fail
            refine (j_read HO.out HQ.out q hqn).mono ?_
            rintro e w9 ⟨k9, c9, rfl, hl9, hb9, hj9, -⟩
            obtain ⟨g9, cg9, p9, v1, v2, v3, v4⟩ := hj9.page hqn
            have hbd : Below w9.heap.size w9 w9.drew := (Below.refl _ _).drew
            have hcv1 := conv_page (w := w9.drew) (c := c9) hl9 (hb9.below hbd)
            have hcv2 := conv_page (w := w9.drew) (c := 32) v3 (v4.below hbd)
            have HQ9 : Hid (JW D w B n d kd (fun b => b = E) w9 t t) := hj9
            generalize str (t.now q) = sx at hcv1 hcv2
            clear hl9 hb9 hj9 v3 v4 hbd
            go_wp2_with fail
            go_region
            go_wp2_with fail
            go_roundw
            case rel => exact ⟨q + 1, by omega, by go_num, HQ9.out.step HO.out (Below.refl _ _).drew⟩
            case measure => simp [intOf]; omega
          · obtain rfl : q = n := by omega
            have j1 : ¬ (q : Int) < (q : Int) := by omega
            go_wp2_with fail
            refine (j_read_no HO.out HQ.out (-1) (Or.inl (by decide))).mono ?_
            rintro e wa ⟨rfl, hja, -⟩
            have HA1 : Hid (JW D w B q d kd (fun b => b = E) wa t t) := hja
            clear hja
            go_wp2_with fail
            refine (j_read_no HO.out HA1.out (q : Int) (Or.inr (Int.le_refl _))).mono ?_
            rintro e wb ⟨rfl, hjb, -⟩
            have HB1 : Hid (JW D w B q d kd (fun b => b = E) wb t t) := hjb
            clear hjb
            go_wp2_with fail
            refine (error_any (n := 1) ⟨Or.inr rfl⟩ (h0.below HB1.out.below)).mono ?_
            rintro e wc ⟨rfl, hbc⟩
            have HC1 : Hid (JW D w B q d kd (fun b => b = E) wc t t) := HB1.out.step HO.out hbc
            clear hbc
            go_wp2_with fail
            refine (error_any (n := 1) ⟨Or.inr rfl⟩ (h0.below HC1.out.below)).mono ?_
            rintro e wd ⟨rfl, hbd⟩
            have HD1 : Hid (JW D w B q d kd (fun b => b = E) wd t t) := HC1.out.step HO.out hbd
            clear hbd
            go_wp2_with fail
            go_roundw
            case rel => exact ⟨j + 1, t, by omega, by omega, by go_num, HD1.out.drop HO.out (fun _ z => z.elim), HT.out.2⟩
            case measure => simp [intOf]; omega
      · skip
        by_cases t0 : what = 0
        · skip
          subst t0
          have g1 : Wl.cell? ⟨E, 1, none⟩ = some (.int .i64 nm) := HE.out.cell (i := 1) (by omega)
          have g2 : Wl.cell? ⟨E, 2, none⟩ = some (.slice (f j).ba (f j).bs.length (f j).bc) := HE.out.cell (i := 2) (by omega)
          go_wp2_with (first | rw [hWl])
          refine (j_rwrite HO.out HW.out.1 HH.out.2.2.1 HH.out.2.2.2 (by have := HW.out.2; omega) nm HSt.out.bt HSt.out.bcap.1 HSt.out.bcap.2.1 HSt.out.bcap.2.2).mono ?_
          rintro e w6 ⟨x6, rfl, t, hs6, hj6, hE6⟩
          have H6 : Hid (Writes n s nm (f j).bs x6 t ∧ JW D w B n d kd (fun b => b = E) w6 s t) := ⟨hs6, hj6⟩
          have r6 := HE.out.of_block (hE6 E rfl)
          have g3 : w6.cell? ⟨E, 1, none⟩ = some (.int .i64 nm) := r6.cell (i := 1) (by omega)
          have g4 : w6.cell? ⟨E, 2, none⟩ = some (.slice (f j).ba (f j).bs.length (f j).bc) := r6.cell (i := 2) (by omega)
          clear hs6 hj6 hE6 r6
          go_wp2_with fail
          refine (j_write HO.out H6.out.2 (by have := HW.out.2; omega) nm HSt.out.bt HSt.out.bcap.1 HSt.out.bcap.2.1 HSt.out.bcap.2.2).mono ?_
          rintro e w7 ⟨v7, rfl, x7, he7, s7, hs7, hj7, -⟩
          obtain ⟨rfl, rfl⟩ := hs7.one H6.out.1
          have H7 : Hid (Er v7 x7 ∧ JW D w B n d kd (fun b => b = E) w7 s7 s7) := ⟨he7, hj7⟩
          clear he7 hs7 hj7
          go_wp2_with fail
          refine (error_any H7.out.1.is (h0.below H7.out.2.below)).mono ?_
          rintro e w8 ⟨rfl, hb8⟩
          obtain ⟨t, ht⟩ : ∃ t, s7 = t := ⟨_, rfl⟩
          have HT : Hid (JW D w B n d kd (fun b => b = E) w8 t t ∧ t.wr.length ≤ j + 1) := by
            rw [← ht]
            have := H6.out.1.len
            have := HW.out.2.1
            exact ⟨H7.out.2.step HO.out hb8, by omega⟩
          clear hb8 ht
          go_wp2_with fail
          go_loopw [13] (fun i wr => ∃ q : Nat, q ≤ n ∧ i = .int .i64 (q : Nat) ∧ JW D w B n d kd (fun b => b = E) wr t t) (fun i _ => n - (intOf i).toNat)
          case atStart => exact ⟨0, Nat.zero_le _, rfl, HT.out.1⟩
          case round =>
            obtain ⟨q, hq, rfl, hjq⟩ := hrel
            have HQ : Hid (JW D w B n d kd (fun b => b = E) wr t t) := hjq
            clear hjq
            have hn80 := HH.out.2.2.2
            by_cases hqn : q < n
            · have j0 : (0 : Int) ≤ (q : Int) := by omega
              have j1 : (q : Int) < (n : Int) := by omega
              have j5 : IntKind.i64.wrap ((q : Int) + 1) = (q : Int) + 1 := by rw [IntKind.wrap_i64]; omega
              go_wp2_with fail
              refine (j_read HO.out HQ.out q hqn).mono ?_
              rintro e w9 ⟨k9, c9, rfl, hl9, hb9, hj9, -⟩
              obtain ⟨g9, cg9, p9, v1, v2, v3, v4⟩ := hj9.page hqn
              have hbd : Below w9.heap.size w9 w9.drew := (Below.refl _ _).drew
              have hcv1 := conv_page (w := w9.drew) (c := c9) hl9 (hb9.below hbd)
              have hcv2 := conv_page (w := w9.drew) (c := 32) v3 (v4.below hbd)
              have HQ9 : Hid (JW D w B n d kd (fun b => b = E) w9 t t) := hj9
              generalize str (t.now q) = sx at hcv1 hcv2
              clear hl9 hb9 hj9 v3 v4 hbd
              go_wp2_with fail
              go_region
              go_wp2_with fail
              go_roundw
              case rel => exact ⟨q + 1, by omega, by go_num, HQ9.out.step HO.out (Below.refl _ _).drew⟩
              case measure => simp [intOf]; omega
            · obtain rfl : q = n := by omega
              have j1 : ¬ (q : Int) < (q : Int) := by omega
              go_wp2_with fail
              refine (j_read_no HO.out HQ.out (-1) (Or.inl (by decide))).mono ?_
              rintro e wa ⟨rfl, hja, -⟩
              have HA1 : Hid (JW D w B q d kd (fun b => b = E) wa t t) := hja
              clear hja
              go_wp2_with fail
              refine (j_read_no HO.out HA1.out (q : Int) (Or.inr (Int.le_refl _))).mono ?_
              rintro e wb ⟨rfl, hjb, -⟩
              have HB1 : Hid (JW D w B q d kd (fun b => b = E) wb t t) := hjb
              clear hjb
              go_wp2_with fail
              refine (error_any (n := 1) ⟨Or.inr rfl⟩ (h0.below HB1.out.below)).mono ?_
              rintro e wc ⟨rfl, hbc⟩
              have HC1 : Hid (JW D w B q d kd (fun b => b = E) wc t t) := HB1.out.step HO.out hbc
              clear hbc
              go_wp2_with fail
              refine (error_any (n := 1) ⟨Or.inr rfl⟩ (h0.below HC1.out.below)).mono ?_
              rintro e wd ⟨rfl, hbd⟩
              have HD1 : Hid (JW D w B q d kd (fun b => b = E) wd t t) := HC1.out.step HO.out hbd
              clear hbd
              go_wp2_with fail
              go_roundw
              case rel => exact ⟨j + 1, t, by omega, by omega, by go_num, HD1.out.drop HO.out (fun _ z => z.elim), HT.out.2⟩
              case measure => simp [intOf]; omega
        by_cases t0 : what = 1
        · skip
          subst t0
          have g1 : Wl.cell? ⟨E, 1, none⟩ = some (.int .i64 nm) := HE.out.cell (i := 1) (by omega)
          have g2 : Wl.cell? ⟨E, 2, none⟩ = some (.slice (f j).ba (f j).bs.length (f j).bc) := HE.out.cell (i := 2) (by omega)
          go_wp2_with (first | rw [hWl])
          refine (j_rwrite HO.out HW.out.1 HH.out.2.2.1 HH.out.2.2.2 (by have := HW.out.2; omega) nm HSt.out.bt HSt.out.bcap.1 HSt.out.bcap.2.1 HSt.out.bcap.2.2).mono ?_
          rintro e w6 ⟨x6, rfl, t, hs6, hj6, hE6⟩
          have H6 : Hid (Writes n s nm (f j).bs x6 t ∧ JW D w B n d kd (fun b => b = E) w6 s t) := ⟨hs6, hj6⟩
          have r6 := HE.out.of_block (hE6 E rfl)
          have g3 : w6.cell? ⟨E, 1, none⟩ = some (.int .i64 nm) := r6.cell (i := 1) (by omega)
          have g4 : w6.cell? ⟨E, 2, none⟩ = some (.slice (f j).ba (f j).bs.length (f j).bc) := r6.cell (i := 2) (by omega)
          clear hs6 hj6 hE6 r6
          go_wp2_with fail
          refine (j_write HO.out H6.out.2 (by have := HW.out.2; omega) nm HSt.out.bt HSt.out.bcap.1 HSt.out.bcap.2.1 HSt.out.bcap.2.2).mono ?_
          rintro e w7 ⟨v7, rfl, x7, he7, s7, hs7, hj7, -⟩
          obtain ⟨rfl, rfl⟩ := hs7.one H6.out.1
          have H7 : Hid (Er v7 x7 ∧ JW D w B n d kd (fun b => b = E) w7 s7 s7) := ⟨he7, hj7⟩
          clear he7 hs7 hj7
          go_wp2_with fail
          refine (error_any H7.out.1.is (h0.below H7.out.2.below)).mono ?_
          rintro e w8 ⟨rfl, hb8⟩
          obtain ⟨t, ht⟩ : ∃ t, s7 = t := ⟨_, rfl⟩
          have HT : Hid (JW D w B n d kd (fun b => b = E) w8 t t ∧ t.wr.length ≤ j + 1) := by
            rw [← ht]
            have := H6.out.1.len
            have := HW.out.2.1
            exact ⟨H7.out.2.step HO.out hb8, by omega⟩
          clear hb8 ht
          go_wp2_with fail
          go_loopw [13] (fun i wr => ∃ q : Nat, q ≤ n ∧ i = .int .i64 (q : Nat) ∧ JW D w B n d kd (fun b => b = E) wr t t) (fun i _ => n - (intOf i).toNat)
          case atStart => exact ⟨0, Nat.zero_le _, rfl, HT.out.1⟩
          case round =>
            obtain ⟨q, hq, rfl, hjq⟩ := hrel
            have HQ : Hid (JW D w B n d kd (fun b => b = E) wr t t) := hjq
            clear hjq
            have hn80 := HH.out.2.2.2
            by_cases hqn : q < n
            · have j0 : (0 : Int) ≤ (q : Int) := by omega
              have j1 : (q : Int) < (n : Int) := by omega
              have j5 : IntKind.i64.wrap ((q : Int) + 1) = (q : Int) + 1 := by rw [IntKind.wrap_i64]; omega
              go_wp2_with fail
              refine (j_read HO.out HQ.out q hqn).mono ?_
              rintro e w9 ⟨k9, c9, rfl, hl9, hb9, hj9, -⟩
              obtain ⟨g9, cg9, p9, v1, v2, v3, v4⟩ := hj9.page hqn
              have hbd : Below w9.heap.size w9 w9.drew := (Below.refl _ _).drew
              have hcv1 := conv_page (w := w9.drew) (c := c9) hl9 (hb9.below hbd)
              have hcv2 := conv_page (w := w9.drew) (c := 32) v3 (v4.below hbd)
              have HQ9 : Hid (JW D w B n d kd (fun b => b = E) w9 t t) := hj9
              generalize str (t.now q) = sx at hcv1 hcv2
              clear hl9 hb9 hj9 v3 v4 hbd
              go_wp2_with fail
              go_region
              go_wp2_with fail
              go_roundw
              case rel => exact ⟨q + 1, by omega, by go_num, HQ9.out.step HO.out (Below.refl _ _).drew⟩
              case measure => simp [intOf]; omega
            · obtain rfl : q = n := by omega
              have j1 : ¬ (q : Int) < (q : Int) := by omega
              go_wp2_with fail
              refine (j_read_no HO.out HQ.out (-1) (Or.inl (by decide))).mono ?_
              rintro e wa ⟨rfl, hja, -⟩
              have HA1 : Hid (JW D w B q d kd (fun b => b = E) wa t t) := hja
              clear hja
              go_wp2_with fail
              refine (j_read_no HO.out HA1.out (q : Int) (Or.inr (Int.le_refl _))).mono ?_
              rintro e wb ⟨rfl, hjb, -⟩
              have HB1 : Hid (JW D w B q d kd (fun b => b = E) wb t t) := hjb
              clear hjb
              go_wp2_with fail
              refine (error_any (n := 1) ⟨Or.inr rfl⟩ (h0.below HB1.out.below)).mono ?_
              rintro e wc ⟨rfl, hbc⟩
              have HC1 : Hid (JW D w B q d kd (fun b => b = E) wc t t) := HB1.out.step HO.out hbc
              clear hbc
              go_wp2_with fail
              refine (error_any (n := 1) ⟨Or.inr rfl⟩ (h0.below HC1.out.below)).mono ?_
              rintro e wd ⟨rfl, hbd⟩
              have HD1 : Hid (JW D w B q d kd (fun b => b = E) wd t t) := HC1.out.step HO.out hbd
              clear hbd
              go_wp2_with fail
              go_roundw
              case rel => exact ⟨j + 1, t, by omega, by omega, by go_num, HD1.out.drop HO.out (fun _ z => z.elim), HT.out.2⟩
              case measure => simp [intOf]; omega
        by_cases t0 : what = 2
        · skip
          subst t0
          have g1 : Wl.cell? ⟨E, 1, none⟩ = some (.int .i64 nm) := HE.out.cell (i := 1) (by omega)
          have g2 : Wl.cell? ⟨E, 2, none⟩ = some (.slice (f j).ba (f j).bs.length (f j).bc) := HE.out.cell (i := 2) (by omega)
          go_wp2_with (first | rw [hWl])
          refine (j_rwrite HO.out HW.out.1 HH.out.2.2.1 HH.out.2.2.2 (by have := HW.out.2; omega) nm HSt.out.bt HSt.out.bcap.1 HSt.out.bcap.2.1 HSt.out.bcap.2.2).mono ?_
          rintro e w6 ⟨x6, rfl, t, hs6, hj6, hE6⟩
          have H6 : Hid (Writes n s nm (f j).bs x6 t ∧ JW D w B n d kd (fun b => b = E) w6 s t) := ⟨hs6, hj6⟩
          have r6 := HE.out.of_block (hE6 E rfl)
          have g3 : w6.cell? ⟨E, 1, none⟩ = some (.int .i64 nm) := r6.cell (i := 1) (by omega)
          have g4 : w6.cell? ⟨E, 2, none⟩ = some (.slice (f j).ba (f j).bs.length (f j).bc) := r6.cell (i := 2) (by omega)
          clear hs6 hj6 hE6 r6
          go_wp2_with fail
          refine (j_write HO.out H6.out.2 (by have := HW.out.2; omega) nm HSt.out.bt HSt.out.bcap.1 HSt.out.bcap.2.1 HSt.out.bcap.2.2).mono ?_
          rintro e w7 ⟨v7, rfl, x7, he7, s7, hs7, hj7, -⟩
          obtain ⟨rfl, rfl⟩ := hs7.one H6.out.1
          have H7 : Hid (Er v7 x7 ∧ JW D w B n d kd (fun b => b = E) w7 s7 s7) := ⟨he7, hj7⟩
          clear he7 hs7 hj7
          go_wp2_with fail
          refine (error_any H7.out.1.is (h0.below H7.out.2.below)).mono ?_
          rintro e w8 ⟨rfl, hb8⟩
          obtain ⟨t, ht⟩ : ∃ t, s7 = t := ⟨_, rfl⟩
          have HT : Hid (JW D w B n d kd (fun b => b = E) w8 t t ∧ t.wr.length ≤ j + 1) := by
            rw [← ht]
            have := H6.out.1.len
            have := HW.out.2.1
            exact ⟨H7.out.2.step HO.out hb8, by omega⟩
          clear hb8 ht
          go_wp2_with fail
          go_loopw [13] (fun i wr => ∃ q : Nat, q ≤ n ∧ i = .int .i64 (q : Nat) ∧ JW D w B n d kd (fun b => b = E) wr t t) (fun i _ => n - (intOf i).toNat)
          case atStart => exact ⟨0, Nat.zero_le _, rfl, HT.out.1⟩
          case round =>
            obtain ⟨q, hq, rfl, hjq⟩ := hrel
            have HQ : Hid (JW D w B n d kd (fun b => b = E) wr t t) := hjq
            clear hjq
            have hn80 := HH.out.2.2.2
            by_cases hqn : q < n
            · have j0 : (0 : Int) ≤ (q : Int) := by omega
              have j1 : (q : Int) < (n : Int) := by omega
              have j5 : IntKind.i64.wrap ((q : Int) + 1) = (q : Int) + 1 := by rw [IntKind.wrap_i64]; omega
              go_wp2_with fail
              refine (j_read HO.out HQ.out q hqn).mono ?_
              rintro e w9 ⟨k9, c9, rfl, hl9, hb9, hj9, -⟩
              obtain ⟨g9, cg9, p9, v1, v2, v3, v4⟩ := hj9.page hqn
              have hbd : Below w9.heap.size w9 w9.drew := (Below.refl _ _).drew
              have hcv1 := conv_page (w := w9.drew) (c := c9) hl9 (hb9.below hbd)
              have hcv2 := conv_page (w := w9.drew) (c := 32) v3 (v4.below hbd)
              have HQ9 : Hid (JW D w B n d kd (fun b => b = E) w9 t t) := hj9
              generalize str (t.now q) = sx at hcv1 hcv2
              clear hl9 hb9 hj9 v3 v4 hbd
              go_wp2_with fail
              go_region
              go_wp2_with fail
              go_roundw
              case rel => exact ⟨q + 1, by omega, by go_num, HQ9.out.step HO.out (Below.refl _ _).drew⟩
              case measure => simp [intOf]; omega
            · obtain rfl : q = n := by omega
              have j1 : ¬ (q : Int) < (q : Int) := by omega
              go_wp2_with fail
              refine (j_read_no HO.out HQ.out (-1) (Or.inl (by decide))).mono ?_
              rintro e wa ⟨rfl, hja, -⟩
              have HA1 : Hid (JW D w B q d kd (fun b => b = E) wa t t) := hja
              clear hja
              go_wp2_with fail
              refine (j_read_no HO.out HA1.out (q : Int) (Or.inr (Int.le_refl _))).mono ?_
              rintro e wb ⟨rfl, hjb, -⟩
              have HB1 : Hid (JW D w B q d kd (fun b => b = E) wb t t) := hjb
              clear hjb
              go_wp2_with fail
              refine (error_any (n := 1) ⟨Or.inr rfl⟩ (h0.below HB1.out.below)).mono ?_
              rintro e wc ⟨rfl, hbc⟩
              have HC1 : Hid (JW D w B q d kd (fun b => b = E) wc t t) := HB1.out.step HO.out hbc
              clear hbc
              go_wp2_with fail
              refine (error_any (n := 1) ⟨Or.inr rfl⟩ (h0.below HC1.out.below)).mono ?_
              rintro e wd ⟨rfl, hbd⟩
              have HD1 : Hid (JW D w B q d kd (fun b => b = E) wd t t) := HC1.out.step HO.out hbd
              clear hbd
              go_wp2_with fail
              go_roundw
              case rel => exact ⟨j + 1, t, by omega, by omega, by go_num, HD1.out.drop HO.out (fun _ z => z.elim), HT.out.2⟩
              case measure => simp [intOf]; omega
        by_cases t0 : what = 3
        · skip
          subst t0
          have g1 : Wl.cell? ⟨E, 1, none⟩ = some (.int .i64 nm) := HE.out.cell (i := 1) (by omega)
          have g2 : Wl.cell? ⟨E, 2, none⟩ = some (.slice (f j).ba (f j).bs.length (f j).bc) := HE.out.cell (i := 2) (by omega)
          go_wp2_with (first | rw [hWl])
          refine (j_rwrite HO.out HW.out.1 HH.out.2.2.1 HH.out.2.2.2 (by have := HW.out.2; omega) nm HSt.out.bt HSt.out.bcap.1 HSt.out.bcap.2.1 HSt.out.bcap.2.2).mono ?_
          rintro e w6 ⟨x6, rfl, t, hs6, hj6, hE6⟩
          have H6 : Hid (Writes n s nm (f j).bs x6 t ∧ JW D w B n d kd (fun b => b = E) w6 s t) := ⟨hs6, hj6⟩
          have r6 := HE.out.of_block (hE6 E rfl)
          have g3 : w6.cell? ⟨E, 1, none⟩ = some (.int .i64 nm) := r6.cell (i := 1) (by omega)
          have g4 : w6.cell? ⟨E, 2, none⟩ = some (.slice (f j).ba (f j).bs.length (f j).bc) := r6.cell (i := 2) (by omega)
          clear hs6 hj6 hE6 r6
          go_wp2_with fail
          refine (j_write HO.out H6.out.2 (by have := HW.out.2; omega) nm HSt.out.bt HSt.out.bcap.1 HSt.out.bcap.2.1 HSt.out.bcap.2.2).mono ?_
          rintro e w7 ⟨v7, rfl, x7, he7, s7, hs7, hj7, -⟩
          obtain ⟨rfl, rfl⟩ := hs7.one H6.out.1
          have H7 : Hid (Er v7 x7 ∧ JW D w B n d kd (fun b => b = E) w7 s7 s7) := ⟨he7, hj7⟩
          clear he7 hs7 hj7
          go_wp2_with fail
          refine (error_any H7.out.1.is (h0.below H7.out.2.below)).mono ?_
          rintro e w8 ⟨rfl, hb8⟩
          obtain ⟨t, ht⟩ : ∃ t, s7 = t := ⟨_, rfl⟩
          have HT : Hid (JW D w B n d kd (fun b => b = E) w8 t t ∧ t.wr.length ≤ j + 1) := by
            rw [← ht]
            have := H6.out.1.len
            have := HW.out.2.1
            exact ⟨H7.out.2.step HO.out hb8, by omega⟩
          clear hb8 ht
          go_wp2_with fail
          go_loopw [13] (fun i wr => ∃ q : Nat, q ≤ n ∧ i = .int .i64 (q : Nat) ∧ JW D w B n d kd (fun b => b = E) wr t t) (fun i _ => n - (intOf i).toNat)
          case atStart => exact ⟨0, Nat.zero_le _, rfl, HT.out.1⟩
          case round =>
            obtain ⟨q, hq, rfl, hjq⟩ := hrel
            have HQ : Hid (JW D w B n d kd (fun b => b = E) wr t t) := hjq
            clear hjq
            have hn80 := HH.out.2.2.2
            by_cases hqn : q < n
            · have j0 : (0 : Int) ≤ (q : Int) := by omega
              have j1 : (q : Int) < (n : Int) := by omega
              have j5 : IntKind.i64.wrap ((q : Int) + 1) = (q : Int) + 1 := by rw [IntKind.wrap_i64]; omega
              go_wp2_with fail
              refine (j_read HO.out HQ.out q hqn).mono ?_
              rintro e w9 ⟨k9, c9, rfl, hl9, hb9, hj9, -⟩
              obtain ⟨g9, cg9, p9, v1, v2, v3, v4⟩ := hj9.page hqn
              have hbd : Below w9.heap.size w9 w9.drew := (Below.refl _ _).drew
              have hcv1 := conv_page (w := w9.drew) (c := c9) hl9 (hb9.below hbd)
              have hcv2 := conv_page (w := w9.drew) (c := 32) v3 (v4.below hbd)
              have HQ9 : Hid (JW D w B n d kd (fun b => b = E) w9 t t) := hj9
              generalize str (t.now q) = sx at hcv1 hcv2
              clear hl9 hb9 hj9 v3 v4 hbd
              go_wp2_with fail
              go_region
              go_wp2_with fail
              go_roundw
              case rel => exact ⟨q + 1, by omega, by go_num, HQ9.out.step HO.out (Below.refl _ _).drew⟩
              case measure => simp [intOf]; omega
            · obtain rfl : q = n := by omega
              have j1 : ¬ (q : Int) < (q : Int) := by omega
              go_wp2_with fail
              refine (j_read_no HO.out HQ.out (-1) (Or.inl (by decide))).mono ?_
              rintro e wa ⟨rfl, hja, -⟩
              have HA1 : Hid (JW D w B q d kd (fun b => b = E) wa t t) := hja
              clear hja
              go_wp2_with fail
              refine (j_read_no HO.out HA1.out (q : Int) (Or.inr (Int.le_refl _))).mono ?_
              rintro e wb ⟨rfl, hjb, -⟩
              have HB1 : Hid (JW D w B q d kd (fun b => b = E) wb t t) := hjb
              clear hjb
              go_wp2_with fail
              refine (error_any (n := 1) ⟨Or.inr rfl⟩ (h0.below HB1.out.below)).mono ?_
              rintro e wc ⟨rfl, hbc⟩
              have HC1 : Hid (JW D w B q d kd (fun b => b = E) wc t t) := HB1.out.step HO.out hbc
              clear hbc
              go_wp2_with fail
              refine (error_any (n := 1) ⟨Or.inr rfl⟩ (h0.below HC1.out.below)).mono ?_
              rintro e wd ⟨rfl, hbd⟩
              have HD1 : Hid (JW D w B q d kd (fun b => b = E) wd t t) := HC1.out.step HO.out hbd
              clear hbd
              go_wp2_with fail
              go_roundw
              case rel => exact ⟨j + 1, t, by omega, by omega, by go_num, HD1.out.drop HO.out (fun _ z => z.elim), HT.out.2⟩
              case measure => simp [intOf]; omega
        by_cases t0 : what = 5
        · subst t0
          have g1 : Wl.cell? ⟨E, 1, none⟩ = some (.int .i64 nm) := HE.out.cell (i := 1) (by omega)
          have hwd : -9223372036854775808 ≤ nm ∧ nm ≤ 9223372036854775807 := by rw [← HWN.out.2]; exact HSt.out.wide
          have HWd : Hid (-9223372036854775808 ≤ nm ∧ nm ≤ 9223372036854775807) := hwd
          clear hwd
          go_wp2_with (first | rw [hWl])
          refine (j_fail HO.out HW.out.1 nm HWd.out).mono ?_
          rintro e w6 ⟨rfl, hj6, hE6⟩
          have r6 := HE.out.of_block (hE6 E rfl)
          have g5 : w6.cell? ⟨E, 1, none⟩ = some (.int .i64 nm) := r6.cell (i := 1) (by omega)
          obtain ⟨hj7, hE7, fz, v0, cv⟩ := hj6.setLeft HO.out HWd.out
          obtain ⟨W7, hW7⟩ : ∃ W7, w6.setCell ⟨kd, 3, none⟩ (.int .i64 nm) = W7 := ⟨_, rfl⟩
          rw [hW7] at hj7 hE7
          have g6 : W7.cell? ⟨E, 1, none⟩ = some (.int .i64 nm) := (r6.of_block (hE7 E rfl)).cell (i := 1) (by omega)
          have H7 : Hid (JW D w B n d kd (fun b => b = E) W7 (failing s nm) { s with left := nm }) := hj7
          clear hj6 hE6 r6 hj7 hE7
          by_cases t1 : nm < 0
          · skip
            have HT0 : Hid (failing s nm = { s with left := -1 }) := show _ = _ by unfold failing; rw [if_pos t1]
            obtain ⟨hj8, -, fz8, v8, cv8⟩ := H7.out.setLeft HO.out (x := -1) (by omega)
            obtain ⟨W8, hW8⟩ : ∃ W8, W7.setCell ⟨kd, 3, none⟩ (.int .i64 (-1)) = W8 := ⟨_, rfl⟩
            rw [hW8] at hj8
            obtain ⟨t, ht⟩ : ∃ t, failing s nm = t := ⟨_, rfl⟩
            have HT : Hid (JW D w B n d kd (fun b => b = E) W8 t t ∧ t.wr.length ≤ j + 1) := by
              have h1 : JW D w B n d kd (fun b => b = E) W8 (failing s nm) { s with left := -1 } := hj8
              rw [← HT0.out, ht] at h1
              exact ⟨h1, by rw [← ht]; exact Nat.le_succ_of_le HW.out.2.1⟩
            clear ht HT0 hj8
            go_wp2_with (first | rw [hW7] | rw [hW8])
            (try go_wp2_with fail)
            go_loopw [13] (fun i wr => ∃ q : Nat, q ≤ n ∧ i = .int .i64 (q : Nat) ∧ JW D w B n d kd (fun b => b = E) wr t t) (fun i _ => n - (intOf i).toNat)
            case atStart => exact ⟨0, Nat.zero_le _, rfl, HT.out.1⟩
            case round =>
              obtain ⟨q, hq, rfl, hjq⟩ := hrel
              have HQ : Hid (JW D w B n d kd (fun b => b = E) wr t t) := hjq
              clear hjq
              have hn80 := HH.out.2.2.2
              by_cases hqn : q < n
              · have j0 : (0 : Int) ≤ (q : Int) := by omega
                have j1 : (q : Int) < (n : Int) := by omega
                have j5 : IntKind.i64.wrap ((q : Int) + 1) = (q : Int) + 1 := by rw [IntKind.wrap_i64]; omega
                go_wp2_with fail
                refine (j_read HO.out HQ.out q hqn).mono ?_
                rintro e w9 ⟨k9, c9, rfl, hl9, hb9, hj9, -⟩
                obtain ⟨g9, cg9, p9, v1, v2, v3, v4⟩ := hj9.page hqn
                have hbd : Below w9.heap.size w9 w9.drew := (Below.refl _ _).drew
                have hcv1 := conv_page (w := w9.drew) (c := c9) hl9 (hb9.below hbd)
                have hcv2 := conv_page (w := w9.drew) (c := 32) v3 (v4.below hbd)
                have HQ9 : Hid (JW D w B n d kd (fun b => b = E) w9 t t) := hj9
                generalize str (t.now q) = sx at hcv1 hcv2
                clear hl9 hb9 hj9 v3 v4 hbd
                go_wp2_with fail
                go_region
                go_wp2_with fail
                go_roundw
                case rel => exact ⟨q + 1, by omega, by go_num, HQ9.out.step HO.out (Below.refl _ _).drew⟩
                case measure => simp [intOf]; omega
              · obtain rfl : q = n := by omega
                have j1 : ¬ (q : Int) < (q : Int) := by omega
                go_wp2_with fail
                refine (j_read_no HO.out HQ.out (-1) (Or.inl (by decide))).mono ?_
                rintro e wa ⟨rfl, hja, -⟩
                have HA1 : Hid (JW D w B q d kd (fun b => b = E) wa t t) := hja
                clear hja
                go_wp2_with fail
                refine (j_read_no HO.out HA1.out (q : Int) (Or.inr (Int.le_refl _))).mono ?_
                rintro e wb ⟨rfl, hjb, -⟩
                have HB1 : Hid (JW D w B q d kd (fun b => b = E) wb t t) := hjb
                clear hjb
                go_wp2_with fail
                refine (error_any (n := 1) ⟨Or.inr rfl⟩ (h0.below HB1.out.below)).mono ?_
                rintro e wc ⟨rfl, hbc⟩
                have HC1 : Hid (JW D w B q d kd (fun b => b = E) wc t t) := HB1.out.step HO.out hbc
                clear hbc
                go_wp2_with fail
                refine (error_any (n := 1) ⟨Or.inr rfl⟩ (h0.below HC1.out.below)).mono ?_
                rintro e wd ⟨rfl, hbd⟩
                have HD1 : Hid (JW D w B q d kd (fun b => b = E) wd t t) := HC1.out.step HO.out hbd
                clear hbd
                go_wp2_with fail
                go_roundw
                case rel => exact ⟨j + 1, t, by omega, by omega, by go_num, HD1.out.drop HO.out (fun _ z => z.elim), HT.out.2⟩
                case measure => simp [intOf]; omega
          · skip
            have HT0 : Hid (failing s nm = { s with left := nm }) := show _ = _ by unfold failing; rw [if_neg t1]
            go_wp2_with (first | rw [hW7])
            obtain ⟨t, ht⟩ : ∃ t, failing s nm = t := ⟨_, rfl⟩
            have HT : Hid (JW D w B n d kd (fun b => b = E) W7 t t ∧ t.wr.length ≤ j + 1) := by
              have h1 := H7.out
              rw [← HT0.out, ht] at h1
              exact ⟨h1, by rw [← ht]; exact Nat.le_succ_of_le HW.out.2.1⟩
            clear ht HT0
            (try go_wp2_with fail)
            go_loopw [13] (fun i wr => ∃ q : Nat, q ≤ n ∧ i = .int .i64 (q : Nat) ∧ JW D w B n d kd (fun b => b = E) wr t t) (fun i _ => n - (intOf i).toNat)
            case atStart => exact ⟨0, Nat.zero_le _, rfl, HT.out.1⟩
            case round =>
              obtain ⟨q, hq, rfl, hjq⟩ := hrel
              have HQ : Hid (JW D w B n d kd (fun b => b = E) wr t t) := hjq
              clear hjq
              have hn80 := HH.out.2.2.2
              by_cases hqn : q < n
              · have j0 : (0 : Int) ≤ (q : Int) := by omega
                have j1 : (q : Int) < (n : Int) := by omega
                have j5 : IntKind.i64.wrap ((q : Int) + 1) = (q : Int) + 1 := by rw [IntKind.wrap_i64]; omega
                go_wp2_with fail
                refine (j_read HO.out HQ.out q hqn).mono ?_
                rintro e w9 ⟨k9, c9, rfl, hl9, hb9, hj9, -⟩
                obtain ⟨g9, cg9, p9, v1, v2, v3, v4⟩ := hj9.page hqn
                have hbd : Below w9.heap.size w9 w9.drew := (Below.refl _ _).drew
                have hcv1 := conv_page (w := w9.drew) (c := c9) hl9 (hb9.below hbd)
                have hcv2 := conv_page (w := w9.drew) (c := 32) v3 (v4.below hbd)
                have HQ9 : Hid (JW D w B n d kd (fun b => b = E) w9 t t) := hj9
                generalize str (t.now q) = sx at hcv1 hcv2
                clear hl9 hb9 hj9 v3 v4 hbd
                go_wp2_with fail
                go_region
                go_wp2_with fail
                go_roundw
                case rel => exact ⟨q + 1, by omega, by go_num, HQ9.out.step HO.out (Below.refl _ _).drew⟩
                case measure => simp [intOf]; omega
              · obtain rfl : q = n := by omega
                have j1 : ¬ (q : Int) < (q : Int) := by omega
                go_wp2_with fail
                refine (j_read_no HO.out HQ.out (-1) (Or.inl (by decide))).mono ?_
                rintro e wa ⟨rfl, hja, -⟩
                have HA1 : Hid (JW D w B q d kd (fun b => b = E) wa t t) := hja
                clear hja
                go_wp2_with fail
                refine (j_read_no HO.out HA1.out (q : Int) (Or.inr (Int.le_refl _))).mono ?_
                rintro e wb ⟨rfl, hjb, -⟩
                have HB1 : Hid (JW D w B q d kd (fun b => b = E) wb t t) := hjb
                clear hjb
                go_wp2_with fail
                refine (error_any (n := 1) ⟨Or.inr rfl⟩ (h0.below HB1.out.below)).mono ?_
                rintro e wc ⟨rfl, hbc⟩
                have HC1 : Hid (JW D w B q d kd (fun b => b = E) wc t t) := HB1.out.step HO.out hbc
                clear hbc
                go_wp2_with fail
                refine (error_any (n := 1) ⟨Or.inr rfl⟩ (h0.below HC1.out.below)).mono ?_
                rintro e wd ⟨rfl, hbd⟩
                have HD1 : Hid (JW D w B q d kd (fun b => b = E) wd t t) := HC1.out.step HO.out hbd
                clear hbd
                go_wp2_with fail
                go_roundw
                case rel => exact ⟨j + 1, t, by omega, by omega, by go_num, HD1.out.drop HO.out (fun _ z => z.elim), HT.out.2⟩
                case measure => simp [intOf]; omega
        have u0 : (what == (0 : Int)) = false := by rw [beq_eq_false_iff_ne]; omega
        have u1 : (what == (1 : Int)) = false := by rw [beq_eq_false_iff_ne]; omega
        have u2 : (what == (2 : Int)) = false := by rw [beq_eq_false_iff_ne]; omega
        have u3 : (what == (3 : Int)) = false := by rw [beq_eq_false_iff_ne]; omega
        have u4 : (what == (4 : Int)) = false := by rw [beq_eq_false_iff_ne]; omega
        have u5 : (what == (5 : Int)) = false := by rw [beq_eq_false_iff_ne]; omega
        have g3 : Wl.cell? ⟨E, 3, none⟩ = some (.slice (f j).ka (f j).kl (f j).kc) := HE.out.cell (i := 3) (by omega)
        go_wp2_with (first | rw [hWl])
        refine (j_crash HO.out HW.out.1 (by have := HW.out.2; omega) HSt.out.kt HSt.out.kcap.1 HSt.out.kcap.2).mono ?_
        rintro e w6 ⟨rfl, hj6, hE6⟩
        have H6 : Hid (JW D w B n d kd (fun b => b = E) w6 (crashed s (among (f j).kl (f j).kf)) s) := hj6
        have r6 := HE.out.of_block (hE6 E rfl)
        have g5 : w6.cell? ⟨E, 3, none⟩ = some (.slice (f j).ka (f j).kl (f j).kc) := r6.cell (i := 3) (by omega)
        clear hj6 hE6 r6
        go_wp2_with fail
        refine (j_rcrash HO.out H6.out HH.out.2.2.1 HH.out.2.2.2 (by have := HW.out.2; omega) HSt.out.kt HSt.out.kcap.1 HSt.out.kcap.2).mono ?_
        rintro e w7 ⟨rfl, hj7, -⟩
        obtain ⟨t, ht⟩ : ∃ t, crashed s (among (f j).kl (f j).kf) = t := ⟨_, rfl⟩
        have HT : Hid (JW D w B n d kd (fun b => b = E) w7 t t ∧ t.wr.length ≤ j + 1) := by
          rw [← ht]
          exact ⟨hj7, Nat.zero_le _⟩
        clear hj7 ht
        go_wp2_with fail
        go_loopw [13] (fun i wr => ∃ q : Nat, q ≤ n ∧ i = .int .i64 (q : Nat) ∧ JW D w B n d kd (fun b => b = E) wr t t) (fun i _ => n - (intOf i).toNat)
        case atStart => exact ⟨0, Nat.zero_le _, rfl, HT.out.1⟩
        case round =>
          obtain ⟨q, hq, rfl, hjq⟩ := hrel
          have HQ : Hid (JW D w B n d kd (fun b => b = E) wr t t) := hjq
          clear hjq
          have hn80 := HH.out.2.2.2
          by_cases hqn : q < n
          · have j0 : (0 : Int) ≤ (q : Int) := by omega
            have j1 : (q : Int) < (n : Int) := by omega
            have j5 : IntKind.i64.wrap ((q : Int) + 1) = (q : Int) + 1 := by rw [IntKind.wrap_i64]; omega
            go_wp2_with fail
            refine (j_read HO.out HQ.out q hqn).mono ?_
            rintro e w9 ⟨k9, c9, rfl, hl9, hb9, hj9, -⟩
            obtain ⟨g9, cg9, p9, v1, v2, v3, v4⟩ := hj9.page hqn
            have hbd : Below w9.heap.size w9 w9.drew := (Below.refl _ _).drew
            have hcv1 := conv_page (w := w9.drew) (c := c9) hl9 (hb9.below hbd)
            have hcv2 := conv_page (w := w9.drew) (c := 32) v3 (v4.below hbd)
            have HQ9 : Hid (JW D w B n d kd (fun b => b = E) w9 t t) := hj9
            generalize str (t.now q) = sx at hcv1 hcv2
            clear hl9 hb9 hj9 v3 v4 hbd
            go_wp2_with fail
            go_region
            go_wp2_with fail
            go_roundw
            case rel => exact ⟨q + 1, by omega, by go_num, HQ9.out.step HO.out (Below.refl _ _).drew⟩
            case measure => simp [intOf]; omega
          · obtain rfl : q = n := by omega
            have j1 : ¬ (q : Int) < (q : Int) := by omega
            go_wp2_with fail
            refine (j_read_no HO.out HQ.out (-1) (Or.inl (by decide))).mono ?_
            rintro e wa ⟨rfl, hja, -⟩
            have HA1 : Hid (JW D w B q d kd (fun b => b = E) wa t t) := hja
            clear hja
            go_wp2_with fail
            refine (j_read_no HO.out HA1.out (q : Int) (Or.inr (Int.le_refl _))).mono ?_
            rintro e wb ⟨rfl, hjb, -⟩
            have HB1 : Hid (JW D w B q d kd (fun b => b = E) wb t t) := hjb
            clear hjb
            go_wp2_with fail
            refine (error_any (n := 1) ⟨Or.inr rfl⟩ (h0.below HB1.out.below)).mono ?_
            rintro e wc ⟨rfl, hbc⟩
            have HC1 : Hid (JW D w B q d kd (fun b => b = E) wc t t) := HB1.out.step HO.out hbc
            clear hbc
            go_wp2_with fail
            refine (error_any (n := 1) ⟨Or.inr rfl⟩ (h0.below HC1.out.below)).mono ?_
            rintro e wd ⟨rfl, hbd⟩
            have HD1 : Hid (JW D w B q d kd (fun b => b = E) wd t t) := HC1.out.step HO.out hbd
            clear hbd
            go_wp2_with fail
            go_roundw
            case rel => exact ⟨j + 1, t, by omega, by omega, by go_num, HD1.out.drop HO.out (fun _ z => z.elim), HT.out.2⟩
            case measure => simp [intOf]; omega
    · have hex : (¬ (j : Int) < (m : Int)) ∨ ((j : Int) < (m : Int) ∧ ¬ (j : Int) < 50) := by omega
      clear hlt hj hj50
      rcases hex with i1 | ⟨i1, i2⟩
      · go_wp2_with fail
        go_ret
        exact ⟨rfl, HJ.out.1.below⟩
      · go_wp2_with fail
        go_ret
        exact ⟨rfl, HJ.out.1.below⟩

end Go.Proofs.YtclheepbojogfacDoor.Dk
