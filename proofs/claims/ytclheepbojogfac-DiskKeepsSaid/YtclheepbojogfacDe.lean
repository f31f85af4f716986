/-
  DiskKeeps returns true, given what package disk is to answer.
-/
import Derived.Test.YtclheepbojogfacDd
import Derived.Lib.SlBytesConst
namespace Go.Proofs.Ytclheepbojogfac.Dk
open Go.RowKit Go.Deep
open Go.RowKit (Below)
set_option linter.unusedVariables false

variable {w w' wr : World} {D : Face}

theorem hi_bytes (w : World) : BtAt (w.alloc (.cells #[.int .u8 104, .int .u8 105] 5 (2, 3))) (some ⟨w.heap.size, 0, none⟩) [104, 105] := fun i hi => by
  have hb : (w.alloc (.cells #[.int .u8 104, .int .u8 105] 5 (2, 3))).heap[w.heap.size]? = some (.cells #[.int .u8 104, .int .u8 105] 5 (2, 3)) := by
    show (w.heap.push _)[w.heap.size]? = _
    simp
  have : i = 0 ∨ i = 1 := by simp at hi; omega
  rcases this with rfl | rfl
  · exact ⟨w.heap.size, 0, rfl, by simp only [World.cell?, hb]; rfl⟩
  · exact ⟨w.heap.size, 0, rfl, by simp only [World.cell?, hb]; rfl⟩

/-- Six texts. -/
def texts (f : Nat → List UInt8) (j : Nat) : Nat → Value := fun i => if i < j then .string (str (f i)) else .string (ByteArray.mk #[])

theorem texts_new (w : World) (f : Nat → List UInt8) : (w.alloc (.cells #[.string (ByteArray.mk #[]), .string (ByteArray.mk #[]), .string (ByteArray.mk #[]), .string (ByteArray.mk #[]), .string (ByteArray.mk #[]), .string (ByteArray.mk #[])] 38)).rowIs w.heap.size 38 6 (texts f 0) :=
  World.rowIs_alloc w #[.string (ByteArray.mk #[]), .string (ByteArray.mk #[]), .string (ByteArray.mk #[]), .string (ByteArray.mk #[]), .string (ByteArray.mk #[]), .string (ByteArray.mk #[])] 38 (texts f 0) (fun i hi => by
    match i, hi with
    | 0, _ => rfl
    | 1, _ => rfl
    | 2, _ => rfl
    | 3, _ => rfl
    | 4, _ => rfl
    | 5, _ => rfl)

set_option maxRecDepth 100000 in
set_option maxHeartbeats 64000000 in
theorem disk_keeps (O : DiskOk D) {a1 a2 a3 : Option Addr} {m1 c1 m2 c2 m3 c3 : Nat} {f1 f2 : Nat → Stp} {f3 : Nat → Int} (h1 : ScAt w a1 m1 f1) (h2 : ScAt w a2 m2 f2) (h3 : NumAt w a3 m3 f3) (hc3 : m3 ≤ c3) (hc3' : c3 ≤ maxLen) :
    Calls Try.prog 3 #[.slice a1 m1 c1, .slice a2 m2 c2, .slice a3 m3 c3] w fun e w' => e = .returned (.bool true) ∧ Below w.heap.size w w' := by
  have HH : Hid (ScAt w a1 m1 f1 ∧ ScAt w a2 m2 f2 ∧ NumAt w a3 m3 f3 ∧ m3 ≤ c3 ∧ c3 ≤ maxLen) := ⟨h1, h2, h3, hc3, hc3'⟩
  clear h1 h2 h3 hc3 hc3'
  go_enter Try.func3, Try.ntmps3
  go_wp2_with fail
  refine (lw_new (n := 1) O (Below.refl _ w) (by omega) (by omega)).mono ?_
  rintro e w1 ⟨z, rfl, hz⟩
  have HZ : Hid (LW D w w.heap.size 1 z (fun b => False ∨ b = w1.heap.size) (w1.alloc (.cells #[.int .u8 104, .int .u8 105] 5 (2, 3))) fresh) := hz.apart O _
  have hcv : (convert 30 30 (.slice (some ⟨w1.heap.size, 0, none⟩) 2 2)).run Try.prog (w1.alloc (.cells #[.int .u8 104, .int .u8 105] 5)) = .ok (.slice (some ⟨w1.heap.size, 0, none⟩) 2 2) (w1.alloc (.cells #[.int .u8 104, .int .u8 105] 5 (2, 3))) := Lib.run_convert_bytes_const w1 30 5 _ 2 2 Try.underlying30 Try.underlying5
  clear hz
  go_wp2_with fail
  clear hcv
  refine (lw_write_x (l := [104, 105]) (c := 2) O HZ.out 0 (hi_bytes w1) (fun b o e => Or.inr (by simp at e; exact e.1.symm)) (by decide) (by decide) (fun e => by cases e) (Nat.zero_le _)).mono ?_
  rintro e w2 ⟨v2, x2, s2, rfl, he2, hw2, hl2, -⟩
  obtain ⟨rfl, rfl⟩ := Alive.fresh.may (a := 0) hw2 (by omega) (by decide)
  obtain rfl := he2.nil
  have HZ2 : Hid (LW D w w.heap.size 1 z (fun b => False ∨ b = w1.heap.size) w2 (wrote fresh 0 (pad [104, 105]))) := hl2
  clear hw2 hl2 he2
  go_wp2_with fail
  refine (lw_crash (a := none) (m := 0) (c := 0) (f := fun _ => 0) O HZ2.out (fun i hi => absurd hi (Nat.not_lt_zero _)) (Nat.le_refl _) (Nat.zero_le _) (show 1 ≤ 1000 by decide)).mono ?_
  rintro e w3 ⟨rfl, hl3, -⟩
  have HZ3 : Hid (LW D w w.heap.size 1 z (fun b => False ∨ b = w1.heap.size) w3 (crashed (wrote fresh 0 (pad [104, 105])) (among 0 fun _ => 0))) := hl3
  clear hl3
  go_wp2_with fail
  refine (lw_read O HZ3.out 0 (by omega)).mono ?_
  rintro e w4 ⟨k4, cp4, rfl, -, hbt, -, hb4⟩
  have HB4 : Hid (Below w.heap.size w w4) := below_step HZ3.out.below hb4
  have q0 : w4.cell? ⟨k4, 0, none⟩ = some (.int .u8 0) := by
    obtain ⟨b, o, e, hc⟩ := hbt 0 (by decide)
    simp only [Option.some.injEq, Addr.mk.injEq, and_true] at e
    obtain ⟨rfl, rfl⟩ := e
    exact hc
  clear hbt hb4 HZ HZ2 HZ3
  go_wp2_with fail
  refine (lw_new (n := 6) O HB4.out (by omega) (by omega)).mono ?_
  rintro e w5 ⟨d, rfl, h5⟩
  have HD : Hid (LW D w w4.heap.size 6 d (fun _ => False) w5 fresh) := h5
  clear h5 q0 HB4
  generalize w4.heap.size = B at HD
  go_wp2_with fail
  go_loopw [12] (fun i wr => ∃ (j : Nat) (s : St), j ≤ m1 ∧ j ≤ 30 ∧ i = .int .i64 (j : Nat) ∧ LW D w B 6 d (fun _ => False) wr s ∧ Alive s ∧ s.wr.length ≤ j) (fun i _ => 30 - (intOf i).toNat)
  case atStart => exact ⟨0, fresh, Nat.zero_le _, Nat.zero_le _, rfl, HD.out, Alive.fresh, Nat.zero_le _⟩
  case round =>
    clear HD
    obtain ⟨j, s, hj, hj30, rfl, hl, ha, hlen⟩ := hrel
    have HL : Hid (LW D w B 6 d (fun _ => False) wr s ∧ Alive s ∧ s.wr.length ≤ j) := ⟨hl, ha, hlen⟩
    clear hl ha hlen
    by_cases hlt : j < m1 ∧ j < 30
    · obtain ⟨hlt, hlt30⟩ := hlt
      obtain ⟨b, o, rfl, hst⟩ := HH.out.1 j hlt
      have hst' := hst.below HL.out.1.below
      have q1 := hst'.num
      have q2 := hst'.bytes
      have hbd : Below wr.heap.size wr wr.drew := (Below.refl _ _).drew
      have hwr : Calls Try.prog 5 #[d, .int .i64 (f1 j).num, .slice (f1 j).ba (f1 j).bs.length (f1 j).bc] wr.drew fun e w' => ∃ v, e = .returned v ∧ (w'.cell? ⟨b, o + j * 5 + 1, none⟩ = some (.int .i64 (f1 j).num) ∧ w'.cell? ⟨b, o + j * 5 + 2, none⟩ = some (.slice (f1 j).ba (f1 j).bs.length (f1 j).bc)) ∧ Hid (∃ s', LW D w B 6 d (fun _ => False) w' s' ∧ Alive s' ∧ s'.wr.length ≤ j + 1) :=
        (lw_write O (HL.out.1.step O hbd) (f1 j).num hst.bt hst.bcap.1 hst.bcap.2.1 hst.bcap.2.2 (by have := HL.out.2.2; omega)).mono fun e w' ⟨v, x, s', e1, _, e3, e4, _⟩ => by
          have hk := hst.below e4.below
          refine ⟨v, e1, ⟨hk.num, hk.bytes⟩, s', e4, ?_⟩
          have hll := HL.out.2.2
          rcases HL.out.2.1.writes e3 with ⟨_, rfl⟩ | ⟨a, _, _, hlen, _, rfl⟩
          · exact ⟨HL.out.2.1, by omega⟩
          · exact ⟨HL.out.2.1.wrote a (pad_len hlen), by show (s.wr ++ [_]).length ≤ _; rw [List.length_append]; simp; omega⟩
      generalize (f1 j).num = nm at q1 hwr
      generalize (f1 j).ba = ba at q2 hwr
      generalize (f1 j).bc = bc at q2 hwr
      generalize (f1 j).bs.length = bl at q2 hwr
      have i0 : (0 : Int) ≤ (j : Int) := by omega
      have i1 : (j : Int) < (m1 : Int) := by omega
      have i2 : (j : Int) < 30 := by omega
      clear hst hst' hbd
      go_wp2_with fail
      go_region_held3 (fun V => V.cell? ⟨b, o + j * 5 + 1, none⟩ = some (.int .i64 nm) ∧ V.cell? ⟨b, o + j * 5 + 2, none⟩ = some (.slice ba bl bc)) (first | (go_keep; done) | exact ⟨q1, q2⟩)
        (first | (go_at_call 5; refine hwr.mono ?_; rintro e w6 ⟨v6, rfl, s6, HX⟩))
      go_wp2_with fail
      go_roundw
      case rel => exact HX.out.elim fun s' q => ⟨j + 1, s', by omega, by omega, by go_num, q⟩
      case measure => simp [intOf]; omega
    · have hex : (¬ (j : Int) < (m1 : Int)) ∨ ((j : Int) < (m1 : Int) ∧ ¬ (j : Int) < 30) := by omega
      clear hlt hj hj30
      rcases hex with i1 | ⟨i1, i2⟩
      · go_wp2_with fail
        refine (lw_sync O HL.out.1).mono ?_
        rintro e w6 ⟨v6, x6, s6, rfl, he6, hy6, hl6, -⟩
        obtain ⟨rfl, rfl⟩ := HL.out.2.1.syncs hy6
        obtain rfl := he6.nil
        have HS : Hid (LW D w B 6 d (fun b => False ∨ b = w6.heap.size) (w6.alloc (.cells #[.string (ByteArray.mk #[]), .string (ByteArray.mk #[]), .string (ByteArray.mk #[]), .string (ByteArray.mk #[]), .string (ByteArray.mk #[]), .string (ByteArray.mk #[])] 38)) (synced s) ∧ Alive (synced s) ∧ w.heap.size ≤ w6.heap.size) := ⟨hl6.apart O _, HL.out.2.1.synced, hl6.below.size⟩
        have HT : Hid ((w6.alloc (.cells #[.string (ByteArray.mk #[]), .string (ByteArray.mk #[]), .string (ByteArray.mk #[]), .string (ByteArray.mk #[]), .string (ByteArray.mk #[]), .string (ByteArray.mk #[])] 38)).rowIs w6.heap.size 38 6 (texts s.now 0)) := texts_new w6 s.now
        have HK0 : Hid ((synced s).now = s.now ∧ (synced s).kept = s.now ∧ (synced s).wr = []) := ⟨rfl, rfl, rfl⟩
        clear hy6 he6 hl6 HL
        generalize synced s = s0 at HS HK0
        generalize s.now = nw at HT HK0
        clear s
        go_wp2_with fail
        go_loopw [14] (fun i wr => ∃ j : Nat, j ≤ 6 ∧ i = .int .i64 (j : Nat) ∧ LW D w B 6 d (fun b => False ∨ b = w6.heap.size) wr s0 ∧ wr.rowIs w6.heap.size 38 6 (texts nw j)) (fun i _ => 6 - (intOf i).toNat)
        case atStart => exact ⟨0, Nat.zero_le _, rfl, HS.out.1, HT.out⟩
        case round =>
          clear HT
          obtain ⟨j, hj, rfl, hl, hrow⟩ := hrel
          have HL : Hid (LW D w B 6 d (fun b => False ∨ b = w6.heap.size) wr s0 ∧ wr.rowIs w6.heap.size 38 6 (texts nw j)) := ⟨hl, hrow⟩
          clear hl hrow
          by_cases hlt : j < 6
          · have i0 : (0 : Int) ≤ (j : Int) := by omega
            have i1 : (j : Int) < 6 := by omega
            go_wp2_with fail
            refine (lw_read O HL.out.1 j hlt).mono ?_
            rintro e w7 ⟨k7, cp7, rfl, hlen7, hbt7, hl7, hb7⟩
            have hcv := conv_page (c := cp7) hlen7 hbt7
            have hrow7 : w7.rowIs w6.heap.size 38 6 (texts nw j) := HL.out.2.of_block (hb7.block _ HL.out.2.lt)
            have d0 := hrow7.cell hlt
            have z0 := hrow7.frozen j
            have hnw : s0.now j = nw j := by rw [HK0.out.1]
            rw [hnw] at hcv
            have HX : Hid (LW D w B 6 d (fun b => False ∨ b = w6.heap.size) (w7.setCell ⟨w6.heap.size, j, none⟩ (.string (str (nw j)))) s0 ∧ (w7.setCell ⟨w6.heap.size, j, none⟩ (.string (str (nw j)))).rowIs w6.heap.size 38 6 (texts nw (j + 1))) := ⟨hl7.setCell O (Or.inr rfl) HS.out.2.2 _, (hrow7.set j _).congr fun i hi => by
              unfold texts
              by_cases e : i = j
              · subst e; simp
              · by_cases q : i < j
                · simp [e, q, show i < j + 1 by omega]
                · simp [e, q, show ¬ i < j + 1 by omega]⟩
            generalize str (nw j) = sj at hcv HX
            clear hbt7 hl7 hb7 hrow7 hlen7 hnw
            go_wp2_with fail
            go_roundw
            case rel => exact ⟨j + 1, by omega, by go_num, HX.out⟩
            case measure => simp [intOf]; omega
          · have HJ : Hid (j = 6) := show _ = _ by omega
            have i9 : ¬ (j : Int) < 6 := by omega
            have HK1 : Hid (∃ s, LW D w B 6 d (fun b => False ∨ b = w6.heap.size) wr s ∧ Alive s ∧ s.wr.length = 0 ∧ wr.rowIs w6.heap.size 38 6 (texts (play (among m3 f3) 0 s.wr s.kept) 6)) := ⟨s0, HL.out.1, HS.out.2.1, by rw [HK0.out.2.2]; rfl, by rw [HK0.out.2.2, HK0.out.2.1]; have h := HL.out.2; rw [HJ.out] at h; exact h⟩
            have HB6 : Hid (w.heap.size ≤ w6.heap.size) := HS.out.2.2
            clear HL HS HK0 hlt hj HJ
            generalize w6.heap.size = bw at HK1 HB6
            go_wp2_with fail
            clear i9
            go_loopw [17, 18] (fun k i wr => ∃ (j q : Nat) (s : St), j ≤ m2 ∧ j ≤ 30 ∧ q ≤ j ∧ i = .int .i64 (j : Nat) ∧ k = .int .i64 (q : Nat) ∧ LW D w B 6 d (fun b => False ∨ b = bw) wr s ∧ Alive s ∧ s.wr.length = q ∧ wr.rowIs bw 38 6 (texts (play (among m3 f3) 0 s.wr s.kept) 6)) (fun _ i _ => 30 - (intOf i).toNat)
            case atStart => exact HK1.out.elim fun s q => ⟨0, 0, s, Nat.zero_le _, Nat.zero_le _, Nat.le_refl _, rfl, rfl, q⟩
            case round =>
              clear HK1
              obtain ⟨j, q, s, hj, hj30, hq, rfl, rfl, hl, ha, hlen, hrow⟩ := hrel
              have HQ30 : Hid (q ≤ 30) := show _ ≤ _ by omega
              have HL : Hid (LW D w B 6 d (fun b => False ∨ b = bw) wr s ∧ Alive s ∧ s.wr.length = q ∧ wr.rowIs bw 38 6 (texts (play (among m3 f3) 0 s.wr s.kept) 6)) := ⟨hl, ha, hlen, hrow⟩
              clear hl ha hlen hrow
              by_cases hlt : j < m2 ∧ j < 30
              · obtain ⟨hlt, hlt30⟩ := hlt
                obtain ⟨b, o, rfl, hst⟩ := HH.out.2.1 j hlt
                have hst' := hst.below HL.out.1.below
                have q1 := hst'.num
                have q2 := hst'.bytes
                have hbd : Below wr.heap.size wr wr.drew := (Below.refl _ _).drew
                have HSt : Hid (StpAt w b (o + j * 5) (f2 j)) := hst
                have i0 : (0 : Int) ≤ (j : Int) := by omega
                have i1 : (j : Int) < (m2 : Int) := by omega
                have i2 : (j : Int) < 30 := by omega
                by_cases hg : (0 ≤ (f2 j).num ∧ (f2 j).num < 6) ∧ (f2 j).bs.length ≤ 32
                · obtain ⟨a, hanum⟩ : ∃ a : Nat, (f2 j).num = (a : Int) := ⟨(f2 j).num.toNat, by omega⟩
                  have ha6 : a < 6 := by omega
                  have hwr : Calls Try.prog 5 #[d, .int .i64 (a : Int), .slice (f2 j).ba (f2 j).bs.length (f2 j).bc] wr.drew fun e w' => e = .returned .nilIface ∧ (w'.cell? ⟨b, o + j * 5 + 1, none⟩ = some (.int .i64 (a : Int)) ∧ w'.cell? ⟨b, o + j * 5 + 2, none⟩ = some (.slice (f2 j).ba (f2 j).bs.length (f2 j).bc)) ∧ Hid (LW D w B 6 d (fun b => False ∨ b = bw) w' (wrote s a (pad (f2 j).bs)) ∧ w'.rowIs bw 38 6 (texts (play (among m3 f3) 0 s.wr s.kept) 6)) :=
                    (lw_write O (HL.out.1.step O hbd) (a : Int) hst.bt hst.bcap.1 hst.bcap.2.1 hst.bcap.2.2 (by have := HL.out.2.2.1; omega)).mono fun e w' ⟨v, x, s', e1, e2, e3, e4, e5⟩ => by
                      have hk := hst.below e4.below
                      obtain ⟨rfl, rfl⟩ := HL.out.2.1.may e3 ha6 hg.2
                      obtain rfl := e2.nil
                      refine ⟨e1, ⟨by rw [hk.num, hanum], hk.bytes⟩, e4, ?_⟩
                      exact (HL.out.2.2.2.of_block (hbd.block _ HL.out.2.2.2.lt)).of_block (e5 bw (Or.inr rfl))
                  have HP : Hid ((pad (f2 j).bs).length = 32) := pad_len hg.2
                  have HNum : Hid ((f2 j).num = (a : Int)) := hanum
                  rw [hanum] at q1
                  generalize pad (f2 j).bs = pg at hwr HP
                  generalize (f2 j).ba = ba at q2 hwr
                  generalize (f2 j).bc = bc at q2 hwr
                  generalize (f2 j).bs.length = bl at q2 hwr
                  clear hst hst' hbd hg hanum
                  go_wp2_with fail
                  go_region_held3 (fun V => V.cell? ⟨b, o + j * 5 + 1, none⟩ = some (.int .i64 (a : Int)) ∧ V.cell? ⟨b, o + j * 5 + 2, none⟩ = some (.slice ba bl bc)) (first | (go_keep; done) | exact ⟨q1, q2⟩)
                    (first | (go_at_call 5; refine hwr.mono ?_; rintro e w8 ⟨rfl, s8, HX⟩))
                  clear q1 q2 hwr
                  have hha := has_any (w := w8) (HH.out.2.2.1.below HX.out.1.below) HH.out.2.2.2.1 HH.out.2.2.2.2 q
                  have hqw : IntKind.i64.wrap ((q : Int) + 1) = ((q + 1 : Nat) : Int) := by rw [IntKind.wrap_i64]; omega
                  have HLen : Hid (s.wr.length = q) := HL.out.2.2.1
                  have HSn : Hid (play (among m3 f3) 0 (wrote s a pg).wr (wrote s a pg).kept = if among m3 f3 q then upd (play (among m3 f3) 0 s.wr s.kept) a pg else play (among m3 f3) 0 s.wr s.kept) := show _ = _ by
                    have := play_snoc (among m3 f3) a pg s.wr 0 s.kept
                    rw [Nat.zero_add, HLen.out] at this
                    exact this
                  have HAl : Hid (Alive (wrote s a pg) ∧ (wrote s a pg).wr.length = q + 1) := ⟨HL.out.2.1.wrote a HP.out, by show (s.wr ++ [(a, pg)]).length = _; rw [List.length_append, HLen.out]; rfl⟩
                  cases hmm : among m3 f3 q with
                  | false =>
                    rw [hmm] at hha
                    have HR : Hid (play (among m3 f3) 0 (wrote s a pg).wr (wrote s a pg).kept = play (among m3 f3) 0 s.wr s.kept) := show _ = _ by rw [HSn.out, hmm]; rfl
                    clear hmm
                    go_wp2_with fail
                    refine hha.mono ?_
                    rintro e w9 ⟨rfl, hb9⟩
                    have HX9 : Hid (LW D w B 6 d (fun b => False ∨ b = bw) w9 (wrote s a pg) ∧ Alive (wrote s a pg) ∧ (wrote s a pg).wr.length = q + 1 ∧ w9.rowIs bw 38 6 (texts (play (among m3 f3) 0 (wrote s a pg).wr (wrote s a pg).kept) 6)) := ⟨HX.out.1.step O hb9, HAl.out.1, HAl.out.2, by rw [HR.out]; exact HX.out.2.of_block (hb9.block _ HX.out.2.lt)⟩
                    clear hha hb9
                    go_wp2_with fail
                    go_roundw
                    case rel => exact ⟨j + 1, q + 1, _, by omega, by omega, by omega, by go_num, rfl, HX9.out⟩
                    case measure => simp [intOf]; omega
                  | true =>
                    rw [hmm] at hha
                    have HR : Hid (play (among m3 f3) 0 (wrote s a pg).wr (wrote s a pg).kept = upd (play (among m3 f3) 0 s.wr s.kept) a pg) := show _ = _ by rw [HSn.out, hmm]; rfl
                    clear hmm
                    go_wp2_with fail
                    refine hha.mono ?_
                    rintro e w9 ⟨rfl, hb9⟩
                    have HX9 : Hid (LW D w B 6 d (fun b => False ∨ b = bw) w9 (wrote s a pg) ∧ w9.rowIs bw 38 6 (texts (play (among m3 f3) 0 s.wr s.kept) 6)) := ⟨HX.out.1.step O hb9, HX.out.2.of_block (hb9.block _ HX.out.2.lt)⟩
                    have q1 : w9.cell? ⟨b, o + j * 5 + 1, none⟩ = some (.int .i64 (a : Int)) := by rw [(HSt.out.below HX9.out.1.below).num, HNum.out]
                    clear hha hb9
                    go_wp2_with fail
                    refine (lw_read O HX9.out.1 a ha6).mono ?_
                    rintro e w10 ⟨k10, cp10, rfl, hlen10, hbt10, hl10, hb10⟩
                    have hpg : (wrote s a pg).now a = pg := upd_same _ _ _
                    rw [hpg] at hlen10 hbt10
                    have hbd : Below w10.heap.size w10 w10.drew := (Below.refl _ _).drew
                    have hcv := conv_page (w := w10.drew) (c := cp10) hlen10 (hbt10.below hbd)
                    have hrow10 : w10.rowIs bw 38 6 (texts (play (among m3 f3) 0 s.wr s.kept) 6) := HX9.out.2.of_block (hb10.block _ HX9.out.2.lt)
                    have d0 := hrow10.cell ha6
                    have z0 := hrow10.frozen a
                    have q1 : w10.cell? ⟨b, o + j * 5 + 1, none⟩ = some (.int .i64 (a : Int)) := by rw [(HSt.out.below hl10.below).num, HNum.out]
                    have HX10 : Hid (LW D w B 6 d (fun b => False ∨ b = bw) (w10.setCell ⟨bw, a, none⟩ (.string (str pg))).drew (wrote s a pg) ∧ Alive (wrote s a pg) ∧ (wrote s a pg).wr.length = q + 1 ∧ (w10.setCell ⟨bw, a, none⟩ (.string (str pg))).drew.rowIs bw 38 6 (texts (play (among m3 f3) 0 (wrote s a pg).wr (wrote s a pg).kept) 6)) := ⟨(hl10.setCell O (Or.inr rfl) HB6.out _).step O ((Below.refl _ _).drew), HAl.out.1, HAl.out.2, ((hrow10.set a _).congr fun i hi => by
                      rw [HR.out]
                      unfold texts upd
                      by_cases e : i = a
                      · subst e; simp [ha6]
                      · simp [e]).drew⟩
                    have hbne : b ≠ bw := by
                      have h1 := World.block_lt_of_cell? _ _ HSt.out.num
                      have h2 := HB6.out
                      simp at h1
                      omega
                    have j0 : (0 : Int) ≤ (a : Int) := by omega
                    have j1 : (a : Int) < 6 := by omega
                    generalize str pg = sj at hcv HX10
                    clear hbt10 hl10 hb10 hrow10 hlen10 hpg hbd
                    go_wp2_with fail
                    go_region
                    go_wp2_with fail
                    go_roundw
                    case rel => exact ⟨j + 1, q + 1, _, by omega, by omega, by omega, by go_num, rfl, HX10.out⟩
                    case measure => simp [intOf]; omega
                · have hwr : Calls Try.prog 5 #[d, .int .i64 (f2 j).num, .slice (f2 j).ba (f2 j).bs.length (f2 j).bc] wr.drew fun e w' => ∃ x, e = .returned (.iface 41 (.int .i64 x)) ∧ (w'.cell? ⟨b, o + j * 5 + 1, none⟩ = some (.int .i64 (f2 j).num) ∧ w'.cell? ⟨b, o + j * 5 + 2, none⟩ = some (.slice (f2 j).ba (f2 j).bs.length (f2 j).bc)) ∧ Hid (LW D w B 6 d (fun b => False ∨ b = bw) w' s ∧ Alive s ∧ s.wr.length = q ∧ w'.rowIs bw 38 6 (texts (play (among m3 f3) 0 s.wr s.kept) 6)) :=
                    (lw_write O (HL.out.1.step O hbd) (f2 j).num hst.bt hst.bcap.1 hst.bcap.2.1 hst.bcap.2.2 (by have := HL.out.2.2.1; omega)).mono fun e w' ⟨v, x, s', e1, e2, e3, e4, e5⟩ => by
                      have hk := hst.below e4.below
                      rcases HL.out.2.1.writes e3 with ⟨hx, rfl⟩ | ⟨a, h1, h2, h3, _, _⟩
                      · obtain rfl := e2.some hx
                        refine ⟨x, e1, ⟨hk.num, hk.bytes⟩, e4, HL.out.2.1, HL.out.2.2.1, ?_⟩
                        exact (HL.out.2.2.2.of_block (hbd.block _ HL.out.2.2.2.lt)).of_block (e5 bw (Or.inr rfl))
                      · exact absurd ⟨by omega, h3⟩ hg
                  generalize (f2 j).num = nm at q1 hwr
                  generalize (f2 j).ba = ba at q2 hwr
                  generalize (f2 j).bc = bc at q2 hwr
                  generalize (f2 j).bs.length = bl at q2 hwr
                  clear hst hst' hbd hg
                  go_wp2_with fail
                  go_region_held3 (fun V => V.cell? ⟨b, o + j * 5 + 1, none⟩ = some (.int .i64 nm) ∧ V.cell? ⟨b, o + j * 5 + 2, none⟩ = some (.slice ba bl bc)) (first | (go_keep; done) | exact ⟨q1, q2⟩)
                    (first | (go_at_call 5; refine hwr.mono ?_; rintro e w8 ⟨x8, rfl, s8, HX⟩))
                  go_wp2_with fail
                  go_roundw
                  case rel => exact ⟨j + 1, q, s, by omega, by omega, by omega, by go_num, rfl, HX.out⟩
                  case measure => simp [intOf]; omega
              · have hex : (¬ (j : Int) < (m2 : Int)) ∨ ((j : Int) < (m2 : Int) ∧ ¬ (j : Int) < 30) := by omega
                clear hlt hj hj30
                rcases hex with i1 | ⟨i1, i2⟩
                · go_wp2_with fail
                  refine (lw_crash O HL.out.1 HH.out.2.2.1 HH.out.2.2.2.1 HH.out.2.2.2.2 (by have := HL.out.2.2.1; have := HQ30.out; omega)).mono ?_
                  rintro e w11 ⟨rfl, hl11, hs11⟩
                  have HE : Hid (LW D w B 6 d (fun b => False ∨ b = bw) w11 (crashed s (among m3 f3)) ∧ Alive (crashed s (among m3 f3)) ∧ w11.rowIs bw 38 6 (texts (crashed s (among m3 f3)).now 6)) := ⟨hl11, HL.out.2.1.crashed _, HL.out.2.2.2.of_block (hs11 bw (Or.inr rfl))⟩
                  clear hl11 hs11 HL
                  generalize crashed s (among m3 f3) = s1 at HE
                  clear s
                  go_wp2_with fail
                  go_loopw [22] (fun i wr => ∃ j : Nat, j ≤ 6 ∧ i = .int .i64 (j : Nat) ∧ LW D w B 6 d (fun b => False ∨ b = bw) wr s1 ∧ wr.rowIs bw 38 6 (texts s1.now 6)) (fun i _ => 6 - (intOf i).toNat)
                  case atStart => exact ⟨0, Nat.zero_le _, rfl, HE.out.1, HE.out.2.2⟩
                  case round =>
                    obtain ⟨j, hj, rfl, hl, hrow⟩ := hrel
                    have HL : Hid (LW D w B 6 d (fun b => False ∨ b = bw) wr s1 ∧ wr.rowIs bw 38 6 (texts s1.now 6)) := ⟨hl, hrow⟩
                    clear hl hrow
                    by_cases hlt : j < 6
                    · have i0 : (0 : Int) ≤ (j : Int) := by omega
                      have i1 : (j : Int) < 6 := by omega
                      go_wp2_with fail
                      refine (lw_read O HL.out.1 j hlt).mono ?_
                      rintro e w12 ⟨k12, cp12, rfl, hlen12, hbt12, hl12, hb12⟩
                      have hbd : Below w12.heap.size w12 w12.drew := (Below.refl _ _).drew
                      have hcv := conv_page (w := w12.drew) (c := cp12) hlen12 (hbt12.below hbd)
                      have hrow12 : w12.rowIs bw 38 6 (texts s1.now 6) := HL.out.2.of_block (hb12.block _ HL.out.2.lt)
                      have d0 : w12.cell? ⟨bw, j, none⟩ = some (.string (str (s1.now j))) := by rw [hrow12.cell hlt]; unfold texts; rw [if_pos hlt]
                      have HX : Hid (LW D w B 6 d (fun b => False ∨ b = bw) w12.drew s1 ∧ w12.drew.rowIs bw 38 6 (texts s1.now 6)) := ⟨hl12.step O hbd, hrow12.drew⟩
                      generalize str (s1.now j) = sj at hcv d0
                      clear hbt12 hl12 hb12 hrow12 hlen12 hbd
                      go_wp2_with fail
                      go_region
                      go_wp2_with fail
                      go_roundw
                      case rel => exact ⟨j + 1, by omega, by go_num, HX.out⟩
                      case measure => simp [intOf]; omega
                    · obtain rfl : j = 6 := by omega
                      go_wp2_with fail
                      refine (lw_sync O HL.out.1).mono ?_
                      rintro e w13 ⟨v13, x13, s13, rfl, he13, hy13, hl13, -⟩
                      obtain ⟨rfl, rfl⟩ := HE.out.2.1.syncs hy13
                      obtain rfl := he13.nil
                      have HB13 : Hid (Below w.heap.size w w13) := hl13.below
                      clear he13 hy13 hl13
                      go_wp2_with fail
                      go_ret
                      exact ⟨rfl, HB13.out⟩
                · go_wp2_with fail
                  refine (lw_crash O HL.out.1 HH.out.2.2.1 HH.out.2.2.2.1 HH.out.2.2.2.2 (by have := HL.out.2.2.1; have := HQ30.out; omega)).mono ?_
                  rintro e w11 ⟨rfl, hl11, hs11⟩
                  have HE : Hid (LW D w B 6 d (fun b => False ∨ b = bw) w11 (crashed s (among m3 f3)) ∧ Alive (crashed s (among m3 f3)) ∧ w11.rowIs bw 38 6 (texts (crashed s (among m3 f3)).now 6)) := ⟨hl11, HL.out.2.1.crashed _, HL.out.2.2.2.of_block (hs11 bw (Or.inr rfl))⟩
                  clear hl11 hs11 HL
                  generalize crashed s (among m3 f3) = s1 at HE
                  clear s
                  go_wp2_with fail
                  go_loopw [22] (fun i wr => ∃ j : Nat, j ≤ 6 ∧ i = .int .i64 (j : Nat) ∧ LW D w B 6 d (fun b => False ∨ b = bw) wr s1 ∧ wr.rowIs bw 38 6 (texts s1.now 6)) (fun i _ => 6 - (intOf i).toNat)
                  case atStart => exact ⟨0, Nat.zero_le _, rfl, HE.out.1, HE.out.2.2⟩
                  case round =>
                    obtain ⟨j, hj, rfl, hl, hrow⟩ := hrel
                    have HL : Hid (LW D w B 6 d (fun b => False ∨ b = bw) wr s1 ∧ wr.rowIs bw 38 6 (texts s1.now 6)) := ⟨hl, hrow⟩
                    clear hl hrow
                    by_cases hlt : j < 6
                    · have i0 : (0 : Int) ≤ (j : Int) := by omega
                      have i1 : (j : Int) < 6 := by omega
                      go_wp2_with fail
                      refine (lw_read O HL.out.1 j hlt).mono ?_
                      rintro e w12 ⟨k12, cp12, rfl, hlen12, hbt12, hl12, hb12⟩
                      have hbd : Below w12.heap.size w12 w12.drew := (Below.refl _ _).drew
                      have hcv := conv_page (w := w12.drew) (c := cp12) hlen12 (hbt12.below hbd)
                      have hrow12 : w12.rowIs bw 38 6 (texts s1.now 6) := HL.out.2.of_block (hb12.block _ HL.out.2.lt)
                      have d0 : w12.cell? ⟨bw, j, none⟩ = some (.string (str (s1.now j))) := by rw [hrow12.cell hlt]; unfold texts; rw [if_pos hlt]
                      have HX : Hid (LW D w B 6 d (fun b => False ∨ b = bw) w12.drew s1 ∧ w12.drew.rowIs bw 38 6 (texts s1.now 6)) := ⟨hl12.step O hbd, hrow12.drew⟩
                      generalize str (s1.now j) = sj at hcv d0
                      clear hbt12 hl12 hb12 hrow12 hlen12 hbd
                      go_wp2_with fail
                      go_region
                      go_wp2_with fail
                      go_roundw
                      case rel => exact ⟨j + 1, by omega, by go_num, HX.out⟩
                      case measure => simp [intOf]; omega
                    · obtain rfl : j = 6 := by omega
                      go_wp2_with fail
                      refine (lw_sync O HL.out.1).mono ?_
                      rintro e w13 ⟨v13, x13, s13, rfl, he13, hy13, hl13, -⟩
                      obtain ⟨rfl, rfl⟩ := HE.out.2.1.syncs hy13
                      obtain rfl := he13.nil
                      have HB13 : Hid (Below w.heap.size w w13) := hl13.below
                      clear he13 hy13 hl13
                      go_wp2_with fail
                      go_ret
                      exact ⟨rfl, HB13.out⟩
      · go_wp2_with fail
        refine (lw_sync O HL.out.1).mono ?_
        rintro e w6 ⟨v6, x6, s6, rfl, he6, hy6, hl6, -⟩
        obtain ⟨rfl, rfl⟩ := HL.out.2.1.syncs hy6
        obtain rfl := he6.nil
        have HS : Hid (LW D w B 6 d (fun b => False ∨ b = w6.heap.size) (w6.alloc (.cells #[.string (ByteArray.mk #[]), .string (ByteArray.mk #[]), .string (ByteArray.mk #[]), .string (ByteArray.mk #[]), .string (ByteArray.mk #[]), .string (ByteArray.mk #[])] 38)) (synced s) ∧ Alive (synced s) ∧ w.heap.size ≤ w6.heap.size) := ⟨hl6.apart O _, HL.out.2.1.synced, hl6.below.size⟩
        have HT : Hid ((w6.alloc (.cells #[.string (ByteArray.mk #[]), .string (ByteArray.mk #[]), .string (ByteArray.mk #[]), .string (ByteArray.mk #[]), .string (ByteArray.mk #[]), .string (ByteArray.mk #[])] 38)).rowIs w6.heap.size 38 6 (texts s.now 0)) := texts_new w6 s.now
        have HK0 : Hid ((synced s).now = s.now ∧ (synced s).kept = s.now ∧ (synced s).wr = []) := ⟨rfl, rfl, rfl⟩
        clear hy6 he6 hl6 HL
        generalize synced s = s0 at HS HK0
        generalize s.now = nw at HT HK0
        clear s
        go_wp2_with fail
        go_loopw [14] (fun i wr => ∃ j : Nat, j ≤ 6 ∧ i = .int .i64 (j : Nat) ∧ LW D w B 6 d (fun b => False ∨ b = w6.heap.size) wr s0 ∧ wr.rowIs w6.heap.size 38 6 (texts nw j)) (fun i _ => 6 - (intOf i).toNat)
        case atStart => exact ⟨0, Nat.zero_le _, rfl, HS.out.1, HT.out⟩
        case round =>
          clear HT
          obtain ⟨j, hj, rfl, hl, hrow⟩ := hrel
          have HL : Hid (LW D w B 6 d (fun b => False ∨ b = w6.heap.size) wr s0 ∧ wr.rowIs w6.heap.size 38 6 (texts nw j)) := ⟨hl, hrow⟩
          clear hl hrow
          by_cases hlt : j < 6
          · have i0 : (0 : Int) ≤ (j : Int) := by omega
            have i1 : (j : Int) < 6 := by omega
            go_wp2_with fail
            refine (lw_read O HL.out.1 j hlt).mono ?_
            rintro e w7 ⟨k7, cp7, rfl, hlen7, hbt7, hl7, hb7⟩
            have hcv := conv_page (c := cp7) hlen7 hbt7
            have hrow7 : w7.rowIs w6.heap.size 38 6 (texts nw j) := HL.out.2.of_block (hb7.block _ HL.out.2.lt)
            have d0 := hrow7.cell hlt
            have z0 := hrow7.frozen j
            have hnw : s0.now j = nw j := by rw [HK0.out.1]
            rw [hnw] at hcv
            have HX : Hid (LW D w B 6 d (fun b => False ∨ b = w6.heap.size) (w7.setCell ⟨w6.heap.size, j, none⟩ (.string (str (nw j)))) s0 ∧ (w7.setCell ⟨w6.heap.size, j, none⟩ (.string (str (nw j)))).rowIs w6.heap.size 38 6 (texts nw (j + 1))) := ⟨hl7.setCell O (Or.inr rfl) HS.out.2.2 _, (hrow7.set j _).congr fun i hi => by
              unfold texts
              by_cases e : i = j
              · subst e; simp
              · by_cases q : i < j
                · simp [e, q, show i < j + 1 by omega]
                · simp [e, q, show ¬ i < j + 1 by omega]⟩
            generalize str (nw j) = sj at hcv HX
            clear hbt7 hl7 hb7 hrow7 hlen7 hnw
            go_wp2_with fail
            go_roundw
            case rel => exact ⟨j + 1, by omega, by go_num, HX.out⟩
            case measure => simp [intOf]; omega
          · have HJ : Hid (j = 6) := show _ = _ by omega
            have i9 : ¬ (j : Int) < 6 := by omega
            have HK1 : Hid (∃ s, LW D w B 6 d (fun b => False ∨ b = w6.heap.size) wr s ∧ Alive s ∧ s.wr.length = 0 ∧ wr.rowIs w6.heap.size 38 6 (texts (play (among m3 f3) 0 s.wr s.kept) 6)) := ⟨s0, HL.out.1, HS.out.2.1, by rw [HK0.out.2.2]; rfl, by rw [HK0.out.2.2, HK0.out.2.1]; have h := HL.out.2; rw [HJ.out] at h; exact h⟩
            have HB6 : Hid (w.heap.size ≤ w6.heap.size) := HS.out.2.2
            clear HL HS HK0 hlt hj HJ
            generalize w6.heap.size = bw at HK1 HB6
            go_wp2_with fail
            clear i9
            go_loopw [17, 18] (fun k i wr => ∃ (j q : Nat) (s : St), j ≤ m2 ∧ j ≤ 30 ∧ q ≤ j ∧ i = .int .i64 (j : Nat) ∧ k = .int .i64 (q : Nat) ∧ LW D w B 6 d (fun b => False ∨ b = bw) wr s ∧ Alive s ∧ s.wr.length = q ∧ wr.rowIs bw 38 6 (texts (play (among m3 f3) 0 s.wr s.kept) 6)) (fun _ i _ => 30 - (intOf i).toNat)
            case atStart => exact HK1.out.elim fun s q => ⟨0, 0, s, Nat.zero_le _, Nat.zero_le _, Nat.le_refl _, rfl, rfl, q⟩
            case round =>
              clear HK1
              obtain ⟨j, q, s, hj, hj30, hq, rfl, rfl, hl, ha, hlen, hrow⟩ := hrel
              have HQ30 : Hid (q ≤ 30) := show _ ≤ _ by omega
              have HL : Hid (LW D w B 6 d (fun b => False ∨ b = bw) wr s ∧ Alive s ∧ s.wr.length = q ∧ wr.rowIs bw 38 6 (texts (play (among m3 f3) 0 s.wr s.kept) 6)) := ⟨hl, ha, hlen, hrow⟩
              clear hl ha hlen hrow
              by_cases hlt : j < m2 ∧ j < 30
              · obtain ⟨hlt, hlt30⟩ := hlt
                obtain ⟨b, o, rfl, hst⟩ := HH.out.2.1 j hlt
                have hst' := hst.below HL.out.1.below
                have q1 := hst'.num
                have q2 := hst'.bytes
                have hbd : Below wr.heap.size wr wr.drew := (Below.refl _ _).drew
                have HSt : Hid (StpAt w b (o + j * 5) (f2 j)) := hst
                have i0 : (0 : Int) ≤ (j : Int) := by omega
                have i1 : (j : Int) < (m2 : Int) := by omega
                have i2 : (j : Int) < 30 := by omega
                by_cases hg : (0 ≤ (f2 j).num ∧ (f2 j).num < 6) ∧ (f2 j).bs.length ≤ 32
                · obtain ⟨a, hanum⟩ : ∃ a : Nat, (f2 j).num = (a : Int) := ⟨(f2 j).num.toNat, by omega⟩
                  have ha6 : a < 6 := by omega
                  have hwr : Calls Try.prog 5 #[d, .int .i64 (a : Int), .slice (f2 j).ba (f2 j).bs.length (f2 j).bc] wr.drew fun e w' => e = .returned .nilIface ∧ (w'.cell? ⟨b, o + j * 5 + 1, none⟩ = some (.int .i64 (a : Int)) ∧ w'.cell? ⟨b, o + j * 5 + 2, none⟩ = some (.slice (f2 j).ba (f2 j).bs.length (f2 j).bc)) ∧ Hid (LW D w B 6 d (fun b => False ∨ b = bw) w' (wrote s a (pad (f2 j).bs)) ∧ w'.rowIs bw 38 6 (texts (play (among m3 f3) 0 s.wr s.kept) 6)) :=
                    (lw_write O (HL.out.1.step O hbd) (a : Int) hst.bt hst.bcap.1 hst.bcap.2.1 hst.bcap.2.2 (by have := HL.out.2.2.1; omega)).mono fun e w' ⟨v, x, s', e1, e2, e3, e4, e5⟩ => by
                      have hk := hst.below e4.below
                      obtain ⟨rfl, rfl⟩ := HL.out.2.1.may e3 ha6 hg.2
                      obtain rfl := e2.nil
                      refine ⟨e1, ⟨by rw [hk.num, hanum], hk.bytes⟩, e4, ?_⟩
                      exact (HL.out.2.2.2.of_block (hbd.block _ HL.out.2.2.2.lt)).of_block (e5 bw (Or.inr rfl))
                  have HP : Hid ((pad (f2 j).bs).length = 32) := pad_len hg.2
                  have HNum : Hid ((f2 j).num = (a : Int)) := hanum
                  rw [hanum] at q1
                  generalize pad (f2 j).bs = pg at hwr HP
                  generalize (f2 j).ba = ba at q2 hwr
                  generalize (f2 j).bc = bc at q2 hwr
                  generalize (f2 j).bs.length = bl at q2 hwr
                  clear hst hst' hbd hg hanum
                  go_wp2_with fail
                  go_region_held3 (fun V => V.cell? ⟨b, o + j * 5 + 1, none⟩ = some (.int .i64 (a : Int)) ∧ V.cell? ⟨b, o + j * 5 + 2, none⟩ = some (.slice ba bl bc)) (first | (go_keep; done) | exact ⟨q1, q2⟩)
                    (first | (go_at_call 5; refine hwr.mono ?_; rintro e w8 ⟨rfl, s8, HX⟩))
                  clear q1 q2 hwr
                  have hha := has_any (w := w8) (HH.out.2.2.1.below HX.out.1.below) HH.out.2.2.2.1 HH.out.2.2.2.2 q
                  have hqw : IntKind.i64.wrap ((q : Int) + 1) = ((q + 1 : Nat) : Int) := by rw [IntKind.wrap_i64]; omega
                  have HLen : Hid (s.wr.length = q) := HL.out.2.2.1
                  have HSn : Hid (play (among m3 f3) 0 (wrote s a pg).wr (wrote s a pg).kept = if among m3 f3 q then upd (play (among m3 f3) 0 s.wr s.kept) a pg else play (among m3 f3) 0 s.wr s.kept) := show _ = _ by
                    have := play_snoc (among m3 f3) a pg s.wr 0 s.kept
                    rw [Nat.zero_add, HLen.out] at this
                    exact this
                  have HAl : Hid (Alive (wrote s a pg) ∧ (wrote s a pg).wr.length = q + 1) := ⟨HL.out.2.1.wrote a HP.out, by show (s.wr ++ [(a, pg)]).length = _; rw [List.length_append, HLen.out]; rfl⟩
                  cases hmm : among m3 f3 q with
                  | false =>
                    rw [hmm] at hha
                    have HR : Hid (play (among m3 f3) 0 (wrote s a pg).wr (wrote s a pg).kept = play (among m3 f3) 0 s.wr s.kept) := show _ = _ by rw [HSn.out, hmm]; rfl
                    clear hmm
                    go_wp2_with fail
                    refine hha.mono ?_
                    rintro e w9 ⟨rfl, hb9⟩
                    have HX9 : Hid (LW D w B 6 d (fun b => False ∨ b = bw) w9 (wrote s a pg) ∧ Alive (wrote s a pg) ∧ (wrote s a pg).wr.length = q + 1 ∧ w9.rowIs bw 38 6 (texts (play (among m3 f3) 0 (wrote s a pg).wr (wrote s a pg).kept) 6)) := ⟨HX.out.1.step O hb9, HAl.out.1, HAl.out.2, by rw [HR.out]; exact HX.out.2.of_block (hb9.block _ HX.out.2.lt)⟩
                    clear hha hb9
                    go_wp2_with fail
                    go_roundw
                    case rel => exact ⟨j + 1, q + 1, _, by omega, by omega, by omega, by go_num, rfl, HX9.out⟩
                    case measure => simp [intOf]; omega
                  | true =>
                    rw [hmm] at hha
                    have HR : Hid (play (among m3 f3) 0 (wrote s a pg).wr (wrote s a pg).kept = upd (play (among m3 f3) 0 s.wr s.kept) a pg) := show _ = _ by rw [HSn.out, hmm]; rfl
                    clear hmm
                    go_wp2_with fail
                    refine hha.mono ?_
                    rintro e w9 ⟨rfl, hb9⟩
                    have HX9 : Hid (LW D w B 6 d (fun b => False ∨ b = bw) w9 (wrote s a pg) ∧ w9.rowIs bw 38 6 (texts (play (among m3 f3) 0 s.wr s.kept) 6)) := ⟨HX.out.1.step O hb9, HX.out.2.of_block (hb9.block _ HX.out.2.lt)⟩
                    have q1 : w9.cell? ⟨b, o + j * 5 + 1, none⟩ = some (.int .i64 (a : Int)) := by rw [(HSt.out.below HX9.out.1.below).num, HNum.out]
                    clear hha hb9
                    go_wp2_with fail
                    refine (lw_read O HX9.out.1 a ha6).mono ?_
                    rintro e w10 ⟨k10, cp10, rfl, hlen10, hbt10, hl10, hb10⟩
                    have hpg : (wrote s a pg).now a = pg := upd_same _ _ _
                    rw [hpg] at hlen10 hbt10
                    have hbd : Below w10.heap.size w10 w10.drew := (Below.refl _ _).drew
                    have hcv := conv_page (w := w10.drew) (c := cp10) hlen10 (hbt10.below hbd)
                    have hrow10 : w10.rowIs bw 38 6 (texts (play (among m3 f3) 0 s.wr s.kept) 6) := HX9.out.2.of_block (hb10.block _ HX9.out.2.lt)
                    have d0 := hrow10.cell ha6
                    have z0 := hrow10.frozen a
                    have q1 : w10.cell? ⟨b, o + j * 5 + 1, none⟩ = some (.int .i64 (a : Int)) := by rw [(HSt.out.below hl10.below).num, HNum.out]
                    have HX10 : Hid (LW D w B 6 d (fun b => False ∨ b = bw) (w10.setCell ⟨bw, a, none⟩ (.string (str pg))).drew (wrote s a pg) ∧ Alive (wrote s a pg) ∧ (wrote s a pg).wr.length = q + 1 ∧ (w10.setCell ⟨bw, a, none⟩ (.string (str pg))).drew.rowIs bw 38 6 (texts (play (among m3 f3) 0 (wrote s a pg).wr (wrote s a pg).kept) 6)) := ⟨(hl10.setCell O (Or.inr rfl) HB6.out _).step O ((Below.refl _ _).drew), HAl.out.1, HAl.out.2, ((hrow10.set a _).congr fun i hi => by
                      rw [HR.out]
                      unfold texts upd
                      by_cases e : i = a
                      · subst e; simp [ha6]
                      · simp [e]).drew⟩
                    have hbne : b ≠ bw := by
                      have h1 := World.block_lt_of_cell? _ _ HSt.out.num
                      have h2 := HB6.out
                      simp at h1
                      omega
                    have j0 : (0 : Int) ≤ (a : Int) := by omega
                    have j1 : (a : Int) < 6 := by omega
                    generalize str pg = sj at hcv HX10
                    clear hbt10 hl10 hb10 hrow10 hlen10 hpg hbd
                    go_wp2_with fail
                    go_region
                    go_wp2_with fail
                    go_roundw
                    case rel => exact ⟨j + 1, q + 1, _, by omega, by omega, by omega, by go_num, rfl, HX10.out⟩
                    case measure => simp [intOf]; omega
                · have hwr : Calls Try.prog 5 #[d, .int .i64 (f2 j).num, .slice (f2 j).ba (f2 j).bs.length (f2 j).bc] wr.drew fun e w' => ∃ x, e = .returned (.iface 41 (.int .i64 x)) ∧ (w'.cell? ⟨b, o + j * 5 + 1, none⟩ = some (.int .i64 (f2 j).num) ∧ w'.cell? ⟨b, o + j * 5 + 2, none⟩ = some (.slice (f2 j).ba (f2 j).bs.length (f2 j).bc)) ∧ Hid (LW D w B 6 d (fun b => False ∨ b = bw) w' s ∧ Alive s ∧ s.wr.length = q ∧ w'.rowIs bw 38 6 (texts (play (among m3 f3) 0 s.wr s.kept) 6)) :=
                    (lw_write O (HL.out.1.step O hbd) (f2 j).num hst.bt hst.bcap.1 hst.bcap.2.1 hst.bcap.2.2 (by have := HL.out.2.2.1; omega)).mono fun e w' ⟨v, x, s', e1, e2, e3, e4, e5⟩ => by
                      have hk := hst.below e4.below
                      rcases HL.out.2.1.writes e3 with ⟨hx, rfl⟩ | ⟨a, h1, h2, h3, _, _⟩
                      · obtain rfl := e2.some hx
                        refine ⟨x, e1, ⟨hk.num, hk.bytes⟩, e4, HL.out.2.1, HL.out.2.2.1, ?_⟩
                        exact (HL.out.2.2.2.of_block (hbd.block _ HL.out.2.2.2.lt)).of_block (e5 bw (Or.inr rfl))
                      · exact absurd ⟨by omega, h3⟩ hg
                  generalize (f2 j).num = nm at q1 hwr
                  generalize (f2 j).ba = ba at q2 hwr
                  generalize (f2 j).bc = bc at q2 hwr
                  generalize (f2 j).bs.length = bl at q2 hwr
                  clear hst hst' hbd hg
                  go_wp2_with fail
                  go_region_held3 (fun V => V.cell? ⟨b, o + j * 5 + 1, none⟩ = some (.int .i64 nm) ∧ V.cell? ⟨b, o + j * 5 + 2, none⟩ = some (.slice ba bl bc)) (first | (go_keep; done) | exact ⟨q1, q2⟩)
                    (first | (go_at_call 5; refine hwr.mono ?_; rintro e w8 ⟨x8, rfl, s8, HX⟩))
                  go_wp2_with fail
                  go_roundw
                  case rel => exact ⟨j + 1, q, s, by omega, by omega, by omega, by go_num, rfl, HX.out⟩
                  case measure => simp [intOf]; omega
              · have hex : (¬ (j : Int) < (m2 : Int)) ∨ ((j : Int) < (m2 : Int) ∧ ¬ (j : Int) < 30) := by omega
                clear hlt hj hj30
                rcases hex with i1 | ⟨i1, i2⟩
                · go_wp2_with fail
                  refine (lw_crash O HL.out.1 HH.out.2.2.1 HH.out.2.2.2.1 HH.out.2.2.2.2 (by have := HL.out.2.2.1; have := HQ30.out; omega)).mono ?_
                  rintro e w11 ⟨rfl, hl11, hs11⟩
                  have HE : Hid (LW D w B 6 d (fun b => False ∨ b = bw) w11 (crashed s (among m3 f3)) ∧ Alive (crashed s (among m3 f3)) ∧ w11.rowIs bw 38 6 (texts (crashed s (among m3 f3)).now 6)) := ⟨hl11, HL.out.2.1.crashed _, HL.out.2.2.2.of_block (hs11 bw (Or.inr rfl))⟩
                  clear hl11 hs11 HL
                  generalize crashed s (among m3 f3) = s1 at HE
                  clear s
                  go_wp2_with fail
                  go_loopw [22] (fun i wr => ∃ j : Nat, j ≤ 6 ∧ i = .int .i64 (j : Nat) ∧ LW D w B 6 d (fun b => False ∨ b = bw) wr s1 ∧ wr.rowIs bw 38 6 (texts s1.now 6)) (fun i _ => 6 - (intOf i).toNat)
                  case atStart => exact ⟨0, Nat.zero_le _, rfl, HE.out.1, HE.out.2.2⟩
                  case round =>
                    obtain ⟨j, hj, rfl, hl, hrow⟩ := hrel
                    have HL : Hid (LW D w B 6 d (fun b => False ∨ b = bw) wr s1 ∧ wr.rowIs bw 38 6 (texts s1.now 6)) := ⟨hl, hrow⟩
                    clear hl hrow
                    by_cases hlt : j < 6
                    · have i0 : (0 : Int) ≤ (j : Int) := by omega
                      have i1 : (j : Int) < 6 := by omega
                      go_wp2_with fail
                      refine (lw_read O HL.out.1 j hlt).mono ?_
                      rintro e w12 ⟨k12, cp12, rfl, hlen12, hbt12, hl12, hb12⟩
                      have hbd : Below w12.heap.size w12 w12.drew := (Below.refl _ _).drew
                      have hcv := conv_page (w := w12.drew) (c := cp12) hlen12 (hbt12.below hbd)
                      have hrow12 : w12.rowIs bw 38 6 (texts s1.now 6) := HL.out.2.of_block (hb12.block _ HL.out.2.lt)
                      have d0 : w12.cell? ⟨bw, j, none⟩ = some (.string (str (s1.now j))) := by rw [hrow12.cell hlt]; unfold texts; rw [if_pos hlt]
                      have HX : Hid (LW D w B 6 d (fun b => False ∨ b = bw) w12.drew s1 ∧ w12.drew.rowIs bw 38 6 (texts s1.now 6)) := ⟨hl12.step O hbd, hrow12.drew⟩
                      generalize str (s1.now j) = sj at hcv d0
                      clear hbt12 hl12 hb12 hrow12 hlen12 hbd
                      go_wp2_with fail
                      go_region
                      go_wp2_with fail
                      go_roundw
                      case rel => exact ⟨j + 1, by omega, by go_num, HX.out⟩
                      case measure => simp [intOf]; omega
                    · obtain rfl : j = 6 := by omega
                      go_wp2_with fail
                      refine (lw_sync O HL.out.1).mono ?_
                      rintro e w13 ⟨v13, x13, s13, rfl, he13, hy13, hl13, -⟩
                      obtain ⟨rfl, rfl⟩ := HE.out.2.1.syncs hy13
                      obtain rfl := he13.nil
                      have HB13 : Hid (Below w.heap.size w w13) := hl13.below
                      clear he13 hy13 hl13
                      go_wp2_with fail
                      go_ret
                      exact ⟨rfl, HB13.out⟩
                · go_wp2_with fail
                  refine (lw_crash O HL.out.1 HH.out.2.2.1 HH.out.2.2.2.1 HH.out.2.2.2.2 (by have := HL.out.2.2.1; have := HQ30.out; omega)).mono ?_
                  rintro e w11 ⟨rfl, hl11, hs11⟩
                  have HE : Hid (LW D w B 6 d (fun b => False ∨ b = bw) w11 (crashed s (among m3 f3)) ∧ Alive (crashed s (among m3 f3)) ∧ w11.rowIs bw 38 6 (texts (crashed s (among m3 f3)).now 6)) := ⟨hl11, HL.out.2.1.crashed _, HL.out.2.2.2.of_block (hs11 bw (Or.inr rfl))⟩
                  clear hl11 hs11 HL
                  generalize crashed s (among m3 f3) = s1 at HE
                  clear s
                  go_wp2_with fail
                  go_loopw [22] (fun i wr => ∃ j : Nat, j ≤ 6 ∧ i = .int .i64 (j : Nat) ∧ LW D w B 6 d (fun b => False ∨ b = bw) wr s1 ∧ wr.rowIs bw 38 6 (texts s1.now 6)) (fun i _ => 6 - (intOf i).toNat)
                  case atStart => exact ⟨0, Nat.zero_le _, rfl, HE.out.1, HE.out.2.2⟩
                  case round =>
                    obtain ⟨j, hj, rfl, hl, hrow⟩ := hrel
                    have HL : Hid (LW D w B 6 d (fun b => False ∨ b = bw) wr s1 ∧ wr.rowIs bw 38 6 (texts s1.now 6)) := ⟨hl, hrow⟩
                    clear hl hrow
                    by_cases hlt : j < 6
                    · have i0 : (0 : Int) ≤ (j : Int) := by omega
                      have i1 : (j : Int) < 6 := by omega
                      go_wp2_with fail
                      refine (lw_read O HL.out.1 j hlt).mono ?_
                      rintro e w12 ⟨k12, cp12, rfl, hlen12, hbt12, hl12, hb12⟩
                      have hbd : Below w12.heap.size w12 w12.drew := (Below.refl _ _).drew
                      have hcv := conv_page (w := w12.drew) (c := cp12) hlen12 (hbt12.below hbd)
                      have hrow12 : w12.rowIs bw 38 6 (texts s1.now 6) := HL.out.2.of_block (hb12.block _ HL.out.2.lt)
                      have d0 : w12.cell? ⟨bw, j, none⟩ = some (.string (str (s1.now j))) := by rw [hrow12.cell hlt]; unfold texts; rw [if_pos hlt]
                      have HX : Hid (LW D w B 6 d (fun b => False ∨ b = bw) w12.drew s1 ∧ w12.drew.rowIs bw 38 6 (texts s1.now 6)) := ⟨hl12.step O hbd, hrow12.drew⟩
                      generalize str (s1.now j) = sj at hcv d0
                      clear hbt12 hl12 hb12 hrow12 hlen12 hbd
                      go_wp2_with fail
                      go_region
                      go_wp2_with fail
                      go_roundw
                      case rel => exact ⟨j + 1, by omega, by go_num, HX.out⟩
                      case measure => simp [intOf]; omega
                    · obtain rfl : j = 6 := by omega
                      go_wp2_with fail
                      refine (lw_sync O HL.out.1).mono ?_
                      rintro e w13 ⟨v13, x13, s13, rfl, he13, hy13, hl13, -⟩
                      obtain ⟨rfl, rfl⟩ := HE.out.2.1.syncs hy13
                      obtain rfl := he13.nil
                      have HB13 : Hid (Below w.heap.size w w13) := hl13.below
                      clear he13 hy13 hl13
                      go_wp2_with fail
                      go_ret
                      exact ⟨rfl, HB13.out⟩

end Go.Proofs.Ytclheepbojogfac.Dk
