/-
  NoteBack returns true.
-/
import Derived.Test.YtgmadfiibaeleacDoorNu
import Derived.Test.YtgmadfiibaeleacDoorNs
namespace Go.Proofs.YtgmadfiibaeleacDoor.Nt
open Go.RowKit Go.Deep Go.Proofs.YtgmadfiibaeleacDoor.Br
open Go.RowKit (Below)
set_option linter.unusedVariables false

variable {w w' : World} {f : Nat → Int × Int} {m : Nat}

set_option maxRecDepth 100000 in
set_option maxHeartbeats 32000000 in
/-- NoteBack, whatever it is called with. -/
theorem note_back {a : Option Addr} {c : Nat} {l : List UInt8} (hE : ErrType w) (hS : Senti w) (h1 : EgAt w a m f) (hl : l.length ≤ 281474976710656) (n cut : Int) (hcut : -9223372036854775808 ≤ cut ∧ cut ≤ 9223372036854775807) (mo : Nat) (hmo : mo < 256) (k x y : Int) :
    Calls Tryd.prog 3 #[.int .i64 n, .slice a m c, .int .i64 cut, .int .u8 (mo : Int), evv k x y, .string (str l)] w fun e w' => e = .returned (.bool true) ∧ Below w.heap.size w w' := by
  obtain ⟨s, hs⟩ : ∃ s, str l = s := ⟨_, rfl⟩
  have hps := fun W (hW : Senti W) => parse_any (w := W) l hl hW
  have hfact := fun W => text_ok (w := W) (k := 2) (a := 7) (b := 10) (by omega) (by omega) (by omega)
  rw [fact_text] at hfact
  rw [hs] at hps ⊢
  unfold evv at hfact ⊢
  have HH : Hid (ErrType w ∧ Senti w ∧ EgAt w a m f) := ⟨hE, hS, h1⟩
  have HL : Hid (l.length ≤ 281474976710656 ∧ str l = s) := ⟨hl, hs⟩
  have HCut : Hid ((-9223372036854775808 ≤ cut ∧ cut ≤ 9223372036854775807) ∧ mo < 256) := ⟨hcut, hmo⟩
  have hr0 := row3_new w k x y
  have hb0 : Below w.heap.size w (w.alloc (.cells #[.int .i64 k, .int .i64 x, .int .i64 y] 24)) := (Below.refl _ _).alloc (Nat.le_refl _) _
  clear hE hS h1 hl hcut hmo hs
  go_enter Tryd.func3, Tryd.ntmps3
  go_wp2_with fail
  refine (hfact _).mono ?_
  rintro e w1 ⟨rfl, hb1⟩
  have HB1 : Hid (Below w.heap.size w w1 ∧ w1.rowIs w.heap.size 24 3 (cells3 k x y)) := ⟨below_step hb0 hb1, row3_keep hr0 hb1⟩
  obtain ⟨e0, e1, e2⟩ := row3_cells HB1.out.2
  clear hfact hb1 hb0 hr0
  go_wp2_with fail
  by_cases hok : EvOk k x y
  · obtain ⟨k', x', y', q1, q2, q3, hk, hx, hy⟩ : ∃ k' x' y' : Nat, k = (k' : Nat) ∧ x = (x' : Nat) ∧ y = (y' : Nat) ∧ (1 ≤ k' ∧ k' ≤ 3) ∧ x' ≤ 59 ∧ y' ≤ 59 := by
      obtain ⟨h1, h2, h3⟩ := hok
      exact ⟨k.toNat, x.toNat, y.toNat, by omega, by omega, by omega, by omega, by omega, by omega⟩
    have ht := text_ok (w := w1) hk hx hy
    have hp := fun W (hW : Senti W) => parse_ok (w := W) hW hk hx hy
    unfold evv at ht hp
    rw [← q1, ← q2, ← q3] at ht hp
    generalize str (text k' x' y') = sT at ht hp
    clear hok q1 q2 q3 hk hx hy
    refine ht.mono ?_
    rintro e w2 ⟨rfl, hb2⟩
    have HB2 : Hid (Below w.heap.size w w2 ∧ w2.rowIs w.heap.size 24 3 (cells3 k x y)) := ⟨below_step HB1.out.1 hb2, row3_keep HB1.out.2 hb2⟩
    clear ht hb2 e0 e1 e2
    go_wp2_with fail
    refine (hp _ (HH.out.2.1.below HB2.out.1)).mono ?_
    rintro e w3 ⟨rfl, hb3⟩
    have HB4 : Hid (Below w.heap.size w (w3.alloc (.cells #[.int .i64 k, .int .i64 x, .int .i64 y] 24)) ∧ (w3.alloc (.cells #[.int .i64 k, .int .i64 x, .int .i64 y] 24)).rowIs w.heap.size 24 3 (cells3 k x y)) := ⟨(below_step HB2.out.1 hb3).alloc (below_step HB2.out.1 hb3).size _, (row3_keep HB2.out.2 hb3).alloc _⟩
    obtain ⟨e0, e1, e2⟩ := row3_cells HB4.out.2
    obtain ⟨p0, p1, p2⟩ := row3_cells (row3_new w3 k x y)
    clear hp hb3
    go_wp2_with fail
    clear e0 e1 e2 p0 p1 p2
    refine (hps _ (HH.out.2.1.below HB4.out.1)).mono ?_
    rintro e w5 ⟨hrd, hb5⟩
    rcases hrd with ⟨k2, x2, y2, hT, rfl⟩ | ⟨hT, rfl⟩
    · obtain ⟨k', x', y', hk, hx, hy, e5, el⟩ : ∃ k' x' y' : Nat, (1 ≤ k' ∧ k' ≤ 3) ∧ x' ≤ 59 ∧ y' ≤ 59 ∧ (k2, x2, y2) = (((k' : Nat) : Int), ((x' : Nat) : Int), ((y' : Nat) : Int)) ∧ l = text k' x' y' := by
        obtain ⟨k', x', y', h1, h2, h3, h4, h5⟩ := hT
        exact ⟨k', x', y', h1, h2, h3, h4, h5⟩
      injection e5 with q1 q2
      injection q2 with q2 q3
      have ht := fun W => text_ok (w := W) hk hx hy
      have hst : str (text k' x' y') = s := by rw [← el]; exact HL.out.2
      unfold evv at ht ⊢
      rw [← q1, ← q2, ← q3, hst] at ht
      have HB6 : Hid (Below w.heap.size w (w5.alloc (.cells #[.int .i64 k2, .int .i64 x2, .int .i64 y2] 24))) := (below_step HB4.out.1 hb5).alloc (below_step HB4.out.1 hb5).size _
      obtain ⟨p0, p1, p2⟩ := row3_cells (row3_new w5 k2 x2 y2)
      clear hps hb5 hT q1 q2 q3 hk hx hy hst el
      go_wp2_with fail
      refine (ht _).mono ?_
      rintro e w7 ⟨rfl, hb7⟩
      have HB7 : Hid (Below w.heap.size w w7) := below_step HB6.out hb7
      clear ht hb7 p0 p1 p2
      go_wp2_with fail
      rcases fault_or n m f with hv | ⟨kf, xf, hEF, hxf⟩
      · obtain ⟨n', rfl⟩ : ∃ n' : Nat, n = (n' : Int) := ⟨n.toNat, by have := hv.1; omega⟩
        obtain ⟨K, hK⟩ : ∃ K, 2 + 2 * m = K := ⟨_, rfl⟩
        have hen := encode_ok (c := c) (HH.out.2.2.below HB7.out) hv
        rw [hK] at hen
        have hK0 : 0 < K := by omega
        have HV : Hid (Valid (n' : Nat) m f ∧ 2 + 2 * m = K ∧ m ≤ 200) := ⟨hv, hK, hv.2.1⟩
        obtain ⟨lb, hlb⟩ : ∃ lb, bt n' m f m = lb := ⟨_, rfl⟩
        have HLb : Hid (bt n' m f m = lb) := hlb
        rw [hlb] at hen
        clear hv hK hlb
        refine hen.mono ?_
        rintro e w8 ⟨v8, rfl, ho8, hb8⟩
        have HB8 : Hid (Below w.heap.size w w8) := below_step HB7.out hb8
        obtain ⟨hl8, kb, cap8, rfl, hkc, hkm, hc8⟩ := own_bytes ho8 hK0
        have hbt := bt_at hl8 hc8
        have HBt : Hid (BtAt w8 (some ⟨kb, 0, none⟩) K (gb lb) ∧ K ≤ cap8 ∧ cap8 ≤ maxLen ∧ lb.length = K) := ⟨hbt, hkc, hkm, hl8⟩
        have hde := dec_back (w := w8) (c := cap8) HV.out.1 HV.out.2.1 (by rw [HLb.out]; exact hbt) hkc hkm
        clear hen ho8 hb8 hl8 hc8 hbt
        go_wp2_with fail
        refine hde.mono ?_
        rintro e w9 ⟨a9, c9, rfl, hE9, hb9⟩
        have HB9 : Hid (Below w.heap.size w w9 ∧ BtAt w9 (some ⟨kb, 0, none⟩) K (gb lb)) := ⟨below_step HB8.out hb9, HBt.out.1.below hb9⟩
        have hsame := edges_same (w := w9) (c := c9) (c' := c) (edges_len f m) hE9 ((HH.out.2.2.below HB9.out.1).list (by simpa using HV.out.1.2.2)) (by have := HV.out.2.2; omega)
        clear hde hb9 hE9
        go_wp2_with fail
        refine hsame.mono ?_
        rintro e w10 ⟨rfl, hb10⟩
        have HB10 : Hid (Below w.heap.size w w10 ∧ BtAt w10 (some ⟨kb, 0, none⟩) K (gb lb)) := ⟨below_step HB9.out.1 hb10, HB9.out.2.below hb10⟩
        clear hsame hb10
        go_wp2_with fail
        refine (pick_any cut K _ HCut.out.1 hK0 (by have := HV.out.2; omega)).mono ?_
        rintro e w10' ⟨r, hr, rfl, rfl⟩
        have j0 : (0 : Int) ≤ (r : Int) := by omega
        have j1 : (r : Int) ≤ (cap8 : Int) := by omega
        have hde2 := dec_bad (w := w10') (c := cap8) (N := r) (HB10.out.2.less (by omega)) (by omega) hkm (fun q => by
          have h1 := bt_m HV.out.1
          rw [HLb.out] at h1
          have h2 := q.2.1
          rw [h1] at h2
          have := HV.out.2.1
          omega)
        clear hr
        go_wp2_with fail
        refine hde2.mono ?_
        rintro e w11 ⟨rfl, hb11⟩
        have HB11 : Hid (Below w.heap.size w w11 ∧ BtAt w11 (some ⟨kb, 0, none⟩) K (gb lb)) := ⟨below_step HB10.out.1 hb11, HB10.out.2.below hb11⟩
        clear hde2 hb11
        go_wp2_with fail
        refine (error_any (err := .iface 39 (.int .i64 5)) (n := 5) ⟨Or.inr rfl⟩ (HH.out.1.below HB11.out.1)).mono ?_
        rintro e w12 ⟨rfl, hb12⟩
        have HB12 : Hid (Below w.heap.size w w12 ∧ BtAt w12 (some ⟨kb, 0, none⟩) K (gb lb)) := ⟨below_step HB11.out.1 hb12, HB11.out.2.below hb12⟩
        have HCe : Hid (∀ j u, (bys lb)[j]? = some u → w12.cell? (Addr.add ⟨kb, 0, none⟩ j) = some u) := fun j u hu => by
          have hj : j < lb.length := by have := (List.getElem?_eq_some_iff.1 hu).1; rw [bys_len] at this; exact this
          have hq := HB12.out.2.at (i := j) (by rw [← HBt.out.2.2.2]; exact hj)
          rw [add_at, hq]
          rw [bys, List.getElem?_map, List.getElem?_eq_getElem hj] at hu
          unfold gb
          rw [List.getD_eq_getElem?_getD, List.getElem?_eq_getElem hj]
          exact hu
        have hK5 : K ≤ 402 := by have := HV.out.2; omega
        obtain ⟨z0, hi0, hz0, hz1, hz2⟩ := info_parts Tryd.infoU8
        clear hb12
        go_wp2_with (first
          | (at_builtin; refine wpList_append_lies _ rfl (.tmp 120) (.tmp 121) 31 rfl w12.heap.size 5 z0 (.int .u8 0) 1 1 Tryd.underlying31 hi0 hz0 hz1 hz2 rfl (by decide) (.slice none 0 0) 0 [] rfl (World.ownsRow_nil ..) ⟨kb, 0, none⟩ K cap8 (bys lb) rfl (by rw [bys_len, HBt.out.2.2.2, Nat.mul_one]) HCe.out ?c2 hK0 ?c3 ?c4 (Nat.le_refl _) _ rfl ?_))
        case c2 =>
          intro z hz
          obtain ⟨q, _, rfl⟩ := List.mem_map.1 hz
          rfl
        case c3 => unfold maxLen; omega
        case c4 => omega
        intro g1 cap13 w13 hown hgrow hat hlt13
        have HB13 : Hid (Below w.heap.size w w13) := HB12.out.1.grown hgrow (HB12.out.1.size) (fun k e => by cases e)
        have HO13 : Hid (w13.ownsRow w12.heap.size 5 1 (.slice (some ⟨g1, 0, none⟩) K cap13) K (bys lb)) := hown
        have hs13 : w12.heap.size ≤ w13.heap.size := hgrow.size
        clear hown hgrow hat hlt13
        go_wp2_with (first
          | (at_builtin; refine wpList_append_lies _ rfl (.tmp 123) (.tmp 125) 31 rfl w12.heap.size 5 z0 (.int .u8 0) 1 1 Tryd.underlying31 hi0 hz0 hz1 hz2 rfl (by decide) (.slice (some ⟨g1, 0, none⟩) K cap13) K (bys lb) rfl (HO13.out.alloc _) ⟨w13.heap.size, 0, none⟩ 1 1 [.int .u8 (mo : Int)] rfl rfl (cell_one_new _ _ _) ?c2 (by decide) ?c3 ?c4 ?c5 _ rfl ?_))
        case c2 => intro z hz; simp at hz; subst hz; rfl
        case c3 => unfold maxLen; omega
        case c4 => omega
        case c5 => first | omega | (simp; omega)
        intro g2 cap14 w14 hown hgrow hat hlt14
        have HB14 : Hid (Below w.heap.size w w14) := (HB13.out.alloc HB13.out.size _).grown hgrow (by have := HB13.out.size; simp; omega) (fun k e => by have := (HO13.out.lt k e).1; have := HB12.out.1.size; omega)
        have hown2 : w14.ownsRow w12.heap.size 5 1 (.slice (some ⟨g2, 0, none⟩) (K + 1) cap14) (K + 1) (bys (lb ++ [UInt8.ofNat mo])) := by
          have e1 : bys (lb ++ [UInt8.ofNat mo]) = bys lb ++ [.int .u8 (mo : Int)] := by
            rw [bys_app]
            show _ ++ [by1 (UInt8.ofNat mo)] = _
            unfold by1
            rw [u8_of (by have := HCut.out.2; omega)]
          rw [e1]
          exact hown
        obtain ⟨hl14, kc, cap15, hsl, hkc14, hkm14, hc14⟩ := own_bytes hown2 (by omega)
        simp only [Value.slice.injEq, Option.some.injEq, Addr.mk.injEq, and_true, true_and] at hsl
        obtain ⟨rfl, rfl⟩ := hsl
        have hde3 := dec_bad (w := w14) (c := cap14) (bt_at hl14 hc14) hkc14 hkm14 (fun q => by
          have h2 := q.2.1
          have := HV.out.2.1
          omega)
        clear hown hgrow hat hlt14 hown2 hl14 hc14 hkc14 hkm14
        go_wp2_with fail
        refine hde3.mono ?_
        rintro e w15 ⟨rfl, hb15⟩
        have HB15 : Hid (Below w.heap.size w w15) := below_step HB14.out hb15
        clear hde3 hb15
        go_wp2_with fail
        refine (error_any (err := .iface 39 (.int .i64 5)) (n := 5) ⟨Or.inr rfl⟩ (HH.out.1.below HB15.out)).mono ?_
        rintro e w16 ⟨rfl, hb16⟩
        have HB16 : Hid (Below w.heap.size w w16) := below_step HB15.out hb16
        clear hb16
        go_wp2_with fail
        go_ret
        exact ⟨rfl, HB16.out⟩
      · refine (encode_no (c := c) (HH.out.2.2.below HB7.out) n kf xf hEF hxf).mono ?_
        rintro e w8 ⟨rfl, hb8⟩
        have HB8 : Hid (Below w.heap.size w w8) := below_step HB7.out hb8
        clear hb8 hEF hxf
        go_wp2_with fail
        go_ret
        exact ⟨rfl, HB8.out⟩
    · unfold evv
      have HB7 : Hid (Below w.heap.size w (w5.alloc (.cells #[.int .i64 0, .int .i64 0, .int .i64 0] 24))) := (below_step HB4.out.1 hb5).alloc (below_step HB4.out.1 hb5).size _
      clear hps hb5 hT
      go_wp2_with fail
      rcases fault_or n m f with hv | ⟨kf, xf, hEF, hxf⟩
      · obtain ⟨n', rfl⟩ : ∃ n' : Nat, n = (n' : Int) := ⟨n.toNat, by have := hv.1; omega⟩
        obtain ⟨K, hK⟩ : ∃ K, 2 + 2 * m = K := ⟨_, rfl⟩
        have hen := encode_ok (c := c) (HH.out.2.2.below HB7.out) hv
        rw [hK] at hen
        have hK0 : 0 < K := by omega
        have HV : Hid (Valid (n' : Nat) m f ∧ 2 + 2 * m = K ∧ m ≤ 200) := ⟨hv, hK, hv.2.1⟩
        obtain ⟨lb, hlb⟩ : ∃ lb, bt n' m f m = lb := ⟨_, rfl⟩
        have HLb : Hid (bt n' m f m = lb) := hlb
        rw [hlb] at hen
        clear hv hK hlb
        refine hen.mono ?_
        rintro e w8 ⟨v8, rfl, ho8, hb8⟩
        have HB8 : Hid (Below w.heap.size w w8) := below_step HB7.out hb8
        obtain ⟨hl8, kb, cap8, rfl, hkc, hkm, hc8⟩ := own_bytes ho8 hK0
        have hbt := bt_at hl8 hc8
        have HBt : Hid (BtAt w8 (some ⟨kb, 0, none⟩) K (gb lb) ∧ K ≤ cap8 ∧ cap8 ≤ maxLen ∧ lb.length = K) := ⟨hbt, hkc, hkm, hl8⟩
        have hde := dec_back (w := w8) (c := cap8) HV.out.1 HV.out.2.1 (by rw [HLb.out]; exact hbt) hkc hkm
        clear hen ho8 hb8 hl8 hc8 hbt
        go_wp2_with fail
        refine hde.mono ?_
        rintro e w9 ⟨a9, c9, rfl, hE9, hb9⟩
        have HB9 : Hid (Below w.heap.size w w9 ∧ BtAt w9 (some ⟨kb, 0, none⟩) K (gb lb)) := ⟨below_step HB8.out hb9, HBt.out.1.below hb9⟩
        have hsame := edges_same (w := w9) (c := c9) (c' := c) (edges_len f m) hE9 ((HH.out.2.2.below HB9.out.1).list (by simpa using HV.out.1.2.2)) (by have := HV.out.2.2; omega)
        clear hde hb9 hE9
        go_wp2_with fail
        refine hsame.mono ?_
        rintro e w10 ⟨rfl, hb10⟩
        have HB10 : Hid (Below w.heap.size w w10 ∧ BtAt w10 (some ⟨kb, 0, none⟩) K (gb lb)) := ⟨below_step HB9.out.1 hb10, HB9.out.2.below hb10⟩
        clear hsame hb10
        go_wp2_with fail
        refine (pick_any cut K _ HCut.out.1 hK0 (by have := HV.out.2; omega)).mono ?_
        rintro e w10' ⟨r, hr, rfl, rfl⟩
        have j0 : (0 : Int) ≤ (r : Int) := by omega
        have j1 : (r : Int) ≤ (cap8 : Int) := by omega
        have hde2 := dec_bad (w := w10') (c := cap8) (N := r) (HB10.out.2.less (by omega)) (by omega) hkm (fun q => by
          have h1 := bt_m HV.out.1
          rw [HLb.out] at h1
          have h2 := q.2.1
          rw [h1] at h2
          have := HV.out.2.1
          omega)
        clear hr
        go_wp2_with fail
        refine hde2.mono ?_
        rintro e w11 ⟨rfl, hb11⟩
        have HB11 : Hid (Below w.heap.size w w11 ∧ BtAt w11 (some ⟨kb, 0, none⟩) K (gb lb)) := ⟨below_step HB10.out.1 hb11, HB10.out.2.below hb11⟩
        clear hde2 hb11
        go_wp2_with fail
        refine (error_any (err := .iface 39 (.int .i64 5)) (n := 5) ⟨Or.inr rfl⟩ (HH.out.1.below HB11.out.1)).mono ?_
        rintro e w12 ⟨rfl, hb12⟩
        have HB12 : Hid (Below w.heap.size w w12 ∧ BtAt w12 (some ⟨kb, 0, none⟩) K (gb lb)) := ⟨below_step HB11.out.1 hb12, HB11.out.2.below hb12⟩
        have HCe : Hid (∀ j u, (bys lb)[j]? = some u → w12.cell? (Addr.add ⟨kb, 0, none⟩ j) = some u) := fun j u hu => by
          have hj : j < lb.length := by have := (List.getElem?_eq_some_iff.1 hu).1; rw [bys_len] at this; exact this
          have hq := HB12.out.2.at (i := j) (by rw [← HBt.out.2.2.2]; exact hj)
          rw [add_at, hq]
          rw [bys, List.getElem?_map, List.getElem?_eq_getElem hj] at hu
          unfold gb
          rw [List.getD_eq_getElem?_getD, List.getElem?_eq_getElem hj]
          exact hu
        have hK5 : K ≤ 402 := by have := HV.out.2; omega
        obtain ⟨z0, hi0, hz0, hz1, hz2⟩ := info_parts Tryd.infoU8
        clear hb12
        go_wp2_with (first
          | (at_builtin; refine wpList_append_lies _ rfl (.tmp 120) (.tmp 121) 31 rfl w12.heap.size 5 z0 (.int .u8 0) 1 1 Tryd.underlying31 hi0 hz0 hz1 hz2 rfl (by decide) (.slice none 0 0) 0 [] rfl (World.ownsRow_nil ..) ⟨kb, 0, none⟩ K cap8 (bys lb) rfl (by rw [bys_len, HBt.out.2.2.2, Nat.mul_one]) HCe.out ?c2 hK0 ?c3 ?c4 (Nat.le_refl _) _ rfl ?_))
        case c2 =>
          intro z hz
          obtain ⟨q, _, rfl⟩ := List.mem_map.1 hz
          rfl
        case c3 => unfold maxLen; omega
        case c4 => omega
        intro g1 cap13 w13 hown hgrow hat hlt13
        have HB13 : Hid (Below w.heap.size w w13) := HB12.out.1.grown hgrow (HB12.out.1.size) (fun k e => by cases e)
        have HO13 : Hid (w13.ownsRow w12.heap.size 5 1 (.slice (some ⟨g1, 0, none⟩) K cap13) K (bys lb)) := hown
        have hs13 : w12.heap.size ≤ w13.heap.size := hgrow.size
        clear hown hgrow hat hlt13
        go_wp2_with (first
          | (at_builtin; refine wpList_append_lies _ rfl (.tmp 123) (.tmp 125) 31 rfl w12.heap.size 5 z0 (.int .u8 0) 1 1 Tryd.underlying31 hi0 hz0 hz1 hz2 rfl (by decide) (.slice (some ⟨g1, 0, none⟩) K cap13) K (bys lb) rfl (HO13.out.alloc _) ⟨w13.heap.size, 0, none⟩ 1 1 [.int .u8 (mo : Int)] rfl rfl (cell_one_new _ _ _) ?c2 (by decide) ?c3 ?c4 ?c5 _ rfl ?_))
        case c2 => intro z hz; simp at hz; subst hz; rfl
        case c3 => unfold maxLen; omega
        case c4 => omega
        case c5 => first | omega | (simp; omega)
        intro g2 cap14 w14 hown hgrow hat hlt14
        have HB14 : Hid (Below w.heap.size w w14) := (HB13.out.alloc HB13.out.size _).grown hgrow (by have := HB13.out.size; simp; omega) (fun k e => by have := (HO13.out.lt k e).1; have := HB12.out.1.size; omega)
        have hown2 : w14.ownsRow w12.heap.size 5 1 (.slice (some ⟨g2, 0, none⟩) (K + 1) cap14) (K + 1) (bys (lb ++ [UInt8.ofNat mo])) := by
          have e1 : bys (lb ++ [UInt8.ofNat mo]) = bys lb ++ [.int .u8 (mo : Int)] := by
            rw [bys_app]
            show _ ++ [by1 (UInt8.ofNat mo)] = _
            unfold by1
            rw [u8_of (by have := HCut.out.2; omega)]
          rw [e1]
          exact hown
        obtain ⟨hl14, kc, cap15, hsl, hkc14, hkm14, hc14⟩ := own_bytes hown2 (by omega)
        simp only [Value.slice.injEq, Option.some.injEq, Addr.mk.injEq, and_true, true_and] at hsl
        obtain ⟨rfl, rfl⟩ := hsl
        have hde3 := dec_bad (w := w14) (c := cap14) (bt_at hl14 hc14) hkc14 hkm14 (fun q => by
          have h2 := q.2.1
          have := HV.out.2.1
          omega)
        clear hown hgrow hat hlt14 hown2 hl14 hc14 hkc14 hkm14
        go_wp2_with fail
        refine hde3.mono ?_
        rintro e w15 ⟨rfl, hb15⟩
        have HB15 : Hid (Below w.heap.size w w15) := below_step HB14.out hb15
        clear hde3 hb15
        go_wp2_with fail
        refine (error_any (err := .iface 39 (.int .i64 5)) (n := 5) ⟨Or.inr rfl⟩ (HH.out.1.below HB15.out)).mono ?_
        rintro e w16 ⟨rfl, hb16⟩
        have HB16 : Hid (Below w.heap.size w w16) := below_step HB15.out hb16
        clear hb16
        go_wp2_with fail
        go_ret
        exact ⟨rfl, HB16.out⟩
      · refine (encode_no (c := c) (HH.out.2.2.below HB7.out) n kf xf hEF hxf).mono ?_
        rintro e w8 ⟨rfl, hb8⟩
        have HB8 : Hid (Below w.heap.size w w8) := below_step HB7.out hb8
        clear hb8 hEF hxf
        go_wp2_with fail
        go_ret
        exact ⟨rfl, HB8.out⟩
  · have ht := text_no (w := w1) k x y hok
    unfold evv at ht
    clear hok
    refine ht.mono ?_
    rintro e w4 ⟨rfl, hb4⟩
    have HB4 : Hid (Below w.heap.size w w4 ∧ w4.rowIs w.heap.size 24 3 (cells3 k x y)) := ⟨below_step HB1.out.1 hb4, row3_keep HB1.out.2 hb4⟩
    clear ht hb4 e0 e1 e2
    go_wp2_with fail
    refine (hps _ (HH.out.2.1.below HB4.out.1)).mono ?_
    rintro e w5 ⟨hrd, hb5⟩
    rcases hrd with ⟨k2, x2, y2, hT, rfl⟩ | ⟨hT, rfl⟩
    · obtain ⟨k', x', y', hk, hx, hy, e5, el⟩ : ∃ k' x' y' : Nat, (1 ≤ k' ∧ k' ≤ 3) ∧ x' ≤ 59 ∧ y' ≤ 59 ∧ (k2, x2, y2) = (((k' : Nat) : Int), ((x' : Nat) : Int), ((y' : Nat) : Int)) ∧ l = text k' x' y' := by
        obtain ⟨k', x', y', h1, h2, h3, h4, h5⟩ := hT
        exact ⟨k', x', y', h1, h2, h3, h4, h5⟩
      injection e5 with q1 q2
      injection q2 with q2 q3
      have ht := fun W => text_ok (w := W) hk hx hy
      have hst : str (text k' x' y') = s := by rw [← el]; exact HL.out.2
      unfold evv at ht ⊢
      rw [← q1, ← q2, ← q3, hst] at ht
      have HB6 : Hid (Below w.heap.size w (w5.alloc (.cells #[.int .i64 k2, .int .i64 x2, .int .i64 y2] 24))) := (below_step HB4.out.1 hb5).alloc (below_step HB4.out.1 hb5).size _
      obtain ⟨p0, p1, p2⟩ := row3_cells (row3_new w5 k2 x2 y2)
      clear hps hb5 hT q1 q2 q3 hk hx hy hst el
      go_wp2_with fail
      refine (ht _).mono ?_
      rintro e w7 ⟨rfl, hb7⟩
      have HB7 : Hid (Below w.heap.size w w7) := below_step HB6.out hb7
      clear ht hb7 p0 p1 p2
      go_wp2_with fail
      rcases fault_or n m f with hv | ⟨kf, xf, hEF, hxf⟩
      · obtain ⟨n', rfl⟩ : ∃ n' : Nat, n = (n' : Int) := ⟨n.toNat, by have := hv.1; omega⟩
        obtain ⟨K, hK⟩ : ∃ K, 2 + 2 * m = K := ⟨_, rfl⟩
        have hen := encode_ok (c := c) (HH.out.2.2.below HB7.out) hv
        rw [hK] at hen
        have hK0 : 0 < K := by omega
        have HV : Hid (Valid (n' : Nat) m f ∧ 2 + 2 * m = K ∧ m ≤ 200) := ⟨hv, hK, hv.2.1⟩
        obtain ⟨lb, hlb⟩ : ∃ lb, bt n' m f m = lb := ⟨_, rfl⟩
        have HLb : Hid (bt n' m f m = lb) := hlb
        rw [hlb] at hen
        clear hv hK hlb
        refine hen.mono ?_
        rintro e w8 ⟨v8, rfl, ho8, hb8⟩
        have HB8 : Hid (Below w.heap.size w w8) := below_step HB7.out hb8
        obtain ⟨hl8, kb, cap8, rfl, hkc, hkm, hc8⟩ := own_bytes ho8 hK0
        have hbt := bt_at hl8 hc8
        have HBt : Hid (BtAt w8 (some ⟨kb, 0, none⟩) K (gb lb) ∧ K ≤ cap8 ∧ cap8 ≤ maxLen ∧ lb.length = K) := ⟨hbt, hkc, hkm, hl8⟩
        have hde := dec_back (w := w8) (c := cap8) HV.out.1 HV.out.2.1 (by rw [HLb.out]; exact hbt) hkc hkm
        clear hen ho8 hb8 hl8 hc8 hbt
        go_wp2_with fail
        refine hde.mono ?_
        rintro e w9 ⟨a9, c9, rfl, hE9, hb9⟩
        have HB9 : Hid (Below w.heap.size w w9 ∧ BtAt w9 (some ⟨kb, 0, none⟩) K (gb lb)) := ⟨below_step HB8.out hb9, HBt.out.1.below hb9⟩
        have hsame := edges_same (w := w9) (c := c9) (c' := c) (edges_len f m) hE9 ((HH.out.2.2.below HB9.out.1).list (by simpa using HV.out.1.2.2)) (by have := HV.out.2.2; omega)
        clear hde hb9 hE9
        go_wp2_with fail
        refine hsame.mono ?_
        rintro e w10 ⟨rfl, hb10⟩
        have HB10 : Hid (Below w.heap.size w w10 ∧ BtAt w10 (some ⟨kb, 0, none⟩) K (gb lb)) := ⟨below_step HB9.out.1 hb10, HB9.out.2.below hb10⟩
        clear hsame hb10
        go_wp2_with fail
        refine (pick_any cut K _ HCut.out.1 hK0 (by have := HV.out.2; omega)).mono ?_
        rintro e w10' ⟨r, hr, rfl, rfl⟩
        have j0 : (0 : Int) ≤ (r : Int) := by omega
        have j1 : (r : Int) ≤ (cap8 : Int) := by omega
        have hde2 := dec_bad (w := w10') (c := cap8) (N := r) (HB10.out.2.less (by omega)) (by omega) hkm (fun q => by
          have h1 := bt_m HV.out.1
          rw [HLb.out] at h1
          have h2 := q.2.1
          rw [h1] at h2
          have := HV.out.2.1
          omega)
        clear hr
        go_wp2_with fail
        refine hde2.mono ?_
        rintro e w11 ⟨rfl, hb11⟩
        have HB11 : Hid (Below w.heap.size w w11 ∧ BtAt w11 (some ⟨kb, 0, none⟩) K (gb lb)) := ⟨below_step HB10.out.1 hb11, HB10.out.2.below hb11⟩
        clear hde2 hb11
        go_wp2_with fail
        refine (error_any (err := .iface 39 (.int .i64 5)) (n := 5) ⟨Or.inr rfl⟩ (HH.out.1.below HB11.out.1)).mono ?_
        rintro e w12 ⟨rfl, hb12⟩
        have HB12 : Hid (Below w.heap.size w w12 ∧ BtAt w12 (some ⟨kb, 0, none⟩) K (gb lb)) := ⟨below_step HB11.out.1 hb12, HB11.out.2.below hb12⟩
        have HCe : Hid (∀ j u, (bys lb)[j]? = some u → w12.cell? (Addr.add ⟨kb, 0, none⟩ j) = some u) := fun j u hu => by
          have hj : j < lb.length := by have := (List.getElem?_eq_some_iff.1 hu).1; rw [bys_len] at this; exact this
          have hq := HB12.out.2.at (i := j) (by rw [← HBt.out.2.2.2]; exact hj)
          rw [add_at, hq]
          rw [bys, List.getElem?_map, List.getElem?_eq_getElem hj] at hu
          unfold gb
          rw [List.getD_eq_getElem?_getD, List.getElem?_eq_getElem hj]
          exact hu
        have hK5 : K ≤ 402 := by have := HV.out.2; omega
        obtain ⟨z0, hi0, hz0, hz1, hz2⟩ := info_parts Tryd.infoU8
        clear hb12
        go_wp2_with (first
          | (at_builtin; refine wpList_append_lies _ rfl (.tmp 120) (.tmp 121) 31 rfl w12.heap.size 5 z0 (.int .u8 0) 1 1 Tryd.underlying31 hi0 hz0 hz1 hz2 rfl (by decide) (.slice none 0 0) 0 [] rfl (World.ownsRow_nil ..) ⟨kb, 0, none⟩ K cap8 (bys lb) rfl (by rw [bys_len, HBt.out.2.2.2, Nat.mul_one]) HCe.out ?c2 hK0 ?c3 ?c4 (Nat.le_refl _) _ rfl ?_))
        case c2 =>
          intro z hz
          obtain ⟨q, _, rfl⟩ := List.mem_map.1 hz
          rfl
        case c3 => unfold maxLen; omega
        case c4 => omega
        intro g1 cap13 w13 hown hgrow hat hlt13
        have HB13 : Hid (Below w.heap.size w w13) := HB12.out.1.grown hgrow (HB12.out.1.size) (fun k e => by cases e)
        have HO13 : Hid (w13.ownsRow w12.heap.size 5 1 (.slice (some ⟨g1, 0, none⟩) K cap13) K (bys lb)) := hown
        have hs13 : w12.heap.size ≤ w13.heap.size := hgrow.size
        clear hown hgrow hat hlt13
        go_wp2_with (first
          | (at_builtin; refine wpList_append_lies _ rfl (.tmp 123) (.tmp 125) 31 rfl w12.heap.size 5 z0 (.int .u8 0) 1 1 Tryd.underlying31 hi0 hz0 hz1 hz2 rfl (by decide) (.slice (some ⟨g1, 0, none⟩) K cap13) K (bys lb) rfl (HO13.out.alloc _) ⟨w13.heap.size, 0, none⟩ 1 1 [.int .u8 (mo : Int)] rfl rfl (cell_one_new _ _ _) ?c2 (by decide) ?c3 ?c4 ?c5 _ rfl ?_))
        case c2 => intro z hz; simp at hz; subst hz; rfl
        case c3 => unfold maxLen; omega
        case c4 => omega
        case c5 => first | omega | (simp; omega)
        intro g2 cap14 w14 hown hgrow hat hlt14
        have HB14 : Hid (Below w.heap.size w w14) := (HB13.out.alloc HB13.out.size _).grown hgrow (by have := HB13.out.size; simp; omega) (fun k e => by have := (HO13.out.lt k e).1; have := HB12.out.1.size; omega)
        have hown2 : w14.ownsRow w12.heap.size 5 1 (.slice (some ⟨g2, 0, none⟩) (K + 1) cap14) (K + 1) (bys (lb ++ [UInt8.ofNat mo])) := by
          have e1 : bys (lb ++ [UInt8.ofNat mo]) = bys lb ++ [.int .u8 (mo : Int)] := by
            rw [bys_app]
            show _ ++ [by1 (UInt8.ofNat mo)] = _
            unfold by1
            rw [u8_of (by have := HCut.out.2; omega)]
          rw [e1]
          exact hown
        obtain ⟨hl14, kc, cap15, hsl, hkc14, hkm14, hc14⟩ := own_bytes hown2 (by omega)
        simp only [Value.slice.injEq, Option.some.injEq, Addr.mk.injEq, and_true, true_and] at hsl
        obtain ⟨rfl, rfl⟩ := hsl
        have hde3 := dec_bad (w := w14) (c := cap14) (bt_at hl14 hc14) hkc14 hkm14 (fun q => by
          have h2 := q.2.1
          have := HV.out.2.1
          omega)
        clear hown hgrow hat hlt14 hown2 hl14 hc14 hkc14 hkm14
        go_wp2_with fail
        refine hde3.mono ?_
        rintro e w15 ⟨rfl, hb15⟩
        have HB15 : Hid (Below w.heap.size w w15) := below_step HB14.out hb15
        clear hde3 hb15
        go_wp2_with fail
        refine (error_any (err := .iface 39 (.int .i64 5)) (n := 5) ⟨Or.inr rfl⟩ (HH.out.1.below HB15.out)).mono ?_
        rintro e w16 ⟨rfl, hb16⟩
        have HB16 : Hid (Below w.heap.size w w16) := below_step HB15.out hb16
        clear hb16
        go_wp2_with fail
        go_ret
        exact ⟨rfl, HB16.out⟩
      · refine (encode_no (c := c) (HH.out.2.2.below HB7.out) n kf xf hEF hxf).mono ?_
        rintro e w8 ⟨rfl, hb8⟩
        have HB8 : Hid (Below w.heap.size w w8) := below_step HB7.out hb8
        clear hb8 hEF hxf
        go_wp2_with fail
        go_ret
        exact ⟨rfl, HB8.out⟩
    · unfold evv
      have HB7 : Hid (Below w.heap.size w (w5.alloc (.cells #[.int .i64 0, .int .i64 0, .int .i64 0] 24))) := (below_step HB4.out.1 hb5).alloc (below_step HB4.out.1 hb5).size _
      clear hps hb5 hT
      go_wp2_with fail
      rcases fault_or n m f with hv | ⟨kf, xf, hEF, hxf⟩
      · obtain ⟨n', rfl⟩ : ∃ n' : Nat, n = (n' : Int) := ⟨n.toNat, by have := hv.1; omega⟩
        obtain ⟨K, hK⟩ : ∃ K, 2 + 2 * m = K := ⟨_, rfl⟩
        have hen := encode_ok (c := c) (HH.out.2.2.below HB7.out) hv
        rw [hK] at hen
        have hK0 : 0 < K := by omega
        have HV : Hid (Valid (n' : Nat) m f ∧ 2 + 2 * m = K ∧ m ≤ 200) := ⟨hv, hK, hv.2.1⟩
        obtain ⟨lb, hlb⟩ : ∃ lb, bt n' m f m = lb := ⟨_, rfl⟩
        have HLb : Hid (bt n' m f m = lb) := hlb
        rw [hlb] at hen
        clear hv hK hlb
        refine hen.mono ?_
        rintro e w8 ⟨v8, rfl, ho8, hb8⟩
        have HB8 : Hid (Below w.heap.size w w8) := below_step HB7.out hb8
        obtain ⟨hl8, kb, cap8, rfl, hkc, hkm, hc8⟩ := own_bytes ho8 hK0
        have hbt := bt_at hl8 hc8
        have HBt : Hid (BtAt w8 (some ⟨kb, 0, none⟩) K (gb lb) ∧ K ≤ cap8 ∧ cap8 ≤ maxLen ∧ lb.length = K) := ⟨hbt, hkc, hkm, hl8⟩
        have hde := dec_back (w := w8) (c := cap8) HV.out.1 HV.out.2.1 (by rw [HLb.out]; exact hbt) hkc hkm
        clear hen ho8 hb8 hl8 hc8 hbt
        go_wp2_with fail
        refine hde.mono ?_
        rintro e w9 ⟨a9, c9, rfl, hE9, hb9⟩
        have HB9 : Hid (Below w.heap.size w w9 ∧ BtAt w9 (some ⟨kb, 0, none⟩) K (gb lb)) := ⟨below_step HB8.out hb9, HBt.out.1.below hb9⟩
        have hsame := edges_same (w := w9) (c := c9) (c' := c) (edges_len f m) hE9 ((HH.out.2.2.below HB9.out.1).list (by simpa using HV.out.1.2.2)) (by have := HV.out.2.2; omega)
        clear hde hb9 hE9
        go_wp2_with fail
        refine hsame.mono ?_
        rintro e w10 ⟨rfl, hb10⟩
        have HB10 : Hid (Below w.heap.size w w10 ∧ BtAt w10 (some ⟨kb, 0, none⟩) K (gb lb)) := ⟨below_step HB9.out.1 hb10, HB9.out.2.below hb10⟩
        clear hsame hb10
        go_wp2_with fail
        refine (pick_any cut K _ HCut.out.1 hK0 (by have := HV.out.2; omega)).mono ?_
        rintro e w10' ⟨r, hr, rfl, rfl⟩
        have j0 : (0 : Int) ≤ (r : Int) := by omega
        have j1 : (r : Int) ≤ (cap8 : Int) := by omega
        have hde2 := dec_bad (w := w10') (c := cap8) (N := r) (HB10.out.2.less (by omega)) (by omega) hkm (fun q => by
          have h1 := bt_m HV.out.1
          rw [HLb.out] at h1
          have h2 := q.2.1
          rw [h1] at h2
          have := HV.out.2.1
          omega)
        clear hr
        go_wp2_with fail
        refine hde2.mono ?_
        rintro e w11 ⟨rfl, hb11⟩
        have HB11 : Hid (Below w.heap.size w w11 ∧ BtAt w11 (some ⟨kb, 0, none⟩) K (gb lb)) := ⟨below_step HB10.out.1 hb11, HB10.out.2.below hb11⟩
        clear hde2 hb11
        go_wp2_with fail
        refine (error_any (err := .iface 39 (.int .i64 5)) (n := 5) ⟨Or.inr rfl⟩ (HH.out.1.below HB11.out.1)).mono ?_
        rintro e w12 ⟨rfl, hb12⟩
        have HB12 : Hid (Below w.heap.size w w12 ∧ BtAt w12 (some ⟨kb, 0, none⟩) K (gb lb)) := ⟨below_step HB11.out.1 hb12, HB11.out.2.below hb12⟩
        have HCe : Hid (∀ j u, (bys lb)[j]? = some u → w12.cell? (Addr.add ⟨kb, 0, none⟩ j) = some u) := fun j u hu => by
          have hj : j < lb.length := by have := (List.getElem?_eq_some_iff.1 hu).1; rw [bys_len] at this; exact this
          have hq := HB12.out.2.at (i := j) (by rw [← HBt.out.2.2.2]; exact hj)
          rw [add_at, hq]
          rw [bys, List.getElem?_map, List.getElem?_eq_getElem hj] at hu
          unfold gb
          rw [List.getD_eq_getElem?_getD, List.getElem?_eq_getElem hj]
          exact hu
        have hK5 : K ≤ 402 := by have := HV.out.2; omega
        obtain ⟨z0, hi0, hz0, hz1, hz2⟩ := info_parts Tryd.infoU8
        clear hb12
        go_wp2_with (first
          | (at_builtin; refine wpList_append_lies _ rfl (.tmp 120) (.tmp 121) 31 rfl w12.heap.size 5 z0 (.int .u8 0) 1 1 Tryd.underlying31 hi0 hz0 hz1 hz2 rfl (by decide) (.slice none 0 0) 0 [] rfl (World.ownsRow_nil ..) ⟨kb, 0, none⟩ K cap8 (bys lb) rfl (by rw [bys_len, HBt.out.2.2.2, Nat.mul_one]) HCe.out ?c2 hK0 ?c3 ?c4 (Nat.le_refl _) _ rfl ?_))
        case c2 =>
          intro z hz
          obtain ⟨q, _, rfl⟩ := List.mem_map.1 hz
          rfl
        case c3 => unfold maxLen; omega
        case c4 => omega
        intro g1 cap13 w13 hown hgrow hat hlt13
        have HB13 : Hid (Below w.heap.size w w13) := HB12.out.1.grown hgrow (HB12.out.1.size) (fun k e => by cases e)
        have HO13 : Hid (w13.ownsRow w12.heap.size 5 1 (.slice (some ⟨g1, 0, none⟩) K cap13) K (bys lb)) := hown
        have hs13 : w12.heap.size ≤ w13.heap.size := hgrow.size
        clear hown hgrow hat hlt13
        go_wp2_with (first
          | (at_builtin; refine wpList_append_lies _ rfl (.tmp 123) (.tmp 125) 31 rfl w12.heap.size 5 z0 (.int .u8 0) 1 1 Tryd.underlying31 hi0 hz0 hz1 hz2 rfl (by decide) (.slice (some ⟨g1, 0, none⟩) K cap13) K (bys lb) rfl (HO13.out.alloc _) ⟨w13.heap.size, 0, none⟩ 1 1 [.int .u8 (mo : Int)] rfl rfl (cell_one_new _ _ _) ?c2 (by decide) ?c3 ?c4 ?c5 _ rfl ?_))
        case c2 => intro z hz; simp at hz; subst hz; rfl
        case c3 => unfold maxLen; omega
        case c4 => omega
        case c5 => first | omega | (simp; omega)
        intro g2 cap14 w14 hown hgrow hat hlt14
        have HB14 : Hid (Below w.heap.size w w14) := (HB13.out.alloc HB13.out.size _).grown hgrow (by have := HB13.out.size; simp; omega) (fun k e => by have := (HO13.out.lt k e).1; have := HB12.out.1.size; omega)
        have hown2 : w14.ownsRow w12.heap.size 5 1 (.slice (some ⟨g2, 0, none⟩) (K + 1) cap14) (K + 1) (bys (lb ++ [UInt8.ofNat mo])) := by
          have e1 : bys (lb ++ [UInt8.ofNat mo]) = bys lb ++ [.int .u8 (mo : Int)] := by
            rw [bys_app]
            show _ ++ [by1 (UInt8.ofNat mo)] = _
            unfold by1
            rw [u8_of (by have := HCut.out.2; omega)]
          rw [e1]
          exact hown
        obtain ⟨hl14, kc, cap15, hsl, hkc14, hkm14, hc14⟩ := own_bytes hown2 (by omega)
        simp only [Value.slice.injEq, Option.some.injEq, Addr.mk.injEq, and_true, true_and] at hsl
        obtain ⟨rfl, rfl⟩ := hsl
        have hde3 := dec_bad (w := w14) (c := cap14) (bt_at hl14 hc14) hkc14 hkm14 (fun q => by
          have h2 := q.2.1
          have := HV.out.2.1
          omega)
        clear hown hgrow hat hlt14 hown2 hl14 hc14 hkc14 hkm14
        go_wp2_with fail
        refine hde3.mono ?_
        rintro e w15 ⟨rfl, hb15⟩
        have HB15 : Hid (Below w.heap.size w w15) := below_step HB14.out hb15
        clear hde3 hb15
        go_wp2_with fail
        refine (error_any (err := .iface 39 (.int .i64 5)) (n := 5) ⟨Or.inr rfl⟩ (HH.out.1.below HB15.out)).mono ?_
        rintro e w16 ⟨rfl, hb16⟩
        have HB16 : Hid (Below w.heap.size w w16) := below_step HB15.out hb16
        clear hb16
        go_wp2_with fail
        go_ret
        exact ⟨rfl, HB16.out⟩
      · refine (encode_no (c := c) (HH.out.2.2.below HB7.out) n kf xf hEF hxf).mono ?_
        rintro e w8 ⟨rfl, hb8⟩
        have HB8 : Hid (Below w.heap.size w w8) := below_step HB7.out hb8
        clear hb8 hEF hxf
        go_wp2_with fail
        go_ret
        exact ⟨rfl, HB8.out⟩

end Go.Proofs.YtgmadfiibaeleacDoor.Nt
