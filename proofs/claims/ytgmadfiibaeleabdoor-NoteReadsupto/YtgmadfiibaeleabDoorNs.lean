/-
  NoteReads returns true.
-/
import Derived.Test.YtgmadfiibaeleabDoorNr
namespace Go.Proofs.YtgmadfiibaeleabDoor.Nt
open Go.RowKit Go.Deep Go.Proofs.YtgmadfiibaeleabDoor.Br
open Go.RowKit (Below)
set_option linter.unusedVariables false

variable {w w' : World} {f : Nat → Int × Int} {m N : Nat} {g : Nat → Nat}

/-- An event in a block of its own. -/
theorem row3_keep {b : Nat} {x y z : Int} (h : w.rowIs b 70 3 (cells3 x y z)) (hb : Below w.heap.size w w') : w'.rowIs b 70 3 (cells3 x y z) := h.of_block (hb.block _ h.lt)

theorem row3_cells {b : Nat} {x y z : Int} (h : w.rowIs b 70 3 (cells3 x y z)) : w.cell? ⟨b, 0, none⟩ = some (.int .i64 x) ∧ w.cell? ⟨b, 1, none⟩ = some (.int .i64 y) ∧ w.cell? ⟨b, 2, none⟩ = some (.int .i64 z) := ⟨h.cell (i := 0) (by omega), h.cell (i := 1) (by omega), h.cell (i := 2) (by omega)⟩

set_option maxRecDepth 100000 in
set_option maxHeartbeats 16000000 in
theorem reads_some {a a2 : Option Addr} {c c2 : Nat} {l : List UInt8} (hE : ErrType w) (hS : Senti w) (h1 : EgAt w a m f) (h2 : BtAt w a2 N g) (hc : N ≤ c2) (hc2 : c2 ≤ maxLen) (hl : l.length ≤ 2000000) (n : Int) {k x y : Nat} (hk : 1 ≤ k ∧ k ≤ 3) (hx : x ≤ 59) (hy : y ≤ 59) :
    Calls Tryd.prog 9 #[.int .i64 n, .slice a m c, .slice a2 N c2, evv (k : Nat) (x : Nat) (y : Nat), .string (str l)] w fun e w' => e = .returned (.bool true) ∧ Below w.heap.size w w' := by
  obtain ⟨p, M, F, xd, hF, hM, hd1, hd2⟩ := dec_pair (a := a2) (g := g) hc hc2
  obtain ⟨k2, x2, y2, xp, hp1, hp2⟩ := parse_pair l hl
  obtain ⟨s, hs⟩ : ∃ s, str l = s := ⟨_, rfl⟩
  have hef := fun W => evfault_ok (w := W) (k : Nat) (x : Nat) (y : Nat) ⟨by omega, by omega, by omega⟩
  have het := fun W => evtext (w := W) hk hx hy
  have hnt := fun W => text_ok (w := W) hk hx hy
  generalize str (text k x y) = sT at het hnt
  rw [hs] at hp1 hp2 ⊢
  unfold evv at hp1 hp2 hef het hnt ⊢
  clear hk hx hy
  have HH : Hid (ErrType w ∧ Senti w ∧ EgAt w a m f ∧ BtAt w a2 N g ∧ F.length = M ∧ M < 1000000) := ⟨hE, hS, h1, h2, hF, hM⟩
  have hr0 := row3_new w (k : Nat) (x : Nat) (y : Nat)
  have hb0 : Below w.heap.size w (w.alloc (.cells #[.int .i64 (k : Nat), .int .i64 (x : Nat), .int .i64 (y : Nat)] 70)) := (Below.refl _ _).alloc (Nat.le_refl _) _
  have hex := fun W (hW : EgAt W a m f) => edfault_any (c := c) hW n
  clear hE hS h2 hF hM hc hc2 hl hs
  rcases fault_or n m f with hv | ⟨kf, xf, hEF, hxf⟩
  · obtain ⟨n', rfl⟩ : ∃ n' : Nat, n = (n' : Int) := ⟨n.toNat, by have := hv.1; omega⟩
    obtain ⟨K, hK⟩ : ∃ K, 2 + 2 * m = K := ⟨_, rfl⟩
    have hby := fun W (hW : EgAt W a m f) => bytesof (c := c) hW hv
    have hen := fun W (hW : EgAt W a m f) => encode_ok (c := c) hW hv
    rw [hK] at hby hen
    have HV : Hid (Valid (n' : Nat) m f ∧ 0 < K) := ⟨hv, by omega⟩
    obtain ⟨sB, hsB⟩ : ∃ sB, str (bt n' m f m) = sB := ⟨_, rfl⟩
    have HsB : Hid (str (bt n' m f m) = sB) := hsB
    clear hv h1 hK hsB
    go_enter Tryd.func9, Tryd.ntmps9
    go_wp2_with fail
    refine (hex _ (HH.out.2.2.1.below hb0)).mono ?_
    rintro e w1 ⟨k1, x1, rfl, hF1, hb1⟩
    obtain ⟨rfl, rfl⟩ := hF1.one HV.out.1.fault
    have HB1 : Hid (Below w.heap.size w w1 ∧ w1.rowIs w.heap.size 70 3 (cells3 (k : Nat) (x : Nat) (y : Nat))) := ⟨below_step hb0 hb1, row3_keep hr0 hb1⟩
    clear hex hF1 hb1 hb0 hr0
    go_wp2_with fail
    refine (hby _ (HH.out.2.2.1.below HB1.out.1)).mono ?_
    rintro e w2 ⟨v2, rfl, ho2, hb2⟩
    have HB2 : Hid (Below w.heap.size w w2 ∧ w2.rowIs w.heap.size 70 3 (cells3 (k : Nat) (x : Nat) (y : Nat))) := ⟨below_step HB1.out.1 hb2, row3_keep HB1.out.2 hb2⟩
    obtain ⟨hl2, kb, cap2, rfl, -, -, hc2⟩ := own_bytes ho2 HV.out.2
    have hcv2 := conv_own (cap := cap2) hl2 hc2
    rw [HsB.out] at hcv2
    clear hby hb2 ho2 hl2 hc2
    go_wp2_with fail
    clear hcv2
    refine (hen _ (HH.out.2.2.1.below HB2.out.1)).mono ?_
    rintro e w2' ⟨v3, rfl, ho3, hb2'⟩
    have HB2' : Hid (Below w.heap.size w w2' ∧ w2'.rowIs w.heap.size 70 3 (cells3 (k : Nat) (x : Nat) (y : Nat))) := ⟨below_step HB2.out.1 hb2', row3_keep HB2.out.2 hb2'⟩
    obtain ⟨hl3, kc, cap3, rfl, -, -, hc3⟩ := own_bytes ho3 HV.out.2
    have HC3 : Hid ((bt n' m f m).length = K ∧ ∀ j (hj : j < (bt n' m f m).length), w2'.cell? ⟨kc, j, none⟩ = some (by1 (bt n' m f m)[j])) := ⟨hl3, hc3⟩
    clear hen hb2' ho3 hl3 hc3
    go_wp2_with fail
    refine (error_any (err := .nilIface) (n := 0) ⟨Or.inl ⟨rfl, rfl⟩⟩ (HH.out.1.below HB2'.out.1)).mono ?_
    rintro e w3 ⟨rfl, hb3⟩
    have HB3 : Hid (Below w.heap.size w w3 ∧ w3.rowIs w.heap.size 70 3 (cells3 (k : Nat) (x : Nat) (y : Nat))) := ⟨below_step HB2'.out.1 hb3, row3_keep HB2'.out.2 hb3⟩
    have hcv3 := conv_own (w := w3) (cap := cap3) HC3.out.1 (fun j hj => cell_keep hb3 (HC3.out.2 j hj))
    rw [HsB.out] at hcv3
    clear hb3
    go_wp2_with fail
    clear hcv3
    refine (hd1 _ (HH.out.2.2.2.1.below HB3.out.1)).mono ?_
    rintro e w4 ⟨aa, ca, rfl, hE4, hb4⟩
    have HB4 : Hid (Below w.heap.size w w4 ∧ w4.rowIs w.heap.size 70 3 (cells3 (k : Nat) (x : Nat) (y : Nat))) := ⟨below_step HB3.out.1 hb4, row3_keep HB3.out.2 hb4⟩
    have HE4 : Hid (EdgesAt w4 aa F) := hE4
    clear hd1 hE4 hb4
    go_wp2_with fail
    refine (hd2 _ (HH.out.2.2.2.1.below HB4.out.1)).mono ?_
    rintro e w5 ⟨ab, cb, ev, rfl, hev, hE5, hb5⟩
    have HB5 : Hid (Below w.heap.size w w5 ∧ w5.rowIs w.heap.size 70 3 (cells3 (k : Nat) (x : Nat) (y : Nat))) := ⟨below_step HB4.out.1 hb5, row3_keep HB4.out.2 hb5⟩
    have HE5 : Hid (EdgesAt w5 ab F ∧ EdgesAt w5 aa F ∧ ErrIs ev xd) := ⟨hE5, HE4.out.below hb5, hev⟩
    clear hd2 hE5 hb5 hev
    go_wp2_with fail
    refine (error_any HE5.out.2.2 (HH.out.1.below HB5.out.1)).mono ?_
    rintro e w6 ⟨rfl, hb6⟩
    have HB6 : Hid (Below w.heap.size w w6 ∧ w6.rowIs w.heap.size 70 3 (cells3 (k : Nat) (x : Nat) (y : Nat))) := ⟨below_step HB5.out.1 hb6, row3_keep HB5.out.2 hb6⟩
    have HE6 : Hid (EdgesAt w6 ab F ∧ EdgesAt w6 aa F) := ⟨HE5.out.1.below hb6, HE5.out.2.1.below hb6⟩
    clear hb6
    go_wp2_with fail
    refine (edges_same HH.out.2.2.2.2.1 HE6.out.1 HE6.out.2 HH.out.2.2.2.2.2).mono ?_
    rintro e w7 ⟨rfl, hb7⟩
    have HB7 : Hid (Below w.heap.size w w7 ∧ w7.rowIs w.heap.size 70 3 (cells3 (k : Nat) (x : Nat) (y : Nat))) := ⟨below_step HB6.out.1 hb7, row3_keep HB6.out.2 hb7⟩
    obtain ⟨e0, e1, e2⟩ := row3_cells HB7.out.2
    clear hb7
    go_wp2_with fail
    refine (hef _).mono ?_
    rintro e w8 ⟨rfl, hb8⟩
    have HB8 : Hid (Below w.heap.size w w8 ∧ w8.rowIs w.heap.size 70 3 (cells3 (k : Nat) (x : Nat) (y : Nat))) := ⟨below_step HB7.out.1 hb8, row3_keep HB7.out.2 hb8⟩
    clear hef hb8 e0 e1 e2
    obtain ⟨e0, e1, e2⟩ := row3_cells HB8.out.2
    go_wp2_with fail
    refine (het _).mono ?_
    rintro e w9 ⟨rfl, hb9⟩
    have HB9 : Hid (Below w.heap.size w w9 ∧ w9.rowIs w.heap.size 70 3 (cells3 (k : Nat) (x : Nat) (y : Nat))) := ⟨below_step HB8.out.1 hb9, row3_keep HB8.out.2 hb9⟩
    clear het hb9 e0 e1 e2
    obtain ⟨e0, e1, e2⟩ := row3_cells HB9.out.2
    go_wp2_with fail
    refine (hnt _).mono ?_
    rintro e w10 ⟨rfl, hb10⟩
    have HB10 : Hid (Below w.heap.size w w10 ∧ w10.rowIs w.heap.size 70 3 (cells3 (k : Nat) (x : Nat) (y : Nat))) := ⟨below_step HB9.out.1 hb10, row3_keep HB9.out.2 hb10⟩
    clear hnt hb10 e0 e1 e2
    go_wp2_with fail
    refine (error_any (err := .nilIface) (n := 0) ⟨Or.inl ⟨rfl, rfl⟩⟩ (HH.out.1.below HB10.out.1)).mono ?_
    rintro e w11 ⟨rfl, hb11⟩
    have HB11 : Hid (Below w.heap.size w w11) := below_step HB10.out.1 hb11
    clear hb11
    go_wp2_with fail
    refine (hp1 _).mono ?_
    rintro e w12 ⟨rfl, hb12⟩
    have HB12 : Hid (Below w.heap.size w (w12.alloc (.cells #[.int .i64 k2, .int .i64 x2, .int .i64 y2] 70))) := (below_step HB11.out hb12).alloc (below_step HB11.out hb12).size _
    have hy := row3_new w12 k2 x2 y2
    clear hp1 hb12
    go_wp2_with fail
    refine (hp2 _ (HH.out.2.1.below HB12.out)).mono ?_
    rintro e w13 ⟨ez, rfl, hez, hb13⟩
    have HB13 : Hid (Below w.heap.size w (w13.alloc (.cells #[.int .i64 k2, .int .i64 x2, .int .i64 y2] 70))) := (below_step HB12.out hb13).alloc (below_step HB12.out hb13).size _
    have hz := row3_new w13 k2 x2 y2
    have hy2 := (row3_keep hy hb13).alloc (.cells #[.int .i64 k2, .int .i64 x2, .int .i64 y2] 70)
    have HEZ : Hid (ErrIs ez xp) := hez
    clear hp2 hb13 hy hez
    go_wp2_with fail
    refine (error_any HEZ.out (HH.out.1.below HB13.out)).mono ?_
    rintro e w14 ⟨rfl, hb14⟩
    have HB14 : Hid (Below w.heap.size w w14) := below_step HB13.out hb14
    obtain ⟨p0, p1, p2⟩ := row3_cells (row3_keep hy2 hb14)
    obtain ⟨q0, q1, q2⟩ := row3_cells (row3_keep hz hb14)
    clear hb14 hy2 hz
    go_wp2_with fail
    go_ret
    exact ⟨rfl, HB14.out⟩
  · have hen := fun W (hW : EgAt W a m f) => encode_no (c := c) hW n kf xf hEF hxf
    have HF : Hid (EFault n m f kf xf ∧ xf ≠ 0) := ⟨hEF, hxf⟩
    have t1 : (xf == 0) = false := by rw [beq_eq_false_iff_ne]; exact hxf
    have hcn := conv_none
    clear hEF hxf h1
    go_enter Tryd.func9, Tryd.ntmps9
    go_wp2_with fail
    refine (hex _ (HH.out.2.2.1.below hb0)).mono ?_
    rintro e w1 ⟨k1, x1, rfl, hF1, hb1⟩
    obtain ⟨rfl, rfl⟩ := hF1.one HF.out.1
    have HB1 : Hid (Below w.heap.size w w1 ∧ w1.rowIs w.heap.size 70 3 (cells3 (k : Nat) (x : Nat) (y : Nat))) := ⟨below_step hb0 hb1, row3_keep hr0 hb1⟩
    clear hex hF1 hb1 hb0 hr0
    go_wp2_with fail
    refine (hen _ (HH.out.2.2.1.below HB1.out.1)).mono ?_
    rintro e w2 ⟨rfl, hb2⟩
    have HB2 : Hid (Below w.heap.size w w2 ∧ w2.rowIs w.heap.size 70 3 (cells3 (k : Nat) (x : Nat) (y : Nat))) := ⟨below_step HB1.out.1 hb2, row3_keep HB1.out.2 hb2⟩
    clear hen hb2
    go_wp2_with fail
    refine (error_any (err := .iface 23 (.int .i64 x1)) (n := x1) ⟨Or.inr rfl⟩ (HH.out.1.below HB2.out.1)).mono ?_
    rintro e w3 ⟨rfl, hb3⟩
    have HB3 : Hid (Below w.heap.size w w3 ∧ w3.rowIs w.heap.size 70 3 (cells3 (k : Nat) (x : Nat) (y : Nat))) := ⟨below_step HB2.out.1 hb3, row3_keep HB2.out.2 hb3⟩
    clear hb3
    go_wp2_with fail
    clear t1 hcn
    refine (hd1 _ (HH.out.2.2.2.1.below HB3.out.1)).mono ?_
    rintro e w4 ⟨aa, ca, rfl, hE4, hb4⟩
    have HB4 : Hid (Below w.heap.size w w4 ∧ w4.rowIs w.heap.size 70 3 (cells3 (k : Nat) (x : Nat) (y : Nat))) := ⟨below_step HB3.out.1 hb4, row3_keep HB3.out.2 hb4⟩
    have HE4 : Hid (EdgesAt w4 aa F) := hE4
    clear hd1 hE4 hb4
    go_wp2_with fail
    refine (hd2 _ (HH.out.2.2.2.1.below HB4.out.1)).mono ?_
    rintro e w5 ⟨ab, cb, ev, rfl, hev, hE5, hb5⟩
    have HB5 : Hid (Below w.heap.size w w5 ∧ w5.rowIs w.heap.size 70 3 (cells3 (k : Nat) (x : Nat) (y : Nat))) := ⟨below_step HB4.out.1 hb5, row3_keep HB4.out.2 hb5⟩
    have HE5 : Hid (EdgesAt w5 ab F ∧ EdgesAt w5 aa F ∧ ErrIs ev xd) := ⟨hE5, HE4.out.below hb5, hev⟩
    clear hd2 hE5 hb5 hev
    go_wp2_with fail
    refine (error_any HE5.out.2.2 (HH.out.1.below HB5.out.1)).mono ?_
    rintro e w6 ⟨rfl, hb6⟩
    have HB6 : Hid (Below w.heap.size w w6 ∧ w6.rowIs w.heap.size 70 3 (cells3 (k : Nat) (x : Nat) (y : Nat))) := ⟨below_step HB5.out.1 hb6, row3_keep HB5.out.2 hb6⟩
    have HE6 : Hid (EdgesAt w6 ab F ∧ EdgesAt w6 aa F) := ⟨HE5.out.1.below hb6, HE5.out.2.1.below hb6⟩
    clear hb6
    go_wp2_with fail
    refine (edges_same HH.out.2.2.2.2.1 HE6.out.1 HE6.out.2 HH.out.2.2.2.2.2).mono ?_
    rintro e w7 ⟨rfl, hb7⟩
    have HB7 : Hid (Below w.heap.size w w7 ∧ w7.rowIs w.heap.size 70 3 (cells3 (k : Nat) (x : Nat) (y : Nat))) := ⟨below_step HB6.out.1 hb7, row3_keep HB6.out.2 hb7⟩
    obtain ⟨e0, e1, e2⟩ := row3_cells HB7.out.2
    clear hb7
    go_wp2_with fail
    refine (hef _).mono ?_
    rintro e w8 ⟨rfl, hb8⟩
    have HB8 : Hid (Below w.heap.size w w8 ∧ w8.rowIs w.heap.size 70 3 (cells3 (k : Nat) (x : Nat) (y : Nat))) := ⟨below_step HB7.out.1 hb8, row3_keep HB7.out.2 hb8⟩
    clear hef hb8 e0 e1 e2
    obtain ⟨e0, e1, e2⟩ := row3_cells HB8.out.2
    go_wp2_with fail
    refine (het _).mono ?_
    rintro e w9 ⟨rfl, hb9⟩
    have HB9 : Hid (Below w.heap.size w w9 ∧ w9.rowIs w.heap.size 70 3 (cells3 (k : Nat) (x : Nat) (y : Nat))) := ⟨below_step HB8.out.1 hb9, row3_keep HB8.out.2 hb9⟩
    clear het hb9 e0 e1 e2
    obtain ⟨e0, e1, e2⟩ := row3_cells HB9.out.2
    go_wp2_with fail
    refine (hnt _).mono ?_
    rintro e w10 ⟨rfl, hb10⟩
    have HB10 : Hid (Below w.heap.size w w10 ∧ w10.rowIs w.heap.size 70 3 (cells3 (k : Nat) (x : Nat) (y : Nat))) := ⟨below_step HB9.out.1 hb10, row3_keep HB9.out.2 hb10⟩
    clear hnt hb10 e0 e1 e2
    go_wp2_with fail
    refine (error_any (err := .nilIface) (n := 0) ⟨Or.inl ⟨rfl, rfl⟩⟩ (HH.out.1.below HB10.out.1)).mono ?_
    rintro e w11 ⟨rfl, hb11⟩
    have HB11 : Hid (Below w.heap.size w w11) := below_step HB10.out.1 hb11
    clear hb11
    go_wp2_with fail
    refine (hp1 _).mono ?_
    rintro e w12 ⟨rfl, hb12⟩
    have HB12 : Hid (Below w.heap.size w (w12.alloc (.cells #[.int .i64 k2, .int .i64 x2, .int .i64 y2] 70))) := (below_step HB11.out hb12).alloc (below_step HB11.out hb12).size _
    have hy := row3_new w12 k2 x2 y2
    clear hp1 hb12
    go_wp2_with fail
    refine (hp2 _ (HH.out.2.1.below HB12.out)).mono ?_
    rintro e w13 ⟨ez, rfl, hez, hb13⟩
    have HB13 : Hid (Below w.heap.size w (w13.alloc (.cells #[.int .i64 k2, .int .i64 x2, .int .i64 y2] 70))) := (below_step HB12.out hb13).alloc (below_step HB12.out hb13).size _
    have hz := row3_new w13 k2 x2 y2
    have hy2 := (row3_keep hy hb13).alloc (.cells #[.int .i64 k2, .int .i64 x2, .int .i64 y2] 70)
    have HEZ : Hid (ErrIs ez xp) := hez
    clear hp2 hb13 hy hez
    go_wp2_with fail
    refine (error_any HEZ.out (HH.out.1.below HB13.out)).mono ?_
    rintro e w14 ⟨rfl, hb14⟩
    have HB14 : Hid (Below w.heap.size w w14) := below_step HB13.out hb14
    obtain ⟨p0, p1, p2⟩ := row3_cells (row3_keep hy2 hb14)
    obtain ⟨q0, q1, q2⟩ := row3_cells (row3_keep hz hb14)
    clear hb14 hy2 hz
    go_wp2_with fail
    go_ret
    exact ⟨rfl, HB14.out⟩

set_option maxRecDepth 100000 in
set_option maxHeartbeats 16000000 in
theorem reads_none {a a2 : Option Addr} {c c2 : Nat} {l : List UInt8} (hE : ErrType w) (hS : Senti w) (h1 : EgAt w a m f) (h2 : BtAt w a2 N g) (hc : N ≤ c2) (hc2 : c2 ≤ maxLen) (hl : l.length ≤ 2000000) (n : Int) {k x y : Int} (hno : ¬ EvOk k x y) :
    Calls Tryd.prog 9 #[.int .i64 n, .slice a m c, .slice a2 N c2, evv k x y, .string (str l)] w fun e w' => e = .returned (.bool true) ∧ Below w.heap.size w w' := by
  obtain ⟨p, M, F, xd, hF, hM, hd1, hd2⟩ := dec_pair (a := a2) (g := g) hc hc2
  obtain ⟨k2, x2, y2, xp, hp1, hp2⟩ := parse_pair l hl
  obtain ⟨s, hs⟩ : ∃ s, str l = s := ⟨_, rfl⟩
  have hef := fun W => evfault_no (w := W) k x y hno
  have hnt := fun W => text_no (w := W) k x y hno
  rw [hs] at hp1 hp2 ⊢
  unfold evv at hp1 hp2 hef hnt ⊢
  clear hno
  have HH : Hid (ErrType w ∧ Senti w ∧ EgAt w a m f ∧ BtAt w a2 N g ∧ F.length = M ∧ M < 1000000) := ⟨hE, hS, h1, h2, hF, hM⟩
  have hr0 := row3_new w k x y
  have hb0 : Below w.heap.size w (w.alloc (.cells #[.int .i64 k, .int .i64 x, .int .i64 y] 70)) := (Below.refl _ _).alloc (Nat.le_refl _) _
  have hex := fun W (hW : EgAt W a m f) => edfault_any (c := c) hW n
  clear hE hS h2 hF hM hc hc2 hl hs
  rcases fault_or n m f with hv | ⟨kf, xf, hEF, hxf⟩
  · obtain ⟨n', rfl⟩ : ∃ n' : Nat, n = (n' : Int) := ⟨n.toNat, by have := hv.1; omega⟩
    obtain ⟨K, hK⟩ : ∃ K, 2 + 2 * m = K := ⟨_, rfl⟩
    have hby := fun W (hW : EgAt W a m f) => bytesof (c := c) hW hv
    have hen := fun W (hW : EgAt W a m f) => encode_ok (c := c) hW hv
    rw [hK] at hby hen
    have HV : Hid (Valid (n' : Nat) m f ∧ 0 < K) := ⟨hv, by omega⟩
    obtain ⟨sB, hsB⟩ : ∃ sB, str (bt n' m f m) = sB := ⟨_, rfl⟩
    have HsB : Hid (str (bt n' m f m) = sB) := hsB
    clear hv h1 hK hsB
    go_enter Tryd.func9, Tryd.ntmps9
    go_wp2_with fail
    refine (hex _ (HH.out.2.2.1.below hb0)).mono ?_
    rintro e w1 ⟨k1, x1, rfl, hF1, hb1⟩
    obtain ⟨rfl, rfl⟩ := hF1.one HV.out.1.fault
    have HB1 : Hid (Below w.heap.size w w1 ∧ w1.rowIs w.heap.size 70 3 (cells3 k x y)) := ⟨below_step hb0 hb1, row3_keep hr0 hb1⟩
    clear hex hF1 hb1 hb0 hr0
    go_wp2_with fail
    refine (hby _ (HH.out.2.2.1.below HB1.out.1)).mono ?_
    rintro e w2 ⟨v2, rfl, ho2, hb2⟩
    have HB2 : Hid (Below w.heap.size w w2 ∧ w2.rowIs w.heap.size 70 3 (cells3 k x y)) := ⟨below_step HB1.out.1 hb2, row3_keep HB1.out.2 hb2⟩
    obtain ⟨hl2, kb, cap2, rfl, -, -, hc2⟩ := own_bytes ho2 HV.out.2
    have hcv2 := conv_own (cap := cap2) hl2 hc2
    rw [HsB.out] at hcv2
    clear hby hb2 ho2 hl2 hc2
    go_wp2_with fail
    clear hcv2
    refine (hen _ (HH.out.2.2.1.below HB2.out.1)).mono ?_
    rintro e w2' ⟨v3, rfl, ho3, hb2'⟩
    have HB2' : Hid (Below w.heap.size w w2' ∧ w2'.rowIs w.heap.size 70 3 (cells3 k x y)) := ⟨below_step HB2.out.1 hb2', row3_keep HB2.out.2 hb2'⟩
    obtain ⟨hl3, kc, cap3, rfl, -, -, hc3⟩ := own_bytes ho3 HV.out.2
    have HC3 : Hid ((bt n' m f m).length = K ∧ ∀ j (hj : j < (bt n' m f m).length), w2'.cell? ⟨kc, j, none⟩ = some (by1 (bt n' m f m)[j])) := ⟨hl3, hc3⟩
    clear hen hb2' ho3 hl3 hc3
    go_wp2_with fail
    refine (error_any (err := .nilIface) (n := 0) ⟨Or.inl ⟨rfl, rfl⟩⟩ (HH.out.1.below HB2'.out.1)).mono ?_
    rintro e w3 ⟨rfl, hb3⟩
    have HB3 : Hid (Below w.heap.size w w3 ∧ w3.rowIs w.heap.size 70 3 (cells3 k x y)) := ⟨below_step HB2'.out.1 hb3, row3_keep HB2'.out.2 hb3⟩
    have hcv3 := conv_own (w := w3) (cap := cap3) HC3.out.1 (fun j hj => cell_keep hb3 (HC3.out.2 j hj))
    rw [HsB.out] at hcv3
    clear hb3
    go_wp2_with fail
    clear hcv3
    refine (hd1 _ (HH.out.2.2.2.1.below HB3.out.1)).mono ?_
    rintro e w4 ⟨aa, ca, rfl, hE4, hb4⟩
    have HB4 : Hid (Below w.heap.size w w4 ∧ w4.rowIs w.heap.size 70 3 (cells3 k x y)) := ⟨below_step HB3.out.1 hb4, row3_keep HB3.out.2 hb4⟩
    have HE4 : Hid (EdgesAt w4 aa F) := hE4
    clear hd1 hE4 hb4
    go_wp2_with fail
    refine (hd2 _ (HH.out.2.2.2.1.below HB4.out.1)).mono ?_
    rintro e w5 ⟨ab, cb, ev, rfl, hev, hE5, hb5⟩
    have HB5 : Hid (Below w.heap.size w w5 ∧ w5.rowIs w.heap.size 70 3 (cells3 k x y)) := ⟨below_step HB4.out.1 hb5, row3_keep HB4.out.2 hb5⟩
    have HE5 : Hid (EdgesAt w5 ab F ∧ EdgesAt w5 aa F ∧ ErrIs ev xd) := ⟨hE5, HE4.out.below hb5, hev⟩
    clear hd2 hE5 hb5 hev
    go_wp2_with fail
    refine (error_any HE5.out.2.2 (HH.out.1.below HB5.out.1)).mono ?_
    rintro e w6 ⟨rfl, hb6⟩
    have HB6 : Hid (Below w.heap.size w w6 ∧ w6.rowIs w.heap.size 70 3 (cells3 k x y)) := ⟨below_step HB5.out.1 hb6, row3_keep HB5.out.2 hb6⟩
    have HE6 : Hid (EdgesAt w6 ab F ∧ EdgesAt w6 aa F) := ⟨HE5.out.1.below hb6, HE5.out.2.1.below hb6⟩
    clear hb6
    go_wp2_with fail
    refine (edges_same HH.out.2.2.2.2.1 HE6.out.1 HE6.out.2 HH.out.2.2.2.2.2).mono ?_
    rintro e w7 ⟨rfl, hb7⟩
    have HB7 : Hid (Below w.heap.size w w7 ∧ w7.rowIs w.heap.size 70 3 (cells3 k x y)) := ⟨below_step HB6.out.1 hb7, row3_keep HB6.out.2 hb7⟩
    obtain ⟨e0, e1, e2⟩ := row3_cells HB7.out.2
    clear hb7
    go_wp2_with fail
    refine (hef _).mono ?_
    rintro e w8 ⟨rfl, hb8⟩
    have HB8 : Hid (Below w.heap.size w w8 ∧ w8.rowIs w.heap.size 70 3 (cells3 k x y)) := ⟨below_step HB7.out.1 hb8, row3_keep HB7.out.2 hb8⟩
    clear hef hb8 e0 e1 e2
    obtain ⟨e0, e1, e2⟩ := row3_cells HB8.out.2
    go_wp2_with fail
    refine (hnt _).mono ?_
    rintro e w10 ⟨rfl, hb10⟩
    have HB10 : Hid (Below w.heap.size w w10 ∧ w10.rowIs w.heap.size 70 3 (cells3 k x y)) := ⟨below_step HB8.out.1 hb10, row3_keep HB8.out.2 hb10⟩
    clear hnt hb10 e0 e1 e2
    go_wp2_with fail
    refine (error_any (err := .iface 23 (.int .i64 1)) (n := 1) ⟨Or.inr rfl⟩ (HH.out.1.below HB10.out.1)).mono ?_
    rintro e w11 ⟨rfl, hb11⟩
    have HB11 : Hid (Below w.heap.size w w11) := below_step HB10.out.1 hb11
    clear hb11
    go_wp2_with fail
    refine (hp1 _).mono ?_
    rintro e w12 ⟨rfl, hb12⟩
    have HB12 : Hid (Below w.heap.size w (w12.alloc (.cells #[.int .i64 k2, .int .i64 x2, .int .i64 y2] 70))) := (below_step HB11.out hb12).alloc (below_step HB11.out hb12).size _
    have hy := row3_new w12 k2 x2 y2
    clear hp1 hb12
    go_wp2_with fail
    refine (hp2 _ (HH.out.2.1.below HB12.out)).mono ?_
    rintro e w13 ⟨ez, rfl, hez, hb13⟩
    have HB13 : Hid (Below w.heap.size w (w13.alloc (.cells #[.int .i64 k2, .int .i64 x2, .int .i64 y2] 70))) := (below_step HB12.out hb13).alloc (below_step HB12.out hb13).size _
    have hz := row3_new w13 k2 x2 y2
    have hy2 := (row3_keep hy hb13).alloc (.cells #[.int .i64 k2, .int .i64 x2, .int .i64 y2] 70)
    have HEZ : Hid (ErrIs ez xp) := hez
    clear hp2 hb13 hy hez
    go_wp2_with fail
    refine (error_any HEZ.out (HH.out.1.below HB13.out)).mono ?_
    rintro e w14 ⟨rfl, hb14⟩
    have HB14 : Hid (Below w.heap.size w w14) := below_step HB13.out hb14
    obtain ⟨p0, p1, p2⟩ := row3_cells (row3_keep hy2 hb14)
    obtain ⟨q0, q1, q2⟩ := row3_cells (row3_keep hz hb14)
    clear hb14 hy2 hz
    go_wp2_with fail
    go_ret
    exact ⟨rfl, HB14.out⟩
  · have hen := fun W (hW : EgAt W a m f) => encode_no (c := c) hW n kf xf hEF hxf
    have HF : Hid (EFault n m f kf xf ∧ xf ≠ 0) := ⟨hEF, hxf⟩
    have t1 : (xf == 0) = false := by rw [beq_eq_false_iff_ne]; exact hxf
    have hcn := conv_none
    clear hEF hxf h1
    go_enter Tryd.func9, Tryd.ntmps9
    go_wp2_with fail
    refine (hex _ (HH.out.2.2.1.below hb0)).mono ?_
    rintro e w1 ⟨k1, x1, rfl, hF1, hb1⟩
    obtain ⟨rfl, rfl⟩ := hF1.one HF.out.1
    have HB1 : Hid (Below w.heap.size w w1 ∧ w1.rowIs w.heap.size 70 3 (cells3 k x y)) := ⟨below_step hb0 hb1, row3_keep hr0 hb1⟩
    clear hex hF1 hb1 hb0 hr0
    go_wp2_with fail
    refine (hen _ (HH.out.2.2.1.below HB1.out.1)).mono ?_
    rintro e w2 ⟨rfl, hb2⟩
    have HB2 : Hid (Below w.heap.size w w2 ∧ w2.rowIs w.heap.size 70 3 (cells3 k x y)) := ⟨below_step HB1.out.1 hb2, row3_keep HB1.out.2 hb2⟩
    clear hen hb2
    go_wp2_with fail
    refine (error_any (err := .iface 23 (.int .i64 x1)) (n := x1) ⟨Or.inr rfl⟩ (HH.out.1.below HB2.out.1)).mono ?_
    rintro e w3 ⟨rfl, hb3⟩
    have HB3 : Hid (Below w.heap.size w w3 ∧ w3.rowIs w.heap.size 70 3 (cells3 k x y)) := ⟨below_step HB2.out.1 hb3, row3_keep HB2.out.2 hb3⟩
    clear hb3
    go_wp2_with fail
    clear t1 hcn
    refine (hd1 _ (HH.out.2.2.2.1.below HB3.out.1)).mono ?_
    rintro e w4 ⟨aa, ca, rfl, hE4, hb4⟩
    have HB4 : Hid (Below w.heap.size w w4 ∧ w4.rowIs w.heap.size 70 3 (cells3 k x y)) := ⟨below_step HB3.out.1 hb4, row3_keep HB3.out.2 hb4⟩
    have HE4 : Hid (EdgesAt w4 aa F) := hE4
    clear hd1 hE4 hb4
    go_wp2_with fail
    refine (hd2 _ (HH.out.2.2.2.1.below HB4.out.1)).mono ?_
    rintro e w5 ⟨ab, cb, ev, rfl, hev, hE5, hb5⟩
    have HB5 : Hid (Below w.heap.size w w5 ∧ w5.rowIs w.heap.size 70 3 (cells3 k x y)) := ⟨below_step HB4.out.1 hb5, row3_keep HB4.out.2 hb5⟩
    have HE5 : Hid (EdgesAt w5 ab F ∧ EdgesAt w5 aa F ∧ ErrIs ev xd) := ⟨hE5, HE4.out.below hb5, hev⟩
    clear hd2 hE5 hb5 hev
    go_wp2_with fail
    refine (error_any HE5.out.2.2 (HH.out.1.below HB5.out.1)).mono ?_
    rintro e w6 ⟨rfl, hb6⟩
    have HB6 : Hid (Below w.heap.size w w6 ∧ w6.rowIs w.heap.size 70 3 (cells3 k x y)) := ⟨below_step HB5.out.1 hb6, row3_keep HB5.out.2 hb6⟩
    have HE6 : Hid (EdgesAt w6 ab F ∧ EdgesAt w6 aa F) := ⟨HE5.out.1.below hb6, HE5.out.2.1.below hb6⟩
    clear hb6
    go_wp2_with fail
    refine (edges_same HH.out.2.2.2.2.1 HE6.out.1 HE6.out.2 HH.out.2.2.2.2.2).mono ?_
    rintro e w7 ⟨rfl, hb7⟩
    have HB7 : Hid (Below w.heap.size w w7 ∧ w7.rowIs w.heap.size 70 3 (cells3 k x y)) := ⟨below_step HB6.out.1 hb7, row3_keep HB6.out.2 hb7⟩
    obtain ⟨e0, e1, e2⟩ := row3_cells HB7.out.2
    clear hb7
    go_wp2_with fail
    refine (hef _).mono ?_
    rintro e w8 ⟨rfl, hb8⟩
    have HB8 : Hid (Below w.heap.size w w8 ∧ w8.rowIs w.heap.size 70 3 (cells3 k x y)) := ⟨below_step HB7.out.1 hb8, row3_keep HB7.out.2 hb8⟩
    clear hef hb8 e0 e1 e2
    obtain ⟨e0, e1, e2⟩ := row3_cells HB8.out.2
    go_wp2_with fail
    refine (hnt _).mono ?_
    rintro e w10 ⟨rfl, hb10⟩
    have HB10 : Hid (Below w.heap.size w w10 ∧ w10.rowIs w.heap.size 70 3 (cells3 k x y)) := ⟨below_step HB8.out.1 hb10, row3_keep HB8.out.2 hb10⟩
    clear hnt hb10 e0 e1 e2
    go_wp2_with fail
    refine (error_any (err := .iface 23 (.int .i64 1)) (n := 1) ⟨Or.inr rfl⟩ (HH.out.1.below HB10.out.1)).mono ?_
    rintro e w11 ⟨rfl, hb11⟩
    have HB11 : Hid (Below w.heap.size w w11) := below_step HB10.out.1 hb11
    clear hb11
    go_wp2_with fail
    refine (hp1 _).mono ?_
    rintro e w12 ⟨rfl, hb12⟩
    have HB12 : Hid (Below w.heap.size w (w12.alloc (.cells #[.int .i64 k2, .int .i64 x2, .int .i64 y2] 70))) := (below_step HB11.out hb12).alloc (below_step HB11.out hb12).size _
    have hy := row3_new w12 k2 x2 y2
    clear hp1 hb12
    go_wp2_with fail
    refine (hp2 _ (HH.out.2.1.below HB12.out)).mono ?_
    rintro e w13 ⟨ez, rfl, hez, hb13⟩
    have HB13 : Hid (Below w.heap.size w (w13.alloc (.cells #[.int .i64 k2, .int .i64 x2, .int .i64 y2] 70))) := (below_step HB12.out hb13).alloc (below_step HB12.out hb13).size _
    have hz := row3_new w13 k2 x2 y2
    have hy2 := (row3_keep hy hb13).alloc (.cells #[.int .i64 k2, .int .i64 x2, .int .i64 y2] 70)
    have HEZ : Hid (ErrIs ez xp) := hez
    clear hp2 hb13 hy hez
    go_wp2_with fail
    refine (error_any HEZ.out (HH.out.1.below HB13.out)).mono ?_
    rintro e w14 ⟨rfl, hb14⟩
    have HB14 : Hid (Below w.heap.size w w14) := below_step HB13.out hb14
    obtain ⟨p0, p1, p2⟩ := row3_cells (row3_keep hy2 hb14)
    obtain ⟨q0, q1, q2⟩ := row3_cells (row3_keep hz hb14)
    clear hb14 hy2 hz
    go_wp2_with fail
    go_ret
    exact ⟨rfl, HB14.out⟩

/-- NoteReads, whatever it is called with. -/
theorem note_reads {a a2 : Option Addr} {c c2 : Nat} {l : List UInt8} (hE : ErrType w) (hS : Senti w) (h1 : EgAt w a m f) (h2 : BtAt w a2 N g) (hc : N ≤ c2) (hc2 : c2 ≤ maxLen) (hl : l.length ≤ 2000000) (n k x y : Int) :
    Calls Tryd.prog 9 #[.int .i64 n, .slice a m c, .slice a2 N c2, evv k x y, .string (str l)] w fun e w' => e = .returned (.bool true) ∧ Below w.heap.size w w' := by
  by_cases hok : EvOk k x y
  · obtain ⟨k', x', y', e1, e2, e3, hk, hx, hy⟩ : ∃ k' x' y' : Nat, k = (k' : Nat) ∧ x = (x' : Nat) ∧ y = (y' : Nat) ∧ (1 ≤ k' ∧ k' ≤ 3) ∧ x' ≤ 59 ∧ y' ≤ 59 := by
      obtain ⟨h1, h2, h3⟩ := hok
      exact ⟨k.toNat, x.toNat, y.toNat, by omega, by omega, by omega, by omega, by omega, by omega⟩
    subst e1 e2 e3
    exact reads_some hE hS h1 h2 hc hc2 hl n hk hx hy
  · exact reads_none hE hS h1 h2 hc hc2 hl n hok

end Go.Proofs.YtgmadfiibaeleabDoor.Nt
