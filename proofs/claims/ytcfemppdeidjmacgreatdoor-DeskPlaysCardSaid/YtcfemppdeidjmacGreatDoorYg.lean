/-
  DeskPlays returns true, whatever packages desk and disk that answer as they are to.
-/
import Derived.Test.YtcfemppdeidjmacGreatDoorYl
import Derived.Test.YtcfemppdeidjmacGreatDoorYf
import Derived.Test.YtcfemppdeidjmacGreatDoorF17
namespace Go.Proofs.YtcfemppdeidjmacGreatDoor.Ds
open Go.RowKit Go.Deep Go.Proofs.YtcfemppdeidjmacGreatDoor.Br
open Go.Proofs.YtcfemppdeidjmacGreatDoor.Dk (EvAt NumAt ScAt Stp StpAt Er Same)
open Go.Proofs.YtcfemppdeidjmacGreatDoor.Sk (SW Apart)
open Go.RowKit (Below)
set_option linter.unusedVariables false

variable {w w' wr : World} {D : DFace} {B n t : Nat} {d k : Value} {A S : List (Nat × Nat)} {g : Option Nat} {X : Nat → Prop} {a : Option Addr} {m c : Nat} {f : Nat → Stp}

set_option maxRecDepth 100000 in
set_option maxHeartbeats 2000000 in
theorem dplays_no (O : DeskOk D) (h0 : ErrType w) (p : Int) (hp : p < 1 ∨ 60 < p) :
    Calls Tryz.prog 3 #[.int .i64 p, .slice a m c] w fun e w' => e = .returned (.bool true) ∧ Below w.heap.size w w' := by
  have HP : Hid (p < 1 ∨ 60 < p) := hp
  have HO : Hid (DeskOk D) := O
  have hff := fault_any p
  rw [if_pos hp] at hff
  clear hp O
  go_enter Tryz.func3, Tryz.ntmps3
  go_wp2_with fail
  refine (dw_new HO.out (Below.refl _ w)).mono ?_
  rintro e w1 ⟨d, rfl, hz, -⟩
  have HZ1 : Hid (SW (raw D d) w w.heap.size (fun _ => False) w1) := hz
  clear hz
  go_wp2_with fail
  refine (hff w1).mono ?_
  rintro e w9 ⟨rfl, h9⟩
  rw [h9]
  clear h9 hff
  go_wp2_with fail
  refine (dw_format_bad HO.out HZ1.out p HP.out).mono ?_
  rintro e w2 ⟨rfl, hb⟩
  have HB2 : Hid (Below w.heap.size w w2) := hb
  clear hb
  go_wp2_with fail
  refine (error_any (n := 1) ⟨Or.inr rfl⟩ (h0.below HB2.out)).mono ?_
  rintro e w3 ⟨rfl, hb⟩
  have HB3 : Hid (Below w.heap.size w w3) := Br.below_step HB2.out hb
  clear hb
  go_wp2_with fail
  go_ret
  exact ⟨rfl, HB3.out⟩

set_option maxRecDepth 100000 in
set_option maxHeartbeats 64000000 in
theorem dplays_ok (O : DeskOk D) (h0 : ErrType w) (hs : ScAt w a m f) (hn1 : 1 ≤ n) (hn60 : n ≤ 60) :
    Calls Tryz.prog 3 #[.int .i64 (n : Nat), .slice a m c] w fun e w' => e = .returned (.bool true) ∧ Below w.heap.size w w' := by
  have HP : Hid (1 ≤ n ∧ n ≤ 60) := ⟨hn1, hn60⟩
  have HO : Hid (DeskOk D) := O
  have HH : Hid (ScAt w a m f) := hs
  have hff := fault_any (n : Int)
  rw [if_neg (by omega)] at hff
  clear hn1 hn60 O hs
  go_enter Tryz.func3, Tryz.ntmps3
  go_wp2_with fail
  refine (dw_new HO.out (Below.refl _ w)).mono ?_
  rintro e w1 ⟨d, rfl, hz, -⟩
  have HZ1 : Hid (SW (raw D d) w w.heap.size (fun _ => False) w1) := hz
  clear hz
  go_wp2_with fail
  refine (hff w1).mono ?_
  rintro e w9 ⟨rfl, h9⟩
  rw [h9]
  clear h9 hff
  go_wp2_with fail
  refine (dw_format HO.out HZ1.out HP.out.1 HP.out.2).mono ?_
  rintro e w2 ⟨rfl, hz, -⟩
  have HZ2 : Hid (SW (kept D d n [] 1) w w.heap.size (fun _ => False) w2) := hz
  clear hz HZ1
  go_wp2_with fail
  refine (error_any (n := 0) ⟨Or.inl ⟨rfl, rfl⟩⟩ (h0.below HZ2.out.below)).mono ?_
  rintro e w3 ⟨rfl, hb⟩
  have HZ3 : Hid (SW (kept D d n [] 1) w w.heap.size (fun _ => False) w3) := HZ2.out.step HO.out.kept_k HO.out.kept_o hb
  clear hb HZ2
  go_wp2_with fail
  refine (dw_open HO.out HZ3.out (by decide)).mono ?_
  rintro e w4 ⟨k, rfl, hz, -⟩
  have HZ4 : Hid (SW (on D d n k [] [] 1 none) w w.heap.size (fun _ => False) w4) := hz
  clear hz HZ3
  go_wp2_with fail
  refine (dw_nodes HO.out HZ4.out).mono ?_
  rintro e w5 ⟨rfl, hz, -⟩
  have HZ5 : Hid (SW (on D d n k [] [] 1 none) w w.heap.size (fun _ => False) w5) := hz
  clear hz HZ4
  go_wp2_with fail
  refine (dw_turn HO.out HZ5.out).mono ?_
  rintro e w6 ⟨rfl, hz, -⟩
  have HZ6 : Hid (SW (on D d n k [] [] 1 none) w w.heap.size (fun _ => False) w6) := hz
  clear hz HZ5
  go_wp2_with fail
  obtain ⟨B, hB⟩ : ∃ B, w.heap.size = B := ⟨_, rfl⟩
  have HBw : Hid (w.heap.size = B) := hB
  clear hB
  go_loopw [9, 10, 11, 12, 13] (fun v9 v10 v11 v12 v13 wr => ∃ (j t : Nat) (A S : List (Nat × Nat)) (X : Nat → Prop) (a1 a2 : Option Addr) (N1 c1 N2 c2 : Nat), j ≤ m ∧ j ≤ 25 ∧ t ≤ j + 1 ∧ v13 = .int .i64 (j : Nat) ∧ v12 = .int .i64 (t : Nat) ∧ v10 = .slice a1 N1 c1 ∧ v11 = .slice a2 N2 c2 ∧ Ls w wr X a1 N1 c1 A ∧ Ls w wr X a2 N2 c2 S ∧ SW (on D d n v9 A S t none) w w.heap.size X wr) (fun _ _ _ _ i _ => 25 - (intOf i).toNat)
  case atStart => exact ⟨0, 1, [], [], fun _ => False, none, none, 0, 0, 0, 0, Nat.zero_le _, Nat.zero_le _, Nat.le_refl _, rfl, rfl, rfl, rfl, ⟨Ap.none _ _ _, rfl, Nat.le_refl _, Nat.zero_le _⟩, ⟨Ap.none _ _ _, rfl, Nat.le_refl _, Nat.zero_le _⟩, HZ6.out⟩
  case round =>
    clear HZ6
    obtain ⟨j, t, A, S, X, a1, a2, N1, c1, N2, c2, hj, hj25, htj, rfl, rfl, rfl, rfl, hl1, hl2, hz⟩ := hrel
    by_cases hlt : j < m ∧ j < 25
    · obtain ⟨hlt, hlt25⟩ := hlt
      obtain ⟨b, o, rfl, hst⟩ := HH.out j hlt
      have hst' := hst.below hz.below
      have q0 := hst'.what
      have q1 := hst'.num
      have q2 := hst'.bytes
      have q3 := hst'.keep
      have q4 := hst'.evs
      have HSt : Hid (StpAt w b (o + j * 5) (f j)) := hst
      obtain ⟨what, hwh⟩ : ∃ what, (f j).what = what := ⟨_, rfl⟩
      rw [hwh] at q0
      have HJ : Hid (j ≤ 25 ∧ t ≤ j + 1 ∧ j < m) := ⟨hj25, htj, hlt⟩
      have i0 : (0 : Int) ≤ (j : Int) := by omega
      have i1 : (j : Int) < (m : Int) := by omega
      have i2 : (j : Int) < 25 := by omega
      have j5 : IntKind.i64.wrap ((j : Int) + 1) = (j : Int) + 1 := by rw [IntKind.wrap_i64]; omega
      obtain ⟨O1, hO1⟩ : ∃ O1, Obj.cells #[.int .i64 what, .int .i64 (f j).num, .slice (f j).ba (f j).bs.length (f j).bc, .slice (f j).ka (f j).kl (f j).kc, .slice (f j).ea (f j).el (f j).ec] 41 = O1 := ⟨_, rfl⟩
      have e1 : (wr.alloc O1).rowIs wr.heap.size 41 5 (fun i => if i = 0 then .int .i64 what else if i = 1 then .int .i64 (f j).num else if i = 2 then .slice (f j).ba (f j).bs.length (f j).bc else if i = 3 then .slice (f j).ka (f j).kl (f j).kc else .slice (f j).ea (f j).el (f j).ec) := by
        rw [← hO1]
        refine World.rowIs_alloc wr _ 41 _ fun i hi => ?_
        have : i = 0 ∨ i = 1 ∨ i = 2 ∨ i = 3 ∨ i = 4 := by simp at hi; omega
        rcases this with rfl | rfl | rfl | rfl | rfl <;> rfl
      have hbl : Below wr.heap.size wr (wr.alloc O1) := (Below.refl _ _).alloc (Nat.le_refl _) _
      have hap := sw_since (P := on D d n u9 A S t none) HO.out.on_k HO.out.on_o hz hbl
      have hl1' := (hl1.below hbl).more (Y := fun b => X b ∨ (wr.heap.size ≤ b ∧ b < (wr.alloc O1).heap.size)) fun b q => Or.inl q
      have hl2' := (hl2.below hbl).more (Y := fun b => X b ∨ (wr.heap.size ≤ b ∧ b < (wr.alloc O1).heap.size)) fun b q => Or.inl q
      have hXE : (fun b => X b ∨ (wr.heap.size ≤ b ∧ b < (wr.alloc O1).heap.size)) wr.heap.size := Or.inr ⟨Nat.le_refl _, e1.lt⟩
      obtain ⟨Wl, hWl⟩ : ∃ Wl, wr.alloc O1 = Wl := ⟨_, rfl⟩
      obtain ⟨E, hE⟩ : ∃ E, wr.heap.size = E := ⟨_, rfl⟩
      rw [hWl] at e1 hbl hap hl1' hl2' hXE
      rw [hE] at e1 hap hl1' hl2' hXE
      obtain ⟨Y, hY⟩ : ∃ Y : Nat → Prop, (fun b => X b ∨ (E ≤ b ∧ b < Wl.heap.size)) = Y := ⟨_, rfl⟩
      have hXE2 : Y E := by rw [← hY]; exact hXE
      rw [hY] at hap hl1' hl2'
      have HW : Hid (SW (on D d n u9 A S t none) w w.heap.size Y Wl ∧ Ls w Wl Y a1 N1 c1 A ∧ Ls w Wl Y a2 N2 c2 S ∧ Y E) := ⟨hap, hl1', hl2', hXE2⟩
      have HE : Hid (Wl.rowIs E 41 5 (fun i => if i = 0 then .int .i64 what else if i = 1 then .int .i64 (f j).num else if i = 2 then .slice (f j).ba (f j).bs.length (f j).bc else if i = 3 then .slice (f j).ka (f j).kl (f j).kc else .slice (f j).ea (f j).el (f j).ec)) := e1
      have g0 : Wl.cell? ⟨E, 0, none⟩ = some (.int .i64 what) := e1.cell (i := 0) (by omega)
      clear hst hst' hwh hj hj25 htj hlt hlt25 hap e1 hz hl1 hl2 hl1' hl2' hXE hXE2 hY hbl
      by_cases t0 : what = 0
      · obtain rfl := t0
        have g4 : Wl.cell? ⟨E, 4, none⟩ = some (.slice (f j).ea (f j).el (f j).ec) := HE.out.cell (i := 4) (by omega)
        have HEv : Hid (EvAt w (f j).ea (f j).el (f j).ef ∧ (f j).el ≤ (f j).ec ∧ (f j).ec ≤ maxLen) := ⟨HSt.out.et, HSt.out.ecap⟩
        have hfin : Fine n A := by obtain ⟨F, hF, _⟩ := HW.out.1.at_; exact (HO.out.on_fine hF).1
        have hdo := do_any (w := Wl) (f := (f j).ef) HW.out.2.1.ap.edges HW.out.2.1.len HW.out.2.1.le HW.out.2.1.max hfin (HEv.out.1.below HW.out.1.below) HEv.out.2.1 HEv.out.2.2
        have HFin : Hid (Fine n A) := hfin
        clear hfin
        go_wp2_with (first | rw [hO1, hWl, hE] | rw [hO1, hWl])
        refine hdo.mono ?_
        clear hdo
        rintro e w2 ⟨ob, M, oc, na, N', nc, err, A', out, rfl, ho1, ho2, hd1, hbl1, hob, ho3, ho4, hna, ho5, ho6, hf2, hown, hb2⟩
        have hz2 := sw_since (P := on D d n u9 A S t none) HO.out.on_k HO.out.on_o HW.out.1 hb2
        have hl1 : Ls w w2 (fun b => Y b ∨ (Wl.heap.size ≤ b ∧ b < w2.heap.size)) na N' nc A' := ⟨⟨hna, fun hne b' o' e' => by
          rcases hown with ⟨rfl, e⟩ | q
          · exact (HW.out.2.1.ap.apart (e ▸ hne) b' o' e').imp id fun q => Or.inl q
          · refine Or.inr (Or.inr ⟨q b' o' e', ?_⟩)
            obtain ⟨b3, o3, e3, hc3, _⟩ := hna.cell 0 (List.length_pos_iff.2 hne)
            rw [e'] at e3
            simp only [Option.some.injEq, Addr.mk.injEq, and_true] at e3
            have := World.block_lt_of_cell? _ _ hc3
            simp at this
            omega⟩, ho2, ho5, ho6⟩
        have hl2 := (HW.out.2.2.1.below hb2).more (Y := fun b => Y b ∨ (Wl.heap.size ≤ b ∧ b < w2.heap.size)) fun b q => Or.inl q
        have hYE : (fun b => Y b ∨ (Wl.heap.size ≤ b ∧ b < w2.heap.size)) E := Or.inl HW.out.2.2.2
        obtain ⟨Z, hZ⟩ : ∃ Z : Nat → Prop, (fun b => Y b ∨ (Wl.heap.size ≤ b ∧ b < w2.heap.size)) = Z := ⟨_, rfl⟩
        have hoa : ∀ b o, 0 < M → ob = some ⟨b, o, none⟩ → b < w2.heap.size := fun b' o' hM e' => by
          obtain ⟨b3, o3, e3, hc3⟩ := hbl1 0 (by omega)
          rw [e'] at e3
          simp only [Option.some.injEq, Addr.mk.injEq, and_true] at e3
          have := World.block_lt_of_cell? _ _ hc3
          simp at this
          omega
        have hobZ : out ≠ [] → ∀ b o, ob = some ⟨b, o, none⟩ → (fun b => Y b ∨ (Wl.heap.size ≤ b ∧ b < w2.heap.size)) b := fun hne b' o' e' => Or.inr ⟨hob b' o' e', hoa b' o' (by have := List.length_pos_iff.2 hne; omega) e'⟩
        have hobZ2 : out ≠ [] → ∀ b o, ob = some ⟨b, o, none⟩ → Z b := fun hne b' o' e' => by rw [← hZ]; exact hobZ hne b' o' e'
        rw [hZ] at hz2 hl1 hl2
        have HD : Hid (Does n A (evl (f j).ef (f j).el) err A' out ∧ out.length = M ∧ Fine n A' ∧ BlAt w2 ob out ∧ (out ≠ [] → ∀ b o, ob = some ⟨b, o, none⟩ → Z b)) := ⟨hd1, ho1, hf2, hbl1, hobZ2⟩
        have H2 : Hid (SW (on D d n u9 A S t none) w w.heap.size Z w2 ∧ Ls w w2 Z na N' nc A' ∧ Ls w w2 Z a2 N2 c2 S) := ⟨hz2, hl1, hl2⟩
        have g4 : w2.cell? ⟨E, 4, none⟩ = some (.slice (f j).ea (f j).el (f j).ec) := Br.cell_keep hb2 g4
        clear ho1 ho2 hd1 hbl1 ho3 ho4 hna ho5 ho6 hf2 hown hb2 hz2 hl1 hl2 hYE hZ hoa hob hobZ hobZ2 HW HE
        go_wp2_with fail
        refine (dw_do HO.out H2.out.1 (HEv.out.1.below H2.out.1.below) HEv.out.2.1 HEv.out.2.2 (fun q => ev_apart HEv.out.1 q)).mono ?_
        rintro e w3 ⟨v, x, A2, out2, oa2, oc2, he, her, hd2, hbl2, -, -, hz3, hs3⟩
        obtain ⟨rfl, rfl, rfl⟩ := HD.out.1.one hd2 HFin.out.up
        rw [HD.out.2.1] at he
        subst he
        have H3 : Hid (SW (on D d n u9 A' S t none) w w.heap.size Z w3 ∧ Ls w w3 Z na N' nc A' ∧ Ls w w3 Z a2 N2 c2 S ∧ BlAt w3 ob out ∧ BlAt w3 oa2 out) := ⟨hz3, H2.out.2.1.same H2.out.1.below hz3.below hs3, H2.out.2.2.same H2.out.1.below hz3.below hs3, HD.out.2.2.2.1.same hs3 HD.out.2.2.2.2, hbl2⟩
        have HEr : Hid (Er v err) := her
        clear hd2 hbl2 hz3 hs3 her g4 H2
        go_wp2_with fail
        refine (error_any (er_is HEr.out) (h0.below H3.out.1.below)).mono ?_
        rintro e w4 ⟨rfl, hb4⟩
        have H4 : Hid (SW (on D d n u9 A' S t none) w w.heap.size Z w4 ∧ Ls w w4 Z na N' nc A' ∧ Ls w w4 Z a2 N2 c2 S ∧ BlAt w4 ob out ∧ BlAt w4 oa2 out) := ⟨SW.step (P := on D d n u9 A' S t none) HO.out.on_k HO.out.on_o H3.out.1 hb4, H3.out.2.1.below hb4, H3.out.2.2.1.below hb4, H3.out.2.2.2.1.below hb4, H3.out.2.2.2.2.below hb4⟩
        clear hb4 H3
        go_wp2_with fail
        refine (As.bools_same (bl_at H4.out.2.2.2.2 HD.out.2.1) (bl_at H4.out.2.2.2.1 HD.out.2.1) (by have := HD.out.1.len; have := HD.out.2.1; omega)).mono ?_
        rintro e w5 ⟨rfl, hb5⟩
        have HT : Hid (SW (on D d n u9 A' S t none) w w.heap.size Z w5 ∧ Ls w w5 Z na N' nc A' ∧ Ls w w5 Z a2 N2 c2 S) := ⟨SW.step (P := on D d n u9 A' S t none) HO.out.on_k HO.out.on_o H4.out.1 hb5, H4.out.2.1.below hb5, H4.out.2.2.1.below hb5⟩
        have HTb : Hid (t ≤ j + 2) := show _ ≤ _ by have := HJ.out; omega
        clear hb5 H4
        go_wp2_with (first | rw [hO1, hWl, hE] | rw [hO1, hWl])
        refine (dw_graph HO.out HT.out.1).mono ?_
        rintro e w6 ⟨gv, rfl, hgr, hz6, hb6⟩
        have HT6 : Hid (SW (on D d n u9 A' S t none) w w.heap.size Z w6 ∧ Ls w w6 Z _ _ _ A' ∧ Ls w w6 Z _ _ _ S ∧ D.gr w6 gv n A') := ⟨hz6, HT.out.2.1.below hb6, HT.out.2.2.below hb6, hgr⟩
        have HFA : Hid (A'.length ≤ 200) := by
          obtain ⟨F, hF, _⟩ := hz6.at_
          exact (HO.out.on_fine hF).1.len
        clear hgr hz6 hb6 HT
        go_wp2_with fail
        refine (dw_edges HO.out HT6.out.1 HT6.out.2.2.2).mono ?_
        rintro e w7 ⟨ea, ec, Z7, he, -, -, hz7, hap7, hY7, hb7⟩
        rw [HT6.out.2.1.len] at he
        subst he
        have HT7 : Hid (SW (on D d n u9 A' S t none) w w.heap.size Z7 w7 ∧ Ls w w7 Z7 _ _ _ A' ∧ Ls w w7 Z7 _ _ _ S ∧ EdgesAt w7 ea A') := ⟨hz7, (HT6.out.2.1.below hb7).more hY7, (HT6.out.2.2.1.below hb7).more hY7, hap7.edges⟩
        clear hz7 hap7 hY7 hb7
        go_wp2_with fail
        refine (edges_same HT7.out.2.1.len HT7.out.2.2.2 HT7.out.2.1.ap.edges (by have := HT7.out.2.1.len; have := HFA.out; omega)).mono ?_
        rintro e w8 ⟨rfl, hb8⟩
        have HT8 : Hid (SW (on D d n u9 A' S t none) w w.heap.size Z7 w8 ∧ Ls w w8 Z7 _ _ _ A' ∧ Ls w w8 Z7 _ _ _ S) := ⟨SW.step (P := on D d n u9 A' S t none) HO.out.on_k HO.out.on_o HT7.out.1 hb8, HT7.out.2.1.below hb8, HT7.out.2.2.1.below hb8⟩
        clear hb8 HT7 HT6
        go_wp2_with fail
        refine (dw_turn HO.out HT8.out.1).mono ?_
        rintro e w9 ⟨rfl, hz9, hb9⟩
        have HT9 : Hid (SW (on D d n u9 A' S t none) w w.heap.size Z7 w9 ∧ Ls w w9 Z7 _ _ _ A' ∧ Ls w w9 Z7 _ _ _ S) := ⟨hz9, HT8.out.2.1.below hb9, HT8.out.2.2.below hb9⟩
        clear hz9 hb9 HT8
        go_wp2_with fail
        go_roundw
        case rel => exact ⟨j + 1, t, A', S, Z7, _, _, _, _, _, _, by have := HJ.out; omega, by have := HJ.out; omega, by have := HTb.out; omega, by go_num, rfl, rfl, rfl, HT9.out.2.1, HT9.out.2.2, HT9.out.1⟩
        case measure => simp [intOf]; omega
      · by_cases t1 : what = 1
        · obtain rfl := t1
          have g4 : Wl.cell? ⟨E, 4, none⟩ = some (.slice (f j).ea (f j).el (f j).ec) := HE.out.cell (i := 4) (by omega)
          have HEv : Hid (EvAt w (f j).ea (f j).el (f j).ef ∧ (f j).el ≤ (f j).ec ∧ (f j).ec ≤ maxLen) := ⟨HSt.out.et, HSt.out.ecap⟩
          have hfin : Fine n A := by obtain ⟨F, hF, _⟩ := HW.out.1.at_; exact (HO.out.on_fine hF).1
          have hdo := do_any (w := Wl) (f := (f j).ef) HW.out.2.1.ap.edges HW.out.2.1.len HW.out.2.1.le HW.out.2.1.max hfin (HEv.out.1.below HW.out.1.below) HEv.out.2.1 HEv.out.2.2
          have HFin : Hid (Fine n A) := hfin
          clear hfin
          go_wp2_with (first | rw [hO1, hWl, hE] | rw [hO1, hWl])
          refine hdo.mono ?_
          clear hdo
          rintro e w2 ⟨ob, M, oc, na, N', nc, err, A', out, rfl, ho1, ho2, hd1, hbl1, hob, ho3, ho4, hna, ho5, ho6, hf2, hown, hb2⟩
          have hz2 := sw_since (P := on D d n u9 A S t none) HO.out.on_k HO.out.on_o HW.out.1 hb2
          have hl1 : Ls w w2 (fun b => Y b ∨ (Wl.heap.size ≤ b ∧ b < w2.heap.size)) na N' nc A' := ⟨⟨hna, fun hne b' o' e' => by
            rcases hown with ⟨rfl, e⟩ | q
            · exact (HW.out.2.1.ap.apart (e ▸ hne) b' o' e').imp id fun q => Or.inl q
            · refine Or.inr (Or.inr ⟨q b' o' e', ?_⟩)
              obtain ⟨b3, o3, e3, hc3, _⟩ := hna.cell 0 (List.length_pos_iff.2 hne)
              rw [e'] at e3
              simp only [Option.some.injEq, Addr.mk.injEq, and_true] at e3
              have := World.block_lt_of_cell? _ _ hc3
              simp at this
              omega⟩, ho2, ho5, ho6⟩
          have hl2 := (HW.out.2.2.1.below hb2).more (Y := fun b => Y b ∨ (Wl.heap.size ≤ b ∧ b < w2.heap.size)) fun b q => Or.inl q
          have hYE : (fun b => Y b ∨ (Wl.heap.size ≤ b ∧ b < w2.heap.size)) E := Or.inl HW.out.2.2.2
          obtain ⟨Z, hZ⟩ : ∃ Z : Nat → Prop, (fun b => Y b ∨ (Wl.heap.size ≤ b ∧ b < w2.heap.size)) = Z := ⟨_, rfl⟩
          have hoa : ∀ b o, 0 < M → ob = some ⟨b, o, none⟩ → b < w2.heap.size := fun b' o' hM e' => by
            obtain ⟨b3, o3, e3, hc3⟩ := hbl1 0 (by omega)
            rw [e'] at e3
            simp only [Option.some.injEq, Addr.mk.injEq, and_true] at e3
            have := World.block_lt_of_cell? _ _ hc3
            simp at this
            omega
          have hobZ : out ≠ [] → ∀ b o, ob = some ⟨b, o, none⟩ → (fun b => Y b ∨ (Wl.heap.size ≤ b ∧ b < w2.heap.size)) b := fun hne b' o' e' => Or.inr ⟨hob b' o' e', hoa b' o' (by have := List.length_pos_iff.2 hne; omega) e'⟩
          have hobZ2 : out ≠ [] → ∀ b o, ob = some ⟨b, o, none⟩ → Z b := fun hne b' o' e' => by rw [← hZ]; exact hobZ hne b' o' e'
          rw [hZ] at hz2 hl1 hl2
          have HD : Hid (Does n A (evl (f j).ef (f j).el) err A' out ∧ out.length = M ∧ Fine n A' ∧ BlAt w2 ob out ∧ (out ≠ [] → ∀ b o, ob = some ⟨b, o, none⟩ → Z b)) := ⟨hd1, ho1, hf2, hbl1, hobZ2⟩
          have H2 : Hid (SW (on D d n u9 A S t none) w w.heap.size Z w2 ∧ Ls w w2 Z na N' nc A' ∧ Ls w w2 Z a2 N2 c2 S) := ⟨hz2, hl1, hl2⟩
          have g4 : w2.cell? ⟨E, 4, none⟩ = some (.slice (f j).ea (f j).el (f j).ec) := Br.cell_keep hb2 g4
          clear ho1 ho2 hd1 hbl1 ho3 ho4 hna ho5 ho6 hf2 hown hb2 hz2 hl1 hl2 hYE hZ hoa hob hobZ hobZ2 HW HE
          go_wp2_with fail
          refine (dw_do HO.out H2.out.1 (HEv.out.1.below H2.out.1.below) HEv.out.2.1 HEv.out.2.2 (fun q => ev_apart HEv.out.1 q)).mono ?_
          rintro e w3 ⟨v, x, A2, out2, oa2, oc2, he, her, hd2, hbl2, -, -, hz3, hs3⟩
          obtain ⟨rfl, rfl, rfl⟩ := HD.out.1.one hd2 HFin.out.up
          rw [HD.out.2.1] at he
          subst he
          have H3 : Hid (SW (on D d n u9 A' S t none) w w.heap.size Z w3 ∧ Ls w w3 Z na N' nc A' ∧ Ls w w3 Z a2 N2 c2 S ∧ BlAt w3 ob out ∧ BlAt w3 oa2 out) := ⟨hz3, H2.out.2.1.same H2.out.1.below hz3.below hs3, H2.out.2.2.same H2.out.1.below hz3.below hs3, HD.out.2.2.2.1.same hs3 HD.out.2.2.2.2, hbl2⟩
          have HEr : Hid (Er v err) := her
          clear hd2 hbl2 hz3 hs3 her g4 H2
          go_wp2_with fail
          refine (error_any (er_is HEr.out) (h0.below H3.out.1.below)).mono ?_
          rintro e w4 ⟨rfl, hb4⟩
          have H4 : Hid (SW (on D d n u9 A' S t none) w w.heap.size Z w4 ∧ Ls w w4 Z na N' nc A' ∧ Ls w w4 Z a2 N2 c2 S ∧ BlAt w4 ob out ∧ BlAt w4 oa2 out) := ⟨SW.step (P := on D d n u9 A' S t none) HO.out.on_k HO.out.on_o H3.out.1 hb4, H3.out.2.1.below hb4, H3.out.2.2.1.below hb4, H3.out.2.2.2.1.below hb4, H3.out.2.2.2.2.below hb4⟩
          clear hb4 H3
          go_wp2_with fail
          refine (As.bools_same (bl_at H4.out.2.2.2.2 HD.out.2.1) (bl_at H4.out.2.2.2.1 HD.out.2.1) (by have := HD.out.1.len; have := HD.out.2.1; omega)).mono ?_
          rintro e w5 ⟨rfl, hb5⟩
          have HT : Hid (SW (on D d n u9 A' S t none) w w.heap.size Z w5 ∧ Ls w w5 Z na N' nc A' ∧ Ls w w5 Z a2 N2 c2 S) := ⟨SW.step (P := on D d n u9 A' S t none) HO.out.on_k HO.out.on_o H4.out.1 hb5, H4.out.2.1.below hb5, H4.out.2.2.1.below hb5⟩
          have HTb : Hid (t ≤ j + 2) := show _ ≤ _ by have := HJ.out; omega
          clear hb5 H4
          go_wp2_with (first | rw [hO1, hWl, hE] | rw [hO1, hWl])
          refine (dw_graph HO.out HT.out.1).mono ?_
          rintro e w6 ⟨gv, rfl, hgr, hz6, hb6⟩
          have HT6 : Hid (SW (on D d n u9 A' S t none) w w.heap.size Z w6 ∧ Ls w w6 Z _ _ _ A' ∧ Ls w w6 Z _ _ _ S ∧ D.gr w6 gv n A') := ⟨hz6, HT.out.2.1.below hb6, HT.out.2.2.below hb6, hgr⟩
          have HFA : Hid (A'.length ≤ 200) := by
            obtain ⟨F, hF, _⟩ := hz6.at_
            exact (HO.out.on_fine hF).1.len
          clear hgr hz6 hb6 HT
          go_wp2_with fail
          refine (dw_edges HO.out HT6.out.1 HT6.out.2.2.2).mono ?_
          rintro e w7 ⟨ea, ec, Z7, he, -, -, hz7, hap7, hY7, hb7⟩
          rw [HT6.out.2.1.len] at he
          subst he
          have HT7 : Hid (SW (on D d n u9 A' S t none) w w.heap.size Z7 w7 ∧ Ls w w7 Z7 _ _ _ A' ∧ Ls w w7 Z7 _ _ _ S ∧ EdgesAt w7 ea A') := ⟨hz7, (HT6.out.2.1.below hb7).more hY7, (HT6.out.2.2.1.below hb7).more hY7, hap7.edges⟩
          clear hz7 hap7 hY7 hb7
          go_wp2_with fail
          refine (edges_same HT7.out.2.1.len HT7.out.2.2.2 HT7.out.2.1.ap.edges (by have := HT7.out.2.1.len; have := HFA.out; omega)).mono ?_
          rintro e w8 ⟨rfl, hb8⟩
          have HT8 : Hid (SW (on D d n u9 A' S t none) w w.heap.size Z7 w8 ∧ Ls w w8 Z7 _ _ _ A' ∧ Ls w w8 Z7 _ _ _ S) := ⟨SW.step (P := on D d n u9 A' S t none) HO.out.on_k HO.out.on_o HT7.out.1 hb8, HT7.out.2.1.below hb8, HT7.out.2.2.1.below hb8⟩
          clear hb8 HT7 HT6
          go_wp2_with fail
          refine (dw_turn HO.out HT8.out.1).mono ?_
          rintro e w9 ⟨rfl, hz9, hb9⟩
          have HT9 : Hid (SW (on D d n u9 A' S t none) w w.heap.size Z7 w9 ∧ Ls w w9 Z7 _ _ _ A' ∧ Ls w w9 Z7 _ _ _ S) := ⟨hz9, HT8.out.2.1.below hb9, HT8.out.2.2.below hb9⟩
          clear hz9 hb9 HT8
          go_wp2_with fail
          go_roundw
          case rel => exact ⟨j + 1, t, A', S, Z7, _, _, _, _, _, _, by have := HJ.out; omega, by have := HJ.out; omega, by have := HTb.out; omega, by go_num, rfl, rfl, rfl, HT9.out.2.1, HT9.out.2.2, HT9.out.1⟩
          case measure => simp [intOf]; omega
        · by_cases t2 : what = 2
          · obtain rfl := t2
            have g4 : Wl.cell? ⟨E, 4, none⟩ = some (.slice (f j).ea (f j).el (f j).ec) := HE.out.cell (i := 4) (by omega)
            have HEv : Hid (EvAt w (f j).ea (f j).el (f j).ef ∧ (f j).el ≤ (f j).ec ∧ (f j).ec ≤ maxLen) := ⟨HSt.out.et, HSt.out.ecap⟩
            have hfin : Fine n A := by obtain ⟨F, hF, _⟩ := HW.out.1.at_; exact (HO.out.on_fine hF).1
            have hdo := do_any (w := Wl) (f := (f j).ef) HW.out.2.1.ap.edges HW.out.2.1.len HW.out.2.1.le HW.out.2.1.max hfin (HEv.out.1.below HW.out.1.below) HEv.out.2.1 HEv.out.2.2
            have HFin : Hid (Fine n A) := hfin
            clear hfin
            go_wp2_with (first | rw [hO1, hWl, hE] | rw [hO1, hWl])
            refine hdo.mono ?_
            clear hdo
            rintro e w2 ⟨ob, M, oc, na, N', nc, err, A', out, rfl, ho1, ho2, hd1, hbl1, hob, ho3, ho4, hna, ho5, ho6, hf2, hown, hb2⟩
            have hz2 := sw_since (P := on D d n u9 A S t none) HO.out.on_k HO.out.on_o HW.out.1 hb2
            have hl1 : Ls w w2 (fun b => Y b ∨ (Wl.heap.size ≤ b ∧ b < w2.heap.size)) na N' nc A' := ⟨⟨hna, fun hne b' o' e' => by
              rcases hown with ⟨rfl, e⟩ | q
              · exact (HW.out.2.1.ap.apart (e ▸ hne) b' o' e').imp id fun q => Or.inl q
              · refine Or.inr (Or.inr ⟨q b' o' e', ?_⟩)
                obtain ⟨b3, o3, e3, hc3, _⟩ := hna.cell 0 (List.length_pos_iff.2 hne)
                rw [e'] at e3
                simp only [Option.some.injEq, Addr.mk.injEq, and_true] at e3
                have := World.block_lt_of_cell? _ _ hc3
                simp at this
                omega⟩, ho2, ho5, ho6⟩
            have hl2 := (HW.out.2.2.1.below hb2).more (Y := fun b => Y b ∨ (Wl.heap.size ≤ b ∧ b < w2.heap.size)) fun b q => Or.inl q
            have hYE : (fun b => Y b ∨ (Wl.heap.size ≤ b ∧ b < w2.heap.size)) E := Or.inl HW.out.2.2.2
            obtain ⟨Z, hZ⟩ : ∃ Z : Nat → Prop, (fun b => Y b ∨ (Wl.heap.size ≤ b ∧ b < w2.heap.size)) = Z := ⟨_, rfl⟩
            have hoa : ∀ b o, 0 < M → ob = some ⟨b, o, none⟩ → b < w2.heap.size := fun b' o' hM e' => by
              obtain ⟨b3, o3, e3, hc3⟩ := hbl1 0 (by omega)
              rw [e'] at e3
              simp only [Option.some.injEq, Addr.mk.injEq, and_true] at e3
              have := World.block_lt_of_cell? _ _ hc3
              simp at this
              omega
            have hobZ : out ≠ [] → ∀ b o, ob = some ⟨b, o, none⟩ → (fun b => Y b ∨ (Wl.heap.size ≤ b ∧ b < w2.heap.size)) b := fun hne b' o' e' => Or.inr ⟨hob b' o' e', hoa b' o' (by have := List.length_pos_iff.2 hne; omega) e'⟩
            have hobZ2 : out ≠ [] → ∀ b o, ob = some ⟨b, o, none⟩ → Z b := fun hne b' o' e' => by rw [← hZ]; exact hobZ hne b' o' e'
            rw [hZ] at hz2 hl1 hl2
            have HD : Hid (Does n A (evl (f j).ef (f j).el) err A' out ∧ out.length = M ∧ Fine n A' ∧ BlAt w2 ob out ∧ (out ≠ [] → ∀ b o, ob = some ⟨b, o, none⟩ → Z b)) := ⟨hd1, ho1, hf2, hbl1, hobZ2⟩
            have H2 : Hid (SW (on D d n u9 A S t none) w w.heap.size Z w2 ∧ Ls w w2 Z na N' nc A' ∧ Ls w w2 Z a2 N2 c2 S) := ⟨hz2, hl1, hl2⟩
            have g4 : w2.cell? ⟨E, 4, none⟩ = some (.slice (f j).ea (f j).el (f j).ec) := Br.cell_keep hb2 g4
            clear ho1 ho2 hd1 hbl1 ho3 ho4 hna ho5 ho6 hf2 hown hb2 hz2 hl1 hl2 hYE hZ hoa hob hobZ hobZ2 HW HE
            go_wp2_with fail
            refine (dw_do HO.out H2.out.1 (HEv.out.1.below H2.out.1.below) HEv.out.2.1 HEv.out.2.2 (fun q => ev_apart HEv.out.1 q)).mono ?_
            rintro e w3 ⟨v, x, A2, out2, oa2, oc2, he, her, hd2, hbl2, -, -, hz3, hs3⟩
            obtain ⟨rfl, rfl, rfl⟩ := HD.out.1.one hd2 HFin.out.up
            rw [HD.out.2.1] at he
            subst he
            have H3 : Hid (SW (on D d n u9 A' S t none) w w.heap.size Z w3 ∧ Ls w w3 Z na N' nc A' ∧ Ls w w3 Z a2 N2 c2 S ∧ BlAt w3 ob out ∧ BlAt w3 oa2 out) := ⟨hz3, H2.out.2.1.same H2.out.1.below hz3.below hs3, H2.out.2.2.same H2.out.1.below hz3.below hs3, HD.out.2.2.2.1.same hs3 HD.out.2.2.2.2, hbl2⟩
            have HEr : Hid (Er v err) := her
            clear hd2 hbl2 hz3 hs3 her g4 H2
            go_wp2_with fail
            refine (error_any (er_is HEr.out) (h0.below H3.out.1.below)).mono ?_
            rintro e w4 ⟨rfl, hb4⟩
            have H4 : Hid (SW (on D d n u9 A' S t none) w w.heap.size Z w4 ∧ Ls w w4 Z na N' nc A' ∧ Ls w w4 Z a2 N2 c2 S ∧ BlAt w4 ob out ∧ BlAt w4 oa2 out) := ⟨SW.step (P := on D d n u9 A' S t none) HO.out.on_k HO.out.on_o H3.out.1 hb4, H3.out.2.1.below hb4, H3.out.2.2.1.below hb4, H3.out.2.2.2.1.below hb4, H3.out.2.2.2.2.below hb4⟩
            clear hb4 H3
            go_wp2_with fail
            refine (As.bools_same (bl_at H4.out.2.2.2.2 HD.out.2.1) (bl_at H4.out.2.2.2.1 HD.out.2.1) (by have := HD.out.1.len; have := HD.out.2.1; omega)).mono ?_
            rintro e w5 ⟨rfl, hb5⟩
            have HT : Hid (SW (on D d n u9 A' S t none) w w.heap.size Z w5 ∧ Ls w w5 Z na N' nc A' ∧ Ls w w5 Z a2 N2 c2 S) := ⟨SW.step (P := on D d n u9 A' S t none) HO.out.on_k HO.out.on_o H4.out.1 hb5, H4.out.2.1.below hb5, H4.out.2.2.1.below hb5⟩
            have HTb : Hid (t ≤ j + 2) := show _ ≤ _ by have := HJ.out; omega
            clear hb5 H4
            go_wp2_with (first | rw [hO1, hWl, hE] | rw [hO1, hWl])
            refine (dw_graph HO.out HT.out.1).mono ?_
            rintro e w6 ⟨gv, rfl, hgr, hz6, hb6⟩
            have HT6 : Hid (SW (on D d n u9 A' S t none) w w.heap.size Z w6 ∧ Ls w w6 Z _ _ _ A' ∧ Ls w w6 Z _ _ _ S ∧ D.gr w6 gv n A') := ⟨hz6, HT.out.2.1.below hb6, HT.out.2.2.below hb6, hgr⟩
            have HFA : Hid (A'.length ≤ 200) := by
              obtain ⟨F, hF, _⟩ := hz6.at_
              exact (HO.out.on_fine hF).1.len
            clear hgr hz6 hb6 HT
            go_wp2_with fail
            refine (dw_edges HO.out HT6.out.1 HT6.out.2.2.2).mono ?_
            rintro e w7 ⟨ea, ec, Z7, he, -, -, hz7, hap7, hY7, hb7⟩
            rw [HT6.out.2.1.len] at he
            subst he
            have HT7 : Hid (SW (on D d n u9 A' S t none) w w.heap.size Z7 w7 ∧ Ls w w7 Z7 _ _ _ A' ∧ Ls w w7 Z7 _ _ _ S ∧ EdgesAt w7 ea A') := ⟨hz7, (HT6.out.2.1.below hb7).more hY7, (HT6.out.2.2.1.below hb7).more hY7, hap7.edges⟩
            clear hz7 hap7 hY7 hb7
            go_wp2_with fail
            refine (edges_same HT7.out.2.1.len HT7.out.2.2.2 HT7.out.2.1.ap.edges (by have := HT7.out.2.1.len; have := HFA.out; omega)).mono ?_
            rintro e w8 ⟨rfl, hb8⟩
            have HT8 : Hid (SW (on D d n u9 A' S t none) w w.heap.size Z7 w8 ∧ Ls w w8 Z7 _ _ _ A' ∧ Ls w w8 Z7 _ _ _ S) := ⟨SW.step (P := on D d n u9 A' S t none) HO.out.on_k HO.out.on_o HT7.out.1 hb8, HT7.out.2.1.below hb8, HT7.out.2.2.1.below hb8⟩
            clear hb8 HT7 HT6
            go_wp2_with fail
            refine (dw_turn HO.out HT8.out.1).mono ?_
            rintro e w9 ⟨rfl, hz9, hb9⟩
            have HT9 : Hid (SW (on D d n u9 A' S t none) w w.heap.size Z7 w9 ∧ Ls w w9 Z7 _ _ _ A' ∧ Ls w w9 Z7 _ _ _ S) := ⟨hz9, HT8.out.2.1.below hb9, HT8.out.2.2.below hb9⟩
            clear hz9 hb9 HT8
            go_wp2_with fail
            go_roundw
            case rel => exact ⟨j + 1, t, A', S, Z7, _, _, _, _, _, _, by have := HJ.out; omega, by have := HJ.out; omega, by have := HTb.out; omega, by go_num, rfl, rfl, rfl, HT9.out.2.1, HT9.out.2.2, HT9.out.1⟩
            case measure => simp [intOf]; omega
          · by_cases t3 : what = 3
            · obtain rfl := t3
              have g4 : Wl.cell? ⟨E, 4, none⟩ = some (.slice (f j).ea (f j).el (f j).ec) := HE.out.cell (i := 4) (by omega)
              have HEv : Hid (EvAt w (f j).ea (f j).el (f j).ef ∧ (f j).el ≤ (f j).ec ∧ (f j).ec ≤ maxLen) := ⟨HSt.out.et, HSt.out.ecap⟩
              have hfin : Fine n A := by obtain ⟨F, hF, _⟩ := HW.out.1.at_; exact (HO.out.on_fine hF).1
              have hdo := do_any (w := Wl) (f := (f j).ef) HW.out.2.1.ap.edges HW.out.2.1.len HW.out.2.1.le HW.out.2.1.max hfin (HEv.out.1.below HW.out.1.below) HEv.out.2.1 HEv.out.2.2
              have HFin : Hid (Fine n A) := hfin
              clear hfin
              go_wp2_with (first | rw [hO1, hWl, hE] | rw [hO1, hWl])
              refine hdo.mono ?_
              clear hdo
              rintro e w2 ⟨ob, M, oc, na, N', nc, err, A', out, rfl, ho1, ho2, hd1, hbl1, hob, ho3, ho4, hna, ho5, ho6, hf2, hown, hb2⟩
              have hz2 := sw_since (P := on D d n u9 A S t none) HO.out.on_k HO.out.on_o HW.out.1 hb2
              have hl1 : Ls w w2 (fun b => Y b ∨ (Wl.heap.size ≤ b ∧ b < w2.heap.size)) na N' nc A' := ⟨⟨hna, fun hne b' o' e' => by
                rcases hown with ⟨rfl, e⟩ | q
                · exact (HW.out.2.1.ap.apart (e ▸ hne) b' o' e').imp id fun q => Or.inl q
                · refine Or.inr (Or.inr ⟨q b' o' e', ?_⟩)
                  obtain ⟨b3, o3, e3, hc3, _⟩ := hna.cell 0 (List.length_pos_iff.2 hne)
                  rw [e'] at e3
                  simp only [Option.some.injEq, Addr.mk.injEq, and_true] at e3
                  have := World.block_lt_of_cell? _ _ hc3
                  simp at this
                  omega⟩, ho2, ho5, ho6⟩
              have hl2 := (HW.out.2.2.1.below hb2).more (Y := fun b => Y b ∨ (Wl.heap.size ≤ b ∧ b < w2.heap.size)) fun b q => Or.inl q
              have hYE : (fun b => Y b ∨ (Wl.heap.size ≤ b ∧ b < w2.heap.size)) E := Or.inl HW.out.2.2.2
              obtain ⟨Z, hZ⟩ : ∃ Z : Nat → Prop, (fun b => Y b ∨ (Wl.heap.size ≤ b ∧ b < w2.heap.size)) = Z := ⟨_, rfl⟩
              have hoa : ∀ b o, 0 < M → ob = some ⟨b, o, none⟩ → b < w2.heap.size := fun b' o' hM e' => by
                obtain ⟨b3, o3, e3, hc3⟩ := hbl1 0 (by omega)
                rw [e'] at e3
                simp only [Option.some.injEq, Addr.mk.injEq, and_true] at e3
                have := World.block_lt_of_cell? _ _ hc3
                simp at this
                omega
              have hobZ : out ≠ [] → ∀ b o, ob = some ⟨b, o, none⟩ → (fun b => Y b ∨ (Wl.heap.size ≤ b ∧ b < w2.heap.size)) b := fun hne b' o' e' => Or.inr ⟨hob b' o' e', hoa b' o' (by have := List.length_pos_iff.2 hne; omega) e'⟩
              have hobZ2 : out ≠ [] → ∀ b o, ob = some ⟨b, o, none⟩ → Z b := fun hne b' o' e' => by rw [← hZ]; exact hobZ hne b' o' e'
              rw [hZ] at hz2 hl1 hl2
              have HD : Hid (Does n A (evl (f j).ef (f j).el) err A' out ∧ out.length = M ∧ Fine n A' ∧ BlAt w2 ob out ∧ (out ≠ [] → ∀ b o, ob = some ⟨b, o, none⟩ → Z b)) := ⟨hd1, ho1, hf2, hbl1, hobZ2⟩
              have H2 : Hid (SW (on D d n u9 A S t none) w w.heap.size Z w2 ∧ Ls w w2 Z na N' nc A' ∧ Ls w w2 Z a2 N2 c2 S) := ⟨hz2, hl1, hl2⟩
              have g4 : w2.cell? ⟨E, 4, none⟩ = some (.slice (f j).ea (f j).el (f j).ec) := Br.cell_keep hb2 g4
              clear ho1 ho2 hd1 hbl1 ho3 ho4 hna ho5 ho6 hf2 hown hb2 hz2 hl1 hl2 hYE hZ hoa hob hobZ hobZ2 HW HE
              go_wp2_with fail
              refine (dw_do HO.out H2.out.1 (HEv.out.1.below H2.out.1.below) HEv.out.2.1 HEv.out.2.2 (fun q => ev_apart HEv.out.1 q)).mono ?_
              rintro e w3 ⟨v, x, A2, out2, oa2, oc2, he, her, hd2, hbl2, -, -, hz3, hs3⟩
              obtain ⟨rfl, rfl, rfl⟩ := HD.out.1.one hd2 HFin.out.up
              rw [HD.out.2.1] at he
              subst he
              have H3 : Hid (SW (on D d n u9 A' S t none) w w.heap.size Z w3 ∧ Ls w w3 Z na N' nc A' ∧ Ls w w3 Z a2 N2 c2 S ∧ BlAt w3 ob out ∧ BlAt w3 oa2 out) := ⟨hz3, H2.out.2.1.same H2.out.1.below hz3.below hs3, H2.out.2.2.same H2.out.1.below hz3.below hs3, HD.out.2.2.2.1.same hs3 HD.out.2.2.2.2, hbl2⟩
              have HEr : Hid (Er v err) := her
              clear hd2 hbl2 hz3 hs3 her g4 H2
              go_wp2_with fail
              refine (error_any (er_is HEr.out) (h0.below H3.out.1.below)).mono ?_
              rintro e w4 ⟨rfl, hb4⟩
              have H4 : Hid (SW (on D d n u9 A' S t none) w w.heap.size Z w4 ∧ Ls w w4 Z na N' nc A' ∧ Ls w w4 Z a2 N2 c2 S ∧ BlAt w4 ob out ∧ BlAt w4 oa2 out) := ⟨SW.step (P := on D d n u9 A' S t none) HO.out.on_k HO.out.on_o H3.out.1 hb4, H3.out.2.1.below hb4, H3.out.2.2.1.below hb4, H3.out.2.2.2.1.below hb4, H3.out.2.2.2.2.below hb4⟩
              clear hb4 H3
              go_wp2_with fail
              refine (As.bools_same (bl_at H4.out.2.2.2.2 HD.out.2.1) (bl_at H4.out.2.2.2.1 HD.out.2.1) (by have := HD.out.1.len; have := HD.out.2.1; omega)).mono ?_
              rintro e w5 ⟨rfl, hb5⟩
              have HT : Hid (SW (on D d n u9 A' S t none) w w.heap.size Z w5 ∧ Ls w w5 Z na N' nc A' ∧ Ls w w5 Z a2 N2 c2 S) := ⟨SW.step (P := on D d n u9 A' S t none) HO.out.on_k HO.out.on_o H4.out.1 hb5, H4.out.2.1.below hb5, H4.out.2.2.1.below hb5⟩
              have HTb : Hid (t ≤ j + 2) := show _ ≤ _ by have := HJ.out; omega
              clear hb5 H4
              go_wp2_with (first | rw [hO1, hWl, hE] | rw [hO1, hWl])
              refine (dw_graph HO.out HT.out.1).mono ?_
              rintro e w6 ⟨gv, rfl, hgr, hz6, hb6⟩
              have HT6 : Hid (SW (on D d n u9 A' S t none) w w.heap.size Z w6 ∧ Ls w w6 Z _ _ _ A' ∧ Ls w w6 Z _ _ _ S ∧ D.gr w6 gv n A') := ⟨hz6, HT.out.2.1.below hb6, HT.out.2.2.below hb6, hgr⟩
              have HFA : Hid (A'.length ≤ 200) := by
                obtain ⟨F, hF, _⟩ := hz6.at_
                exact (HO.out.on_fine hF).1.len
              clear hgr hz6 hb6 HT
              go_wp2_with fail
              refine (dw_edges HO.out HT6.out.1 HT6.out.2.2.2).mono ?_
              rintro e w7 ⟨ea, ec, Z7, he, -, -, hz7, hap7, hY7, hb7⟩
              rw [HT6.out.2.1.len] at he
              subst he
              have HT7 : Hid (SW (on D d n u9 A' S t none) w w.heap.size Z7 w7 ∧ Ls w w7 Z7 _ _ _ A' ∧ Ls w w7 Z7 _ _ _ S ∧ EdgesAt w7 ea A') := ⟨hz7, (HT6.out.2.1.below hb7).more hY7, (HT6.out.2.2.1.below hb7).more hY7, hap7.edges⟩
              clear hz7 hap7 hY7 hb7
              go_wp2_with fail
              refine (edges_same HT7.out.2.1.len HT7.out.2.2.2 HT7.out.2.1.ap.edges (by have := HT7.out.2.1.len; have := HFA.out; omega)).mono ?_
              rintro e w8 ⟨rfl, hb8⟩
              have HT8 : Hid (SW (on D d n u9 A' S t none) w w.heap.size Z7 w8 ∧ Ls w w8 Z7 _ _ _ A' ∧ Ls w w8 Z7 _ _ _ S) := ⟨SW.step (P := on D d n u9 A' S t none) HO.out.on_k HO.out.on_o HT7.out.1 hb8, HT7.out.2.1.below hb8, HT7.out.2.2.1.below hb8⟩
              clear hb8 HT7 HT6
              go_wp2_with fail
              refine (dw_turn HO.out HT8.out.1).mono ?_
              rintro e w9 ⟨rfl, hz9, hb9⟩
              have HT9 : Hid (SW (on D d n u9 A' S t none) w w.heap.size Z7 w9 ∧ Ls w w9 Z7 _ _ _ A' ∧ Ls w w9 Z7 _ _ _ S) := ⟨hz9, HT8.out.2.1.below hb9, HT8.out.2.2.below hb9⟩
              clear hz9 hb9 HT8
              go_wp2_with fail
              go_roundw
              case rel => exact ⟨j + 1, t, A', S, Z7, _, _, _, _, _, _, by have := HJ.out; omega, by have := HJ.out; omega, by have := HTb.out; omega, by go_num, rfl, rfl, rfl, HT9.out.2.1, HT9.out.2.2, HT9.out.1⟩
              case measure => simp [intOf]; omega
            · by_cases t4 : what = 4
              · obtain rfl := t4
                go_wp2_with (first | rw [hO1, hWl, hE] | rw [hO1, hWl])
                refine (dw_save HO.out HW.out.1 (by have := HJ.out; omega)).mono ?_
                rintro e w2 ⟨hor, hs2⟩
                replace hor := hor.resolve_right fun q => q.2.1 rfl
                obtain ⟨g', rfl, hz2, hg⟩ := hor
                obtain rfl := hg rfl
                obtain ⟨u, hu⟩ : ∃ u, t + 1 = u := ⟨_, rfl⟩
                rw [hu] at hz2
                have c5 : IntKind.i64.wrap ((t : Int) + 1) = (u : Int) := by rw [IntKind.wrap_i64]; have := HJ.out; omega
                have hl := HW.out.2.1.same HW.out.1.below hz2.below hs2
                have HT : Hid (SW (on D d n u9 A A u none) w w.heap.size Y w2 ∧ Ls w w2 Y a1 N1 c1 A ∧ Ls w w2 Y a1 N1 c1 A) := ⟨hz2, hl, hl⟩
                have HTb : Hid (u ≤ j + 2) := show _ ≤ _ by have := HJ.out; omega
                clear hs2 hz2 hg hu hl HW HE g0
                go_wp2_with (first | rw [hO1, hWl, hE] | rw [hO1, hWl])
                refine (dw_graph HO.out HT.out.1).mono ?_
                rintro e w6 ⟨gv, rfl, hgr, hz6, hb6⟩
                have HT6 : Hid (SW (on D d n u9 A A u none) w w.heap.size Y w6 ∧ Ls w w6 Y _ _ _ A ∧ Ls w w6 Y _ _ _ A ∧ D.gr w6 gv n A) := ⟨hz6, HT.out.2.1.below hb6, HT.out.2.2.below hb6, hgr⟩
                have HFA : Hid (A.length ≤ 200) := by
                  obtain ⟨F, hF, _⟩ := hz6.at_
                  exact (HO.out.on_fine hF).1.len
                clear hgr hz6 hb6 HT
                go_wp2_with fail
                refine (dw_edges HO.out HT6.out.1 HT6.out.2.2.2).mono ?_
                rintro e w7 ⟨ea, ec, Z7, he, -, -, hz7, hap7, hY7, hb7⟩
                rw [HT6.out.2.1.len] at he
                subst he
                have HT7 : Hid (SW (on D d n u9 A A u none) w w.heap.size Z7 w7 ∧ Ls w w7 Z7 _ _ _ A ∧ Ls w w7 Z7 _ _ _ A ∧ EdgesAt w7 ea A) := ⟨hz7, (HT6.out.2.1.below hb7).more hY7, (HT6.out.2.2.1.below hb7).more hY7, hap7.edges⟩
                clear hz7 hap7 hY7 hb7
                go_wp2_with fail
                refine (edges_same HT7.out.2.1.len HT7.out.2.2.2 HT7.out.2.1.ap.edges (by have := HT7.out.2.1.len; have := HFA.out; omega)).mono ?_
                rintro e w8 ⟨rfl, hb8⟩
                have HT8 : Hid (SW (on D d n u9 A A u none) w w.heap.size Z7 w8 ∧ Ls w w8 Z7 _ _ _ A ∧ Ls w w8 Z7 _ _ _ A) := ⟨SW.step (P := on D d n u9 A A u none) HO.out.on_k HO.out.on_o HT7.out.1 hb8, HT7.out.2.1.below hb8, HT7.out.2.2.1.below hb8⟩
                clear hb8 HT7 HT6
                go_wp2_with fail
                refine (dw_turn HO.out HT8.out.1).mono ?_
                rintro e w9 ⟨rfl, hz9, hb9⟩
                have HT9 : Hid (SW (on D d n u9 A A u none) w w.heap.size Z7 w9 ∧ Ls w w9 Z7 _ _ _ A ∧ Ls w w9 Z7 _ _ _ A) := ⟨hz9, HT8.out.2.1.below hb9, HT8.out.2.2.below hb9⟩
                clear hz9 hb9 HT8
                go_wp2_with fail
                go_roundw
                case rel => exact ⟨j + 1, u, A, A, Z7, _, _, _, _, _, _, by have := HJ.out; omega, by have := HJ.out; omega, by have := HTb.out; omega, by go_num, rfl, rfl, rfl, HT9.out.2.1, HT9.out.2.2, HT9.out.1⟩
                case measure => simp [intOf]; omega
              · by_cases t6 : what = 6
                · obtain rfl := t6
                  have g3 : Wl.cell? ⟨E, 3, none⟩ = some (.slice (f j).ka (f j).kl (f j).kc) := HE.out.cell (i := 3) (by omega)
                  go_wp2_with (first | rw [hO1, hWl, hE] | rw [hO1, hWl])
                  refine (dw_crash HO.out HW.out.1 (HSt.out.kt.below HW.out.1.below) HSt.out.kcap.1 HSt.out.kcap.2 (Sk.num_apart HSt.out.kt)).mono ?_
                  rintro e w2 ⟨rfl, hz2, hs2⟩
                  have H2 : Hid (SW (kept D d n S t) w w.heap.size Y w2 ∧ Ls w w2 Y a2 N2 c2 S) := ⟨hz2, HW.out.2.2.1.same HW.out.1.below hz2.below hs2⟩
                  clear hz2 hs2 HW HE g0 g3
                  go_wp2_with fail
                  refine (dw_open HO.out H2.out.1 (by have := HJ.out; omega)).mono ?_
                  rintro e w3 ⟨k3, rfl, hz3, hs3⟩
                  have hl := H2.out.2.same H2.out.1.below hz3.below hs3
                  have HT : Hid (SW (on D d n k3 S S t none) w w.heap.size Y w3 ∧ Ls w w3 Y a2 N2 c2 S ∧ Ls w w3 Y a2 N2 c2 S) := ⟨hz3, hl, hl⟩
                  have HTb : Hid (t ≤ j + 2) := show _ ≤ _ by have := HJ.out; omega
                  clear hz3 hs3 hl H2
                  go_wp2_with (first | rw [hO1, hWl, hE] | rw [hO1, hWl])
                  refine (dw_graph HO.out HT.out.1).mono ?_
                  rintro e w6 ⟨gv, rfl, hgr, hz6, hb6⟩
                  have HT6 : Hid (SW (on D d n k3 S S t none) w w.heap.size Y w6 ∧ Ls w w6 Y _ _ _ S ∧ Ls w w6 Y _ _ _ S ∧ D.gr w6 gv n S) := ⟨hz6, HT.out.2.1.below hb6, HT.out.2.2.below hb6, hgr⟩
                  have HFA : Hid (S.length ≤ 200) := by
                    obtain ⟨F, hF, _⟩ := hz6.at_
                    exact (HO.out.on_fine hF).1.len
                  clear hgr hz6 hb6 HT
                  go_wp2_with fail
                  refine (dw_edges HO.out HT6.out.1 HT6.out.2.2.2).mono ?_
                  rintro e w7 ⟨ea, ec, Z7, he, -, -, hz7, hap7, hY7, hb7⟩
                  rw [HT6.out.2.1.len] at he
                  subst he
                  have HT7 : Hid (SW (on D d n k3 S S t none) w w.heap.size Z7 w7 ∧ Ls w w7 Z7 _ _ _ S ∧ Ls w w7 Z7 _ _ _ S ∧ EdgesAt w7 ea S) := ⟨hz7, (HT6.out.2.1.below hb7).more hY7, (HT6.out.2.2.1.below hb7).more hY7, hap7.edges⟩
                  clear hz7 hap7 hY7 hb7
                  go_wp2_with fail
                  refine (edges_same HT7.out.2.1.len HT7.out.2.2.2 HT7.out.2.1.ap.edges (by have := HT7.out.2.1.len; have := HFA.out; omega)).mono ?_
                  rintro e w8 ⟨rfl, hb8⟩
                  have HT8 : Hid (SW (on D d n k3 S S t none) w w.heap.size Z7 w8 ∧ Ls w w8 Z7 _ _ _ S ∧ Ls w w8 Z7 _ _ _ S) := ⟨SW.step (P := on D d n k3 S S t none) HO.out.on_k HO.out.on_o HT7.out.1 hb8, HT7.out.2.1.below hb8, HT7.out.2.2.1.below hb8⟩
                  clear hb8 HT7 HT6
                  go_wp2_with fail
                  refine (dw_turn HO.out HT8.out.1).mono ?_
                  rintro e w9 ⟨rfl, hz9, hb9⟩
                  have HT9 : Hid (SW (on D d n k3 S S t none) w w.heap.size Z7 w9 ∧ Ls w w9 Z7 _ _ _ S ∧ Ls w w9 Z7 _ _ _ S) := ⟨hz9, HT8.out.2.1.below hb9, HT8.out.2.2.below hb9⟩
                  clear hz9 hb9 HT8
                  go_wp2_with fail
                  go_roundw
                  case rel => exact ⟨j + 1, t, S, S, Z7, _, _, _, _, _, _, by have := HJ.out; omega, by have := HJ.out; omega, by have := HTb.out; omega, by go_num, rfl, rfl, rfl, HT9.out.2.1, HT9.out.2.2, HT9.out.1⟩
                  case measure => simp [intOf]; omega
                · have HT : Hid (SW (on D d n u9 A S t none) w w.heap.size Y Wl ∧ Ls w Wl Y a1 N1 c1 A ∧ Ls w Wl Y a2 N2 c2 S) := ⟨HW.out.1, HW.out.2.1, HW.out.2.2.1⟩
                  have HTb : Hid (t ≤ j + 2) := show _ ≤ _ by have := HJ.out; omega
                  go_wp2_with (first | rw [hO1, hWl, hE] | rw [hO1, hWl])
                  refine (dw_graph HO.out HT.out.1).mono ?_
                  rintro e w6 ⟨gv, rfl, hgr, hz6, hb6⟩
                  have HT6 : Hid (SW (on D d n u9 A S t none) w w.heap.size Y w6 ∧ Ls w w6 Y _ _ _ A ∧ Ls w w6 Y _ _ _ S ∧ D.gr w6 gv n A) := ⟨hz6, HT.out.2.1.below hb6, HT.out.2.2.below hb6, hgr⟩
                  have HFA : Hid (A.length ≤ 200) := by
                    obtain ⟨F, hF, _⟩ := hz6.at_
                    exact (HO.out.on_fine hF).1.len
                  clear hgr hz6 hb6 HT
                  go_wp2_with fail
                  refine (dw_edges HO.out HT6.out.1 HT6.out.2.2.2).mono ?_
                  rintro e w7 ⟨ea, ec, Z7, he, -, -, hz7, hap7, hY7, hb7⟩
                  rw [HT6.out.2.1.len] at he
                  subst he
                  have HT7 : Hid (SW (on D d n u9 A S t none) w w.heap.size Z7 w7 ∧ Ls w w7 Z7 _ _ _ A ∧ Ls w w7 Z7 _ _ _ S ∧ EdgesAt w7 ea A) := ⟨hz7, (HT6.out.2.1.below hb7).more hY7, (HT6.out.2.2.1.below hb7).more hY7, hap7.edges⟩
                  clear hz7 hap7 hY7 hb7
                  go_wp2_with fail
                  refine (edges_same HT7.out.2.1.len HT7.out.2.2.2 HT7.out.2.1.ap.edges (by have := HT7.out.2.1.len; have := HFA.out; omega)).mono ?_
                  rintro e w8 ⟨rfl, hb8⟩
                  have HT8 : Hid (SW (on D d n u9 A S t none) w w.heap.size Z7 w8 ∧ Ls w w8 Z7 _ _ _ A ∧ Ls w w8 Z7 _ _ _ S) := ⟨SW.step (P := on D d n u9 A S t none) HO.out.on_k HO.out.on_o HT7.out.1 hb8, HT7.out.2.1.below hb8, HT7.out.2.2.1.below hb8⟩
                  clear hb8 HT7 HT6
                  go_wp2_with fail
                  refine (dw_turn HO.out HT8.out.1).mono ?_
                  rintro e w9 ⟨rfl, hz9, hb9⟩
                  have HT9 : Hid (SW (on D d n u9 A S t none) w w.heap.size Z7 w9 ∧ Ls w w9 Z7 _ _ _ A ∧ Ls w w9 Z7 _ _ _ S) := ⟨hz9, HT8.out.2.1.below hb9, HT8.out.2.2.below hb9⟩
                  clear hz9 hb9 HT8
                  go_wp2_with fail
                  go_roundw
                  case rel => exact ⟨j + 1, t, A, S, Z7, _, _, _, _, _, _, by have := HJ.out; omega, by have := HJ.out; omega, by have := HTb.out; omega, by go_num, rfl, rfl, rfl, HT9.out.2.1, HT9.out.2.2, HT9.out.1⟩
                  case measure => simp [intOf]; omega
    · have HB : Hid (Below w.heap.size w wr) := hz.below
      clear hz hl1 hl2
      by_cases h1 : j < m
      · have i1 : (j : Int) < (m : Int) := by omega
        have i2 : ¬ (j : Int) < 25 := by omega
        go_wp2_with fail
        go_ret
        exact ⟨rfl, HB.out⟩
      · have i1 : ¬ (j : Int) < (m : Int) := by omega
        go_wp2_with fail
        go_ret
        exact ⟨rfl, HB.out⟩

theorem desk_plays (O : DeskOk D) (h0 : ErrType w) (hs : ScAt w a m f) (p : Int) :
    Calls Tryz.prog 3 #[.int .i64 p, .slice a m c] w fun e w' => e = .returned (.bool true) ∧ Below w.heap.size w w' := by
  by_cases hp : p < 1 ∨ 60 < p
  · exact dplays_no O h0 p hp
  · obtain ⟨n, rfl⟩ := Int.eq_ofNat_of_zero_le (show 0 ≤ p by omega)
    exact dplays_ok O h0 hs (by omega) (by omega)

end Go.Proofs.YtcfemppdeidjmacGreatDoor.Ds
