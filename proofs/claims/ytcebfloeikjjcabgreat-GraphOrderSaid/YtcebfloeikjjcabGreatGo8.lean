/-
  GraphOrder: the walk of the statement.
-/
import Derived.Test.YtcebfloeikjjcabGreatGo2
import Derived.Test.YtcebfloeikjjcabGreatGo3
import Derived.Test.YtcebfloeikjjcabGreatGo5
import Derived.Test.YtcebfloeikjjcabGreatGo6
import Derived.Test.YtcebfloeikjjcabGreatGo7
namespace Go.Proofs.YtcebfloeikjjcabGreat.Gr
open Go.RowKit Go.Deep Go.Maps
open Go.RowKit (Below)
set_option linter.unusedVariables false

theorem OW.more {wH w : World} {H : GPl} {hb0 k k' : Nat} {M : Nat × Nat → Prop} {ss : List (Nat × Nat)} {v : Value} (h : OW wH H hb0 M k ss v w) (hk : k ≤ k') : OW wH H hb0 M k' ss v w := by
  obtain ⟨B, lv, tr, gw, hm, hl⟩ := h.gw
  exact ⟨⟨B, lv, tr, gw, hm, Nat.le_trans hl hk⟩, h.own, h.foot, h.base, h.top⟩

set_option maxRecDepth 1000000 in
set_option maxHeartbeats 8000000 in
theorem order_some {a am : Option Addr} {la ca lm cm : Nat} {w : World} (hs : Script4 w a la) (hs2 : Script4 w am lm) (n : Nat) (h1 : 1 ≤ n) (h60 : n ≤ 60) :
    Calls Tryz.prog 4 #[.int .i64 (n : Nat), .slice a la ca, .slice am lm cm] w fun e w' => e = .returned (.bool true) ∧ Below w.heap.size w w' := by
  have HS : Hid (Script4 w a la ∧ Script4 w am lm) := ⟨hs, hs2⟩
  clear hs hs2
  go_enter Tryz.func4, Tryz.ntmps4
  go_wp2_with fail
  refine (v_new w).mono ?_
  rintro e w1 ⟨Z, rfl, hz0⟩
  have ha1 := v_add hz0
  clear hz0
  go_wp2_with fail
  refine ha1.mono ?_
  rintro e w2 ⟨rfl, hz1⟩
  have hp2 := v_parts hz1
  clear ha1 hz1
  go_wp2_with fail
  refine hp2.mono ?_
  rintro e w3 ⟨rfl, hb3⟩
  clear hp2
  go_wp2_with fail
  refine (gnew_any (w := w3) n h1 h60).mono ?_
  rintro e w4 ⟨G, rfl, hb4, h4, hn4, hf4⟩
  subst hn4
  have HG : Hid (GW w G [] (fun _ => 0) (fun _ => false) w4) := (⟨h4, below_step hb3 hb4, fun c hc => Nat.le_trans hb3.size (hf4 c hc)⟩ : GW w G [] (fun _ => 0) (fun _ => false) w4)
  clear hb3 hb4 h4 hf4
  go_wp2_with fail
  refine oa_loop (w0 := w) (G := G) (AE := []) (lv := fun _ => 0) (tr := fun _ => false) HS.out.1 ⟨HG.out, Nat.le_refl _⟩ _ ?_ rfl
  rintro A w5 ⟨U5, AE, lv, tr, _, ⟨hg5, hl5⟩, rfl⟩
  obtain ⟨NA, hNA⟩ : ∃ NA, AE.length = NA := ⟨_, rfl⟩
  have hna : NA ≤ 60 := by rw [← hNA]; exact Nat.le_trans hl5 (Nat.min_le_right _ _)
  have hed := gedges_any hg5.ok NA hNA
  have H5 : Hid (GW w G AE lv tr w5 ∧ AE.length = NA) := ⟨hg5, hNA⟩
  clear hg5 hl5 hNA HG
  go_wp2_with fail
  refine hed.mono ?_
  rintro e w6 ⟨aA, cA, rfl, hb6, hE6, -, -, -⟩
  have H6 : Hid (GW w G AE lv tr w6 ∧ AE.length = NA ∧ EdgesAt w6 aA AE ∧ Script4 w6 am lm) := ⟨H5.out.1.step hb6, H5.out.2, hE6, HS.out.2.below (H5.out.1.step hb6).below⟩
  have hnw := gnew_any (w := w6) G.n h1 h60
  clear hed hb6 hE6 H5 HS
  go_wp2_with fail
  refine hnw.mono ?_
  rintro e w7 ⟨H, rfl, hb7, h7, hnH, hf7⟩
  have HH : Hid (OW w6 H w7.heap.size (fun e => e ∈ ([] : List (Nat × Nat))) 0 [] (.slice none 0 0) w7 ∧ H.n = G.n) := ⟨⟨⟨[], _, _, ⟨h7, hb7, hf7⟩, fun e => Iff.rfl, Nat.le_refl _⟩, World.ownsRow_nil .., fun c hc => h7.mem.foot_lt hc, hb7.size, Nat.le_refl _⟩, hnH⟩
  clear hnw hb7 h7 hf7
  go_wp2_with fail
  rw [← hnH]
  refine ob_loop (wH := w6) (H := H) (hb0 := w7.heap.size) (AE := AE) (aA := aA) (NA := NA) (cA := cA) (ss := []) (v := .slice none 0 0) H6.out.2.2.2 H6.out.2.2.1 H6.out.2.1 hna ⟨HH.out.1, List.nodup_nil, fun e he => absurd he (by simp), Nat.le_refl _⟩ _ ?_ rfl
  rintro A w8 ⟨U8, ss, v, _, ⟨ho8, hnd8, hoff8, hl8⟩, rfl⟩
  have hsl : ss.length ≤ 20 := Nat.le_trans hl8 (Nat.min_le_right _ _)
  have H8 : Hid (OW w6 H w7.heap.size (fun e => e ∈ ss ∨ e ∈ AE.drop (NA - 0)) (ss.length + 0) ss v w8 ∧ ss.Nodup ∧ (∀ e ∈ ss, e ∉ AE) ∧ (∀ e ∈ ss, e.1 < e.2) ∧ Among H.n ss) := by
    obtain ⟨B, lvh, trh, gwh, hmB, _⟩ := ho8.gw
    refine ⟨ho8.congr fun e => ?_, hnd8, hoff8, fun e he => gwh.ok.mem.less e ((hmB e).2 he), fun e he => gwh.ok.mem.among e ((hmB e).2 he)⟩
    rw [Nat.sub_zero, ← H6.out.2.1, List.drop_length]
    simp
  clear ho8 hnd8 hoff8 hl8 HH
  go_wp2_with fail
  refine oc_loop (wH := w6) (H := H) (hb0 := w7.heap.size) (AE := AE) (ss := ss) (aA := aA) (NA := NA) (cA := cA) (v := v) (c := (NA : Int) - 1) H6.out.2.2.1 H6.out.2.1 hna hsl H8.out.2.2.1 (rises_nodup H6.out.1.ok.mem.rises) H6.out.1.ok.mem.less (by rw [hnH]; exact H6.out.1.ok.mem.among) ⟨rfl, H8.out.1⟩ _ ?_ rfl
  rintro A w9 ⟨U9, c9, _, ⟨_, ho9⟩, rfl⟩
  obtain ⟨NX, hNX⟩ : ∃ NX, ss.length = NX := ⟨_, rfl⟩
  have hvx : ∃ aX cX, v = .slice aX NX cX := by
    rcases ho9.own.2 with ⟨hv, h0⟩ | ⟨g', cap', cur, hv, _⟩
    · exact ⟨none, 0, by rw [hv, ← hNX, h0]⟩
    · exact ⟨_, _, by rw [hv, hNX]⟩
  obtain ⟨aX, cX, rfl⟩ := hvx
  have hx20 : NX ≤ 20 := by omega
  have H9 : Hid (OW w6 H w7.heap.size (fun e => e ∈ ss.drop 0 ∨ e ∈ AE) 80 ss (.slice aX NX cX) w9 ∧ ss.length = NX) := by
    refine ⟨(ho9.more (by omega)).congr fun e => ?_, hNX⟩
    rw [Nat.sub_self, List.drop_zero, List.drop_zero]
  clear ho9 hNX
  go_wp2_with fail
  refine od_loop (wH := w6) (H := H) (hb0 := w7.heap.size) (AE := AE) (ss := ss) (aX := aX) (NX := NX) (cX := cX) H9.out.2 hx20 H8.out.2.2.1 H8.out.2.1 H8.out.2.2.2.1 H8.out.2.2.2.2 H9.out.1 _ ?_ rfl
  rintro A w10 ⟨U10, _, ho10, rfl⟩
  have hB : ∃ lvh trh, GW w6 H AE lvh trh w10 := by
    obtain ⟨B, lvh, trh, gwh, hmB, _⟩ := ho10.gw
    obtain rfl : B = AE := rises_ext gwh.ok.mem.rises H6.out.1.ok.mem.rises fun e => by
      rw [hmB, ← H9.out.2, List.drop_length]
      simp
    exact ⟨_, _, gwh⟩
  obtain ⟨lvh, trh, gwh⟩ := hB
  have H10 : Hid (GW w G AE lv tr w10 ∧ GW w6 H AE lvh trh w10 ∧ EdgesAt w10 aA AE ∧ AE.length = NA) := ⟨H6.out.1.step gwh.below, gwh, H6.out.2.2.1.below gwh.below, H6.out.2.1⟩
  have hed := gedges_any gwh.ok NA H10.out.2.2.2
  clear ho10 gwh H9 H8 hsl hx20
  rw [hnH]
  go_wp2_with fail
  refine hed.mono ?_
  rintro e w11 ⟨aB, cB, rfl, hb11, hE11, -, -, -⟩
  have hsm := edges_same (cap := cB) (cap' := cA) H10.out.2.2.2 hE11 (H10.out.2.2.1.below hb11) (by omega)
  have H11 : Hid (GW w G AE lv tr w11 ∧ GW w6 H AE lvh trh w11) := ⟨H10.out.1.step hb11, H10.out.2.1.step hb11⟩
  clear hed hb11 hE11 H10
  go_wp2_with fail
  refine hsm.mono ?_
  rintro e w12 ⟨rfl, hb12⟩
  obtain ⟨NT, hNT⟩ : ∃ NT, (Fo AE lv tr 0).length = NT := ⟨_, rfl⟩
  have hle : NT ≤ G.n := by rw [← hNT]; exact H11.out.1.ok.tree_le
  have H12 : Hid (GW w G AE lv tr w12 ∧ GW w6 H AE lvh trh w12 ∧ (Fo AE lv tr 0).length = NT ∧ (Fo AE lvh trh 0).length = NT) := ⟨H11.out.1.step hb12, H11.out.2.step hb12, hNT, by rw [← hNT]; exact H11.out.1.ok.tree_same H11.out.2.ok hnH⟩
  have hp1 := gparts_any H12.out.2.1.ok NT H12.out.2.2.2
  rw [hnH] at hp1
  clear hsm hb12 H11 hNT
  go_wp2_with fail
  refine hp1.mono ?_
  rintro e w13 ⟨rfl, hb13⟩
  have H13 : Hid (GW w G AE lv tr w13 ∧ GW w6 H AE lvh trh w13) := ⟨H12.out.1.step hb13, H12.out.2.1.step hb13⟩
  have hp2 := gparts_any H13.out.1.ok NT H12.out.2.2.1
  clear hp1 hb13
  go_wp2_with fail
  refine hp2.mono ?_
  rintro e w14 ⟨rfl, hb14⟩
  have H14 : Hid (GW w G AE lv tr w14 ∧ GW w6 H AE lvh trh w14) := ⟨H13.out.1.step hb14, H13.out.2.step hb14⟩
  have ht1 := gtree_any H14.out.2.ok NT H12.out.2.2.2
  clear hp2 hb14 H13
  go_wp2_with fail
  refine ht1.mono ?_
  rintro e w15 ⟨aS, cS, rfl, hb15, -, -, -, -⟩
  have H15 : Hid (GW w G AE lv tr w15 ∧ GW w6 H AE lvh trh w15) := ⟨H14.out.1.step hb15, H14.out.2.step hb15⟩
  have ht2 := gtree_any H15.out.1.ok NT H12.out.2.2.1
  clear ht1 hb15 H14
  go_wp2_with fail
  refine ht2.mono ?_
  rintro e w16 ⟨aR, cR, rfl, hb16, -, -, -, -⟩
  have H16 : Hid (GW w G AE lv tr w16 ∧ GW w6 H AE lvh trh w16) := ⟨H15.out.1.step hb16, H15.out.2.step hb16⟩
  clear ht2 hb16 H15 H12
  go_wp2_with fail
  refine oe_loop (w0 := w) (wH := w6) (w1 := w16) (G := G) (H := H) (AE := AE) (lv := lv) (lvh := lvh) (tr := tr) (trh := trh) H16.out.1 H16.out.2 hnH (Below.refl _ _) _ ?_ rfl
  rintro A w17 ⟨U17, _, hb17, rfl⟩
  have HR : Hid (Below w.heap.size w w17) := below_step H16.out.1.below hb17
  clear hb17 H16 H6
  go_wp2_with fail
  go_ret
  exact ⟨rfl, HR.out⟩

theorem order_any {a am : Option Addr} {la ca lm cm : Nat} {w : World} (hs : Script4 w a la) (hs2 : Script4 w am lm) (n : Int) :
    Calls Tryz.prog 4 #[.int .i64 n, .slice a la ca, .slice am lm cm] w fun e w' => e = .returned (.bool true) ∧ Below w.heap.size w w' := by
  by_cases h : n < 1 ∨ 60 < n
  · exact order_no n h
  · obtain ⟨m, rfl⟩ := Int.eq_ofNat_of_zero_le (show 0 ≤ n by omega)
    exact order_some hs hs2 m (by omega) (by omega)

end Go.Proofs.YtcebfloeikjjcabGreat.Gr
