/-
  What TopKept asks besides, of the landed packages.
-/
import Derived.Test.YtcfemppdeidjmacGreatXa
import Derived.Test.YtcfemppdeidjmacGreatYs
import Derived.Test.YtcfemppdeidjmacGreatF22
namespace Go.Proofs.YtcfemppdeidjmacGreat.Ds
open Go.RowKit Go.Deep
open Go.RowKit (Below)
set_option linter.unusedVariables false
set_option linter.unusedSectionVars false

variable {w w' : World} {A : List (Nat × Nat)} {n : Nat} {G : Gr.GPl} {lv : Nat × Nat → Nat} {tr : Nat × Nat → Bool} {Z : Zed}

theorem gok_sound (h : @Gr.GOk (inst Z) w G A lv tr) : Sound G.n A := by
  obtain ⟨hm, hl⟩ := h
  obtain ⟨st, mp, row, tag, fo, ln, h1, h2, h3, h4, h5, h6, h7, h8, h9⟩ := hm
  exact ⟨⟨h6, h9, h7, h4, h5⟩, h8⟩

theorem kept_face : KeptOk deskF where
  drawn_no := by
    intro w a m c p hp
    letI : Inhabited Zed := inst every
    letI : Inhabited (PLift ((default : Zed).n ≤ 0)) := ⟨⟨Nat.le_refl 0⟩⟩
    exact (To.drawn_no p hp).mono fun e w' ⟨e1, e2⟩ => ⟨e1, e2 ▸ Below.refl _ _⟩
  drawn := by
    intro w a m c n f he h1 h2
    letI : Inhabited Zed := inst every
    letI : Inhabited (PLift ((default : Zed).n ≤ 0)) := ⟨⟨Nat.le_refl 0⟩⟩
    refine (To.drawn_any (f := f) he n h1 h2).mono ?_
    rintro e w' ⟨G, e1, hn, A, ⟨lv, tr, hgw⟩, hl⟩
    have hs := gok_sound hgw.ok
    rw [hn] at hs
    exact ⟨_, A, e1, ⟨G, lv, tr, rfl, hn, hgw.ok⟩, hs.fine, hs.less, hgw.below⟩
  joined := by
    rintro w n v A x y ⟨G, lv, tr, rfl, rfl, hok⟩ hx hy
    letI : Inhabited Zed := inst every
    refine (joined_done hok rfl x y).mono ?_
    rintro e w' ⟨q, v, e1, ⟨err, her, hor⟩, hb⟩
    have no : ∀ {err : Int} {B : List (Nat × Nat)} {o : List Bool}, One G.n A (3, x, y) err B o → err = 0 ∧ ∃ q : Bool, (q = true ↔ Jn A x y) ∧ o = [q] := fun h => by
      rcases h with ⟨h, _⟩ | ⟨⟨h, _⟩, _⟩ | ⟨⟨h, _⟩, _⟩ | ⟨⟨h, _⟩, _⟩ | ⟨⟨h, _⟩, _⟩ | ⟨⟨h, _⟩, _⟩ | ⟨⟨h, _⟩, _⟩ | ⟨_, h0, _, h⟩
      · exact absurd ⟨⟨by show (1 : Int) ≤ 3; decide, by show (3 : Int) ≤ 3; decide⟩, hx, hy⟩ h
      · exact absurd (show (3 : Int) = 1 from h) (by decide)
      · exact absurd (show (3 : Int) = 1 from h) (by decide)
      · exact absurd (show (3 : Int) = 1 from h) (by decide)
      · exact absurd (show (3 : Int) = 1 from h) (by decide)
      · exact absurd (show (3 : Int) = 2 from h) (by decide)
      · exact absurd (show (3 : Int) = 2 from h) (by decide)
      · exact ⟨h0, h⟩
    rcases hor with ⟨hne, B, o, h⟩ | ⟨rfl, h⟩
    · exact absurd (no h).1 hne
    · obtain ⟨-, q', hq, e3⟩ := no h
      obtain rfl : q = q' := by simpa using e3
      obtain rfl := Dk.Er.nil her
      exact ⟨q, e1, hq, hb⟩
  joined_no := by
    rintro w n v A x y ⟨G, lv, tr, rfl, rfl, hok⟩ hn
    letI : Inhabited Zed := inst every
    exact Gr.joined_no hok.mem x y hn
  parts := by
    rintro w n v A p ⟨G, lv, tr, rfl, rfl, hok⟩ hp
    letI : Inhabited Zed := inst every
    obtain ⟨r, f⟩ := hok.mem.fo 0 hok.mem.k0
    have e : ∀ i, r i = p i := fun i => f.grown.rest.one hp (fun i j => hok.lev.tree i j) i
    have h1 := (forest_parts (n := G.n) (fun e he => hok.lev.among e (mem_Fo.1 he).1) f.grown.rest).2.1 hok.lev.forest
    have h2 : partsOf G.n r = partsOf G.n p := cnt_congr _ fun i _ => by rw [e]
    refine (Gr.gparts_any hok _ rfl).mono ?_
    rintro e w' ⟨e1, hb⟩
    refine ⟨e1.trans ?_, hb⟩
    rw [show G.n - (Fo A lv tr 0).length = partsOf G.n p by omega]
  code := by
    intro w a c n N A hE hN hf hl
    have hs : Sound n A := ⟨hf, hl⟩
    refine (enc_any hE hN hs).mono ?_
    rintro e w1 ⟨b, M, c', e1, hM, hbt, hc1, hc2, -, -, hb⟩
    refine ⟨_, M, c', e1, hb, ?_⟩
    refine (dec_any hbt hM.symm hc1 hc2 hs).mono ?_
    rintro e w2 ⟨a', M', c2, e2, hM', hE', hb2⟩
    rw [hM', hN] at e2
    exact ⟨a', c2, e2, hE', hb2⟩

end Go.Proofs.YtcfemppdeidjmacGreat.Ds
