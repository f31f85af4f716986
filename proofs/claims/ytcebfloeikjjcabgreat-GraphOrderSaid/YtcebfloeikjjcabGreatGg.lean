/-
  mendAt of package graph, in pieces: what it keeps, and each of its steps.
-/
import Derived.Test.YtcebfloeikjjcabGreatGc
import Derived.Test.YtcebfloeikjjcabGreatGe
import Derived.Test.YtcebfloeikjjcabGreatHc
namespace Go.Proofs.YtcebfloeikjjcabGreat.Gr
open Go.RowKit Go.Deep Go.Maps
open Go.RowKit (Below)
set_option linter.unusedVariables false

variable {w0 wr w' : World} {G : GPl} {A P Q T : List (Nat × Nat)} {lv lv' : Nat × Nat → Nat} {tr : Nat × Nat → Bool} {X Y : Nat → List (Nat × Nat)} {a b k bk bi b7 b8 s : Nat} {f : Nat × Nat}

/-- Where a look for an edge in another's place stands. -/
structure Mends (w0 wr : World) (G : GPl) (A : List (Nat × Nat)) (lv : Nat × Nat → Nat) (tr : Nat × Nat → Bool) (a b k bk bi b7 b8 s : Nat) : Prop where
  at_ : GAt wr G A lv tr
  cut : Cut G.n A lv tr a b (k + 1)
  turns : Turns (GFoot G) w0 wr
  seen : Seen wr (G.L k) bk bi k b7 b8 s
  hi : w0.heap.size ≤ bk ∧ w0.heap.size ≤ bi ∧ w0.heap.size ≤ b7 ∧ w0.heap.size ≤ b8
  foot : ∀ c, GFoot G c → c < w0.heap.size
  kk : k < G.K
  sn : s < G.n

theorem turn_cell {c o : Nat} {v : Value} (hF : ∀ c, GFoot G c → c < w0.heap.size) (hc : w0.heap.size ≤ c) (t : Turns (GFoot G) wr w') (h : wr.cell? ⟨c, o, none⟩ = some v) : w'.cell? ⟨c, o, none⟩ = some v :=
  (World.cell?_of_block (w := wr) (a := ⟨c, o, none⟩) (t.block c (World.block_lt_of_cell? _ _ h) (fun q => by have := hF c q; omega))).trans h

theorem turn_edges {ad : Option Addr} (hF : ∀ c, GFoot G c → c < w0.heap.size) (hc : ∀ c, ad = some ⟨c, 0, none⟩ → w0.heap.size ≤ c) (t : Turns (GFoot G) wr w') (h : EdgesAt wr ad T) : EdgesAt w' ad T :=
  ⟨fun i hi => by obtain ⟨c, e, h1, h2⟩ := h.cell i hi; exact ⟨c, e, turn_cell hF (hc c e) t h1, turn_cell hF (hc c e) t h2⟩⟩

theorem Mends.step (m : Mends w0 wr G A lv tr a b k bk bi b7 b8 s) (t : Turns (GFoot G) wr w') (h' : GAt w' G A lv' tr) (c' : Cut G.n A lv' tr a b (k + 1)) : Mends w0 w' G A lv' tr a b k bk bi b7 b8 s :=
  ⟨h', c', m.turns.trans t, ⟨turn_cell m.foot m.hi.1 t m.seen.ck, turn_cell m.foot m.hi.2.1 t m.seen.ci, turn_cell m.foot m.hi.2.2.1 t m.seen.side.c7, turn_cell m.foot m.hi.2.2.2 t m.seen.side.c8⟩, m.hi, m.foot, m.kk, m.sn⟩

theorem Mends.below (m : Mends w0 wr G A lv tr a b k bk bi b7 b8 s) (hb : Below wr.heap.size wr w') : Mends w0 w' G A lv tr a b k bk bi b7 b8 s :=
  m.step (Turns.of_below hb) (GMem.below m.at_ hb) m.cut

/-- Is a node on the side? -/
theorem Mends.side (m : Mends w0 wr G A lv tr a b k bk bi b7 b8 s) (x : Nat) (hx : x < G.n) (q : Bool) (hq : q = true ↔ Conn (Fo A lv tr k) s x) :
    Calls Tryz.prog 68 #[.int .i64 (x : Nat), .pointer (some ⟨b7, 0, none⟩), .pointer (some ⟨b8, 0, none⟩)] wr fun e w' => e = .returned (.bool q) ∧ Below wr.heap.size wr w' := by
  obtain ⟨p, f⟩ := GMem.fo m.at_ k m.kk
  have hn := GMem.ln m.at_ k m.kk
  exact side_any f m.seen.side (by rw [hn]; exact m.sn) x (by rw [hn]; exact hx) q (by rw [Bool.eq_iff_iff, hq, decide_eq_true_eq]; exact f.grown.rest.same s x)

/-- An edge of the first list rises. -/
theorem Mends.raise1 (m : Mends w0 wr G A (lvUp lv P) tr a b k bk bi b7 b8 s) (hs : Side1 A lv tr k s (P ++ f :: Q)) (hf : Few G.n (Fo A lv tr k) s (G.n / 2 ^ (k + 1))) :
    Calls Tryz.prog 54 #[.pointer (some ⟨G.g, 0, none⟩), ev f.1 f.2] wr fun e w' => e = .returned (.tuple #[]) ∧ Turns (GFoot G) wr w' ∧ Hid (Mends w0 w' G A (lvUp lv (P ++ [f])) tr a b k bk bi b7 b8 s) := by
  have hA := GMem.rises m.at_
  have hfA : f ∈ A := ((hs.mem f).1 (by simp)).1
  have hl := GMem.less m.at_ f hfA
  obtain ⟨h1, r, h3, h4, h5⟩ := m.cut.rise1 hs hf (by omega)
  obtain ⟨g1, g2⟩ := rise_fo hA r h4
  refine (raise_tree m.at_ (a := f.1) (b := f.2) hfA h4 k r.was ((GMem.levels m.at_ (k + 1)).2 h5) h3 (Fo A (lvUp lv (P ++ [f])) tr (k + 1)) g1).mono ?_
  rintro e w1 ⟨rfl, t1, h6⟩
  refine ⟨rfl, t1, m.step t1 ?_ h1⟩
  refine (GMem.told h6 fun x hx => ⟨?_, rfl⟩).congr fun i _ => ?_
  · by_cases c : x = f
    · subst c; rw [r.is]; exact upd_same ..
    · rw [r.rest x hx c]; exact upd_other c
  · by_cases c : i = k + 1
    · subst c; rw [if_pos rfl]
    · rw [if_neg c]; exact g2 i c

/-- An edge of the second list rises. -/
theorem Mends.raise2 (m : Mends w0 wr G A (lvUp lv P) tr a b k bk bi b7 b8 s) (hs : Side2 A lv tr k s (P ++ f :: Q)) (h1 : ∀ e ∈ A, tr e = true → lv e = k → ¬ Conn (Fo A lv tr k) s e.1) (hx : Conn (Fo A lv tr k) s f.1) (hy : Conn (Fo A lv tr k) s f.2) :
    Calls Tryz.prog 54 #[.pointer (some ⟨G.g, 0, none⟩), ev f.1 f.2] wr fun e w' => e = .returned (.tuple #[]) ∧ Turns (GFoot G) wr w' ∧ Hid (Mends w0 w' G A (lvUp lv (P ++ [f])) tr a b k bk bi b7 b8 s) := by
  have hfA : f ∈ A := ((hs.mem f).1 (by simp)).1
  have hk6 := GMem.k10 m.at_
  have hkk := m.kk
  obtain ⟨h2, r, h4⟩ := m.cut.rise2 hs h1 hx hy
  refine (raise_rest m.at_ (a := f.1) (b := f.2) hfA h4 k r.was (by omega)).mono ?_
  rintro e w1 ⟨rfl, t1, h6⟩
  refine ⟨rfl, t1, m.step t1 ?_ h2⟩
  refine (GMem.told h6 fun x hx => ⟨?_, rfl⟩).congr fun i _ => rise_rest_fo r h4 i
  by_cases c : x = f
  · subst c; rw [r.is]; exact upd_same ..
  · rw [r.rest x hx c]; exact upd_other c

/-- What mendAt comes to. -/
def Mended (w0 w' : World) (G : GPl) (A : List (Nat × Nat)) (lv : Nat × Nat → Nat) (tr : Nat × Nat → Bool) (a b k : Nat) (q : Bool) : Prop :=
  Turns (GFoot G) w0 w' ∧ (q = true → ∃ lv' tr', GAt w' G A lv' tr' ∧ Levels G.n A lv' tr' ∧ ∀ e ∈ A, lv e ≤ lv' e) ∧ (q = false → ∃ lv', GAt w' G A lv' tr ∧ Cut G.n A lv' tr a b k ∧ ∀ e ∈ A, lv e ≤ lv' e)

/-- An edge of the second list comes into the tree. -/
theorem Mends.plant (m : Mends w0 wr G A (lvUp lv' P) tr a b k bk bi b7 b8 s) (hs : Side2 A lv' tr k s (P ++ f :: Q)) (ho : ¬ (Conn (Fo A lv' tr k) s f.1 ∧ Conn (Fo A lv' tr k) s f.2)) (hle : ∀ e ∈ A, lv e ≤ lv' e) :
    Calls Tryz.prog 23 #[.pointer (some ⟨G.g, 0, none⟩), ev f.1 f.2] wr fun e w' => e = .returned (.tuple #[]) ∧ Hid (Mended w0 w' G A lv tr a b k true) := by
  have hA := GMem.rises m.at_
  obtain ⟨h1, h2, h3, h4, h5⟩ := m.cut.found (rises_nodup hA) hs ho
  obtain ⟨g1, g2⟩ := plant_fo hA h2 h4 h3
  refine (plant_any m.at_ (a := f.1) (b := f.2) (Y := Fo A (lvUp lv' P) (upd tr f true)) h2 h3 k h4 m.kk (fun v _ => h5 v) g1).mono ?_
  rintro e w1 ⟨rfl, t1, h6⟩
  refine ⟨rfl, m.turns.trans t1, fun _ => ⟨lvUp lv' P, upd tr f true, ?_, h1, fun e he => Nat.le_trans (hle e he) (lvUp_le P e)⟩, fun q => by cases q⟩
  refine GMem.congr h6 fun i _ => ?_
  unfold mixed
  by_cases c : i < k + 1
  · rw [if_pos c]
  · rw [if_neg c]; exact g2 i (by omega)

/-- None led out. -/
theorem Mends.last (m : Mends w0 wr G A (lvUp lv' T) tr a b k bk bi b7 b8 s) (hs : Side2 A lv' tr k s T) (hab : s = a ∨ s = b) (hle : ∀ e ∈ A, lv e ≤ lv' e) : Mended w0 wr G A lv tr a b k false :=
  And.intro m.turns (And.intro (fun q => by cases q) (fun _ => ⟨lvUp lv' T, m.at_, m.cut.last hs hab, fun e he => Nat.le_trans (hle e he) (lvUp_le T e)⟩))

set_option maxRecDepth 100000 in
/-- Lists that are picked by the two closures. -/
theorem Mends.pick1 (m : Mends w0 wr G A lv tr a b k bk bi b7 b8 s) :
    ∃ T, Side1 A lv tr k s T ∧ Calls Tryz.prog 27 #[.pointer (some ⟨G.g, 0, none⟩), .func (.func 53) #[] #[.pointer (some ⟨bk, 0, none⟩), .pointer (some ⟨bi, 0, none⟩)]] wr fun e w' => ∃ ad c, e = .returned (.slice ad T.length c) ∧ Below wr.heap.size wr w' ∧ EdgesAt w' ad T ∧ (∀ c, ad = some ⟨c, 0, none⟩ → wr.heap.size ≤ c) ∧ T.length ≤ 200 := by
  obtain ⟨p, f⟩ := GMem.fo m.at_ k m.kk
  have hn := GMem.ln m.at_ k m.kk
  refine ⟨_, side1_of (GMem.rises m.at_) f.grown.rest (s := s), ?_⟩
  refine (picked_any m.at_ (fun e => tr e && decide (lv e = k) && decide (p s = p e.1)) 53 #[.pointer (some ⟨bk, 0, none⟩), .pointer (some ⟨bi, 0, none⟩)] (enters_of Tryz.func53 (by kernel_rfl) rfl) (fun W hW e he => ?_)).mono ?_
  · have hnd := GMem.node m.at_ he
    exact pick1_any (f.below hW) (m.seen.below hW) (by rw [hn]; exact m.sn) e.1 e.2 (by rw [hn]; exact hnd.1) (lv e) (tr e)
  · rintro e w1 ⟨ad, c, rfl, hb, hE, hf, _⟩
    exact ⟨ad, c, rfl, hb, hE, hf, Nat.le_trans (List.length_filter_le ..) (GMem.m200 m.at_)⟩

set_option maxRecDepth 100000 in
theorem Mends.pick2 (m : Mends w0 wr G A lv tr a b k bk bi b7 b8 s) :
    ∃ T, Side2 A lv tr k s T ∧ Calls Tryz.prog 27 #[.pointer (some ⟨G.g, 0, none⟩), .func (.func 55) #[] #[.pointer (some ⟨bk, 0, none⟩), .pointer (some ⟨bi, 0, none⟩)]] wr fun e w' => ∃ ad c, e = .returned (.slice ad T.length c) ∧ Below wr.heap.size wr w' ∧ EdgesAt w' ad T ∧ (∀ c, ad = some ⟨c, 0, none⟩ → wr.heap.size ≤ c) ∧ T.length ≤ 200 := by
  obtain ⟨p, f⟩ := GMem.fo m.at_ k m.kk
  have hn := GMem.ln m.at_ k m.kk
  refine ⟨_, side2_of (GMem.rises m.at_) f.grown.rest (s := s), ?_⟩
  refine (picked_any m.at_ (fun e => !tr e && decide (lv e = k) && (decide (p s = p e.1) || decide (p s = p e.2))) 55 #[.pointer (some ⟨bk, 0, none⟩), .pointer (some ⟨bi, 0, none⟩)] (enters_of Tryz.func55 (by kernel_rfl) rfl) (fun W hW e he => ?_)).mono ?_
  · have hnd := GMem.node m.at_ he
    exact pick2_any (f.below hW) (m.seen.below hW) (by rw [hn]; exact m.sn) e.1 e.2 (by rw [hn]; exact hnd.1) (by rw [hn]; exact hnd.2.1) (lv e) (tr e)
  · rintro e w1 ⟨ad, c, rfl, hb, hE, hf, _⟩
    exact ⟨ad, c, rfl, hb, hE, hf, Nat.le_trans (List.length_filter_le ..) (GMem.m200 m.at_)⟩

end Go.Proofs.YtcebfloeikjjcabGreat.Gr
