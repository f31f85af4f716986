/-
  mendAt of package graph, in pieces: what it keeps, and each of its steps.
  mendAt and mend of package graph.
-/
import Derived.Test.YtcfemppdeidjmacGreatDoorF7
import Derived.Test.YtcfemppdeidjmacGreatDoorMj
import Derived.Test.YtcfemppdeidjmacGreatDoorMf
namespace Go.Proofs.YtcfemppdeidjmacGreatDoor.Gr
set_option linter.unusedSectionVars false
variable [Inhabited Zed]
open Go.RowKit Go.Deep Go.Maps
open Go.RowKit (Below)
set_option linter.unusedVariables false

variable {w0 wr w' : World} {G : GPl} {A P Q T : List (Nat × Nat)} {lv lv' : Nat × Nat → Nat} {tr : Nat × Nat → Bool} {X Y : Nat → List (Nat × Nat)} {a b k bk bi b7 b8 s : Nat} {f : Nat × Nat}

/-- Where a look for an edge in another's place stands. -/
structure Mends (w0 wr : World) (G : GPl) (A : List (Nat × Nat)) (lv : Nat × Nat → Nat) (tr : Nat × Nat → Bool) (a b k bk bi b7 b8 s : Nat) : Prop where
  at_ : GAt wr G A lv tr
  cut : Cut G.n A lv tr a b (k + 1)
  turns : Turns (GFoot G) w0 wr
  seen : Seen wr (G.L k) bk bi k b7 b8 s
  hi : w0.heap.size ≤ bk ∧ w0.heap.size ≤ bi ∧ w0.heap.size ≤ b7 ∧ w0.heap.size ≤ b8
  foot : ∀ c, GFoot G c → c < w0.heap.size
  kk : k < G.K
  sn : s < G.n

theorem turn_cell {c o : Nat} {v : Value} (hF : ∀ c, GFoot G c → c < w0.heap.size) (hc : w0.heap.size ≤ c) (t : Turns (GFoot G) wr w') (h : wr.cell? ⟨c, o, none⟩ = some v) : w'.cell? ⟨c, o, none⟩ = some v :=
  (World.cell?_of_block (w := wr) (a := ⟨c, o, none⟩) (t.block c (World.block_lt_of_cell? _ _ h) (fun q => by have := hF c q; omega))).trans h

theorem turn_edges {ad : Option Addr} (hF : ∀ c, GFoot G c → c < w0.heap.size) (hc : ∀ c, ad = some ⟨c, 0, none⟩ → w0.heap.size ≤ c) (t : Turns (GFoot G) wr w') (h : EdgesAt wr ad T) : EdgesAt w' ad T :=
  ⟨fun i hi => by obtain ⟨c, e, h1, h2⟩ := h.cell i hi; exact ⟨c, e, turn_cell hF (hc c e) t h1, turn_cell hF (hc c e) t h2⟩⟩

theorem Mends.step (m : Mends w0 wr G A lv tr a b k bk bi b7 b8 s) (t : Turns (GFoot G) wr w') (h' : GAt w' G A lv' tr) (c' : Cut G.n A lv' tr a b (k + 1)) : Mends w0 w' G A lv' tr a b k bk bi b7 b8 s :=
  ⟨h', c', m.turns.trans t, ⟨turn_cell m.foot m.hi.1 t m.seen.ck, turn_cell m.foot m.hi.2.1 t m.seen.ci, turn_cell m.foot m.hi.2.2.1 t m.seen.side.c7, turn_cell m.foot m.hi.2.2.2 t m.seen.side.c8⟩, m.hi, m.foot, m.kk, m.sn⟩

theorem Mends.below (m : Mends w0 wr G A lv tr a b k bk bi b7 b8 s) (hb : Below wr.heap.size wr w') : Mends w0 w' G A lv tr a b k bk bi b7 b8 s :=
  m.step (Turns.of_below hb) (GMem.below m.at_ hb) m.cut

/-- Is a node on the side? -/
theorem Mends.side (m : Mends w0 wr G A lv tr a b k bk bi b7 b8 s) (x : Nat) (hx : x < G.n) (q : Bool) (hq : q = true ↔ Conn (Fo A lv tr k) s x) :
    Calls Tryz.prog 142 #[.int .i64 (x : Nat), .pointer (some ⟨b7, 0, none⟩), .pointer (some ⟨b8, 0, none⟩)] wr fun e w' => e = .returned (.bool q) ∧ Below wr.heap.size wr w' := by
  obtain ⟨p, f⟩ := GMem.fo m.at_ k m.kk
  have hn := GMem.ln m.at_ k m.kk
  exact side_any f m.seen.side (by rw [hn]; exact m.sn) x (by rw [hn]; exact hx) q (by rw [Bool.eq_iff_iff, hq, decide_eq_true_eq]; exact f.grown.rest.same s x)

/-- An edge of the first list rises. -/
theorem Mends.raise1 (m : Mends w0 wr G A (lvUp lv P) tr a b k bk bi b7 b8 s) (hs : Side1 A lv tr k s (P ++ f :: Q)) (hf : Few G.n (Fo A lv tr k) s (G.n / 2 ^ (k + 1))) :
    Calls Tryz.prog 123 #[.pointer (some ⟨G.g, 0, none⟩), ev f.1 f.2] wr fun e w' => e = .returned (.tuple #[]) ∧ Turns (GFoot G) wr w' ∧ Hid (Mends w0 w' G A (lvUp lv (P ++ [f])) tr a b k bk bi b7 b8 s) := by
  have hA := GMem.rises m.at_
  have hfA : f ∈ A := ((hs.mem f).1 (by simp)).1
  have hl := GMem.less m.at_ f hfA
  obtain ⟨h1, r, h3, h4, h5⟩ := m.cut.rise1 hs hf (by omega)
  obtain ⟨g1, g2⟩ := rise_fo hA r h4
  refine (raise_tree m.at_ (a := f.1) (b := f.2) hfA h4 k r.was ((GMem.levels m.at_ (k + 1)).2 h5) h3 (Fo A (lvUp lv (P ++ [f])) tr (k + 1)) g1).mono ?_
  rintro e w1 ⟨rfl, t1, h6⟩
  refine ⟨rfl, t1, m.step t1 ?_ h1⟩
  refine (GMem.told h6 fun x hx => ⟨?_, rfl⟩).congr fun i _ => ?_
  · by_cases c : x = f
    · subst c; rw [r.is]; exact upd_same ..
    · rw [r.rest x hx c]; exact upd_other c
  · by_cases c : i = k + 1
    · subst c; rw [if_pos rfl]
    · rw [if_neg c]; exact g2 i c

/-- An edge of the second list rises. -/
theorem Mends.raise2 (m : Mends w0 wr G A (lvUp lv P) tr a b k bk bi b7 b8 s) (hs : Side2 A lv tr k s (P ++ f :: Q)) (h1 : ∀ e ∈ A, tr e = true → lv e = k → ¬ Conn (Fo A lv tr k) s e.1) (hx : Conn (Fo A lv tr k) s f.1) (hy : Conn (Fo A lv tr k) s f.2) :
    Calls Tryz.prog 123 #[.pointer (some ⟨G.g, 0, none⟩), ev f.1 f.2] wr fun e w' => e = .returned (.tuple #[]) ∧ Turns (GFoot G) wr w' ∧ Hid (Mends w0 w' G A (lvUp lv (P ++ [f])) tr a b k bk bi b7 b8 s) := by
  have hfA : f ∈ A := ((hs.mem f).1 (by simp)).1
  have hk6 := GMem.k10 m.at_
  have hkk := m.kk
  obtain ⟨h2, r, h4⟩ := m.cut.rise2 hs h1 hx hy
  refine (raise_rest m.at_ (a := f.1) (b := f.2) hfA h4 k r.was (by omega)).mono ?_
  rintro e w1 ⟨rfl, t1, h6⟩
  refine ⟨rfl, t1, m.step t1 ?_ h2⟩
  refine (GMem.told h6 fun x hx => ⟨?_, rfl⟩).congr fun i _ => rise_rest_fo r h4 i
  by_cases c : x = f
  · subst c; rw [r.is]; exact upd_same ..
  · rw [r.rest x hx c]; exact upd_other c

/-- What mendAt comes to. -/
def Mended (w0 w' : World) (G : GPl) (A : List (Nat × Nat)) (lv : Nat × Nat → Nat) (tr : Nat × Nat → Bool) (a b k : Nat) (q : Bool) : Prop :=
  Turns (GFoot G) w0 w' ∧ (q = true → ∃ lv' tr', GAt w' G A lv' tr' ∧ Levels G.n A lv' tr' ∧ ∀ e ∈ A, lv e ≤ lv' e) ∧ (q = false → ∃ lv', GAt w' G A lv' tr ∧ Cut G.n A lv' tr a b k ∧ ∀ e ∈ A, lv e ≤ lv' e)

/-- An edge of the second list comes into the tree. -/
theorem Mends.plant (m : Mends w0 wr G A (lvUp lv' P) tr a b k bk bi b7 b8 s) (hs : Side2 A lv' tr k s (P ++ f :: Q)) (ho : ¬ (Conn (Fo A lv' tr k) s f.1 ∧ Conn (Fo A lv' tr k) s f.2)) (hle : ∀ e ∈ A, lv e ≤ lv' e) :
    Calls Tryz.prog 79 #[.pointer (some ⟨G.g, 0, none⟩), ev f.1 f.2] wr fun e w' => e = .returned (.tuple #[]) ∧ Hid (Mended w0 w' G A lv tr a b k true) := by
  have hA := GMem.rises m.at_
  obtain ⟨h1, h2, h3, h4, h5⟩ := m.cut.found (rises_nodup hA) hs ho
  obtain ⟨g1, g2⟩ := plant_fo hA h2 h4 h3
  refine (plant_any m.at_ (a := f.1) (b := f.2) (Y := Fo A (lvUp lv' P) (upd tr f true)) h2 h3 k h4 m.kk (fun v _ => h5 v) g1).mono ?_
  rintro e w1 ⟨rfl, t1, h6⟩
  refine ⟨rfl, m.turns.trans t1, fun _ => ⟨lvUp lv' P, upd tr f true, ?_, h1, fun e he => Nat.le_trans (hle e he) (lvUp_le P e)⟩, fun q => by cases q⟩
  refine GMem.congr h6 fun i _ => ?_
  unfold mixed
  by_cases c : i < k + 1
  · rw [if_pos c]
  · rw [if_neg c]; exact g2 i (by omega)

/-- None led out. -/
theorem Mends.last (m : Mends w0 wr G A (lvUp lv' T) tr a b k bk bi b7 b8 s) (hs : Side2 A lv' tr k s T) (hab : s = a ∨ s = b) (hle : ∀ e ∈ A, lv e ≤ lv' e) : Mended w0 wr G A lv tr a b k false :=
  And.intro m.turns (And.intro (fun q => by cases q) (fun _ => ⟨lvUp lv' T, m.at_, m.cut.last hs hab, fun e he => Nat.le_trans (hle e he) (lvUp_le T e)⟩))

set_option maxRecDepth 100000 in
/-- Lists that are picked by the two closures. -/
theorem Mends.pick1 (m : Mends w0 wr G A lv tr a b k bk bi b7 b8 s) :
    ∃ T, Side1 A lv tr k s T ∧ Calls Tryz.prog 39 #[.pointer (some ⟨G.g, 0, none⟩), .func (.func 122) #[] #[.pointer (some ⟨bk, 0, none⟩), .pointer (some ⟨bi, 0, none⟩)]] wr fun e w' => ∃ ad c, e = .returned (.slice ad T.length c) ∧ Below wr.heap.size wr w' ∧ EdgesAt w' ad T ∧ (∀ c, ad = some ⟨c, 0, none⟩ → wr.heap.size ≤ c) ∧ T.length ≤ 200 := by
  obtain ⟨p, f⟩ := GMem.fo m.at_ k m.kk
  have hn := GMem.ln m.at_ k m.kk
  refine ⟨_, side1_of (GMem.rises m.at_) f.grown.rest (s := s), ?_⟩
  refine (picked_any m.at_ (fun e => tr e && decide (lv e = k) && decide (p s = p e.1)) 122 #[.pointer (some ⟨bk, 0, none⟩), .pointer (some ⟨bi, 0, none⟩)] (enters_of Tryz.func122 (by kernel_rfl) rfl) (fun W hW e he => ?_)).mono ?_
  · have hnd := GMem.node m.at_ he
    exact pick1_any (f.below hW) (m.seen.below hW) (by rw [hn]; exact m.sn) e.1 e.2 (by rw [hn]; exact hnd.1) (lv e) (tr e)
  · rintro e w1 ⟨ad, c, rfl, hb, hE, hf, _⟩
    exact ⟨ad, c, rfl, hb, hE, hf, Nat.le_trans (List.length_filter_le ..) (GMem.m200 m.at_)⟩

set_option maxRecDepth 100000 in
theorem Mends.pick2 (m : Mends w0 wr G A lv tr a b k bk bi b7 b8 s) :
    ∃ T, Side2 A lv tr k s T ∧ Calls Tryz.prog 39 #[.pointer (some ⟨G.g, 0, none⟩), .func (.func 124) #[] #[.pointer (some ⟨bk, 0, none⟩), .pointer (some ⟨bi, 0, none⟩)]] wr fun e w' => ∃ ad c, e = .returned (.slice ad T.length c) ∧ Below wr.heap.size wr w' ∧ EdgesAt w' ad T ∧ (∀ c, ad = some ⟨c, 0, none⟩ → wr.heap.size ≤ c) ∧ T.length ≤ 200 := by
  obtain ⟨p, f⟩ := GMem.fo m.at_ k m.kk
  have hn := GMem.ln m.at_ k m.kk
  refine ⟨_, side2_of (GMem.rises m.at_) f.grown.rest (s := s), ?_⟩
  refine (picked_any m.at_ (fun e => !tr e && decide (lv e = k) && (decide (p s = p e.1) || decide (p s = p e.2))) 124 #[.pointer (some ⟨bk, 0, none⟩), .pointer (some ⟨bi, 0, none⟩)] (enters_of Tryz.func124 (by kernel_rfl) rfl) (fun W hW e he => ?_)).mono ?_
  · have hnd := GMem.node m.at_ he
    exact pick2_any (f.below hW) (m.seen.below hW) (by rw [hn]; exact m.sn) e.1 e.2 (by rw [hn]; exact hnd.1) (by rw [hn]; exact hnd.2.1) (lv e) (tr e)
  · rintro e w1 ⟨ad, c, rfl, hb, hE, hf, _⟩
    exact ⟨ad, c, rfl, hb, hE, hf, Nat.le_trans (List.length_filter_le ..) (GMem.m200 m.at_)⟩

end Go.Proofs.YtcfemppdeidjmacGreatDoor.Gr

namespace Go.Proofs.YtcfemppdeidjmacGreatDoor.Gr
set_option linter.unusedSectionVars false
variable [Inhabited Zed]
open Go.RowKit Go.Deep Go.Maps
open Go.RowKit (Below)
set_option linter.unusedVariables false

variable {w wr w' : World} {G : GPl} {A P Q T : List (Nat × Nat)} {lv lv' : Nat × Nat → Nat} {tr : Nat × Nat → Bool} {X Y : Nat → List (Nat × Nat)} {a b k : Nat}

theorem take_next {T : List (Nat × Nat)} {j : Nat} (hj : j < T.length) : T = T.take j ++ T.getD j (0, 0) :: T.drop (j + 1) ∧ T.take (j + 1) = T.take j ++ [T.getD j (0, 0)] := by
  have e : T.getD j (0, 0) = T[j] := by rw [List.getD_eq_getElem?_getD, List.getElem?_eq_getElem hj]; rfl
  rw [e]
  exact ⟨by rw [List.getElem_cons_drop, List.take_append_drop], by rw [List.take_add_one, List.getElem?_eq_getElem hj]; rfl⟩

def MendPost (w : World) (G : GPl) (A : List (Nat × Nat)) (lv : Nat × Nat → Nat) (tr : Nat × Nat → Bool) (a b k : Nat) (e : Ending) (w' : World) : Prop := ∃ q, e = .returned (.bool q) ∧ Mended w w' G A lv tr a b k q

set_option maxRecDepth 100000 in
set_option maxHeartbeats 8000000 in
theorem mendAt_any (h : GAt w G A lv tr) (hc : Cut G.n A lv tr a b (k + 1)) (hk : k < G.K) :
    Calls Tryz.prog 100 #[.pointer (some ⟨G.g, 0, none⟩), ev a b, .int .i64 (k : Nat)] w (MendPost w G A lv tr a b k) := by
  obtain ⟨ha, hb⟩ := hc.ends
  -- the edge and the level in blocks of their own
  have hb2 : Below w.heap.size w ((w.alloc (.cells #[.int .i64 (a : Int), .int .i64 (b : Int)] 92)).alloc (.cells #[.int .i64 (k : Nat)] 3)) := ((Below.refl _ _).alloc (Nat.le_refl _) _).alloc (by simp) _
  have ck : ((w.alloc (.cells #[.int .i64 (a : Int), .int .i64 (b : Int)] 92)).alloc (.cells #[.int .i64 (k : Nat)] 3)).cell? ⟨w.heap.size + 1, 0, none⟩ = some (.int .i64 (k : Nat)) := by simp
  have h2 : GMem _ G A lv tr (Fo A lv tr) := GMem.below h hb2
  obtain ⟨p, f2⟩ := h2.fo k hk
  have hls := lesser_any h2 k hk f2 ha hb
  have HH : Hid (GAt w G A lv tr ∧ Cut G.n A lv tr a b (k + 1) ∧ k < G.K ∧ Rest (Fo A lv tr k) p) := ⟨h, hc, hk, f2.grown.rest⟩
  have eg : ∀ args w, (callFunc 142 args).run Tryz.prog w = .ok (.enter 142 args) w := enters_of Tryz.func142 (by kernel_rfl) rfl
  clear h hc h2 f2 hk
  dsimp only [ev] at hls
  go_enter Tryz.func100, Tryz.ntmps100
  dsimp only [ev]
  go_wp2_with fail
  obtain ⟨bk, hbk⟩ : ∃ bk, bk = w.heap.size + 1 := ⟨_, rfl⟩
  rw [← hbk] at ck
  rw [← hbk]
  generalize ((w.alloc (.cells #[.int .i64 (a : Int), .int .i64 (b : Int)] 92)).alloc (.cells #[.int .i64 (k : Nat)] 3)) = w2 at *
  refine hls.mono ?_
  rintro e w3 ⟨b7, b8, s, t, rfl, hb3, hsd, hle, hh7, hh8⟩
  clear hls
  dsimp only [sideFn]
  have hb03 := below_step hb2 hb3
  have ck3 := cell_keep hb3 ck
  have HB3 : Hid (Below w.heap.size w w3 ∧ w3.cell? ⟨bk, 0, none⟩ = some (.int .i64 (k : Nat)) ∧ Side w3 (G.L k) b7 b8 s ∧ Lesser G.n p a b s t ∧ w.heap.size ≤ b7 ∧ w.heap.size ≤ b8 ∧ w.heap.size ≤ bk) := by
    have := hb2.size
    exact ⟨hb03, ck3, hsd, hle, by omega, by omega, by omega⟩
  clear hb03 ck3 hsd hle hh7 hh8 hb3 hb2 ck hbk
  -- the closure in a block of its own
  have hM : Mends w (w3.alloc (.cells #[sideFn b7 b8] 154)) G A lv tr a b k bk w3.heap.size b7 b8 s ∧ Few G.n (Fo A lv tr k) s (G.n / 2 ^ (k + 1)) ∧ (s = a ∨ s = b) := by
    obtain ⟨q1, q2, q3, q4, q5, q6, q7⟩ := HB3.out
    obtain ⟨h, hc, hk, hr⟩ := HH.out
    have hb4 : Below w3.heap.size w3 (w3.alloc (.cells #[sideFn b7 b8] 154)) := (Below.refl _ _).alloc (Nat.le_refl _) _
    have hb5 := below_step q1 hb4
    refine ⟨⟨GMem.below h hb5, hc, Turns.of_below hb5, ⟨cell_keep hb4 q2, by simp, q3.below hb4⟩, ⟨q7, q1.size, q5, q6⟩, fun c hc => GMem.foot_lt h hc, hk, ?_⟩, hc.lesser hr q4.one q4.le, ?_⟩
    · rcases q4.one with ⟨e, _⟩ | ⟨e, _⟩ <;> rw [e] <;> assumption
    · rcases q4.one with ⟨e, _⟩ | ⟨e, _⟩
      · exact Or.inl e
      · exact Or.inr e
  obtain ⟨T1, hT1, hp1⟩ := hM.1.pick1
  have HM : Hid (Mends w (w3.alloc (.cells #[sideFn b7 b8] 154)) G A lv tr a b k bk w3.heap.size b7 b8 s ∧ Few G.n (Fo A lv tr k) s (G.n / 2 ^ (k + 1)) ∧ (s = a ∨ s = b) ∧ Side1 A lv tr k s T1) := ⟨hM.1, hM.2.1, hM.2.2, hT1⟩
  clear hM hT1 HB3 HH
  dsimp only [sideFn] at hp1 HM
  go_wp2_with fail
  obtain ⟨bi, hbi⟩ : ∃ bi, bi = w3.heap.size := ⟨_, rfl⟩
  rw [← hbi] at HM hp1
  rw [← hbi]
  generalize (w3.alloc (.cells #[.func (.func 142) #[] #[.pointer (some ⟨b7, 0, none⟩), .pointer (some ⟨b8, 0, none⟩)]] 154)) = w4 at *
  clear hbi
  refine hp1.mono ?_
  rintro e w5 ⟨ad, c, rfl, hb5, hE5, hf5, hl5⟩
  have HT : Hid (Mends w w5 G A lv tr a b k bk bi b7 b8 s ∧ EdgesAt w5 ad T1 ∧ ∀ c, ad = some ⟨c, 0, none⟩ → w.heap.size ≤ c) := ⟨HM.out.1.below hb5, hE5, fun c e => Nat.le_trans HM.out.1.turns.size (hf5 c e)⟩
  clear hp1 hb5 hE5 hf5
  obtain ⟨m1, hm1⟩ : ∃ m1, m1 = T1.length := ⟨_, rfl⟩
  rw [← hm1] at hl5
  rw [← hm1]
  have HL1 : Hid (m1 = T1.length) := hm1
  clear hm1
  go_wp2_with fail
  go_loopw [9, 20] (fun _ i wr => ∃ j : Nat, j ≤ m1 ∧ i = .int .i64 (j : Nat) ∧ Mends w wr G A (lvUp lv (T1.take j)) tr a b k bk bi b7 b8 s ∧ EdgesAt wr ad T1) (fun _ i _ => m1 - (intOf i).toNat)
  case atStart => exact ⟨0, Nat.zero_le _, rfl, by rw [List.take_zero, lvUp_nil]; exact HT.out.1, HT.out.2.1⟩
  case round =>
    obtain ⟨j, hj, rfl, hR, hE⟩ := hrel
    by_cases hlt : j < m1
    · obtain ⟨t1, t2⟩ := take_next (T := T1) (j := j) (by rw [← HL1.out]; exact hlt)
      obtain ⟨bb, rfl, q1, q2⟩ := hE.cell j (by rw [← HL1.out]; exact hlt)
      obtain ⟨x, hx⟩ : ∃ x, (T1.getD j (0, 0)).1 = x := ⟨_, rfl⟩
      obtain ⟨y, hy⟩ : ∃ y, (T1.getD j (0, 0)).2 = y := ⟨_, rfl⟩
      have hb6 : Below wr.heap.size wr (wr.alloc (.cells #[.int .i64 (x : Int), .int .i64 (y : Int)] 92)) := (Below.refl _ _).alloc (Nat.le_refl _) _
      have hcl := (hR.below hb6).raise1 (f := T1.getD j (0, 0)) (Q := T1.drop (j + 1)) (by rw [← t1]; exact HM.out.2.2.2) HM.out.2.1
      rw [← t2] at hcl
      rw [hx] at q1 hcl
      rw [hy] at q2 hcl
      have HE : Hid (EdgesAt (wr.alloc (.cells #[.int .i64 (x : Int), .int .i64 (y : Int)] 92)) (some ⟨bb, 0, none⟩) T1 ∧ ∀ c, GFoot G c → c < w.heap.size) := ⟨hE.below hb6, hR.foot⟩
      have i0 : (0 : Int) ≤ (j : Int) := by omega
      have i1 : (j : Int) < (m1 : Int) := by omega
      clear hR hE t1 t2 hx hy hb6
      dsimp only [ev] at hcl
      go_wp2_with fail
      refine hcl.mono ?_
      rintro e w6 ⟨rfl, t6, HN⟩
      have HE6 : Hid (EdgesAt w6 (some ⟨bb, 0, none⟩) T1) := turn_edges HE.out.2 HT.out.2.2 t6 HE.out.1
      clear hcl t6 q1 q2
      go_wp2_with fail
      go_roundw
      case rel => exact ⟨j + 1, by omega, by go_num, HN.out, HE6.out⟩
      case measure => simp [intOf]; omega
    · obtain rfl : j = m1 := by omega
      have hR' : Mends w wr G A (lvUp lv T1) tr a b k bk bi b7 b8 s := by
        have := hR
        rw [HL1.out, List.take_length] at this
        exact this
      clear hR hE HT
      obtain ⟨g1, g2⟩ := side1_done HM.out.2.2.2
      obtain ⟨T2, hT2, hp2⟩ := hR'.pick2
      have HM2 : Hid (Mends w wr G A (lvUp lv T1) tr a b k bk bi b7 b8 s ∧ Side2 A (lvUp lv T1) tr k s T2 ∧ (∀ e ∈ A, tr e = true → lvUp lv T1 e = k → ¬ Conn (Fo A (lvUp lv T1) tr k) s e.1) ∧ (s = a ∨ s = b) ∧ ∀ e ∈ A, lv e ≤ lvUp lv T1 e) := ⟨hR', hT2, by rw [g1]; exact g2, HM.out.2.2.1, fun e _ => lvUp_le T1 e⟩
      clear hR' g1 g2 hT2 HM
      have i1 : ¬ ((j : Int) < (j : Int)) := by omega
      go_wp2_with fail
      refine hp2.mono ?_
      rintro e w7 ⟨ad2, c2, rfl, hb7, hE7, hf7, hl7⟩
      have HT2 : Hid (Mends w w7 G A (lvUp lv T1) tr a b k bk bi b7 b8 s ∧ EdgesAt w7 ad2 T2 ∧ ∀ c, ad2 = some ⟨c, 0, none⟩ → w.heap.size ≤ c) := ⟨HM2.out.1.below hb7, hE7, fun c e => Nat.le_trans HM2.out.1.turns.size (hf7 c e)⟩
      clear hp2 hb7 hE7 hf7
      obtain ⟨m2, hm2⟩ : ∃ m2, m2 = T2.length := ⟨_, rfl⟩
      rw [← hm2] at hl7
      rw [← hm2]
      have HL2 : Hid (m2 = T2.length) := hm2
      clear hm2 hj hlt i1
      go_wp2_with fail
      go_loopw [11, 32] (fun _ i wr => ∃ j : Nat, j ≤ m2 ∧ i = .int .i64 (j : Nat) ∧ Mends w wr G A (lvUp (lvUp lv T1) (T2.take j)) tr a b k bk bi b7 b8 s ∧ EdgesAt wr ad2 T2) (fun _ i _ => m2 - (intOf i).toNat)
      case atStart => exact ⟨0, Nat.zero_le _, rfl, by rw [List.take_zero, lvUp_nil]; exact HT2.out.1, HT2.out.2.1⟩
      case round =>
        obtain ⟨i, hi, rfl, hR, hE⟩ := hrel
        by_cases hlt : i < m2
        · obtain ⟨t1, t2⟩ := take_next (T := T2) (j := i) (by rw [← HL2.out]; exact hlt)
          obtain ⟨bb, rfl, q1, q2⟩ := hE.cell i (by rw [← HL2.out]; exact hlt)
          have hside : Side2 A (lvUp lv T1) tr k s (T2.take i ++ T2.getD i (0, 0) :: T2.drop (i + 1)) := by rw [← t1]; exact HM2.out.2.1
          have hfA : T2.getD i (0, 0) ∈ A := ((hside.mem _).1 (by simp)).1
          have hnd := GMem.node hR.at_ hfA
          have e1 : Fo A (lvUp (lvUp lv T1) (T2.take i)) tr k = Fo A (lvUp lv T1) tr k := Fo_up fun e he => ((hside.mem e).1 (List.mem_append_left _ he)).2.2.1
          obtain ⟨x, hx⟩ : ∃ x, (T2.getD i (0, 0)).1 = x := ⟨_, rfl⟩
          obtain ⟨y, hy⟩ : ∃ y, (T2.getD i (0, 0)).2 = y := ⟨_, rfl⟩
          have hb6 : Below wr.heap.size wr (wr.alloc (.cells #[.int .i64 (x : Int), .int .i64 (y : Int)] 92)) := (Below.refl _ _).alloc (Nat.le_refl _) _
          have hM6 := hR.below hb6
          have z0 : (wr.alloc (.cells #[.int .i64 (x : Int), .int .i64 (y : Int)] 92)).cell? ⟨wr.heap.size, 0, none⟩ = some (.int .i64 (x : Int)) := by simp
          have z1 : (wr.alloc (.cells #[.int .i64 (x : Int), .int .i64 (y : Int)] 92)).cell? ⟨wr.heap.size, 1, none⟩ = some (.int .i64 (y : Int)) := by simp
          rw [hx] at q1
          rw [hy] at q2
          have ci := hM6.seen.ci
          obtain ⟨qx, hqx⟩ : ∃ qx : Bool, qx = true ↔ Conn (Fo A (lvUp (lvUp lv T1) (T2.take i)) tr k) s x := ⟨@decide _ (Classical.propDecidable _), @decide_eq_true_iff _ (Classical.propDecidable _)⟩
          obtain ⟨qy, hqy⟩ : ∃ qy : Bool, qy = true ↔ Conn (Fo A (lvUp (lvUp lv T1) (T2.take i)) tr k) s y := ⟨@decide _ (Classical.propDecidable _), @decide_eq_true_iff _ (Classical.propDecidable _)⟩
          have hin := hM6.side x (by omega) qx hqx
          rw [e1, ← hx] at hqx
          have hyn : y < G.n := by omega
          have HQ : Hid ((qx = true ↔ Conn (Fo A (lvUp lv T1) tr k) s (T2.getD i (0, 0)).1) ∧ (qy = true ↔ Conn (Fo A (lvUp (lvUp lv T1) (T2.take i)) tr k) s y) ∧ (qy = true ↔ Conn (Fo A (lvUp lv T1) tr k) s (T2.getD i (0, 0)).2)) := ⟨hqx, hqy, by rw [hqy, e1, hy]⟩
          have HS : Hid (Side2 A (lvUp lv T1) tr k s (T2.take i ++ T2.getD i (0, 0) :: T2.drop (i + 1)) ∧ T2.take (i + 1) = T2.take i ++ [T2.getD i (0, 0)] ∧ ev ((T2.getD i (0, 0)).1 : Nat) ((T2.getD i (0, 0)).2 : Nat) = .agg #[.int .i64 (x : Int), .int .i64 (y : Int)]) := ⟨hside, t2, by rw [hx, hy]; rfl⟩
          have HM6 : Hid (Mends w (wr.alloc (.cells #[.int .i64 (x : Int), .int .i64 (y : Int)] 92)) G A (lvUp (lvUp lv T1) (T2.take i)) tr a b k bk bi b7 b8 s ∧ EdgesAt (wr.alloc (.cells #[.int .i64 (x : Int), .int .i64 (y : Int)] 92)) (some ⟨bb, 0, none⟩) T2) := ⟨hM6, hE.below hb6⟩
          have i0 : (0 : Int) ≤ (i : Int) := by omega
          have i1 : (i : Int) < (m2 : Int) := by omega
          clear hR hE t1 t2 hx hy hb6 hM6 hside hfA hnd e1 hqx hqy
          dsimp only [sideFn] at ci
          go_wp2_with fail
          generalize (wr.alloc (.cells #[.int .i64 (x : Int), .int .i64 (y : Int)] 92)) = w8 at *
          refine hin.mono ?_
          rintro e w9 ⟨rfl, hb9⟩
          have hM9 := HM6.out.1.below hb9
          have HE9 : Hid (EdgesAt w9 (some ⟨bb, 0, none⟩) T2) := HM6.out.2.below hb9
          replace z0 := cell_keep hb9 z0
          replace z1 := cell_keep hb9 z1
          replace ci := cell_keep hb9 ci
          clear hin HM6 hb9 q1 q2
          cases qx with
          | false =>
            have hpl := hM9.plant (lv := lv) HS.out.1 (fun h => by have := HQ.out.1.2 h.1; cases this) HM2.out.2.2.2.2
            rw [HS.out.2.2] at hpl
            clear hM9
            go_wp2_with fail
            refine hpl.mono ?_
            rintro e w10 ⟨rfl, HN⟩
            clear hpl
            go_wp2_with fail
            go_ret
            exact ⟨true, rfl, HN.out⟩
          | true =>
            have hin := hM9.side y hyn qy HQ.out.2.1
            have HM9 : Hid (Mends w w9 G A (lvUp (lvUp lv T1) (T2.take i)) tr a b k bk bi b7 b8 s) := hM9
            clear hM9
            go_wp2_with fail
            refine hin.mono ?_
            rintro e w10 ⟨rfl, hb10⟩
            have hM10 := HM9.out.below hb10
            have HE10 : Hid (EdgesAt w10 (some ⟨bb, 0, none⟩) T2) := HE9.out.below hb10
            replace z0 := cell_keep hb10 z0
            replace z1 := cell_keep hb10 z1
            clear hin HM9 HE9 hb10 ci
            cases qy with
            | false =>
              have hpl := hM10.plant (lv := lv) HS.out.1 (fun h => by have := HQ.out.2.2.2 h.2; cases this) HM2.out.2.2.2.2
              rw [HS.out.2.2] at hpl
              clear hM10
              go_wp2_with fail
              refine hpl.mono ?_
              rintro e w11 ⟨rfl, HN⟩
              clear hpl
              go_wp2_with fail
              go_ret
              exact ⟨true, rfl, HN.out⟩
            | true =>
              have hcl := hM10.raise2 HS.out.1 HM2.out.2.2.1 (HQ.out.1.1 (by first | exact trivial | rfl)) (HQ.out.2.2.1 (by first | exact trivial | rfl))
              rw [HS.out.2.2, ← HS.out.2.1] at hcl
              have HF : Hid (∀ c, GFoot G c → c < w.heap.size) := hM10.foot
              clear hM10
              go_wp2_with fail
              refine hcl.mono ?_
              rintro e w11 ⟨rfl, t11, HN⟩
              have HE11 : Hid (EdgesAt w11 (some ⟨bb, 0, none⟩) T2) := turn_edges HF.out HT2.out.2.2 t11 HE10.out
              clear hcl t11
              go_wp2_with fail
              go_roundw
              case rel => exact ⟨i + 1, by omega, by go_num, HN.out, HE11.out⟩
              case measure => simp [intOf]; omega
        · obtain rfl : i = m2 := by omega
          have HN : Hid (Mended w wr G A lv tr a b k false) := by
            have h1 := hR
            rw [HL2.out, List.take_length] at h1
            exact h1.last HM2.out.2.1 HM2.out.2.2.2.1 HM2.out.2.2.2.2
          have i1 : ¬ ((i : Int) < (i : Int)) := by omega
          clear hR hE
          go_wp2_with fail
          go_ret
          exact ⟨false, rfl, HN.out⟩

/-- What mend comes to: the levels are what they should be, and none has fallen. -/
def Whole (w w' : World) (G : GPl) (A : List (Nat × Nat)) (lv : Nat × Nat → Nat) : Prop :=
  Turns (GFoot G) w w' ∧ ∃ lv' tr', GAt w' G A lv' tr' ∧ Levels G.n A lv' tr' ∧ ∀ e ∈ A, lv e ≤ lv' e

/-- Where the loop of mend stands: the levels from k on are looked at. -/
structure Down (w wr : World) (G : GPl) (A : List (Nat × Nat)) (lv : Nat × Nat → Nat) (tr : Nat × Nat → Bool) (a b k : Nat) : Prop where
  turns : Turns (GFoot G) w wr
  at_ : ∃ lv', GAt wr G A lv' tr ∧ Cut G.n A lv' tr a b k ∧ ∀ e ∈ A, lv e ≤ lv' e

set_option maxRecDepth 100000 in
set_option maxHeartbeats 2000000 in
theorem mend_any (h : GAt w G A lv tr) (l : Nat) (hl : l < G.K) (hc : Cut G.n A lv tr a b (l + 1)) :
    Calls Tryz.prog 82 #[.pointer (some ⟨G.g, 0, none⟩), ev a b, .int .i64 (l : Nat)] w fun e w' => e = .returned (.tuple #[]) ∧ Whole w w' G A lv := by
  have hk6 := GMem.k10 h
  have hb1 : Below w.heap.size w (w.alloc (.cells #[.int .i64 (a : Int), .int .i64 (b : Int)] 92)) := (Below.refl _ _).alloc (Nat.le_refl _) _
  have z0 : (w.alloc (.cells #[.int .i64 (a : Int), .int .i64 (b : Int)] 92)).cell? ⟨w.heap.size, 0, none⟩ = some (.int .i64 (a : Int)) := by simp
  have z1 : (w.alloc (.cells #[.int .i64 (a : Int), .int .i64 (b : Int)] 92)).cell? ⟨w.heap.size, 1, none⟩ = some (.int .i64 (b : Int)) := by simp
  have HS : Hid (Down w (w.alloc (.cells #[.int .i64 (a : Int), .int .i64 (b : Int)] 92)) G A lv tr a b (l + 1)) := ⟨Turns.of_below hb1, lv, GMem.below h hb1, hc, fun _ _ => Nat.le_refl _⟩
  have HF : Hid (∀ c, GFoot G c → c < w.heap.size) := fun c hc => GMem.foot_lt h hc
  have HZ : Hid ((w.alloc (.cells #[.int .i64 (a : Int), .int .i64 (b : Int)] 92)).cell? ⟨w.heap.size, 0, none⟩ = some (.int .i64 (a : Int)) ∧ (w.alloc (.cells #[.int .i64 (a : Int), .int .i64 (b : Int)] 92)).cell? ⟨w.heap.size, 1, none⟩ = some (.int .i64 (b : Int))) := ⟨z0, z1⟩
  clear h hc hb1 z0 z1
  go_enter Tryz.func82, Tryz.ntmps82
  dsimp only [ev]
  go_wp2_with fail
  generalize (w.alloc (.cells #[.int .i64 (a : Int), .int .i64 (b : Int)] 92)) = w1 at *
  go_loopw [6] (fun i wr => ∃ j : Nat, j ≤ l + 1 ∧ i = .int .i64 ((j : Int) - 1) ∧ Down w wr G A lv tr a b j ∧ wr.cell? ⟨w.heap.size, 0, none⟩ = some (.int .i64 (a : Int)) ∧ wr.cell? ⟨w.heap.size, 1, none⟩ = some (.int .i64 (b : Int))) (fun i _ => (intOf i + 1).toNat)
  case atStart => exact ⟨l + 1, Nat.le_refl _, by simp, HS.out, HZ.out⟩
  case round =>
    obtain ⟨j, hj, rfl, hR, z0, z1⟩ := hrel
    cases j with
    | zero =>
      have HE : Hid (Whole w wr G A lv) := by
        obtain ⟨lv', h1, h2, h3⟩ := hR.at_
        exact ⟨hR.turns, lv', tr, h1, h2.done, h3⟩
      clear hR
      have e1 : ¬ ((0 : Int) ≤ -1) := by omega
      go_wp2_with fail
      go_end0
      exact ⟨rfl, HE.out⟩
    | succ j =>
      obtain ⟨lv', h1, h2, h3⟩ := hR.at_
      have hcl := mendAt_any h1 h2 (by omega)
      have HR : Hid (Turns (GFoot G) w wr ∧ ∀ e ∈ A, lv e ≤ lv' e) := ⟨hR.turns, h3⟩
      have e1 : (((j + 1 : Nat) : Int) - 1) = (j : Int) := by omega
      have e2 : (0 : Int) ≤ (j : Int) := by omega
      clear hR h1 h2 h3
      rw [e1]
      clear e1
      dsimp only [ev] at hcl
      go_wp2_with fail
      refine hcl.mono ?_
      rintro e w2 ⟨q, rfl, t2, g1, g2⟩
      have z0' := turn_cell HF.out (Nat.le_refl _) t2 z0
      have z1' := turn_cell HF.out (Nat.le_refl _) t2 z1
      clear hcl z0 z1
      cases q with
      | true =>
        have HE : Hid (Whole w w2 G A lv) := by
          obtain ⟨lv2, tr2, k1, k2, k3⟩ := g1 rfl
          exact ⟨HR.out.1.trans t2, lv2, tr2, k1, k2, fun e he => Nat.le_trans (HR.out.2 e he) (k3 e he)⟩
        clear g1 g2 t2
        go_wp2_with fail
        refine bodyPost_ret (results_none rfl _ _ _) rfl ?_
        exact ⟨rfl, HE.out⟩
      | false =>
        have HE : Hid (Down w w2 G A lv tr a b j) := by
          obtain ⟨lv2, k1, k2, k3⟩ := g2 rfl
          exact ⟨HR.out.1.trans t2, lv2, k1, k2, fun e he => Nat.le_trans (HR.out.2 e he) (k3 e he)⟩
        clear g1 g2 t2
        go_wp2_with fail
        go_roundw
        case rel => exact ⟨j, by omega, by first | rfl | go_num, HE.out, z0', z1'⟩
        case measure => simp [intOf]

end Go.Proofs.YtcfemppdeidjmacGreatDoor.Gr
