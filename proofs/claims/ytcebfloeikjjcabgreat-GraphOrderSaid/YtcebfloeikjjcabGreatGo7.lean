/-
  GraphOrder where there is no graph: the walk up to there.
-/
import Derived.Test.YtcebfloeikjjcabGreatMm
namespace Go.Proofs.YtcebfloeikjjcabGreat.Gr
open Go.RowKit Go.Deep Go.Maps
open Go.RowKit (Below)
set_option linter.unusedVariables false

variable {w w' w0 : World} {G : GPl}

/-- Two forests that join the same have the same number of edges. -/
theorem fo_len {n : Nat} {T T' : List (Nat × Nat)} (h : Forest T) (h' : Forest T') (ha : Among n T) (ha' : Among n T') (hc : ∀ i j, Conn T i j ↔ Conn T' i j) : T.length = T'.length := by
  obtain ⟨p, hp⟩ := rest_of T
  have hp' : Rest T' p := ⟨⟨hp.le, fun i => (hc i (p i)).1 (hp.conn i)⟩, fun e he => (hp.same _ _).2 ((hc _ _).2 (conn_edge he))⟩
  have h1 := ((forest_parts ha hp).2).1 h
  have h2 := ((forest_parts ha' hp').2).1 h'
  omega

theorem GOk.tree_same {w w' : World} {G H : GPl} {A : List (Nat × Nat)} {lv lv' : Nat × Nat → Nat} {tr tr' : Nat × Nat → Bool} (h : GOk w G A lv tr) (h' : GOk w' H A lv' tr') (hn : H.n = G.n) : (Fo A lv' tr' 0).length = (Fo A lv tr 0).length :=
  fo_len (n := G.n) h'.lev.forest h.lev.forest (fun e he => by rw [← hn]; exact h'.lev.among e (mem_Fo.1 he).1) (fun e he => h.lev.among e (mem_Fo.1 he).1) (fun i j => (h'.lev.tree i j).trans (h.lev.tree i j).symm)

/-- A graph of two nodes of the statement's own. -/
def V0 (w0 : World) (G : GPl) (w : World) : Prop := ∃ lv tr, GW w0 G [] lv tr w ∧ G.n = 2
def V1 (w0 : World) (G : GPl) (w : World) : Prop := ∃ lv tr, GW w0 G [(0, 1)] lv tr w ∧ G.n = 2

theorem v_new (w : World) : Calls Tryz.prog 5 #[.int .i64 2] w fun e w' => ∃ G, e = .returned (.tuple #[.pointer (some ⟨G.g, 0, none⟩), .nilIface]) ∧ V0 w G w' := by
  refine (gnew_any (w := w) 2 (by omega) (by omega)).mono ?_
  rintro e w1 ⟨G, rfl, hb, h1, hn, hf⟩
  exact ⟨G, rfl, _, _, ⟨h1, hb, hf⟩, hn⟩

theorem v_add (h : V0 w0 G w) : Calls Tryz.prog 6 #[.pointer (some ⟨G.g, 0, none⟩), .int .i64 1, .int .i64 0] w fun e w' => e = .returned .nilIface ∧ V1 w0 G w' := by
  obtain ⟨lv, tr, gw, hn⟩ := h
  refine Calls.mono (add_any gw.ok 1 0 (by omega) (by omega) (by omega) (by simp) (by simp)) ?_
  rintro e w1 ⟨rfl, t1, P, Q, tr', hPQ, h1⟩
  obtain ⟨rfl, rfl⟩ := List.append_eq_nil_iff.1 hPQ.symm
  exact ⟨rfl, _, _, gw.turn t1 h1, hn⟩

theorem v_parts (h : V1 w0 G w) : Calls Tryz.prog 18 #[.pointer (some ⟨G.g, 0, none⟩)] w fun e w' => e = .returned (.int .i64 1) ∧ Below w0.heap.size w0 w' := by
  obtain ⟨lv, tr, gw, hn⟩ := h
  have hl : (Fo [(0, 1)] lv tr 0).length = 1 := by
    obtain ⟨p, hp⟩ := rest_of (Fo [(0, 1)] lv tr 0)
    have p0 : p 0 = 0 := by have := hp.le 0; omega
    have p1 : p 1 = 0 := by rw [← p0]; exact ((((hp.same 0 1).trans (gw.ok.lev.tree 0 1)).2 (conn_edge (by simp)))).symm
    have hpt := ((forest_parts (n := 2) (fun e he => by have := gw.ok.lev.among e (mem_Fo.1 he).1; rw [hn] at this; exact this) hp).2).1 gw.ok.lev.forest
    have e : partsOf 2 p = 1 := by
      unfold partsOf
      rw [cnt_succ, cnt_succ]
      simp [p0, p1, cnt]
    omega
  refine Calls.mono (gparts_any gw.ok 1 hl) ?_
  rintro e w1 ⟨rfl, hb⟩
  rw [hn]
  exact ⟨rfl, (gw.step hb).below⟩

set_option maxRecDepth 1000000 in
set_option maxHeartbeats 8000000 in
theorem order_no {a am : Option Addr} {la ca lm cm : Nat} {w : World} (n : Int) (hn : n < 1 ∨ 60 < n) :
    Calls Tryz.prog 4 #[.int .i64 n, .slice a la ca, .slice am lm cm] w fun e w' => e = .returned (.bool true) ∧ Below w.heap.size w w' := by
  go_enter Tryz.func4, Tryz.ntmps4
  go_wp2_with fail
  refine (v_new w).mono ?_
  rintro e w1 ⟨Z, rfl, hz0⟩
  have ha1 := v_add hz0
  clear hz0
  go_wp2_with fail
  refine ha1.mono ?_
  rintro e w2 ⟨rfl, hz1⟩
  have hp2 := v_parts hz1
  clear ha1 hz1
  go_wp2_with fail
  refine hp2.mono ?_
  rintro e w3 ⟨rfl, hb3⟩
  clear hp2
  go_wp2_with fail
  refine (gnew_no n hn).mono ?_
  rintro e w8 ⟨rfl, rfl⟩
  go_wp2_with fail
  go_ret
  exact ⟨rfl, hb3⟩

end Go.Proofs.YtcebfloeikjjcabGreat.Gr
