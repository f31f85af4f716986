/-
  TourCuts: the walk of the statement.
-/
import Derived.Test.YtdlnbeoccakleaaTu2
import Derived.Test.YtdlnbeoccakleaaTu3
import Derived.Test.YtdlnbeoccakleaaTu6
namespace Go.Proofs.Ytdlnbeoccakleaa
open Go.RowKit Go.Deep
set_option linter.unusedVariables false

/-- The two that are linked first. -/
theorem rest_two {p' : Nat → Nat} {E' : List (Nat × Nat)} (mo : More [] 0 2 E') (h' : Rest E' p') : nodesOf 3 p' (p' 2) = [0, 2] := by
  have h0 : Rest [] fun i => i := ⟨Low.start [], fun e he => absurd he (by simp)⟩
  have e2 : p' 2 = p' 0 := (mo.joined h0 h' 2).2 (Or.inr rfl)
  have e1 : p' 1 ≠ p' 0 := fun e => by
    rcases (mo.joined h0 h' 1).1 e with h | h
    · exact absurd h (by decide)
    · exact absurd h (by decide)
  rw [e2]
  unfold nodesOf
  simp [List.range_succ, e1, e2]

set_option maxRecDepth 1000000 in
set_option maxHeartbeats 4000000 in
theorem cuts_no {a : Option Addr} {la ca : Nat} {w : World} (n k : Int) (hn : n < 1 ∨ 60 < n) :
    Calls Try.prog 7 #[.int .i64 n, .slice a la ca, .int .i64 k] w fun e w' => e = .returned (.bool true) ∧ Below w.heap.size w w' := by
  go_enter Try.func7, Try.ntmps7
  go_wp2_with fail
  refine (fnew_any (w := w) 3 (by omega) (by omega)).mono ?_
  rintro e w1 ⟨Z, rfl, hb1, hf1, hZn, hZf⟩
  go_wp2_with fail
  refine (flink_any hf1 0 2 (by omega) (by omega) (by decide)).mono ?_
  rintro e w2 ⟨rfl, t2, A, B, p2, hAB, mo, hf2⟩
  have hb2 : Below w.heap.size w w2 := Turn.below hb1 hb1.size hZf t2
  obtain ⟨rfl, rfl⟩ := List.append_eq_nil_iff.1 hAB.symm
  have hmem := members_l hf2 2 (by omega) [0, 2] (by rw [hZn]; exact rest_two mo hf2.grown.rest)
  clear t2 hf1 hb1 hAB
  go_wp2_with fail
  refine hmem.mono ?_
  rintro e w3 ⟨k3, c3, rfl, hb3, hf3, hn3, hc3, hc4⟩
  have hb30 := below_step hb2 hb3
  have hbx : Below w3.heap.size w3 (w3.alloc (.cells #[.int .i64 0, .int .i64 2] 3)) := (Below.refl _ _).alloc (Nat.le_refl _) _
  have hint := ints_any (n := 2) (n' := 2) (cap' := 2) ((hn3.below hbx).ints hc3) (a' := some ⟨w3.heap.size, 0, none⟩) ⟨rfl, Nat.le_refl _, fun i hi => ⟨_, 0, rfl, by
    match i, hi with
    | 0, _ => simp
    | 1, _ => simp⟩⟩ (by omega)
  clear hmem hf2 hf3 hn3 hb2
  go_wp2_with fail
  refine hint.mono ?_
  rintro e w4 ⟨rfl, hb4⟩
  have hb40 := below_step (below_step hb30 hbx) hb4
  clear hint hb3 hb30 hbx hb4
  go_wp2_with fail
  refine (fnew_no n hn).mono ?_
  rintro e w5 ⟨rfl, rfl⟩
  go_wp2_with fail
  go_ret
  exact ⟨rfl, hb40⟩

theorem mid_of {E : List (Nat × Nat)} {j : Nat} (hj : j < E.length) : ∃ A B, E = A ++ E.getD j (0, 0) :: B := by
  have hm : E.getD j (0, 0) ∈ E := by
    rw [List.getD_eq_getElem?_getD, List.getElem?_eq_getElem hj]
    exact List.getElem_mem hj
  exact List.append_of_mem hm

set_option maxRecDepth 1000000 in
set_option maxHeartbeats 8000000 in
theorem cuts_any {a : Option Addr} {la ca : Nat} {w : World} {f : Nat → Int × Int} (hs : ScriptAt w a la f) (n : Nat) (k : Int) (h1 : 1 ≤ n) (h60 : n ≤ 60) (hk : -9223372036854775808 ≤ k ∧ k ≤ 9223372036854775807) :
    Calls Try.prog 7 #[.int .i64 (n : Nat), .slice a la ca, .int .i64 k] w fun e w' => e = .returned (.bool true) ∧ Below w.heap.size w w' := by
  go_enter Try.func7, Try.ntmps7
  go_wp2_with fail
  refine (fnew_any (w := w) 3 (by omega) (by omega)).mono ?_
  rintro e w1 ⟨Z, rfl, hb1, hf1, hZn, hZf⟩
  go_wp2_with fail
  refine (flink_any hf1 0 2 (by omega) (by omega) (by decide)).mono ?_
  rintro e w2 ⟨rfl, t2, A, B, p2, hAB, mo, hf2⟩
  have hb2 : Below w.heap.size w w2 := Turn.below hb1 hb1.size hZf t2
  obtain ⟨rfl, rfl⟩ := List.append_eq_nil_iff.1 hAB.symm
  have hmem := members_l hf2 2 (by omega) [0, 2] (by rw [hZn]; exact rest_two mo hf2.grown.rest)
  clear t2 hf1 hb1 hAB
  go_wp2_with fail
  refine hmem.mono ?_
  rintro e w3 ⟨k3, c3, rfl, hb3, hf3, hn3, hc3, hc4⟩
  have hb30 := below_step hb2 hb3
  have hbx : Below w3.heap.size w3 (w3.alloc (.cells #[.int .i64 0, .int .i64 2] 3)) := (Below.refl _ _).alloc (Nat.le_refl _) _
  have hint := ints_any (n := 2) (n' := 2) (cap' := 2) ((hn3.below hbx).ints hc3) (a' := some ⟨w3.heap.size, 0, none⟩) ⟨rfl, Nat.le_refl _, fun i hi => ⟨_, 0, rfl, by
    match i, hi with
    | 0, _ => simp
    | 1, _ => simp⟩⟩ (by omega)
  clear hmem hf2 hf3 hn3 hb2
  go_wp2_with fail
  refine hint.mono ?_
  rintro e w4 ⟨rfl, hb4⟩
  have hb40 := below_step (below_step hb30 hbx) hb4
  clear hint hb3 hb30 hbx hb4
  go_wp2_with fail
  refine (fnew_any n h1 h60).mono ?_
  rintro e w5 ⟨L, rfl, hb5, hf5, hLn, hLf⟩
  subst hLn
  have hb50 := below_step hb40 hb5
  have hft : ∀ k, Foot L k → w.heap.size ≤ k := fun k hk => Nat.le_trans hb40.size (hLf k hk)
  clear hb40 hb5 hLf
  go_wp2_with fail
  refine tl_loop f hs ⟨⟨_, _, hf5⟩, hb50, hft⟩ _ ?_ rfl
  rintro A w6 ⟨U, _, ⟨⟨E, p, hf6⟩, hb6, _⟩, rfl⟩
  clear hf5 hb50 hs
  go_wp2_with fail
  refine (fedges_any hf6).mono ?_
  rintro e w7 ⟨a14, c14, rfl, hb7, hE7, ha7, hc7, hc8⟩
  have hM : MW w L E p a14 w7 := ⟨hf6.below hb7, below_step hb6 hb7, hft, hE7, fun b e hF => by have := ha7 b e; have := hf6.foot_lt hF; omega⟩
  clear hb7 hE7 ha7 hb6 hf6
  have HC : Hid (E.length ≤ c14 ∧ c14 ≤ maxLen) := ⟨hc7, hc8⟩
  clear hc7 hc8
  generalize hN : E.length = N at *
  have HN : Hid (E.length = N) := hN
  clear hN
  go_wp2_with fail
  refine tm_loop (N := N) h60 (k := 0) ⟨hM, rfl⟩ _ ?_ rfl
  clear hM
  rintro A w8 ⟨U8, kt, _, ⟨hM, hkt⟩, rfl⟩
  have hparts := (forest_parts hM.f.grown.among hM.f.grown.rest).2.1 hM.f.grown.forest
  have hsum : kt + N = L.n := by rw [hkt, ← HN.out]; exact hparts
  have ht1 : ((kt : Int) != (L.n : Int) - (N : Int)) = false := by rw [bne_eq_false_iff_eq]; omega
  clear hparts hkt
  have HM : Hid (MW w L E p a14 w8) := hM
  have hNb : N ≤ 60 := by omega
  clear hM hsum
  by_cases hz : N = 0
  · have ht2 : ((N : Int) == 0) = true := by rw [hz]; rfl
    clear hz
    go_wp2_with fail
    go_ret
    exact ⟨rfl, HM.out.below⟩
  · have ht2 : ((N : Int) == 0) = false := by rw [beq_eq_false_iff_ne]; omega
    have hpk := pick_any k N w8 hk (by omega) (by omega)
    go_wp2_with fail
    refine hpk.mono ?_
    rintro e w9 ⟨j, hj, rfl, rfl⟩
    clear hpk ht1 ht2 hz
    have hjE : j < E.length := by rw [HN.out]; exact hj
    obtain ⟨b14, rfl, q1, q2⟩ := HM.out.list.cell j hjE
    obtain ⟨A, B, hAB⟩ := mid_of hjE
    obtain ⟨x1, x2, hx⟩ : ∃ x1 x2, E.getD j (0, 0) = (x1, x2) := ⟨_, _, rfl⟩
    rw [hx] at q1 q2 hAB
    dsimp only at q1 q2
    have hless : x1 < x2 := HM.out.f.grown.less (x1, x2) (by rw [hAB]; simp)
    have hin := HM.out.f.grown.among (x1, x2) (by rw [hAB]; simp)
    obtain ⟨hx1, hx2⟩ : x1 < L.n ∧ x2 < L.n := hin
    rw [show (x1, x2) = (min x1 x2, max x1 x2) by rw [Nat.min_eq_left (by omega), Nat.max_eq_right (by omega)]] at hAB
    have hbx : Below w9.heap.size w9 (w9.alloc (.cells #[.int .i64 (x1 : Int), .int .i64 (x2 : Int)] 59)) := (Below.refl _ _).alloc (Nat.le_refl _) _
    have hMx := HM.out.step hbx
    have hxo : ¬ Foot L w9.heap.size := fun hF => by have := HM.out.f.foot_lt hF; omega
    have e1 : (w9.alloc (.cells #[.int .i64 (x1 : Int), .int .i64 (x2 : Int)] 59)).cell? ⟨w9.heap.size, 0, none⟩ = some (.int .i64 (x1 : Int)) := by simp
    have e2 : (w9.alloc (.cells #[.int .i64 (x1 : Int), .int .i64 (x2 : Int)] 59)).cell? ⟨w9.heap.size, 1, none⟩ = some (.int .i64 (x2 : Int)) := by simp
    have i0 : (0 : Int) ≤ (j : Int) := by omega
    have i1 : (j : Int) < (N : Int) := by omega
    clear HM hx hjE hbx
    go_wp2_with fail
    generalize (w9.alloc (.cells #[.int .i64 (x1 : Int), .int .i64 (x2 : Int)] 59)) = W at *
    generalize w9.heap.size = bx at *
    clear q1 q2 i0 i1 hj
    have hq1 : L.n ≤ 60 := h60
    obtain ⟨ws, hws⟩ : ∃ ws, nodesOf L.n p (p x1) = ws := ⟨_, rfl⟩
    have hwl : ws.length ≤ 60 := by rw [← hws]; exact nodes_small hMx.f _
    have hm1 := members_l hMx.f x1 hx1 ws hws
    refine hm1.mono ?_
    rintro e w10 ⟨kw, cw, rfl, hb10, hf10, hn10, hcw, _⟩
    clear hm1
    have hM10 := hMx.step hb10
    replace e1 := cell_keep hb10 e1
    replace e2 := cell_keep hb10 e2
    clear hMx hb10 hf10
    have hfc : FAt w10 L (A ++ (min x1 x2, max x1 x2) :: B) p := hAB ▸ hM10.f
    have hcut := fcut_any x1 x2 hfc hx1 hx2
    go_wp2_with fail
    refine hcut.mono ?_
    rintro e w11 ⟨rfl, t11, p1, mo, hf11⟩
    rw [← hAB] at mo
    have hb11 : Below w.heap.size w w11 := Turn.below hM10.below hM10.below.size hM10.foot t11
    have hE11 := hM10.list.turn hM10.off t11
    have hn11 := hn10.turn t11
    have ceq : ∀ i v, w10.cell? ⟨bx, i, none⟩ = some v → w11.cell? ⟨bx, i, none⟩ = some v := fun i v hc => (World.cell?_of_block (w := w10) (a := ⟨bx, i, none⟩) (t11.block bx (World.block_lt_of_cell? _ _ hc) hxo)).trans hc
    replace e1 := ceq _ _ e1
    replace e2 := ceq _ _ e2
    have hap := mo.apart hf11.grown.rest
    have hrest := hM10.f.grown.rest
    have hrises := hM10.f.grown.rises
    have hoff := hM10.off
    have hft2 := hM10.foot
    clear hcut hfc hM10 t11 ceq hn10
    have hsame := same_any hf11 x1 x2 hx1 hx2
    rw [decide_eq_false hap] at hsame
    go_wp2_with fail
    refine hsame.mono ?_
    rintro e w12 ⟨rfl, hb12⟩
    clear hsame
    obtain ⟨us, hus⟩ : ∃ us, nodesOf L.n p1 (p1 x1) = us := ⟨_, rfl⟩
    obtain ⟨vs, hvs⟩ : ∃ vs, nodesOf L.n p1 (p1 x2) = vs := ⟨_, rfl⟩
    have hul : us.length ≤ 60 := by rw [← hus]; exact nodes_small hf11 _
    have hvl : vs.length ≤ 60 := by rw [← hvs]; exact nodes_small hf11 _
    have hf12 := hf11.below hb12
    replace e1 := cell_keep hb12 e1
    replace e2 := cell_keep hb12 e2
    have hm2 := members_l hf12 x1 hx1 us hus
    go_wp2_with fail
    refine hm2.mono ?_
    rintro e w13 ⟨ka, cka, rfl, hb13, hf13, hn13, hca, _⟩
    clear hm2
    replace e1 := cell_keep hb13 e1
    replace e2 := cell_keep hb13 e2
    have hm3 := members_l hf13 x2 hx2 vs hvs
    go_wp2_with fail
    refine hm3.mono ?_
    rintro e w14 ⟨kb, ckb, rfl, hb14, hf14, hn14, hcb, _⟩
    clear hm3
    replace e1 := cell_keep hb14 e1
    replace e2 := cell_keep hb14 e2
    have hb1114 := below_step (below_step hb12 hb13) hb14
    have hC : CW w L E (A ++ B) p1 (some ⟨b14, 0, none⟩) bx x1 x2 kw ka kb ws us vs w14 :=
      ⟨hf14, hb11.trans (hb1114.mono hb11.size), hft2, hE11.below hb1114, hoff, e1, e2, hxo, hn11.below hb1114, hn13.below hb14, hn14⟩
    have hcnt : us.length + vs.length = ws.length := by rw [← hus, ← hvs, ← hws]; exact cut_count mo hrest hf11.grown.rest
    have hone : ∀ y ∈ ws, us.count y + vs.count y = 1 := fun y hy => by
      rw [← hus, ← hvs]
      exact cut_once mo hrest hf11.grown.rest (by rw [hws]; exact hy)
    have hq : (((us.length : Int) + (vs.length : Int)) != (ws.length : Int)) = false := by rw [bne_eq_false_iff_eq]; omega
    clear hcnt e1 e2 hf11 hf12 hf13 hf14 hn11 hn13 hn14 hb11 hb12 hb13 hb14 hb1114 hE11 hus hvs
    go_wp2_with fail
    refine to_loop hone hwl hul hvl hC _ ?_ rfl
    clear hC hone
    rintro A' w15 ⟨U15, _, hC, rfl⟩
    have e1 := hC.e1
    have e2 := hC.e2
    have hlk := flink_any hC.f x1 x2 hx1 hx2 hap
    go_wp2_with fail
    refine hlk.mono ?_
    rintro e w16 ⟨rfl, t16, A2, B2, p2, hAB2, mo2, hf16⟩
    clear hlk
    have hEE : A2 ++ (min x1 x2, max x1 x2) :: B2 = E := by
      refine rises_one hf16.grown.rises hrises ?_
      rw [hAB]
      refine List.perm_middle.trans (List.Perm.trans ?_ List.perm_middle.symm)
      rw [← hAB2]
    rw [hEE] at hf16 mo2
    have hpp : ∀ i, p2 i = p i := fun i => hf16.grown.rest.one hrest (fun _ _ => Iff.rfl) i
    have hw2 : nodesOf L.n p2 (p2 x2) = ws := by
      rw [← hws, nodes_same (fun i _ => hpp i), hpp x2]
      rw [show p x2 = p x1 from (mo.joined hC.f.grown.rest hrest x2).2 (Or.inr rfl)]
    have hb16 : Below w.heap.size w w16 := Turn.below hC.below hC.below.size hC.foot t16
    have hE16 := hC.list.turn hC.off t16
    have hn16 := hC.was.turn t16
    have ceq : ∀ i v, w15.cell? ⟨bx, i, none⟩ = some v → w16.cell? ⟨bx, i, none⟩ = some v := fun i v hc => (World.cell?_of_block (w := w15) (a := ⟨bx, i, none⟩) (t16.block bx (World.block_lt_of_cell? _ _ hc) hxo)).trans hc
    replace e1 := ceq _ _ e1
    replace e2 := ceq _ _ e2
    clear hC t16 ceq hAB2 hEE
    have hm4 := members_l hf16 x2 hx2 ws hw2
    go_wp2_with fail
    refine hm4.mono ?_
    rintro e w17 ⟨kc, cc, rfl, hb17, hf17, hn17, hcc, _⟩
    clear hm4
    have hint := ints_any (n := ws.length) (n' := ws.length) (hn17.ints hcc) ((hn16.below hb17).ints hcw) (by omega)
    go_wp2_with fail
    refine hint.mono ?_
    rintro e w18 ⟨rfl, hb18⟩
    clear hint
    have hf18 := hf17.below hb18
    go_wp2_with fail
    refine (fedges_any hf18).mono ?_
    rintro e w19 ⟨a19, c19, rfl, hb19, hE19, _, hc19, _⟩
    have hb1619 := below_step (below_step hb17 hb18) hb19
    have hes := edges_same (n := N) (cap := c19) (cap' := c14) HN.out hE19 (hE16.below hb1619) (by omega)
    rw [HN.out]
    go_wp2_with fail
    refine hes.mono ?_
    rintro e w20 ⟨rfl, hb20⟩
    clear hes
    go_wp2_with fail
    go_ret
    exact ⟨rfl, hb16.trans ((below_step hb1619 hb20).mono hb16.size)⟩

end Go.Proofs.Ytdlnbeoccakleaa
