/-
  New of package graph.
-/
import Derived.Test.YtcebfloeikjjcabGreatGj
namespace Go.Proofs.YtcebfloeikjjcabGreat.Gr
open Go.RowKit Go.Deep Go.Maps
open Go.RowKit (Below)
set_option linter.unusedVariables false

variable {w wr w' : World} {G : GPl}

set_option maxHeartbeats 400000 in
theorem gnew_no {w : World} (n : Int) (hn : n < 1 ∨ 60 < n) :
    Calls Tryz.prog 5 #[.int .i64 n] w fun e w' => e = .returned (.tuple #[.pointer none, .iface 50 (.int .i64 1)]) ∧ w' = w := by
  rcases hn with hn | hn
  · go_enter Tryz.func5, Tryz.ntmps5
    go_wp2_with fail
    go_ret2
    exact ⟨rfl, rfl⟩
  · have h1 : ¬ n < 1 := by omega
    go_enter Tryz.func5, Tryz.ntmps5
    go_wp2_with fail
    go_ret2
    exact ⟨rfl, rfl⟩

/-- The pointers to the forests. -/
def ptrs (L : Nat → Pl) (j : Nat) : List Value := (List.range j).map fun k => .pointer (some ⟨(L k).g, 0, none⟩)

theorem ptrs_succ (L : Nat → Pl) (j : Nat) : ptrs L (j + 1) = ptrs L j ++ [.pointer (some ⟨(L j).g, 0, none⟩)] := by simp [ptrs, List.range_succ]

/-- Where the loop of New stands: j forests are there. -/
structure Raised (w wr : World) (n : Nat) (L : Nat → Pl) (ad : Option Addr) (cap j : Nat) : Prop where
  st : wr.rowIs (w.heap.size + 1) 54 3 (fun i => if i = 0 then .int .i64 (n : Nat) else if i = 1 then .map (some w.heap.size) else .slice ad j cap)
  map : ∃ D, HMap wr w.heap.size D [] (fun _ => 0) (fun _ => false)
  own : wr.ownsRow (w.heap.size + 1 + 1) 36 1 (.slice ad j cap) j (ptrs L j)
  fo : ∀ k, k < j → FAt wr (L k) [] (fun i => i) ∧ (L k).n = n
  apart : ∀ i k, i < j → k < j → i ≠ k → ∀ b, Foot (L i) b → ¬ Foot (L k) b
  new : ∀ k, k < j → ∀ b, Foot (L k) b → w.heap.size + 1 + 1 ≤ b
  below : Below w.heap.size w wr
  more : w.heap.size + 1 + 1 ≤ wr.heap.size
  pos : ∀ k, k < j → 0 < n / 2 ^ k

set_option maxRecDepth 1000000 in
theorem Tryz.infoForestPtr : (Tryz.prog.info? 36).map (fun i => (i.zero, i.size, i.bytes)) = some (some (.pointer none), 1, 8) := by kernel_rfl

theorem raised_start (w : World) (n : Nat) (L : Nat → Pl) : Raised w ((w.alloc (.map #[] 0)).alloc (.cells #[.int .i64 (n : Nat), .map (some w.heap.size), .slice none 0 0] 54)) n L none 0 0 := by
  have hb : Below w.heap.size w ((w.alloc (.map #[] 0)).alloc (.cells #[.int .i64 (n : Nat), .map (some w.heap.size), .slice none 0 0] 54)) := ((Below.refl _ _).alloc (Nat.le_refl _) _).alloc (by simp) _
  have own := (World.ownsMap_made w Tryz.prog 41 heldElem).alloc (.cells #[.int .i64 (n : Nat), .map (some w.heap.size), .slice none 0 0] 54)
  have st := World.rowIs_alloc (w.alloc (.map #[] 0)) #[.int .i64 (n : Nat), .map (some w.heap.size), .slice none 0 0] 54 (fun i => if i = 0 then .int .i64 (n : Nat) else if i = 1 then .map (some w.heap.size) else .slice none 0 0) (fun i hi => by
    match i, hi with
    | 0, _ => rfl
    | 1, _ => rfl
    | 2, _ => rfl)
  have e : (w.alloc (.map #[] 0)).heap.size = w.heap.size + 1 := by simp
  rw [e] at st
  exact ⟨st, ⟨_, ⟨0, own⟩, fun v kl _ => by simp [Maps.has], rfl, fun e he => absurd he (by simp)⟩, World.ownsRow_nil .., fun k hk => absurd hk (Nat.not_lt_zero _), fun i k hi => absurd hi (Nat.not_lt_zero _), fun k hk => absurd hk (Nat.not_lt_zero _), hb, by simp, fun k hk => absurd hk (Nat.not_lt_zero _)⟩

theorem addr_add (b j : Nat) : (⟨b, 0, none⟩ : Addr).add j = ⟨b, j, none⟩ := by unfold Addr.add; split <;> simp_all

/-- All forests are there. -/
theorem Raised.done {n j cap : Nat} {L : Nat → Pl} {ad : Option Addr} (h : Raised w wr n L ad cap j) (h1 : 1 ≤ n) (h2 : n ≤ 60) (h0 : n / 2 ^ j = 0) :
    ∃ G : GPl, G.g = w.heap.size + 1 ∧ GOk wr G [] (fun _ => 0) (fun _ => false) ∧ G.n = n ∧ ∀ b, GFoot G b → w.heap.size ≤ b := by
  have hj : 0 < j := by
    rcases Nat.eq_zero_or_pos j with rfl | q
    · rw [Nat.pow_zero, Nat.div_one] at h0; omega
    · exact q
  rcases h.own.2 with ⟨_, e⟩ | ⟨fb, cap', cur, hv, hb, hg, q1, q2, q3, q4⟩
  · omega
  · simp only [Value.slice.injEq] at hv
    obtain ⟨rfl, _, rfl⟩ := hv
    have hrow := h.own.cells (g := fb) rfl
    refine ⟨⟨w.heap.size + 1, w.heap.size, fb, j, cap, n, L⟩, rfl, ⟨⟨h.st.congr fun i hi => ?_, h.map, fun k hk => ?_, ⟨cur, _, hg⟩, fun k hk => ⟨_, by simpa [Fo] using (h.fo k hk).1⟩, fun k hk => (h.fo k hk).2, h.apart, fun k hk q => ?_, fun k => ⟨fun hk => h.pos k hk, fun hk => ?_⟩, h1, h2, List.Pairwise.nil, fun e he => absurd he (by simp), fun e he => absurd he (by simp), by simp⟩, levels_none ..⟩, rfl, fun b hb => ?_⟩
    · match i, hi with
      | 0, _ => rfl
      | 1, _ => rfl
      | 2, _ => rfl
    · have := hrow k (.pointer (some ⟨(L k).g, 0, none⟩)) (by simp only [ptrs]; rw [List.getElem?_map, List.getElem?_range hk]; rfl)
      rw [addr_add] at this
      exact this
    · have := h.new k hk _ q
      simp only at this
      omega
    · apply Nat.lt_of_not_le
      intro hle
      have : n / 2 ^ k ≤ n / 2 ^ j := Nat.div_le_div_left (Nat.pow_le_pow_right (by omega) hle) (Nat.pos_of_ne_zero (by simp))
      simp only at hk
      omega
    · rcases hb with rfl | ⟨k, hk, hb⟩
      · exact Nat.le_refl _
      · have := h.new k hk b hb
        omega

/-- One forest more. -/
theorem Raised.next {n j cap cap' g' : Nat} {L : Nat → Pl} {L' : Pl} {ad : Option Addr} {w1 w3 : World} (h : Raised w wr n L ad cap j) (hb1 : Below wr.heap.size wr w1) (f1 : FAt w1 L' [] (fun i => i)) (hn : L'.n = n) (hf : ∀ b, Foot L' b → wr.heap.size ≤ b)
    (ho : w3.ownsRow (w.heap.size + 1 + 1) 36 1 (.slice (some ⟨g', 0, none⟩) (j + 1) cap') (j + 1) (ptrs L j ++ [.pointer (some ⟨L'.g, 0, none⟩)])) (hg : (w1.alloc (.cells #[.pointer (some ⟨L'.g, 0, none⟩)] 36)).grownBy w3 (Value.slice ad j cap).ownBlock) (hp : 0 < n / 2 ^ j) :
    Raised w (w3.setCell ⟨w.heap.size + 1, 2, none⟩ (.slice (some ⟨g', 0, none⟩) (j + 1) cap')) n (fun k => if k = j then L' else L k) (some ⟨g', 0, none⟩) cap' (j + 1) ∧ w3.rowIs (w.heap.size + 1) 54 3 (fun i => if i = 0 then .int .i64 (n : Nat) else if i = 1 then .map (some w.heap.size) else .slice ad j cap) := by
  obtain ⟨W, hW⟩ : ∃ W, W = w1.alloc (.cells #[.pointer (some ⟨L'.g, 0, none⟩)] 36) := ⟨_, rfl⟩
  have hbW : Below w1.heap.size w1 W := by rw [hW]; exact (Below.refl _ _).alloc (Nat.le_refl _) _
  rw [← hW] at hg
  have hrW : Below wr.heap.size wr W := below_step hb1 hbW
  have hm := h.more
  have hs1 := hrW.size
  have hownW := h.own.kept (grown_below hrW) (own_ne0 h.own)
  have hlo : ∀ b, (Value.slice ad j cap).ownBlock = some b → w.heap.size + 1 + 1 ≤ b := fun b e => (h.own.lt b e).1
  have hbl : ∀ b, b < w.heap.size + 1 + 1 → w3.heap[b]? = wr.heap[b]? := fun b hb => (hg.block b (by omega) (fun e => by have := hlo b e.symm; omega)).trans (hrW.block b (by omega))
  have st3 := h.st.of_block (hbl _ (by omega))
  refine ⟨?_, st3⟩
  -- what is written to: the row of pointers, and the struct
  obtain ⟨F, hF⟩ : ∃ F : Nat → Prop, F = fun b => (Value.slice ad j cap).ownBlock = some b ∨ b = w.heap.size + 1 := ⟨_, rfl⟩
  have tn : Turns F W (w3.setCell ⟨w.heap.size + 1, 2, none⟩ (.slice (some ⟨g', 0, none⟩) (j + 1) cap')) := by
    refine ⟨hg.os, hg.tape, hg.output, by have := hg.size; simpa [World.setCell] using this, fun b hb hn => ?_⟩
    rw [hF] at hn
    rw [Below.heap_setCell _ _ _ _ (fun e => hn (Or.inr e))]
    exact hg.block b hb (fun e => hn (Or.inl e.symm))
  have htag : ∀ b, F b → ∃ t, Tag W b t ∧ (t = 36 ∨ t = 54) := fun b hb => by
    rw [hF] at hb
    rcases hb with e | rfl
    · rcases hownW.2 with ⟨q, _⟩ | ⟨g, c, cur, q, _, q3, _⟩
      · rw [q] at e; cases e
      · rw [q] at e
        have : g = b := Option.some.inj e
        subst this
        exact ⟨_, ⟨cur, _, q3⟩, Or.inl rfl⟩
    · exact ⟨_, rowIs_tag (h.st.of_block (hrW.block _ h.st.lt)), Or.inr rfl⟩
  have hrows : Rows W F := fun b t ht ho hb => by
    obtain ⟨t', ht', ho'⟩ := htag b hb
    have := tag_one ht ht'
    subst this
    rcases ho with rfl | rfl | rfl <;> revert ho' <;> decide
  have hoff : ∀ {L0 : Pl} {E0 : List (Nat × Nat)} {p0 : Nat → Nat}, FAt W L0 E0 p0 → ∀ b, Foot L0 b → ¬ F b := fun {L0 E0 p0} f b hb hfb => by
    obtain ⟨t', ht', ho'⟩ := htag b hfb
    exact fat_plain f b t' ht' (by rcases ho' with rfl | rfl <;> decide) hb
  have hfoW : ∀ k, k < j → FAt W (L k) [] (fun i => i) := fun k hk => (h.fo k hk).1.below hrW
  have hlt : ∀ k, k < j → ∀ b, Foot (L k) b → b < wr.heap.size := fun k hk b hb => by
    obtain ⟨DW, DE, m, -⟩ := (h.fo k hk).1.mem
    exact m.foot_lt hb
  refine ⟨(st3.set 2 _).congr fun i hi => ?_, ?_, ?_, fun k hk => ?_, fun i k hi hk hne b h1 h2 => ?_, fun k hk b hb => ?_, ?_, ?_, fun k hk => ?_⟩
  · match i, hi with
    | 0, _ => rfl
    | 1, _ => rfl
    | 2, _ => rfl
  · obtain ⟨D, hD⟩ := h.map
    exact ⟨D, hD.of_block ((Below.heap_setCell _ _ _ _ (by simp)).trans (hbl _ (by omega)))⟩
  · have e : ptrs (fun k => if k = j then L' else L k) (j + 1) = ptrs L j ++ [.pointer (some ⟨L'.g, 0, none⟩)] := by
      rw [ptrs_succ, if_pos rfl]
      congr 1
      unfold ptrs
      refine List.map_congr_left fun k hk => ?_
      show Value.pointer (some ⟨(if k = j then L' else L k).g, 0, none⟩) = _
      rw [if_neg (by have := List.mem_range.1 hk; omega)]
    rw [e]
    refine ho.kept (row := some (w.heap.size + 1)) ⟨rfl, rfl, rfl, by simp [World.setCell], fun k _ hne => Below.heap_setCell _ _ _ _ (fun q => hne (by rw [q]))⟩ (own_ne ho (by omega))
  · by_cases e : k = j
    · subst e
      rw [if_pos rfl]
      exact ⟨fat_turns (f1.below hbW) hrows (hoff (f1.below hbW)) tn, hn⟩
    · rw [if_neg e]
      exact ⟨fat_turns (hfoW k (by omega)) hrows (hoff (hfoW k (by omega))) tn, (h.fo k (by omega)).2⟩
  · by_cases ei : i = j
    · by_cases ek : k = j
      · omega
      · rw [if_pos ei] at h1
        rw [if_neg ek] at h2
        have := hf b h1
        have := hlt k (by omega) b h2
        omega
    · rw [if_neg ei] at h1
      by_cases ek : k = j
      · rw [if_pos ek] at h2
        have := hf b h2
        have := hlt i (by omega) b h1
        omega
      · rw [if_neg ek] at h2
        exact h.apart i k (by omega) (by omega) hne b h1 h2
  · by_cases e : k = j
    · rw [if_pos e] at hb
      have := hf b hb
      omega
    · rw [if_neg e] at hb
      exact h.new k (by omega) b hb
  · have b1 : Below w.heap.size w W := h.below.trans (hrW.mono (by have := h.below.size; omega))
    exact (b1.grown hg (by omega) (fun k e => by have := hlo k e; omega)).setCell (by show w.heap.size ≤ w.heap.size + 1; omega) _
  · have := tn.size
    omega
  · by_cases e : k = j
    · subst e; exact hp
    · exact h.pos k (by omega)

set_option maxRecDepth 100000 in
set_option maxHeartbeats 4000000 in
theorem gnew_any {w : World} (n : Nat) (h1 : 1 ≤ n) (h2 : n ≤ 60) :
    Calls Tryz.prog 5 #[.int .i64 (n : Nat)] w fun e w' => ∃ G : GPl, e = .returned (.tuple #[.pointer (some ⟨G.g, 0, none⟩), .nilIface]) ∧ Below w.heap.size w w' ∧ GOk w' G [] (fun _ => 0) (fun _ => false) ∧ G.n = n ∧ ∀ b, GFoot G b → w.heap.size ≤ b := by
  have hmm := @run_makeMap Tryz.prog
  obtain ⟨z0, hi0, hz0, hz1, hz2⟩ := info_parts Tryz.infoForestPtr
  have h1' : ¬ ((n : Int) < 1) := by omega
  have h2' : ¬ ((60 : Int) < (n : Int)) := by omega
  have HS : Hid (Raised w ((w.alloc (.map #[] 0)).alloc (.cells #[.int .i64 (n : Nat), .map (some w.heap.size), .slice none 0 0] 54)) n (fun _ => ⟨0, 0, 0, 0, 0⟩) none 0 0) := raised_start w n _
  go_enter Tryz.func5, Tryz.ntmps5
  go_wp2_with fail
  go_loopw [5, 6] (fun _ _ wr => ∃ (L : Nat → Pl) (ad : Option Addr) (cap j : Nat), Raised w wr n L ad cap j) (fun _ _ wr => 7 - (match wr.cell? ⟨w.heap.size + 1, 2, none⟩ with | some (.slice _ j _) => j | _ => 0))
  case atStart => exact ⟨_, _, _, _, HS.out⟩
  case round =>
    obtain ⟨L, ad, cap, j, hR⟩ := hrel
    have c2 := hR.st.cell (i := 2) (by omega)
    simp only [show ¬ (2 = 0) by omega, show ¬ (2 = 1) by omega, if_false] at c2
    have hj6 : j ≤ 6 := by
      apply Nat.le_of_not_lt
      intro q
      have q1 := hR.pos 6 q
      have e : n / 2 ^ 6 = 0 := Nat.div_eq_of_lt (by omega)
      omega
    have HR : Hid (Raised w wr n L ad cap j) := hR
    obtain ⟨m, hm⟩ : ∃ m, n / 2 ^ j = m := ⟨_, rfl⟩
    have ec : ((n : Int) / 2 ^ j) = (m : Int) := by rw [← hm]; push_cast; rfl
    have HM : Hid (n / 2 ^ j = m) := hm
    clear hR hm
    by_cases hp : 0 < m
    · have e1 : (0 : Int) < (n : Int) / 2 ^ j := by rw [ec]; omega
      have hnw := fnew_any (w := wr) n h1 h2
      clear ec
      go_wp2_with fail
      refine hnw.mono ?_
      rintro e w1 ⟨L', rfl, hb1, f1, hn1, hf1⟩
      have hR := HR.out
      have st1 := hR.st.of_block (hb1.block _ hR.st.lt)
      have ho1 := hR.own.kept (grown_below hb1) (own_ne0 hR.own)
      have c21 := cell_keep hb1 c2
      have hcn : ∀ i u, [Value.pointer (some ⟨L'.g, 0, none⟩)][i]? = some u → (w1.alloc (.cells #[.pointer (some ⟨L'.g, 0, none⟩)] 36)).cell? (Addr.add ⟨w1.heap.size, 0, none⟩ i) = some u := fun i u hi => by
        match i, hi with
        | 0, hi => cases hi; simp [Addr.add]
      have hm1 : w.heap.size + 1 + 1 ≤ w1.heap.size := Nat.le_trans hR.more hb1.size
      clear hR hnw
      go_wp2_with (first
        | (at_builtin; refine wpList_append_own _ rfl (.tmp 38) (.tmp 40) 52 rfl (w.heap.size + 1 + 1) 36 z0 (.pointer none) 1 8 Tryz.underlying52 hi0 hz0 hz1 hz2 rfl (by decide) (.slice ad j cap) j (ptrs L j) rfl (ho1.alloc _) ⟨w1.heap.size, 0, none⟩ 1 1 [.pointer (some ⟨L'.g, 0, none⟩)] rfl rfl hcn (by simp [Value.oneCell']) ?c3 ?c4 ?c5 ?_))
      case c3 => unfold maxLen; omega
      case c4 => omega
      case c5 => simp; omega
      intro v' w3 hown' hgrow hnil
      obtain ⟨g', cap', rfl⟩ : ∃ g' cap', v' = .slice (some ⟨g', 0, none⟩) (j + 1) cap' := by
        rcases hown'.2 with ⟨_, h0⟩ | ⟨g, cap, _, rfl, _⟩
        · omega
        · exact ⟨g, cap, rfl⟩
      have hN := HR.out.next hb1 f1 hn1 hf1 hown' hgrow (by rw [HM.out]; exact hp)
      have HN : Hid (Raised w (w3.setCell ⟨w.heap.size + 1, 2, none⟩ (.slice (some ⟨g', 0, none⟩) (j + 1) cap')) n (fun k => if k = j then L' else L k) (some ⟨g', 0, none⟩) cap' (j + 1)) := hN.1
      have f2 := hN.2.frozen 2
      have q2 := hN.2.cell (i := 2) (by omega)
      have HC : Hid (wr.cell? ⟨w.heap.size + 1, 2, none⟩ = some (.slice ad j cap) ∧ (w3.setCell ⟨w.heap.size + 1, 2, none⟩ (.slice (some ⟨g', 0, none⟩) (j + 1) cap')).cell? ⟨w.heap.size + 1, 2, none⟩ = some (.slice (some ⟨g', 0, none⟩) (j + 1) cap')) := ⟨c2, hN.1.st.cell (i := 2) (by omega)⟩
      clear hN hown' hgrow hnil hcn f1 hb1 hf1 ho1 st1 HR hn1
      simp only [show ¬ (2 = 0) by omega, show ¬ (2 = 1) by omega, if_false] at q2
      go_wp2_with fail
      go_roundw
      case rel => exact ⟨_, _, _, _, HN.out⟩
      case measure => rw [HC.out.1, HC.out.2]; simp only; omega
    · have e1 : ¬ (0 : Int) < (n : Int) / 2 ^ j := by rw [ec]; omega
      have HD : Hid (∃ G : GPl, G.g = w.heap.size + 1 ∧ GOk wr G [] (fun _ => 0) (fun _ => false) ∧ G.n = n ∧ ∀ b, GFoot G b → w.heap.size ≤ b) := HR.out.done h1 h2 (by have := HM.out; omega)
      clear ec
      go_wp2_with fail
      go_ret2
      obtain ⟨G, q1, q2, q3, q4⟩ := HD.out
      exact ⟨G, by rw [q1]; rfl, HR.out.below, q2, q3, q4⟩

end Go.Proofs.YtcebfloeikjjcabGreat.Gr
