/-
  The statements' own disk: NewDisk.
-/
import Derived.Test.YtclheepbojogfacDoorDj
namespace Go.Proofs.YtclheepbojogfacDoor.Dk
open Go.RowKit Go.Deep
open Go.RowKit (Below)
set_option linter.unusedVariables false

variable {w w' w0 : World} {B i j n kd : Nat} {F F' : Nat → Prop} {v u : Value} {xs : List Value}

/-- A disk that is being made: so many pages are kept, so many are there now. -/
structure NAt (w0 w : World) (B kd i j : Nat) (F : Nat → Prop) : Prop where
  ex : ∃ K N xk xn, w.rowIs kd 60 5 (cells5 K N (.slice none 0 0) (-1) false) ∧ PsAt w B F K i (fun _ => blank) xk ∧ PsAt w B F N j (fun _ => blank) xn ∧ ∀ k, K.ownBlock = some k → N.ownBlock ≠ some k
  dk : F kd
  own : ∀ b, F b → B ≤ b ∧ b < w.heap.size
  below : Below B w0 w

theorem NAt.done (h : NAt w0 w B kd n n F) : RAt w B kd n fresh F := by
  obtain ⟨K, N, xk, xn, h1, h2, h3, h5⟩ := h.ex
  exact ⟨⟨K, N, _, xk, xn, [], h1, h2, h3, ⟨World.ownsRow_nil .., fun i hi => absurd hi (Nat.not_lt_zero _), fun k e => (by cases e)⟩, h5⟩, h.dk, h.own, by decide⟩

theorem mid_block {k : Nat} (hk : k < w.heap.size) (o : Obj) : ((w.drew.alloc nil32).alloc o).heap[k]? = w.heap[k]? := by
  rw [blk_alloc_lt _ _ _ (show k < (w.drew.alloc nil32).heap.size by simp; omega)]
  exact blk_alloc_lt _ _ _ hk

section

/-- One more page is kept. -/
theorem NAt.pushK (h : NAt w0 w B kd i j F) (hB : B ≤ w.heap.size) : ∃ V xk, w.cell? ⟨kd, 0, none⟩ = some V ∧ w.ownsRow B 31 1 V i xk ∧
    ∀ w' g c, w'.ownsRow B 31 1 (.slice (some ⟨g, 0, none⟩) (i + 1) c) (i + 1) (xk ++ [.slice (some ⟨w.heap.size, 0, none⟩) 32 32]) → ((w.drew.alloc nil32).alloc (.cells #[.slice (some ⟨w.heap.size, 0, none⟩) 32 32] 31)).grownBy w' V.ownBlock → (V.ownBlock = some g ∨ g = w.heap.size + 2) →
      (∃ F', NAt w0 (w'.setCell ⟨kd, 0, none⟩ (.slice (some ⟨g, 0, none⟩) (i + 1) c)) B kd (i + 1) j F') ∧ w'.frozen? ⟨kd, 0, none⟩ = false ∧ w'.cell? ⟨kd, 0, none⟩ = some V := by
  obtain ⟨K, N, xk, xn, h1, h2, h3, h5⟩ := h.ex
  refine ⟨K, xk, h1.cell (i := 0) (by omega), h2.own, ?_⟩
  intro w' g c hown hgrow hat
  have hK : ∀ k, Tg w k 5 ∨ Tg w k 60 → some k ≠ K.ownBlock := fun k q e => by
    rcases q with q | q <;> exact absurd (Tg.one q (Tg.own h2.own e.symm)) (by decide)
  have hG : ∀ k, k < w.heap.size → some k ≠ K.ownBlock → w'.heap[k]? = w.heap[k]? := fun k hk hne => (hgrow.block k (by simp; omega) hne).trans (mid_block hk _)
  have h1' := h1.of_block (hG kd h1.lt (hK kd (Or.inr (Tg.row h1))))
  have hs : w.heap.size + 2 ≤ w'.heap.size := by have := hgrow.size; simpa using this
  have ht : ∀ k, Tg w k 5 ∨ Tg w k 31 → k ≠ kd := fun k q e => by
    subst e
    rcases q with q | q <;> exact absurd (Tg.one q (Tg.row h1)) (by decide)
  have hO : ∀ k, k < w.heap.size → k ≠ kd → some k ≠ K.ownBlock → (w'.setCell ⟨kd, 0, none⟩ (.slice (some ⟨g, 0, none⟩) (i + 1) c)).heap[k]? = w.heap[k]? := fun k hk q hne => by
    rw [blk_setCell_other _ _ _ _ (show k ≠ kd from q)]
    exact hG k hk hne
  have hgd : g ≠ kd := fun e => by
    rcases hat with e' | e'
    · rw [e] at e'; exact absurd (Tg.one (Tg.row h1) (Tg.own h2.own e')) (by decide)
    · have := h1.lt; omega
  have hP : PgAt (w'.setCell ⟨kd, 0, none⟩ (.slice (some ⟨g, 0, none⟩) (i + 1) c)) (fun b => F b ∨ b = w.heap.size ∨ b = g) (.slice (some ⟨w.heap.size, 0, none⟩) 32 32) blank := by
    refine (blank_at (w := w) (fun b => F b ∨ b = w.heap.size ∨ b = g) (Or.inr (Or.inl rfl))).keep (fun _ q => q) fun k hk q => ?_
    have hk1 : k < w.heap.size + 1 := by
      obtain ⟨cs, fr, e⟩ := q
      have := (Array.getElem?_eq_some_iff.1 e).1
      simpa using this
    have hne : some k ≠ K.ownBlock := fun e => by
      have h4 := (h2.own.lt k e.symm).2
      obtain ⟨cs, fr, e1⟩ := q
      rw [blk_alloc_lt _ _ _ h4] at e1
      exact hK k (Or.inl ⟨cs, fr, e1⟩) e
    have hkd : k ≠ kd := fun e => by
      subst e
      obtain ⟨cs, fr, e1⟩ := q
      rw [blk_alloc_lt _ _ _ h1.lt] at e1
      exact absurd (Tg.one ⟨cs, fr, e1⟩ (Tg.row h1)) (by decide)
    rw [blk_setCell_other _ _ _ _ (show k ≠ kd from hkd), hgrow.block k (by simp; omega) hne, blk_alloc_lt _ _ _ (show k < (w.drew.alloc nil32).heap.size by simp; omega)]
    rfl
  have hown' : (w'.setCell ⟨kd, 0, none⟩ (.slice (some ⟨g, 0, none⟩) (i + 1) c)).ownsRow B 31 1 (.slice (some ⟨g, 0, none⟩) (i + 1) c) (i + 1) (xk ++ [.slice (some ⟨w.heap.size, 0, none⟩) 32 32]) := own_block hown fun k e => by
    simp only [Value.ownBlock, Option.some.injEq] at e
    exact blk_setCell_other _ _ _ _ (show k ≠ kd from e ▸ hgd)
  have hl : xk.length = i := by have := h2.own.1; omega
  refine ⟨⟨fun b => F b ∨ b = w.heap.size ∨ b = g, ⟨.slice (some ⟨g, 0, none⟩) (i + 1) c, N, _, xn, (h1'.set 0 _).congr fun q hq => ?_, ⟨hown', fun q hq => ?_, fun k e => ?_⟩, h3.keep (fun _ q => Or.inl q) fun k hk q => hO k (h.own k hk).2 (ht k (q.imp id (Tg.own h3.own))) ?_, fun k e e' => ?_⟩, Or.inl h.dk, fun b hb => ?_, ?_⟩, h1'.frozen 0, h1'.cell (i := 0) (by omega)⟩
  · unfold cells5
    have : q = 0 ∨ q = 1 ∨ q = 2 ∨ q = 3 ∨ q = 4 := by omega
    rcases this with rfl | rfl | rfl | rfl | rfl <;> rfl
  · by_cases e : q < i
    · obtain ⟨u, e1, e2⟩ := h2.pg q e
      refine ⟨u, by rw [List.getElem?_append_left (by omega)]; exact e1, e2.keep (fun _ q => Or.inl q) fun k hk q => hO k (h.own k hk).2 (ht k (Or.inl q)) (hK k (Or.inl q))⟩
    · obtain rfl : q = i := by omega
      exact ⟨_, by rw [List.getElem?_append_right (by omega), hl, Nat.sub_self]; rfl, hP⟩
  · simp only [Value.ownBlock, Option.some.injEq] at e
    exact Or.inr (Or.inr e.symm)
  · rcases q with q | q
    · exact hK k (Or.inl q)
    · exact fun e => h5 k e.symm q
  · simp only [Value.ownBlock, Option.some.injEq] at e
    subst e
    rcases hat with e | e
    · exact h5 g e e'
    · have := (h3.own.lt g e').2; omega
  · rcases hb with hb | rfl | rfl
    · have := h.own b hb
      exact ⟨this.1, by simp; omega⟩
    · exact ⟨hB, by simp; omega⟩
    · have := hown.lt b rfl
      exact ⟨this.1, by simpa using this.2⟩
  · have hb := h.below
    refine ⟨hgrow.os.trans hb.os, hgrow.tape.trans ?_, hgrow.output.trans hb.output, ?_, fun k hk => ?_⟩
    · exact hb.tape
    · have := hb.size; simp; omega
    · exact (hO k (by omega) (fun e => by have := (h.own kd h.dk).1; omega) (fun e => by have := (h2.own.lt k e.symm).1; omega)).trans (hb.block k hk)

/-- One more page is there now. -/
theorem NAt.pushN (h : NAt w0 w B kd i j F) (hB : B ≤ w.heap.size) : ∃ V xn, w.cell? ⟨kd, 1, none⟩ = some V ∧ w.ownsRow B 31 1 V j xn ∧
    ∀ w' g c, w'.ownsRow B 31 1 (.slice (some ⟨g, 0, none⟩) (j + 1) c) (j + 1) (xn ++ [.slice (some ⟨w.heap.size, 0, none⟩) 32 32]) → ((w.drew.alloc nil32).alloc (.cells #[.slice (some ⟨w.heap.size, 0, none⟩) 32 32] 31)).grownBy w' V.ownBlock → (V.ownBlock = some g ∨ g = w.heap.size + 2) →
      (∃ F', NAt w0 (w'.setCell ⟨kd, 1, none⟩ (.slice (some ⟨g, 0, none⟩) (j + 1) c)) B kd i (j + 1) F') ∧ w'.frozen? ⟨kd, 1, none⟩ = false ∧ w'.cell? ⟨kd, 1, none⟩ = some V := by
  obtain ⟨K, N, xk, xn, h1, h2, h3, h5⟩ := h.ex
  refine ⟨N, xn, h1.cell (i := 1) (by omega), h3.own, ?_⟩
  intro w' g c hown hgrow hat
  have hN : ∀ k, Tg w k 5 ∨ Tg w k 60 → some k ≠ N.ownBlock := fun k q e => by
    rcases q with q | q <;> exact absurd (Tg.one q (Tg.own h3.own e.symm)) (by decide)
  have hG : ∀ k, k < w.heap.size → some k ≠ N.ownBlock → w'.heap[k]? = w.heap[k]? := fun k hk hne => (hgrow.block k (by simp; omega) hne).trans (mid_block hk _)
  have h1' := h1.of_block (hG kd h1.lt (hN kd (Or.inr (Tg.row h1))))
  have hs : w.heap.size + 2 ≤ w'.heap.size := by have := hgrow.size; simpa using this
  have ht : ∀ k, Tg w k 5 ∨ Tg w k 31 → k ≠ kd := fun k q e => by
    subst e
    rcases q with q | q <;> exact absurd (Tg.one q (Tg.row h1)) (by decide)
  have hO : ∀ k, k < w.heap.size → k ≠ kd → some k ≠ N.ownBlock → (w'.setCell ⟨kd, 1, none⟩ (.slice (some ⟨g, 0, none⟩) (j + 1) c)).heap[k]? = w.heap[k]? := fun k hk q hne => by
    rw [blk_setCell_other _ _ _ _ (show k ≠ kd from q)]
    exact hG k hk hne
  have hgd : g ≠ kd := fun e => by
    rcases hat with e' | e'
    · rw [e] at e'; exact absurd (Tg.one (Tg.row h1) (Tg.own h3.own e')) (by decide)
    · have := h1.lt; omega
  have hP : PgAt (w'.setCell ⟨kd, 1, none⟩ (.slice (some ⟨g, 0, none⟩) (j + 1) c)) (fun b => F b ∨ b = w.heap.size ∨ b = g) (.slice (some ⟨w.heap.size, 0, none⟩) 32 32) blank := by
    refine (blank_at (w := w) (fun b => F b ∨ b = w.heap.size ∨ b = g) (Or.inr (Or.inl rfl))).keep (fun _ q => q) fun k hk q => ?_
    have hk1 : k < w.heap.size + 1 := by
      obtain ⟨cs, fr, e⟩ := q
      have := (Array.getElem?_eq_some_iff.1 e).1
      simpa using this
    have hne : some k ≠ N.ownBlock := fun e => by
      have h4 := (h3.own.lt k e.symm).2
      obtain ⟨cs, fr, e1⟩ := q
      rw [blk_alloc_lt _ _ _ h4] at e1
      exact hN k (Or.inl ⟨cs, fr, e1⟩) e
    have hkd : k ≠ kd := fun e => by
      subst e
      obtain ⟨cs, fr, e1⟩ := q
      rw [blk_alloc_lt _ _ _ h1.lt] at e1
      exact absurd (Tg.one ⟨cs, fr, e1⟩ (Tg.row h1)) (by decide)
    rw [blk_setCell_other _ _ _ _ (show k ≠ kd from hkd), hgrow.block k (by simp; omega) hne, blk_alloc_lt _ _ _ (show k < (w.drew.alloc nil32).heap.size by simp; omega)]
    rfl
  have hown' : (w'.setCell ⟨kd, 1, none⟩ (.slice (some ⟨g, 0, none⟩) (j + 1) c)).ownsRow B 31 1 (.slice (some ⟨g, 0, none⟩) (j + 1) c) (j + 1) (xn ++ [.slice (some ⟨w.heap.size, 0, none⟩) 32 32]) := own_block hown fun k e => by
    simp only [Value.ownBlock, Option.some.injEq] at e
    exact blk_setCell_other _ _ _ _ (show k ≠ kd from e ▸ hgd)
  have hl : xn.length = j := by have := h3.own.1; omega
  refine ⟨⟨fun b => F b ∨ b = w.heap.size ∨ b = g, ⟨K, .slice (some ⟨g, 0, none⟩) (j + 1) c, xk, _, (h1'.set 1 _).congr fun q hq => ?_, h2.keep (fun _ q => Or.inl q) fun k hk q => hO k (h.own k hk).2 (ht k (q.imp id (Tg.own h2.own))) ?_, ⟨hown', fun q hq => ?_, fun k e => ?_⟩, fun k e' e => ?_⟩, Or.inl h.dk, fun b hb => ?_, ?_⟩, h1'.frozen 1, h1'.cell (i := 1) (by omega)⟩
  · unfold cells5
    have : q = 0 ∨ q = 1 ∨ q = 2 ∨ q = 3 ∨ q = 4 := by omega
    rcases this with rfl | rfl | rfl | rfl | rfl <;> rfl
  · rcases q with q | q
    · exact hN k (Or.inl q)
    · exact fun e => h5 k q e.symm
  · by_cases e : q < j
    · obtain ⟨u, e1, e2⟩ := h3.pg q e
      refine ⟨u, by rw [List.getElem?_append_left (by omega)]; exact e1, e2.keep (fun _ q => Or.inl q) fun k hk q => hO k (h.own k hk).2 (ht k (Or.inl q)) (hN k (Or.inl q))⟩
    · obtain rfl : q = j := by omega
      exact ⟨_, by rw [List.getElem?_append_right (by omega), hl, Nat.sub_self]; rfl, hP⟩
  · simp only [Value.ownBlock, Option.some.injEq] at e
    exact Or.inr (Or.inr e.symm)
  · simp only [Value.ownBlock, Option.some.injEq] at e
    subst e
    rcases hat with e | e
    · exact h5 g e' e
    · have := (h2.own.lt g e').2; omega
  · rcases hb with hb | rfl | rfl
    · have := h.own b hb
      exact ⟨this.1, by simp; omega⟩
    · exact ⟨hB, by simp; omega⟩
    · have := hown.lt b rfl
      exact ⟨this.1, by simpa using this.2⟩
  · have hb := h.below
    refine ⟨hgrow.os.trans hb.os, hgrow.tape.trans ?_, hgrow.output.trans hb.output, ?_, fun k hk => ?_⟩
    · exact hb.tape
    · have := hb.size; simp; omega
    · exact (hO k (by omega) (fun e => by have := (h.own kd h.dk).1; omega) (fun e => by have := (h3.own.lt k e.symm).1; omega)).trans (hb.block k hk)

end

theorem cell_mid {k o : Nat} {v : Value} (h : w.cell? ⟨k, o, none⟩ = some v) (ob : Obj) : (w.drew.alloc nil32).cell? ⟨k, o, none⟩ = some v ∧ ((w.drew.alloc nil32).alloc ob).cell? ⟨k, o, none⟩ = some v := by
  have h1 : Below w.heap.size w (w.drew.alloc nil32) := (Below.refl _ _).drew.alloc (by simp) _
  exact ⟨cell_keep h1 h, cell_keep (h1.alloc (by simp) _) h⟩

set_option maxRecDepth 100000 in
set_option maxHeartbeats 8000000 in
/-- A disk of blank pages. -/
theorem r_new (n : Nat) (hn : 1 ≤ n) (hn2 : n ≤ 80) :
    Calls Tryd.prog 14 #[.int .i64 (n : Nat)] w fun e w' => ∃ kd, e = .returned (.pointer (some ⟨kd, 0, none⟩)) ∧ ∃ F, RAt w' w.heap.size kd n fresh F ∧ Below w.heap.size w w' := by
  obtain ⟨z0, hi0, hz0, hz1, hz2⟩ := info_parts Tryd.infoBytes
  have H0 : Hid (NAt w (w.alloc (.cells #[.slice none 0 0, .slice none 0 0, .slice none 0 0, .int .i64 (-1), .bool false] 60)) w.heap.size w.heap.size 0 0 (fun b => b = w.heap.size)) := by
    refine ⟨⟨.slice none 0 0, .slice none 0 0, [], [], (World.rowIs_alloc w _ 60 (cells5 (.slice none 0 0) (.slice none 0 0) (.slice none 0 0) (-1) false) fun i hi => ?_), ⟨World.ownsRow_nil .., fun i hi => absurd hi (Nat.not_lt_zero _), fun k e => (by cases e)⟩, ⟨World.ownsRow_nil .., fun i hi => absurd hi (Nat.not_lt_zero _), fun k e => (by cases e)⟩, fun k e => (by cases e)⟩, rfl, fun b e => ?_, (Below.refl _ _).alloc (Nat.le_refl _) _⟩
    · unfold cells5
      have : i = 0 ∨ i = 1 ∨ i = 2 ∨ i = 3 ∨ i = 4 := by simp at hi; omega
      rcases this with rfl | rfl | rfl | rfl | rfl <;> rfl
    · exact ⟨by omega, by simp; omega⟩
  obtain ⟨W0, hW0⟩ : ∃ W0, w.alloc (.cells #[.slice none 0 0, .slice none 0 0, .slice none 0 0, .int .i64 (-1), .bool false] 60) = W0 := ⟨_, rfl⟩
  rw [hW0] at H0
  obtain ⟨B, hBB⟩ : ∃ B, w.heap.size = B := ⟨_, rfl⟩
  obtain ⟨kd, hkd⟩ : ∃ kd, w.heap.size = kd := ⟨_, rfl⟩
  have HKD : Hid (B = kd) := hBB.symm.trans hkd
  have H1 : Hid (NAt w W0 B kd 0 0 (fun b => b = kd)) := by rw [← hBB, ← hkd]; exact H0.out
  clear H0 hBB
  go_enter Tryd.func14, Tryd.ntmps14
  go_wp2_with (first | rw [hW0, hkd] | rw [hW0])
  go_loopw [4] (fun i wr => ∃ j : Nat, j ≤ n ∧ i = .int .i64 (j : Nat) ∧ ∃ F, NAt w wr B kd j j F) (fun i _ => n - (intOf i).toNat)
  case atStart => exact ⟨0, Nat.zero_le _, rfl, _, H1.out⟩
  case round =>
    obtain ⟨j, hj, rfl, F, hN⟩ := hrel
    by_cases hlt : j < n
    · have i0 : (j : Int) < (n : Int) := by omega
      have j5 : IntKind.i64.wrap ((j : Int) + 1) = (j : Int) + 1 := by rw [IntKind.wrap_i64]; omega
      have hBs : B ≤ wr.heap.size := by have := hN.own kd hN.dk; omega
      clear H1 hW0 hkd
      go_wp2_with fail
      obtain ⟨V, xs, c0, hOw, hU⟩ := hN.pushK hBs
      obtain ⟨g, hg⟩ : ∃ g, wr.heap.size = g := ⟨_, rfl⟩
      have hb0 : Calls Tryd.prog 29 #[] wr.drew _ := r_blank
      have hc := fun ob => cell_mid c0 ob
      have hO2 : (wr.drew.alloc nil32).ownsRow B 31 1 V j xs := World.ownsRow.alloc (w := wr.drew) hOw _
      have hsz : (wr.drew.alloc nil32).heap.size = wr.heap.size + 1 := by simp
      obtain ⟨Wb, hWb⟩ : ∃ Wb, wr.drew.alloc nil32 = Wb := ⟨_, rfl⟩
      have HBl : Hid (Calls Tryd.prog 29 #[] wr.drew fun e w' => e = .returned (.slice (some ⟨g, 0, none⟩) 32 32) ∧ Wb = w') := hb0.mono fun e w' ⟨e1, e2⟩ => ⟨by rw [e1, ← hg]; rfl, by rw [e2, ← hWb]⟩
      rw [hWb] at hc hO2 hsz
      rw [hWb] at hU
      rw [hg] at hU hsz
      have c1 : Wb.cell? ⟨kd, 0, none⟩ = some V := (hc (.cells #[] 0)).1
      have c2 : (Wb.alloc (.cells #[.slice (some ⟨g, 0, none⟩) 32 32] 31)).cell? ⟨kd, 0, none⟩ = some V := (hc _).2
      have HOw : Hid (Wb.ownsRow B 31 1 V j xs) := hO2
      have HBs : Hid (B ≤ (Wb.alloc (.cells #[.slice (some ⟨g, 0, none⟩) 32 32] 31)).heap.size) := show _ ≤ _ by simp; omega
      have HU : Hid (∀ w' g' c, w'.ownsRow B 31 1 (.slice (some ⟨g', 0, none⟩) (j + 1) c) (j + 1) (xs ++ [.slice (some ⟨g, 0, none⟩) 32 32]) → (Wb.alloc (.cells #[.slice (some ⟨g, 0, none⟩) 32 32] 31)).grownBy w' V.ownBlock → (V.ownBlock = some g' ∨ g' = Wb.heap.size + 1) →
          (∃ F', NAt w (w'.setCell ⟨kd, 0, none⟩ (.slice (some ⟨g', 0, none⟩) (j + 1) c)) B kd (j + 1) j F') ∧ w'.frozen? ⟨kd, 0, none⟩ = false ∧ w'.cell? ⟨kd, 0, none⟩ = some V) := fun w' g' c e1 e2 e3 => hU w' g' c e1 e2 (e3.imp id fun e => by omega)
      clear hN hOw hU hb0 hc hO2 hsz hWb hg hBs
      refine wp_region_noPanic ?_
      refine wp_region_held_drew (S := fun _ => True) (by kernel_rfl) ?hsa (fun hHeld => ?_)
      case hsa => trivial
      refine wpAnyH_take (i := 0) (oi := { dst := some 12, op := Go.Op.move (Go.Operand.tmp 3), type := 46, pos := _, after := #[], guard := none }) (v := ?va0) rfl (by kernel_rfl) (by kernel_rfl) (by kernel_rfl) (fun _ _ _ h => h) (Or.inl ⟨by rfl, ?ya0⟩) (by assumption) ?_
      case ya0 =>
        intro w hSw
        (try dsimp only at hSw)
        go_simp
        (try with_reducible rfl)
      simp only [Act.put, List.setIfInBounds_toArray, List.set_cons_zero, List.set_cons_succ]
      refine wpAnyH_take (i := 1) (oi := { dst := some 13, op := Go.Op.move (Go.Operand.tmp 3), type := 46, pos := _, after := #[], guard := none }) (v := ?va1) rfl (by kernel_rfl) (by kernel_rfl) (by kernel_rfl) (fun _ _ _ h => h) (Or.inl ⟨by rfl, ?ya1⟩) (by assumption) ?_
      case ya1 =>
        intro w hSw
        (try dsimp only at hSw)
        go_simp
        (try with_reducible rfl)
      simp only [Act.put, List.setIfInBounds_toArray, List.set_cons_zero, List.set_cons_succ]
      refine wpAnyH_take (i := 2) (oi := { dst := some 14, op := Go.Op.nilCheck (Go.Operand.tmp 13), type := 0, pos := _, after := #[{ on := 1, ground := Go.Ground.data }], guard := none }) (v := ?va2) rfl (by kernel_rfl) (by kernel_rfl) (by kernel_rfl) (fun _ _ _ h => h) (Or.inl ⟨by rfl, ?ya2⟩) (by assumption) ?_
      case ya2 =>
        intro w hSw
        (try dsimp only at hSw)
        go_simp
        (try with_reducible rfl)
      simp only [Act.put, List.setIfInBounds_toArray, List.set_cons_zero, List.set_cons_succ]
      refine wpAnyH_take (i := 3) (oi := { dst := some 15, op := Go.Op.fieldAddr 60 (Go.Operand.tmp 14) 0, type := 0, pos := _, after := #[{ on := 2, ground := Go.Ground.data }], guard := none }) (v := ?va3) rfl (by kernel_rfl) (by kernel_rfl) (by kernel_rfl) (fun _ _ _ h => h) (Or.inl ⟨by rfl, ?ya3⟩) (by assumption) ?_
      case ya3 =>
        intro w hSw
        (try dsimp only at hSw)
        go_simp
        (try with_reducible rfl)
      simp only [Act.put, List.setIfInBounds_toArray, List.set_cons_zero, List.set_cons_succ]
      refine wpAnyH_ready (rs := [4, 5]) (by kernel_rfl) (by simp) ?_
      refine (AllReadyH.cons rfl (fun K9 hK9 => ?aA) (AllReadyH.cons rfl (fun K9 hK9 => ?aB) AllReadyH.nil))
      case aA =>
        go_simp
        refine hK9.out _ _ ?kal (fun hHeld => ?_)
        case kal => trivial
        clear hK9
        refine wpAnyH_ready (rs := [5]) (by kernel_rfl) (by simp) ?_
        refine (AllReadyH.cons rfl (fun K9 hK9 => ?ab) AllReadyH.nil)
        case ab =>
          go_simp
          go_wp2_with (go_at_call 29; refine HBl.out.mono ?_; rintro e w9 ⟨rfl, rfl⟩)
          refine hK9.out _ _ ?kam (fun hHeld => ?_)
          case kam => trivial
          clear hK9
          refine wpAnyH_ready (rs := [6]) (by kernel_rfl) (by simp) ?_
          refine (AllReadyH.cons rfl (fun K9 hK9 => ?ac) AllReadyH.nil)
          case ac =>
            go_simp
            refine hK9.out _ _ ?kan (fun hHeld => ?_)
            case kan => trivial
            clear hK9
            refine wpAnyH_ready (rs := [7]) (by kernel_rfl) (by simp) ?_
            refine (AllReadyH.cons rfl (fun K9 hK9 => ?apa) AllReadyH.nil)
            case apa =>
              refine step_append_lies _ (by rfl) (.tmp 16) (.tmp 18) 57 (by rfl) B 31 z0 (.slice none 0 0) 1 24 Tryd.underlying57 hi0 hz0 hz1 hz2 rfl (by decide) V j xs (by simp [Act.eval]) (HOw.out.alloc _) ⟨Wb.heap.size, 0, none⟩ 1 1 [.slice (some ⟨g, 0, none⟩) 32 32] (by simp [Act.eval]) rfl (by exact cell_one_new _ _ _) (by simp [Value.oneCell']) (by decide) (by unfold maxLen; omega) (by omega) HBs.out _ rfl ?_
              intro g2 cap2 w6 hown2 hgrow hat hlt4
              obtain ⟨r1, r2, r3⟩ := HU.out w6 g2 cap2 hown2 hgrow (hat.imp id fun e => by (first | exact e | simpa using e))
              clear hown2 hgrow hat hlt4
              refine hK9.out _ _ ?kapa (fun hHeld => ?_)
              case kapa => trivial
              clear hK9
              simp only [Act.put, List.setIfInBounds_toArray]
              refine wpAnyH_take (i := 8) (oi := { dst := some 20, op := Go.Op.nilCheck (Go.Operand.tmp 12), type := 0, pos := _, after := #[{ on := 0, ground := Go.Ground.data }, { on := 0, ground := Go.Ground.phase }, { on := 1, ground := Go.Ground.phase }, { on := 2, ground := Go.Ground.phase }, { on := 3, ground := Go.Ground.phase }, { on := 4, ground := Go.Ground.phase }, { on := 5, ground := Go.Ground.phase }, { on := 6, ground := Go.Ground.phase }, { on := 7, ground := Go.Ground.phase }], guard := none }) (v := ?vapx) rfl (by kernel_rfl) (by kernel_rfl) (by kernel_rfl) (fun _ _ _ h => h) (Or.inl ⟨by rfl, ?yapx⟩) (by assumption) ?_
              case yapx =>
                intro w hSw
                (try dsimp only at hSw)
                go_simp
                (try with_reducible rfl)
              simp only [Act.put]
              refine wpAnyH_take (i := 9) (oi := { dst := some 21, op := Go.Op.fieldAddr 60 (Go.Operand.tmp 20) 0, type := 0, pos := _, after := #[{ on := 8, ground := Go.Ground.data }, { on := 0, ground := Go.Ground.phase }, { on := 1, ground := Go.Ground.phase }, { on := 2, ground := Go.Ground.phase }, { on := 3, ground := Go.Ground.phase }, { on := 4, ground := Go.Ground.phase }, { on := 5, ground := Go.Ground.phase }, { on := 6, ground := Go.Ground.phase }, { on := 7, ground := Go.Ground.phase }], guard := none }) (v := ?vapy) rfl (by kernel_rfl) (by kernel_rfl) (by kernel_rfl) (fun _ _ _ h => h) (Or.inl ⟨by rfl, ?yapy⟩) (by assumption) ?_
              case yapy =>
                intro w hSw
                (try dsimp only at hSw)
                go_simp
                (try with_reducible rfl)
              simp only [Act.put]
              refine wpAnyH_ready (rs := [10]) (by kernel_rfl) (by simp) ?_
              refine (AllReadyH.cons rfl (fun K9 hK9 => ?aps) AllReadyH.nil)
              case aps =>
                go_simp
                refine hK9.out _ _ ?kaps (fun hHeld => ?_)
                case kaps => trivial
                clear hK9
                refine wpAnyH_done (by kernel_rfl) ?_ _
                refine NoPanic.normal ?_
                obtain ⟨F1, hN⟩ := r1
                obtain ⟨W2, hW2⟩ : ∃ W2, w6.setCell ⟨kd, 0, none⟩ (.slice (some ⟨g2, 0, none⟩) (j + 1) cap2) = W2 := ⟨_, rfl⟩
                rw [hW2] at hN ⊢
                have hBs : B ≤ W2.heap.size := by have := hN.own kd hN.dk; omega
                clear r2 r3 hW2 c0 c1 c2 HBl HOw HBs HU hHeld
                go_wp2_with fail
                obtain ⟨V, xs, c0, hOw, hU⟩ := hN.pushN hBs
                obtain ⟨g, hg⟩ : ∃ g, W2.heap.size = g := ⟨_, rfl⟩
                have hb0 : Calls Tryd.prog 29 #[] W2.drew _ := r_blank
                have hc := fun ob => cell_mid c0 ob
                have hO2 : (W2.drew.alloc nil32).ownsRow B 31 1 V j xs := World.ownsRow.alloc (w := W2.drew) hOw _
                have hsz : (W2.drew.alloc nil32).heap.size = W2.heap.size + 1 := by simp
                obtain ⟨Wb, hWb⟩ : ∃ Wb, W2.drew.alloc nil32 = Wb := ⟨_, rfl⟩
                have HBl : Hid (Calls Tryd.prog 29 #[] W2.drew fun e w' => e = .returned (.slice (some ⟨g, 0, none⟩) 32 32) ∧ Wb = w') := hb0.mono fun e w' ⟨e1, e2⟩ => ⟨by rw [e1, ← hg]; rfl, by rw [e2, ← hWb]⟩
                rw [hWb] at hc hO2 hsz
                rw [hWb] at hU
                rw [hg] at hU hsz
                have c1 : Wb.cell? ⟨kd, 1, none⟩ = some V := (hc (.cells #[] 0)).1
                have c2 : (Wb.alloc (.cells #[.slice (some ⟨g, 0, none⟩) 32 32] 31)).cell? ⟨kd, 1, none⟩ = some V := (hc _).2
                have HOw : Hid (Wb.ownsRow B 31 1 V j xs) := hO2
                have HBs : Hid (B ≤ (Wb.alloc (.cells #[.slice (some ⟨g, 0, none⟩) 32 32] 31)).heap.size) := show _ ≤ _ by simp; omega
                have HU : Hid (∀ w' g' c, w'.ownsRow B 31 1 (.slice (some ⟨g', 0, none⟩) (j + 1) c) (j + 1) (xs ++ [.slice (some ⟨g, 0, none⟩) 32 32]) → (Wb.alloc (.cells #[.slice (some ⟨g, 0, none⟩) 32 32] 31)).grownBy w' V.ownBlock → (V.ownBlock = some g' ∨ g' = Wb.heap.size + 1) →
                    (∃ F', NAt w (w'.setCell ⟨kd, 1, none⟩ (.slice (some ⟨g', 0, none⟩) (j + 1) c)) B kd (j + 1) (j + 1) F') ∧ w'.frozen? ⟨kd, 1, none⟩ = false ∧ w'.cell? ⟨kd, 1, none⟩ = some V) := fun w' g' c e1 e2 e3 => hU w' g' c e1 e2 (e3.imp id fun e => by omega)
                clear hN hOw hU hb0 hc hO2 hsz hWb hg hBs
                refine wp_region_noPanic ?_
                refine wp_region_held_drew (S := fun _ => True) (by kernel_rfl) ?hsapb (fun hHeld => ?_)
                case hsapb => trivial
                refine wpAnyH_take (i := 0) (oi := { dst := some 22, op := Go.Op.move (Go.Operand.tmp 3), type := 46, pos := _, after := #[], guard := none }) (v := ?vapb0) rfl (by kernel_rfl) (by kernel_rfl) (by kernel_rfl) (fun _ _ _ h => h) (Or.inl ⟨by rfl, ?yapb0⟩) (by assumption) ?_
                case yapb0 =>
                  intro w hSw
                  (try dsimp only at hSw)
                  go_simp
                  (try with_reducible rfl)
                simp only [Act.put, List.setIfInBounds_toArray, List.set_cons_zero, List.set_cons_succ]
                refine wpAnyH_take (i := 1) (oi := { dst := some 23, op := Go.Op.move (Go.Operand.tmp 3), type := 46, pos := _, after := #[], guard := none }) (v := ?vapb1) rfl (by kernel_rfl) (by kernel_rfl) (by kernel_rfl) (fun _ _ _ h => h) (Or.inl ⟨by rfl, ?yapb1⟩) (by assumption) ?_
                case yapb1 =>
                  intro w hSw
                  (try dsimp only at hSw)
                  go_simp
                  (try with_reducible rfl)
                simp only [Act.put, List.setIfInBounds_toArray, List.set_cons_zero, List.set_cons_succ]
                refine wpAnyH_take (i := 2) (oi := { dst := some 24, op := Go.Op.nilCheck (Go.Operand.tmp 23), type := 0, pos := _, after := #[{ on := 1, ground := Go.Ground.data }], guard := none }) (v := ?vapb2) rfl (by kernel_rfl) (by kernel_rfl) (by kernel_rfl) (fun _ _ _ h => h) (Or.inl ⟨by rfl, ?yapb2⟩) (by assumption) ?_
                case yapb2 =>
                  intro w hSw
                  (try dsimp only at hSw)
                  go_simp
                  (try with_reducible rfl)
                simp only [Act.put, List.setIfInBounds_toArray, List.set_cons_zero, List.set_cons_succ]
                refine wpAnyH_take (i := 3) (oi := { dst := some 25, op := Go.Op.fieldAddr 60 (Go.Operand.tmp 24) 1, type := 0, pos := _, after := #[{ on := 2, ground := Go.Ground.data }], guard := none }) (v := ?vapb3) rfl (by kernel_rfl) (by kernel_rfl) (by kernel_rfl) (fun _ _ _ h => h) (Or.inl ⟨by rfl, ?yapb3⟩) (by assumption) ?_
                case yapb3 =>
                  intro w hSw
                  (try dsimp only at hSw)
                  go_simp
                  (try with_reducible rfl)
                simp only [Act.put, List.setIfInBounds_toArray, List.set_cons_zero, List.set_cons_succ]
                refine wpAnyH_ready (rs := [4, 5]) (by kernel_rfl) (by simp) ?_
                refine (AllReadyH.cons rfl (fun K9 hK9 => ?apbA) (AllReadyH.cons rfl (fun K9 hK9 => ?apbB) AllReadyH.nil))
                case apbA =>
                  go_simp
                  refine hK9.out _ _ ?kapbl (fun hHeld => ?_)
                  case kapbl => trivial
                  clear hK9
                  refine wpAnyH_ready (rs := [5]) (by kernel_rfl) (by simp) ?_
                  refine (AllReadyH.cons rfl (fun K9 hK9 => ?apbb) AllReadyH.nil)
                  case apbb =>
                    go_simp
                    go_wp2_with (go_at_call 29; refine HBl.out.mono ?_; rintro e w9 ⟨rfl, rfl⟩)
                    refine hK9.out _ _ ?kapbm (fun hHeld => ?_)
                    case kapbm => trivial
                    clear hK9
                    refine wpAnyH_ready (rs := [6]) (by kernel_rfl) (by simp) ?_
                    refine (AllReadyH.cons rfl (fun K9 hK9 => ?apbc) AllReadyH.nil)
                    case apbc =>
                      go_simp
                      refine hK9.out _ _ ?kapbn (fun hHeld => ?_)
                      case kapbn => trivial
                      clear hK9
                      refine wpAnyH_ready (rs := [7]) (by kernel_rfl) (by simp) ?_
                      refine (AllReadyH.cons rfl (fun K9 hK9 => ?apbpa) AllReadyH.nil)
                      case apbpa =>
                        refine step_append_lies _ (by rfl) (.tmp 26) (.tmp 28) 57 (by rfl) B 31 z0 (.slice none 0 0) 1 24 Tryd.underlying57 hi0 hz0 hz1 hz2 rfl (by decide) V j xs (by simp [Act.eval]) (HOw.out.alloc _) ⟨Wb.heap.size, 0, none⟩ 1 1 [.slice (some ⟨g, 0, none⟩) 32 32] (by simp [Act.eval]) rfl (by exact cell_one_new _ _ _) (by simp [Value.oneCell']) (by decide) (by unfold maxLen; omega) (by omega) HBs.out _ rfl ?_
                        intro g2 cap2 w6 hown2 hgrow hat hlt4
                        obtain ⟨r1, r2, r3⟩ := HU.out w6 g2 cap2 hown2 hgrow (hat.imp id fun e => by (first | exact e | simpa using e))
                        clear hown2 hgrow hat hlt4
                        refine hK9.out _ _ ?kapbpa (fun hHeld => ?_)
                        case kapbpa => trivial
                        clear hK9
                        simp only [Act.put, List.setIfInBounds_toArray]
                        refine wpAnyH_take (i := 8) (oi := { dst := some 30, op := Go.Op.nilCheck (Go.Operand.tmp 22), type := 0, pos := _, after := #[{ on := 0, ground := Go.Ground.data }, { on := 0, ground := Go.Ground.phase }, { on := 1, ground := Go.Ground.phase }, { on := 2, ground := Go.Ground.phase }, { on := 3, ground := Go.Ground.phase }, { on := 4, ground := Go.Ground.phase }, { on := 5, ground := Go.Ground.phase }, { on := 6, ground := Go.Ground.phase }, { on := 7, ground := Go.Ground.phase }], guard := none }) (v := ?vapbpx) rfl (by kernel_rfl) (by kernel_rfl) (by kernel_rfl) (fun _ _ _ h => h) (Or.inl ⟨by rfl, ?yapbpx⟩) (by assumption) ?_
                        case yapbpx =>
                          intro w hSw
                          (try dsimp only at hSw)
                          go_simp
                          (try with_reducible rfl)
                        simp only [Act.put]
                        refine wpAnyH_take (i := 9) (oi := { dst := some 31, op := Go.Op.fieldAddr 60 (Go.Operand.tmp 30) 1, type := 0, pos := _, after := #[{ on := 8, ground := Go.Ground.data }, { on := 0, ground := Go.Ground.phase }, { on := 1, ground := Go.Ground.phase }, { on := 2, ground := Go.Ground.phase }, { on := 3, ground := Go.Ground.phase }, { on := 4, ground := Go.Ground.phase }, { on := 5, ground := Go.Ground.phase }, { on := 6, ground := Go.Ground.phase }, { on := 7, ground := Go.Ground.phase }], guard := none }) (v := ?vapbpy) rfl (by kernel_rfl) (by kernel_rfl) (by kernel_rfl) (fun _ _ _ h => h) (Or.inl ⟨by rfl, ?yapbpy⟩) (by assumption) ?_
                        case yapbpy =>
                          intro w hSw
                          (try dsimp only at hSw)
                          go_simp
                          (try with_reducible rfl)
                        simp only [Act.put]
                        refine wpAnyH_ready (rs := [10]) (by kernel_rfl) (by simp) ?_
                        refine (AllReadyH.cons rfl (fun K9 hK9 => ?apbps) AllReadyH.nil)
                        case apbps =>
                          go_simp
                          refine hK9.out _ _ ?kapbps (fun hHeld => ?_)
                          case kapbps => trivial
                          clear hK9
                          refine wpAnyH_done (by kernel_rfl) ?_ _
                          refine NoPanic.normal ?_
                          obtain ⟨F2, hN⟩ := r1
                          clear r2 r3 c0 c1 c2 HBl HOw HBs HU hHeld
                          go_wp2_with fail
                          go_roundw
                          case rel => exact ⟨j + 1, by omega, by go_num, F2, hN⟩
                          case measure => simp [intOf]; omega
                case apbB =>
                  go_simp
                  go_wp2_with (go_at_call 29; refine HBl.out.mono ?_; rintro e w9 ⟨rfl, rfl⟩)
                  refine hK9.out _ _ ?kapbv (fun hHeld => ?_)
                  case kapbv => trivial
                  clear hK9
                  refine wpAnyH_ready (rs := [4, 6]) (by kernel_rfl) (by simp) ?_
                  refine (AllReadyH.cons rfl (fun K9 hK9 => ?apbw) (AllReadyH.cons rfl (fun K9 hK9 => ?apbx) AllReadyH.nil))
                  case apbw =>
                    go_simp
                    refine hK9.out _ _ ?kapbo (fun hHeld => ?_)
                    case kapbo => trivial
                    clear hK9
                    refine wpAnyH_ready (rs := [6]) (by kernel_rfl) (by simp) ?_
                    refine (AllReadyH.cons rfl (fun K9 hK9 => ?apbd) AllReadyH.nil)
                    case apbd =>
                      go_simp
                      refine hK9.out _ _ ?kapbq (fun hHeld => ?_)
                      case kapbq => trivial
                      clear hK9
                      refine wpAnyH_ready (rs := [7]) (by kernel_rfl) (by simp) ?_
                      refine (AllReadyH.cons rfl (fun K9 hK9 => ?apbra) AllReadyH.nil)
                      case apbra =>
                        refine step_append_lies _ (by rfl) (.tmp 26) (.tmp 28) 57 (by rfl) B 31 z0 (.slice none 0 0) 1 24 Tryd.underlying57 hi0 hz0 hz1 hz2 rfl (by decide) V j xs (by simp [Act.eval]) (HOw.out.alloc _) ⟨Wb.heap.size, 0, none⟩ 1 1 [.slice (some ⟨g, 0, none⟩) 32 32] (by simp [Act.eval]) rfl (by exact cell_one_new _ _ _) (by simp [Value.oneCell']) (by decide) (by unfold maxLen; omega) (by omega) HBs.out _ rfl ?_
                        intro g2 cap2 w6 hown2 hgrow hat hlt4
                        obtain ⟨r1, r2, r3⟩ := HU.out w6 g2 cap2 hown2 hgrow (hat.imp id fun e => by (first | exact e | simpa using e))
                        clear hown2 hgrow hat hlt4
                        refine hK9.out _ _ ?kapbra (fun hHeld => ?_)
                        case kapbra => trivial
                        clear hK9
                        simp only [Act.put, List.setIfInBounds_toArray]
                        refine wpAnyH_take (i := 8) (oi := { dst := some 30, op := Go.Op.nilCheck (Go.Operand.tmp 22), type := 0, pos := _, after := #[{ on := 0, ground := Go.Ground.data }, { on := 0, ground := Go.Ground.phase }, { on := 1, ground := Go.Ground.phase }, { on := 2, ground := Go.Ground.phase }, { on := 3, ground := Go.Ground.phase }, { on := 4, ground := Go.Ground.phase }, { on := 5, ground := Go.Ground.phase }, { on := 6, ground := Go.Ground.phase }, { on := 7, ground := Go.Ground.phase }], guard := none }) (v := ?vapbrx) rfl (by kernel_rfl) (by kernel_rfl) (by kernel_rfl) (fun _ _ _ h => h) (Or.inl ⟨by rfl, ?yapbrx⟩) (by assumption) ?_
                        case yapbrx =>
                          intro w hSw
                          (try dsimp only at hSw)
                          go_simp
                          (try with_reducible rfl)
                        simp only [Act.put]
                        refine wpAnyH_take (i := 9) (oi := { dst := some 31, op := Go.Op.fieldAddr 60 (Go.Operand.tmp 30) 1, type := 0, pos := _, after := #[{ on := 8, ground := Go.Ground.data }, { on := 0, ground := Go.Ground.phase }, { on := 1, ground := Go.Ground.phase }, { on := 2, ground := Go.Ground.phase }, { on := 3, ground := Go.Ground.phase }, { on := 4, ground := Go.Ground.phase }, { on := 5, ground := Go.Ground.phase }, { on := 6, ground := Go.Ground.phase }, { on := 7, ground := Go.Ground.phase }], guard := none }) (v := ?vapbry) rfl (by kernel_rfl) (by kernel_rfl) (by kernel_rfl) (fun _ _ _ h => h) (Or.inl ⟨by rfl, ?yapbry⟩) (by assumption) ?_
                        case yapbry =>
                          intro w hSw
                          (try dsimp only at hSw)
                          go_simp
                          (try with_reducible rfl)
                        simp only [Act.put]
                        refine wpAnyH_ready (rs := [10]) (by kernel_rfl) (by simp) ?_
                        refine (AllReadyH.cons rfl (fun K9 hK9 => ?apbrs) AllReadyH.nil)
                        case apbrs =>
                          go_simp
                          refine hK9.out _ _ ?kapbrs (fun hHeld => ?_)
                          case kapbrs => trivial
                          clear hK9
                          refine wpAnyH_done (by kernel_rfl) ?_ _
                          refine NoPanic.normal ?_
                          obtain ⟨F2, hN⟩ := r1
                          clear r2 r3 c0 c1 c2 HBl HOw HBs HU hHeld
                          go_wp2_with fail
                          go_roundw
                          case rel => exact ⟨j + 1, by omega, by go_num, F2, hN⟩
                          case measure => simp [intOf]; omega
                  case apbx =>
                    go_simp
                    refine hK9.out _ _ ?kapbs (fun hHeld => ?_)
                    case kapbs => trivial
                    clear hK9
                    refine wpAnyH_ready (rs := [4]) (by kernel_rfl) (by simp) ?_
                    refine (AllReadyH.cons rfl (fun K9 hK9 => ?apbe) AllReadyH.nil)
                    case apbe =>
                      go_simp
                      refine hK9.out _ _ ?kapbt (fun hHeld => ?_)
                      case kapbt => trivial
                      clear hK9
                      refine wpAnyH_ready (rs := [7]) (by kernel_rfl) (by simp) ?_
                      refine (AllReadyH.cons rfl (fun K9 hK9 => ?apbua) AllReadyH.nil)
                      case apbua =>
                        refine step_append_lies _ (by rfl) (.tmp 26) (.tmp 28) 57 (by rfl) B 31 z0 (.slice none 0 0) 1 24 Tryd.underlying57 hi0 hz0 hz1 hz2 rfl (by decide) V j xs (by simp [Act.eval]) (HOw.out.alloc _) ⟨Wb.heap.size, 0, none⟩ 1 1 [.slice (some ⟨g, 0, none⟩) 32 32] (by simp [Act.eval]) rfl (by exact cell_one_new _ _ _) (by simp [Value.oneCell']) (by decide) (by unfold maxLen; omega) (by omega) HBs.out _ rfl ?_
                        intro g2 cap2 w6 hown2 hgrow hat hlt4
                        obtain ⟨r1, r2, r3⟩ := HU.out w6 g2 cap2 hown2 hgrow (hat.imp id fun e => by (first | exact e | simpa using e))
                        clear hown2 hgrow hat hlt4
                        refine hK9.out _ _ ?kapbua (fun hHeld => ?_)
                        case kapbua => trivial
                        clear hK9
                        simp only [Act.put, List.setIfInBounds_toArray]
                        refine wpAnyH_take (i := 8) (oi := { dst := some 30, op := Go.Op.nilCheck (Go.Operand.tmp 22), type := 0, pos := _, after := #[{ on := 0, ground := Go.Ground.data }, { on := 0, ground := Go.Ground.phase }, { on := 1, ground := Go.Ground.phase }, { on := 2, ground := Go.Ground.phase }, { on := 3, ground := Go.Ground.phase }, { on := 4, ground := Go.Ground.phase }, { on := 5, ground := Go.Ground.phase }, { on := 6, ground := Go.Ground.phase }, { on := 7, ground := Go.Ground.phase }], guard := none }) (v := ?vapbux) rfl (by kernel_rfl) (by kernel_rfl) (by kernel_rfl) (fun _ _ _ h => h) (Or.inl ⟨by rfl, ?yapbux⟩) (by assumption) ?_
                        case yapbux =>
                          intro w hSw
                          (try dsimp only at hSw)
                          go_simp
                          (try with_reducible rfl)
                        simp only [Act.put]
                        refine wpAnyH_take (i := 9) (oi := { dst := some 31, op := Go.Op.fieldAddr 60 (Go.Operand.tmp 30) 1, type := 0, pos := _, after := #[{ on := 8, ground := Go.Ground.data }, { on := 0, ground := Go.Ground.phase }, { on := 1, ground := Go.Ground.phase }, { on := 2, ground := Go.Ground.phase }, { on := 3, ground := Go.Ground.phase }, { on := 4, ground := Go.Ground.phase }, { on := 5, ground := Go.Ground.phase }, { on := 6, ground := Go.Ground.phase }, { on := 7, ground := Go.Ground.phase }], guard := none }) (v := ?vapbuy) rfl (by kernel_rfl) (by kernel_rfl) (by kernel_rfl) (fun _ _ _ h => h) (Or.inl ⟨by rfl, ?yapbuy⟩) (by assumption) ?_
                        case yapbuy =>
                          intro w hSw
                          (try dsimp only at hSw)
                          go_simp
                          (try with_reducible rfl)
                        simp only [Act.put]
                        refine wpAnyH_ready (rs := [10]) (by kernel_rfl) (by simp) ?_
                        refine (AllReadyH.cons rfl (fun K9 hK9 => ?apbus) AllReadyH.nil)
                        case apbus =>
                          go_simp
                          refine hK9.out _ _ ?kapbus (fun hHeld => ?_)
                          case kapbus => trivial
                          clear hK9
                          refine wpAnyH_done (by kernel_rfl) ?_ _
                          refine NoPanic.normal ?_
                          obtain ⟨F2, hN⟩ := r1
                          clear r2 r3 c0 c1 c2 HBl HOw HBs HU hHeld
                          go_wp2_with fail
                          go_roundw
                          case rel => exact ⟨j + 1, by omega, by go_num, F2, hN⟩
                          case measure => simp [intOf]; omega
      case aB =>
        go_simp
        go_wp2_with (go_at_call 29; refine HBl.out.mono ?_; rintro e w9 ⟨rfl, rfl⟩)
        refine hK9.out _ _ ?kav (fun hHeld => ?_)
        case kav => trivial
        clear hK9
        refine wpAnyH_ready (rs := [4, 6]) (by kernel_rfl) (by simp) ?_
        refine (AllReadyH.cons rfl (fun K9 hK9 => ?aw) (AllReadyH.cons rfl (fun K9 hK9 => ?ax) AllReadyH.nil))
        case aw =>
          go_simp
          refine hK9.out _ _ ?kao (fun hHeld => ?_)
          case kao => trivial
          clear hK9
          refine wpAnyH_ready (rs := [6]) (by kernel_rfl) (by simp) ?_
          refine (AllReadyH.cons rfl (fun K9 hK9 => ?ad) AllReadyH.nil)
          case ad =>
            go_simp
            refine hK9.out _ _ ?kaq (fun hHeld => ?_)
            case kaq => trivial
            clear hK9
            refine wpAnyH_ready (rs := [7]) (by kernel_rfl) (by simp) ?_
            refine (AllReadyH.cons rfl (fun K9 hK9 => ?ara) AllReadyH.nil)
            case ara =>
              refine step_append_lies _ (by rfl) (.tmp 16) (.tmp 18) 57 (by rfl) B 31 z0 (.slice none 0 0) 1 24 Tryd.underlying57 hi0 hz0 hz1 hz2 rfl (by decide) V j xs (by simp [Act.eval]) (HOw.out.alloc _) ⟨Wb.heap.size, 0, none⟩ 1 1 [.slice (some ⟨g, 0, none⟩) 32 32] (by simp [Act.eval]) rfl (by exact cell_one_new _ _ _) (by simp [Value.oneCell']) (by decide) (by unfold maxLen; omega) (by omega) HBs.out _ rfl ?_
              intro g2 cap2 w6 hown2 hgrow hat hlt4
              obtain ⟨r1, r2, r3⟩ := HU.out w6 g2 cap2 hown2 hgrow (hat.imp id fun e => by (first | exact e | simpa using e))
              clear hown2 hgrow hat hlt4
              refine hK9.out _ _ ?kara (fun hHeld => ?_)
              case kara => trivial
              clear hK9
              simp only [Act.put, List.setIfInBounds_toArray]
              refine wpAnyH_take (i := 8) (oi := { dst := some 20, op := Go.Op.nilCheck (Go.Operand.tmp 12), type := 0, pos := _, after := #[{ on := 0, ground := Go.Ground.data }, { on := 0, ground := Go.Ground.phase }, { on := 1, ground := Go.Ground.phase }, { on := 2, ground := Go.Ground.phase }, { on := 3, ground := Go.Ground.phase }, { on := 4, ground := Go.Ground.phase }, { on := 5, ground := Go.Ground.phase }, { on := 6, ground := Go.Ground.phase }, { on := 7, ground := Go.Ground.phase }], guard := none }) (v := ?varx) rfl (by kernel_rfl) (by kernel_rfl) (by kernel_rfl) (fun _ _ _ h => h) (Or.inl ⟨by rfl, ?yarx⟩) (by assumption) ?_
              case yarx =>
                intro w hSw
                (try dsimp only at hSw)
                go_simp
                (try with_reducible rfl)
              simp only [Act.put]
              refine wpAnyH_take (i := 9) (oi := { dst := some 21, op := Go.Op.fieldAddr 60 (Go.Operand.tmp 20) 0, type := 0, pos := _, after := #[{ on := 8, ground := Go.Ground.data }, { on := 0, ground := Go.Ground.phase }, { on := 1, ground := Go.Ground.phase }, { on := 2, ground := Go.Ground.phase }, { on := 3, ground := Go.Ground.phase }, { on := 4, ground := Go.Ground.phase }, { on := 5, ground := Go.Ground.phase }, { on := 6, ground := Go.Ground.phase }, { on := 7, ground := Go.Ground.phase }], guard := none }) (v := ?vary) rfl (by kernel_rfl) (by kernel_rfl) (by kernel_rfl) (fun _ _ _ h => h) (Or.inl ⟨by rfl, ?yary⟩) (by assumption) ?_
              case yary =>
                intro w hSw
                (try dsimp only at hSw)
                go_simp
                (try with_reducible rfl)
              simp only [Act.put]
              refine wpAnyH_ready (rs := [10]) (by kernel_rfl) (by simp) ?_
              refine (AllReadyH.cons rfl (fun K9 hK9 => ?ars) AllReadyH.nil)
              case ars =>
                go_simp
                refine hK9.out _ _ ?kars (fun hHeld => ?_)
                case kars => trivial
                clear hK9
                refine wpAnyH_done (by kernel_rfl) ?_ _
                refine NoPanic.normal ?_
                obtain ⟨F1, hN⟩ := r1
                obtain ⟨W2, hW2⟩ : ∃ W2, w6.setCell ⟨kd, 0, none⟩ (.slice (some ⟨g2, 0, none⟩) (j + 1) cap2) = W2 := ⟨_, rfl⟩
                rw [hW2] at hN ⊢
                have hBs : B ≤ W2.heap.size := by have := hN.own kd hN.dk; omega
                clear r2 r3 hW2 c0 c1 c2 HBl HOw HBs HU hHeld
                go_wp2_with fail
                obtain ⟨V, xs, c0, hOw, hU⟩ := hN.pushN hBs
                obtain ⟨g, hg⟩ : ∃ g, W2.heap.size = g := ⟨_, rfl⟩
                have hb0 : Calls Tryd.prog 29 #[] W2.drew _ := r_blank
                have hc := fun ob => cell_mid c0 ob
                have hO2 : (W2.drew.alloc nil32).ownsRow B 31 1 V j xs := World.ownsRow.alloc (w := W2.drew) hOw _
                have hsz : (W2.drew.alloc nil32).heap.size = W2.heap.size + 1 := by simp
                obtain ⟨Wb, hWb⟩ : ∃ Wb, W2.drew.alloc nil32 = Wb := ⟨_, rfl⟩
                have HBl : Hid (Calls Tryd.prog 29 #[] W2.drew fun e w' => e = .returned (.slice (some ⟨g, 0, none⟩) 32 32) ∧ Wb = w') := hb0.mono fun e w' ⟨e1, e2⟩ => ⟨by rw [e1, ← hg]; rfl, by rw [e2, ← hWb]⟩
                rw [hWb] at hc hO2 hsz
                rw [hWb] at hU
                rw [hg] at hU hsz
                have c1 : Wb.cell? ⟨kd, 1, none⟩ = some V := (hc (.cells #[] 0)).1
                have c2 : (Wb.alloc (.cells #[.slice (some ⟨g, 0, none⟩) 32 32] 31)).cell? ⟨kd, 1, none⟩ = some V := (hc _).2
                have HOw : Hid (Wb.ownsRow B 31 1 V j xs) := hO2
                have HBs : Hid (B ≤ (Wb.alloc (.cells #[.slice (some ⟨g, 0, none⟩) 32 32] 31)).heap.size) := show _ ≤ _ by simp; omega
                have HU : Hid (∀ w' g' c, w'.ownsRow B 31 1 (.slice (some ⟨g', 0, none⟩) (j + 1) c) (j + 1) (xs ++ [.slice (some ⟨g, 0, none⟩) 32 32]) → (Wb.alloc (.cells #[.slice (some ⟨g, 0, none⟩) 32 32] 31)).grownBy w' V.ownBlock → (V.ownBlock = some g' ∨ g' = Wb.heap.size + 1) →
                    (∃ F', NAt w (w'.setCell ⟨kd, 1, none⟩ (.slice (some ⟨g', 0, none⟩) (j + 1) c)) B kd (j + 1) (j + 1) F') ∧ w'.frozen? ⟨kd, 1, none⟩ = false ∧ w'.cell? ⟨kd, 1, none⟩ = some V) := fun w' g' c e1 e2 e3 => hU w' g' c e1 e2 (e3.imp id fun e => by omega)
                clear hN hOw hU hb0 hc hO2 hsz hWb hg hBs
                refine wp_region_noPanic ?_
                refine wp_region_held_drew (S := fun _ => True) (by kernel_rfl) ?hsarb (fun hHeld => ?_)
                case hsarb => trivial
                refine wpAnyH_take (i := 0) (oi := { dst := some 22, op := Go.Op.move (Go.Operand.tmp 3), type := 46, pos := _, after := #[], guard := none }) (v := ?varb0) rfl (by kernel_rfl) (by kernel_rfl) (by kernel_rfl) (fun _ _ _ h => h) (Or.inl ⟨by rfl, ?yarb0⟩) (by assumption) ?_
                case yarb0 =>
                  intro w hSw
                  (try dsimp only at hSw)
                  go_simp
                  (try with_reducible rfl)
                simp only [Act.put, List.setIfInBounds_toArray, List.set_cons_zero, List.set_cons_succ]
                refine wpAnyH_take (i := 1) (oi := { dst := some 23, op := Go.Op.move (Go.Operand.tmp 3), type := 46, pos := _, after := #[], guard := none }) (v := ?varb1) rfl (by kernel_rfl) (by kernel_rfl) (by kernel_rfl) (fun _ _ _ h => h) (Or.inl ⟨by rfl, ?yarb1⟩) (by assumption) ?_
                case yarb1 =>
                  intro w hSw
                  (try dsimp only at hSw)
                  go_simp
                  (try with_reducible rfl)
                simp only [Act.put, List.setIfInBounds_toArray, List.set_cons_zero, List.set_cons_succ]
                refine wpAnyH_take (i := 2) (oi := { dst := some 24, op := Go.Op.nilCheck (Go.Operand.tmp 23), type := 0, pos := _, after := #[{ on := 1, ground := Go.Ground.data }], guard := none }) (v := ?varb2) rfl (by kernel_rfl) (by kernel_rfl) (by kernel_rfl) (fun _ _ _ h => h) (Or.inl ⟨by rfl, ?yarb2⟩) (by assumption) ?_
                case yarb2 =>
                  intro w hSw
                  (try dsimp only at hSw)
                  go_simp
                  (try with_reducible rfl)
                simp only [Act.put, List.setIfInBounds_toArray, List.set_cons_zero, List.set_cons_succ]
                refine wpAnyH_take (i := 3) (oi := { dst := some 25, op := Go.Op.fieldAddr 60 (Go.Operand.tmp 24) 1, type := 0, pos := _, after := #[{ on := 2, ground := Go.Ground.data }], guard := none }) (v := ?varb3) rfl (by kernel_rfl) (by kernel_rfl) (by kernel_rfl) (fun _ _ _ h => h) (Or.inl ⟨by rfl, ?yarb3⟩) (by assumption) ?_
                case yarb3 =>
                  intro w hSw
                  (try dsimp only at hSw)
                  go_simp
                  (try with_reducible rfl)
                simp only [Act.put, List.setIfInBounds_toArray, List.set_cons_zero, List.set_cons_succ]
                refine wpAnyH_ready (rs := [4, 5]) (by kernel_rfl) (by simp) ?_
                refine (AllReadyH.cons rfl (fun K9 hK9 => ?arbA) (AllReadyH.cons rfl (fun K9 hK9 => ?arbB) AllReadyH.nil))
                case arbA =>
                  go_simp
                  refine hK9.out _ _ ?karbl (fun hHeld => ?_)
                  case karbl => trivial
                  clear hK9
                  refine wpAnyH_ready (rs := [5]) (by kernel_rfl) (by simp) ?_
                  refine (AllReadyH.cons rfl (fun K9 hK9 => ?arbb) AllReadyH.nil)
                  case arbb =>
                    go_simp
                    go_wp2_with (go_at_call 29; refine HBl.out.mono ?_; rintro e w9 ⟨rfl, rfl⟩)
                    refine hK9.out _ _ ?karbm (fun hHeld => ?_)
                    case karbm => trivial
                    clear hK9
                    refine wpAnyH_ready (rs := [6]) (by kernel_rfl) (by simp) ?_
                    refine (AllReadyH.cons rfl (fun K9 hK9 => ?arbc) AllReadyH.nil)
                    case arbc =>
                      go_simp
                      refine hK9.out _ _ ?karbn (fun hHeld => ?_)
                      case karbn => trivial
                      clear hK9
                      refine wpAnyH_ready (rs := [7]) (by kernel_rfl) (by simp) ?_
                      refine (AllReadyH.cons rfl (fun K9 hK9 => ?arbpa) AllReadyH.nil)
                      case arbpa =>
                        refine step_append_lies _ (by rfl) (.tmp 26) (.tmp 28) 57 (by rfl) B 31 z0 (.slice none 0 0) 1 24 Tryd.underlying57 hi0 hz0 hz1 hz2 rfl (by decide) V j xs (by simp [Act.eval]) (HOw.out.alloc _) ⟨Wb.heap.size, 0, none⟩ 1 1 [.slice (some ⟨g, 0, none⟩) 32 32] (by simp [Act.eval]) rfl (by exact cell_one_new _ _ _) (by simp [Value.oneCell']) (by decide) (by unfold maxLen; omega) (by omega) HBs.out _ rfl ?_
                        intro g2 cap2 w6 hown2 hgrow hat hlt4
                        obtain ⟨r1, r2, r3⟩ := HU.out w6 g2 cap2 hown2 hgrow (hat.imp id fun e => by (first | exact e | simpa using e))
                        clear hown2 hgrow hat hlt4
                        refine hK9.out _ _ ?karbpa (fun hHeld => ?_)
                        case karbpa => trivial
                        clear hK9
                        simp only [Act.put, List.setIfInBounds_toArray]
                        refine wpAnyH_take (i := 8) (oi := { dst := some 30, op := Go.Op.nilCheck (Go.Operand.tmp 22), type := 0, pos := _, after := #[{ on := 0, ground := Go.Ground.data }, { on := 0, ground := Go.Ground.phase }, { on := 1, ground := Go.Ground.phase }, { on := 2, ground := Go.Ground.phase }, { on := 3, ground := Go.Ground.phase }, { on := 4, ground := Go.Ground.phase }, { on := 5, ground := Go.Ground.phase }, { on := 6, ground := Go.Ground.phase }, { on := 7, ground := Go.Ground.phase }], guard := none }) (v := ?varbpx) rfl (by kernel_rfl) (by kernel_rfl) (by kernel_rfl) (fun _ _ _ h => h) (Or.inl ⟨by rfl, ?yarbpx⟩) (by assumption) ?_
                        case yarbpx =>
                          intro w hSw
                          (try dsimp only at hSw)
                          go_simp
                          (try with_reducible rfl)
                        simp only [Act.put]
                        refine wpAnyH_take (i := 9) (oi := { dst := some 31, op := Go.Op.fieldAddr 60 (Go.Operand.tmp 30) 1, type := 0, pos := _, after := #[{ on := 8, ground := Go.Ground.data }, { on := 0, ground := Go.Ground.phase }, { on := 1, ground := Go.Ground.phase }, { on := 2, ground := Go.Ground.phase }, { on := 3, ground := Go.Ground.phase }, { on := 4, ground := Go.Ground.phase }, { on := 5, ground := Go.Ground.phase }, { on := 6, ground := Go.Ground.phase }, { on := 7, ground := Go.Ground.phase }], guard := none }) (v := ?varbpy) rfl (by kernel_rfl) (by kernel_rfl) (by kernel_rfl) (fun _ _ _ h => h) (Or.inl ⟨by rfl, ?yarbpy⟩) (by assumption) ?_
                        case yarbpy =>
                          intro w hSw
                          (try dsimp only at hSw)
                          go_simp
                          (try with_reducible rfl)
                        simp only [Act.put]
                        refine wpAnyH_ready (rs := [10]) (by kernel_rfl) (by simp) ?_
                        refine (AllReadyH.cons rfl (fun K9 hK9 => ?arbps) AllReadyH.nil)
                        case arbps =>
                          go_simp
                          refine hK9.out _ _ ?karbps (fun hHeld => ?_)
                          case karbps => trivial
                          clear hK9
                          refine wpAnyH_done (by kernel_rfl) ?_ _
                          refine NoPanic.normal ?_
                          obtain ⟨F2, hN⟩ := r1
                          clear r2 r3 c0 c1 c2 HBl HOw HBs HU hHeld
                          go_wp2_with fail
                          go_roundw
                          case rel => exact ⟨j + 1, by omega, by go_num, F2, hN⟩
                          case measure => simp [intOf]; omega
                case arbB =>
                  go_simp
                  go_wp2_with (go_at_call 29; refine HBl.out.mono ?_; rintro e w9 ⟨rfl, rfl⟩)
                  refine hK9.out _ _ ?karbv (fun hHeld => ?_)
                  case karbv => trivial
                  clear hK9
                  refine wpAnyH_ready (rs := [4, 6]) (by kernel_rfl) (by simp) ?_
                  refine (AllReadyH.cons rfl (fun K9 hK9 => ?arbw) (AllReadyH.cons rfl (fun K9 hK9 => ?arbx) AllReadyH.nil))
                  case arbw =>
                    go_simp
                    refine hK9.out _ _ ?karbo (fun hHeld => ?_)
                    case karbo => trivial
                    clear hK9
                    refine wpAnyH_ready (rs := [6]) (by kernel_rfl) (by simp) ?_
                    refine (AllReadyH.cons rfl (fun K9 hK9 => ?arbd) AllReadyH.nil)
                    case arbd =>
                      go_simp
                      refine hK9.out _ _ ?karbq (fun hHeld => ?_)
                      case karbq => trivial
                      clear hK9
                      refine wpAnyH_ready (rs := [7]) (by kernel_rfl) (by simp) ?_
                      refine (AllReadyH.cons rfl (fun K9 hK9 => ?arbra) AllReadyH.nil)
                      case arbra =>
                        refine step_append_lies _ (by rfl) (.tmp 26) (.tmp 28) 57 (by rfl) B 31 z0 (.slice none 0 0) 1 24 Tryd.underlying57 hi0 hz0 hz1 hz2 rfl (by decide) V j xs (by simp [Act.eval]) (HOw.out.alloc _) ⟨Wb.heap.size, 0, none⟩ 1 1 [.slice (some ⟨g, 0, none⟩) 32 32] (by simp [Act.eval]) rfl (by exact cell_one_new _ _ _) (by simp [Value.oneCell']) (by decide) (by unfold maxLen; omega) (by omega) HBs.out _ rfl ?_
                        intro g2 cap2 w6 hown2 hgrow hat hlt4
                        obtain ⟨r1, r2, r3⟩ := HU.out w6 g2 cap2 hown2 hgrow (hat.imp id fun e => by (first | exact e | simpa using e))
                        clear hown2 hgrow hat hlt4
                        refine hK9.out _ _ ?karbra (fun hHeld => ?_)
                        case karbra => trivial
                        clear hK9
                        simp only [Act.put, List.setIfInBounds_toArray]
                        refine wpAnyH_take (i := 8) (oi := { dst := some 30, op := Go.Op.nilCheck (Go.Operand.tmp 22), type := 0, pos := _, after := #[{ on := 0, ground := Go.Ground.data }, { on := 0, ground := Go.Ground.phase }, { on := 1, ground := Go.Ground.phase }, { on := 2, ground := Go.Ground.phase }, { on := 3, ground := Go.Ground.phase }, { on := 4, ground := Go.Ground.phase }, { on := 5, ground := Go.Ground.phase }, { on := 6, ground := Go.Ground.phase }, { on := 7, ground := Go.Ground.phase }], guard := none }) (v := ?varbrx) rfl (by kernel_rfl) (by kernel_rfl) (by kernel_rfl) (fun _ _ _ h => h) (Or.inl ⟨by rfl, ?yarbrx⟩) (by assumption) ?_
                        case yarbrx =>
                          intro w hSw
                          (try dsimp only at hSw)
                          go_simp
                          (try with_reducible rfl)
                        simp only [Act.put]
                        refine wpAnyH_take (i := 9) (oi := { dst := some 31, op := Go.Op.fieldAddr 60 (Go.Operand.tmp 30) 1, type := 0, pos := _, after := #[{ on := 8, ground := Go.Ground.data }, { on := 0, ground := Go.Ground.phase }, { on := 1, ground := Go.Ground.phase }, { on := 2, ground := Go.Ground.phase }, { on := 3, ground := Go.Ground.phase }, { on := 4, ground := Go.Ground.phase }, { on := 5, ground := Go.Ground.phase }, { on := 6, ground := Go.Ground.phase }, { on := 7, ground := Go.Ground.phase }], guard := none }) (v := ?varbry) rfl (by kernel_rfl) (by kernel_rfl) (by kernel_rfl) (fun _ _ _ h => h) (Or.inl ⟨by rfl, ?yarbry⟩) (by assumption) ?_
                        case yarbry =>
                          intro w hSw
                          (try dsimp only at hSw)
                          go_simp
                          (try with_reducible rfl)
                        simp only [Act.put]
                        refine wpAnyH_ready (rs := [10]) (by kernel_rfl) (by simp) ?_
                        refine (AllReadyH.cons rfl (fun K9 hK9 => ?arbrs) AllReadyH.nil)
                        case arbrs =>
                          go_simp
                          refine hK9.out _ _ ?karbrs (fun hHeld => ?_)
                          case karbrs => trivial
                          clear hK9
                          refine wpAnyH_done (by kernel_rfl) ?_ _
                          refine NoPanic.normal ?_
                          obtain ⟨F2, hN⟩ := r1
                          clear r2 r3 c0 c1 c2 HBl HOw HBs HU hHeld
                          go_wp2_with fail
                          go_roundw
                          case rel => exact ⟨j + 1, by omega, by go_num, F2, hN⟩
                          case measure => simp [intOf]; omega
                  case arbx =>
                    go_simp
                    refine hK9.out _ _ ?karbs (fun hHeld => ?_)
                    case karbs => trivial
                    clear hK9
                    refine wpAnyH_ready (rs := [4]) (by kernel_rfl) (by simp) ?_
                    refine (AllReadyH.cons rfl (fun K9 hK9 => ?arbe) AllReadyH.nil)
                    case arbe =>
                      go_simp
                      refine hK9.out _ _ ?karbt (fun hHeld => ?_)
                      case karbt => trivial
                      clear hK9
                      refine wpAnyH_ready (rs := [7]) (by kernel_rfl) (by simp) ?_
                      refine (AllReadyH.cons rfl (fun K9 hK9 => ?arbua) AllReadyH.nil)
                      case arbua =>
                        refine step_append_lies _ (by rfl) (.tmp 26) (.tmp 28) 57 (by rfl) B 31 z0 (.slice none 0 0) 1 24 Tryd.underlying57 hi0 hz0 hz1 hz2 rfl (by decide) V j xs (by simp [Act.eval]) (HOw.out.alloc _) ⟨Wb.heap.size, 0, none⟩ 1 1 [.slice (some ⟨g, 0, none⟩) 32 32] (by simp [Act.eval]) rfl (by exact cell_one_new _ _ _) (by simp [Value.oneCell']) (by decide) (by unfold maxLen; omega) (by omega) HBs.out _ rfl ?_
                        intro g2 cap2 w6 hown2 hgrow hat hlt4
                        obtain ⟨r1, r2, r3⟩ := HU.out w6 g2 cap2 hown2 hgrow (hat.imp id fun e => by (first | exact e | simpa using e))
                        clear hown2 hgrow hat hlt4
                        refine hK9.out _ _ ?karbua (fun hHeld => ?_)
                        case karbua => trivial
                        clear hK9
                        simp only [Act.put, List.setIfInBounds_toArray]
                        refine wpAnyH_take (i := 8) (oi := { dst := some 30, op := Go.Op.nilCheck (Go.Operand.tmp 22), type := 0, pos := _, after := #[{ on := 0, ground := Go.Ground.data }, { on := 0, ground := Go.Ground.phase }, { on := 1, ground := Go.Ground.phase }, { on := 2, ground := Go.Ground.phase }, { on := 3, ground := Go.Ground.phase }, { on := 4, ground := Go.Ground.phase }, { on := 5, ground := Go.Ground.phase }, { on := 6, ground := Go.Ground.phase }, { on := 7, ground := Go.Ground.phase }], guard := none }) (v := ?varbux) rfl (by kernel_rfl) (by kernel_rfl) (by kernel_rfl) (fun _ _ _ h => h) (Or.inl ⟨by rfl, ?yarbux⟩) (by assumption) ?_
                        case yarbux =>
                          intro w hSw
                          (try dsimp only at hSw)
                          go_simp
                          (try with_reducible rfl)
                        simp only [Act.put]
                        refine wpAnyH_take (i := 9) (oi := { dst := some 31, op := Go.Op.fieldAddr 60 (Go.Operand.tmp 30) 1, type := 0, pos := _, after := #[{ on := 8, ground := Go.Ground.data }, { on := 0, ground := Go.Ground.phase }, { on := 1, ground := Go.Ground.phase }, { on := 2, ground := Go.Ground.phase }, { on := 3, ground := Go.Ground.phase }, { on := 4, ground := Go.Ground.phase }, { on := 5, ground := Go.Ground.phase }, { on := 6, ground := Go.Ground.phase }, { on := 7, ground := Go.Ground.phase }], guard := none }) (v := ?varbuy) rfl (by kernel_rfl) (by kernel_rfl) (by kernel_rfl) (fun _ _ _ h => h) (Or.inl ⟨by rfl, ?yarbuy⟩) (by assumption) ?_
                        case yarbuy =>
                          intro w hSw
                          (try dsimp only at hSw)
                          go_simp
                          (try with_reducible rfl)
                        simp only [Act.put]
                        refine wpAnyH_ready (rs := [10]) (by kernel_rfl) (by simp) ?_
                        refine (AllReadyH.cons rfl (fun K9 hK9 => ?arbus) AllReadyH.nil)
                        case arbus =>
                          go_simp
                          refine hK9.out _ _ ?karbus (fun hHeld => ?_)
                          case karbus => trivial
                          clear hK9
                          refine wpAnyH_done (by kernel_rfl) ?_ _
                          refine NoPanic.normal ?_
                          obtain ⟨F2, hN⟩ := r1
                          clear r2 r3 c0 c1 c2 HBl HOw HBs HU hHeld
                          go_wp2_with fail
                          go_roundw
                          case rel => exact ⟨j + 1, by omega, by go_num, F2, hN⟩
                          case measure => simp [intOf]; omega
        case ax =>
          go_simp
          refine hK9.out _ _ ?kas (fun hHeld => ?_)
          case kas => trivial
          clear hK9
          refine wpAnyH_ready (rs := [4]) (by kernel_rfl) (by simp) ?_
          refine (AllReadyH.cons rfl (fun K9 hK9 => ?ae) AllReadyH.nil)
          case ae =>
            go_simp
            refine hK9.out _ _ ?kat (fun hHeld => ?_)
            case kat => trivial
            clear hK9
            refine wpAnyH_ready (rs := [7]) (by kernel_rfl) (by simp) ?_
            refine (AllReadyH.cons rfl (fun K9 hK9 => ?aua) AllReadyH.nil)
            case aua =>
              refine step_append_lies _ (by rfl) (.tmp 16) (.tmp 18) 57 (by rfl) B 31 z0 (.slice none 0 0) 1 24 Tryd.underlying57 hi0 hz0 hz1 hz2 rfl (by decide) V j xs (by simp [Act.eval]) (HOw.out.alloc _) ⟨Wb.heap.size, 0, none⟩ 1 1 [.slice (some ⟨g, 0, none⟩) 32 32] (by simp [Act.eval]) rfl (by exact cell_one_new _ _ _) (by simp [Value.oneCell']) (by decide) (by unfold maxLen; omega) (by omega) HBs.out _ rfl ?_
              intro g2 cap2 w6 hown2 hgrow hat hlt4
              obtain ⟨r1, r2, r3⟩ := HU.out w6 g2 cap2 hown2 hgrow (hat.imp id fun e => by (first | exact e | simpa using e))
              clear hown2 hgrow hat hlt4
              refine hK9.out _ _ ?kaua (fun hHeld => ?_)
              case kaua => trivial
              clear hK9
              simp only [Act.put, List.setIfInBounds_toArray]
              refine wpAnyH_take (i := 8) (oi := { dst := some 20, op := Go.Op.nilCheck (Go.Operand.tmp 12), type := 0, pos := _, after := #[{ on := 0, ground := Go.Ground.data }, { on := 0, ground := Go.Ground.phase }, { on := 1, ground := Go.Ground.phase }, { on := 2, ground := Go.Ground.phase }, { on := 3, ground := Go.Ground.phase }, { on := 4, ground := Go.Ground.phase }, { on := 5, ground := Go.Ground.phase }, { on := 6, ground := Go.Ground.phase }, { on := 7, ground := Go.Ground.phase }], guard := none }) (v := ?vaux) rfl (by kernel_rfl) (by kernel_rfl) (by kernel_rfl) (fun _ _ _ h => h) (Or.inl ⟨by rfl, ?yaux⟩) (by assumption) ?_
              case yaux =>
                intro w hSw
                (try dsimp only at hSw)
                go_simp
                (try with_reducible rfl)
              simp only [Act.put]
              refine wpAnyH_take (i := 9) (oi := { dst := some 21, op := Go.Op.fieldAddr 60 (Go.Operand.tmp 20) 0, type := 0, pos := _, after := #[{ on := 8, ground := Go.Ground.data }, { on := 0, ground := Go.Ground.phase }, { on := 1, ground := Go.Ground.phase }, { on := 2, ground := Go.Ground.phase }, { on := 3, ground := Go.Ground.phase }, { on := 4, ground := Go.Ground.phase }, { on := 5, ground := Go.Ground.phase }, { on := 6, ground := Go.Ground.phase }, { on := 7, ground := Go.Ground.phase }], guard := none }) (v := ?vauy) rfl (by kernel_rfl) (by kernel_rfl) (by kernel_rfl) (fun _ _ _ h => h) (Or.inl ⟨by rfl, ?yauy⟩) (by assumption) ?_
              case yauy =>
                intro w hSw
                (try dsimp only at hSw)
                go_simp
                (try with_reducible rfl)
              simp only [Act.put]
              refine wpAnyH_ready (rs := [10]) (by kernel_rfl) (by simp) ?_
              refine (AllReadyH.cons rfl (fun K9 hK9 => ?aus) AllReadyH.nil)
              case aus =>
                go_simp
                refine hK9.out _ _ ?kaus (fun hHeld => ?_)
                case kaus => trivial
                clear hK9
                refine wpAnyH_done (by kernel_rfl) ?_ _
                refine NoPanic.normal ?_
                obtain ⟨F1, hN⟩ := r1
                obtain ⟨W2, hW2⟩ : ∃ W2, w6.setCell ⟨kd, 0, none⟩ (.slice (some ⟨g2, 0, none⟩) (j + 1) cap2) = W2 := ⟨_, rfl⟩
                rw [hW2] at hN ⊢
                have hBs : B ≤ W2.heap.size := by have := hN.own kd hN.dk; omega
                clear r2 r3 hW2 c0 c1 c2 HBl HOw HBs HU hHeld
                go_wp2_with fail
                obtain ⟨V, xs, c0, hOw, hU⟩ := hN.pushN hBs
                obtain ⟨g, hg⟩ : ∃ g, W2.heap.size = g := ⟨_, rfl⟩
                have hb0 : Calls Tryd.prog 29 #[] W2.drew _ := r_blank
                have hc := fun ob => cell_mid c0 ob
                have hO2 : (W2.drew.alloc nil32).ownsRow B 31 1 V j xs := World.ownsRow.alloc (w := W2.drew) hOw _
                have hsz : (W2.drew.alloc nil32).heap.size = W2.heap.size + 1 := by simp
                obtain ⟨Wb, hWb⟩ : ∃ Wb, W2.drew.alloc nil32 = Wb := ⟨_, rfl⟩
                have HBl : Hid (Calls Tryd.prog 29 #[] W2.drew fun e w' => e = .returned (.slice (some ⟨g, 0, none⟩) 32 32) ∧ Wb = w') := hb0.mono fun e w' ⟨e1, e2⟩ => ⟨by rw [e1, ← hg]; rfl, by rw [e2, ← hWb]⟩
                rw [hWb] at hc hO2 hsz
                rw [hWb] at hU
                rw [hg] at hU hsz
                have c1 : Wb.cell? ⟨kd, 1, none⟩ = some V := (hc (.cells #[] 0)).1
                have c2 : (Wb.alloc (.cells #[.slice (some ⟨g, 0, none⟩) 32 32] 31)).cell? ⟨kd, 1, none⟩ = some V := (hc _).2
                have HOw : Hid (Wb.ownsRow B 31 1 V j xs) := hO2
                have HBs : Hid (B ≤ (Wb.alloc (.cells #[.slice (some ⟨g, 0, none⟩) 32 32] 31)).heap.size) := show _ ≤ _ by simp; omega
                have HU : Hid (∀ w' g' c, w'.ownsRow B 31 1 (.slice (some ⟨g', 0, none⟩) (j + 1) c) (j + 1) (xs ++ [.slice (some ⟨g, 0, none⟩) 32 32]) → (Wb.alloc (.cells #[.slice (some ⟨g, 0, none⟩) 32 32] 31)).grownBy w' V.ownBlock → (V.ownBlock = some g' ∨ g' = Wb.heap.size + 1) →
                    (∃ F', NAt w (w'.setCell ⟨kd, 1, none⟩ (.slice (some ⟨g', 0, none⟩) (j + 1) c)) B kd (j + 1) (j + 1) F') ∧ w'.frozen? ⟨kd, 1, none⟩ = false ∧ w'.cell? ⟨kd, 1, none⟩ = some V) := fun w' g' c e1 e2 e3 => hU w' g' c e1 e2 (e3.imp id fun e => by omega)
                clear hN hOw hU hb0 hc hO2 hsz hWb hg hBs
                refine wp_region_noPanic ?_
                refine wp_region_held_drew (S := fun _ => True) (by kernel_rfl) ?hsaub (fun hHeld => ?_)
                case hsaub => trivial
                refine wpAnyH_take (i := 0) (oi := { dst := some 22, op := Go.Op.move (Go.Operand.tmp 3), type := 46, pos := _, after := #[], guard := none }) (v := ?vaub0) rfl (by kernel_rfl) (by kernel_rfl) (by kernel_rfl) (fun _ _ _ h => h) (Or.inl ⟨by rfl, ?yaub0⟩) (by assumption) ?_
                case yaub0 =>
                  intro w hSw
                  (try dsimp only at hSw)
                  go_simp
                  (try with_reducible rfl)
                simp only [Act.put, List.setIfInBounds_toArray, List.set_cons_zero, List.set_cons_succ]
                refine wpAnyH_take (i := 1) (oi := { dst := some 23, op := Go.Op.move (Go.Operand.tmp 3), type := 46, pos := _, after := #[], guard := none }) (v := ?vaub1) rfl (by kernel_rfl) (by kernel_rfl) (by kernel_rfl) (fun _ _ _ h => h) (Or.inl ⟨by rfl, ?yaub1⟩) (by assumption) ?_
                case yaub1 =>
                  intro w hSw
                  (try dsimp only at hSw)
                  go_simp
                  (try with_reducible rfl)
                simp only [Act.put, List.setIfInBounds_toArray, List.set_cons_zero, List.set_cons_succ]
                refine wpAnyH_take (i := 2) (oi := { dst := some 24, op := Go.Op.nilCheck (Go.Operand.tmp 23), type := 0, pos := _, after := #[{ on := 1, ground := Go.Ground.data }], guard := none }) (v := ?vaub2) rfl (by kernel_rfl) (by kernel_rfl) (by kernel_rfl) (fun _ _ _ h => h) (Or.inl ⟨by rfl, ?yaub2⟩) (by assumption) ?_
                case yaub2 =>
                  intro w hSw
                  (try dsimp only at hSw)
                  go_simp
                  (try with_reducible rfl)
                simp only [Act.put, List.setIfInBounds_toArray, List.set_cons_zero, List.set_cons_succ]
                refine wpAnyH_take (i := 3) (oi := { dst := some 25, op := Go.Op.fieldAddr 60 (Go.Operand.tmp 24) 1, type := 0, pos := _, after := #[{ on := 2, ground := Go.Ground.data }], guard := none }) (v := ?vaub3) rfl (by kernel_rfl) (by kernel_rfl) (by kernel_rfl) (fun _ _ _ h => h) (Or.inl ⟨by rfl, ?yaub3⟩) (by assumption) ?_
                case yaub3 =>
                  intro w hSw
                  (try dsimp only at hSw)
                  go_simp
                  (try with_reducible rfl)
                simp only [Act.put, List.setIfInBounds_toArray, List.set_cons_zero, List.set_cons_succ]
                refine wpAnyH_ready (rs := [4, 5]) (by kernel_rfl) (by simp) ?_
                refine (AllReadyH.cons rfl (fun K9 hK9 => ?aubA) (AllReadyH.cons rfl (fun K9 hK9 => ?aubB) AllReadyH.nil))
                case aubA =>
                  go_simp
                  refine hK9.out _ _ ?kaubl (fun hHeld => ?_)
                  case kaubl => trivial
                  clear hK9
                  refine wpAnyH_ready (rs := [5]) (by kernel_rfl) (by simp) ?_
                  refine (AllReadyH.cons rfl (fun K9 hK9 => ?aubb) AllReadyH.nil)
                  case aubb =>
                    go_simp
                    go_wp2_with (go_at_call 29; refine HBl.out.mono ?_; rintro e w9 ⟨rfl, rfl⟩)
                    refine hK9.out _ _ ?kaubm (fun hHeld => ?_)
                    case kaubm => trivial
                    clear hK9
                    refine wpAnyH_ready (rs := [6]) (by kernel_rfl) (by simp) ?_
                    refine (AllReadyH.cons rfl (fun K9 hK9 => ?aubc) AllReadyH.nil)
                    case aubc =>
                      go_simp
                      refine hK9.out _ _ ?kaubn (fun hHeld => ?_)
                      case kaubn => trivial
                      clear hK9
                      refine wpAnyH_ready (rs := [7]) (by kernel_rfl) (by simp) ?_
                      refine (AllReadyH.cons rfl (fun K9 hK9 => ?aubpa) AllReadyH.nil)
                      case aubpa =>
                        refine step_append_lies _ (by rfl) (.tmp 26) (.tmp 28) 57 (by rfl) B 31 z0 (.slice none 0 0) 1 24 Tryd.underlying57 hi0 hz0 hz1 hz2 rfl (by decide) V j xs (by simp [Act.eval]) (HOw.out.alloc _) ⟨Wb.heap.size, 0, none⟩ 1 1 [.slice (some ⟨g, 0, none⟩) 32 32] (by simp [Act.eval]) rfl (by exact cell_one_new _ _ _) (by simp [Value.oneCell']) (by decide) (by unfold maxLen; omega) (by omega) HBs.out _ rfl ?_
                        intro g2 cap2 w6 hown2 hgrow hat hlt4
                        obtain ⟨r1, r2, r3⟩ := HU.out w6 g2 cap2 hown2 hgrow (hat.imp id fun e => by (first | exact e | simpa using e))
                        clear hown2 hgrow hat hlt4
                        refine hK9.out _ _ ?kaubpa (fun hHeld => ?_)
                        case kaubpa => trivial
                        clear hK9
                        simp only [Act.put, List.setIfInBounds_toArray]
                        refine wpAnyH_take (i := 8) (oi := { dst := some 30, op := Go.Op.nilCheck (Go.Operand.tmp 22), type := 0, pos := _, after := #[{ on := 0, ground := Go.Ground.data }, { on := 0, ground := Go.Ground.phase }, { on := 1, ground := Go.Ground.phase }, { on := 2, ground := Go.Ground.phase }, { on := 3, ground := Go.Ground.phase }, { on := 4, ground := Go.Ground.phase }, { on := 5, ground := Go.Ground.phase }, { on := 6, ground := Go.Ground.phase }, { on := 7, ground := Go.Ground.phase }], guard := none }) (v := ?vaubpx) rfl (by kernel_rfl) (by kernel_rfl) (by kernel_rfl) (fun _ _ _ h => h) (Or.inl ⟨by rfl, ?yaubpx⟩) (by assumption) ?_
                        case yaubpx =>
                          intro w hSw
                          (try dsimp only at hSw)
                          go_simp
                          (try with_reducible rfl)
                        simp only [Act.put]
                        refine wpAnyH_take (i := 9) (oi := { dst := some 31, op := Go.Op.fieldAddr 60 (Go.Operand.tmp 30) 1, type := 0, pos := _, after := #[{ on := 8, ground := Go.Ground.data }, { on := 0, ground := Go.Ground.phase }, { on := 1, ground := Go.Ground.phase }, { on := 2, ground := Go.Ground.phase }, { on := 3, ground := Go.Ground.phase }, { on := 4, ground := Go.Ground.phase }, { on := 5, ground := Go.Ground.phase }, { on := 6, ground := Go.Ground.phase }, { on := 7, ground := Go.Ground.phase }], guard := none }) (v := ?vaubpy) rfl (by kernel_rfl) (by kernel_rfl) (by kernel_rfl) (fun _ _ _ h => h) (Or.inl ⟨by rfl, ?yaubpy⟩) (by assumption) ?_
                        case yaubpy =>
                          intro w hSw
                          (try dsimp only at hSw)
                          go_simp
                          (try with_reducible rfl)
                        simp only [Act.put]
                        refine wpAnyH_ready (rs := [10]) (by kernel_rfl) (by simp) ?_
                        refine (AllReadyH.cons rfl (fun K9 hK9 => ?aubps) AllReadyH.nil)
                        case aubps =>
                          go_simp
                          refine hK9.out _ _ ?kaubps (fun hHeld => ?_)
                          case kaubps => trivial
                          clear hK9
                          refine wpAnyH_done (by kernel_rfl) ?_ _
                          refine NoPanic.normal ?_
                          obtain ⟨F2, hN⟩ := r1
                          clear r2 r3 c0 c1 c2 HBl HOw HBs HU hHeld
                          go_wp2_with fail
                          go_roundw
                          case rel => exact ⟨j + 1, by omega, by go_num, F2, hN⟩
                          case measure => simp [intOf]; omega
                case aubB =>
                  go_simp
                  go_wp2_with (go_at_call 29; refine HBl.out.mono ?_; rintro e w9 ⟨rfl, rfl⟩)
                  refine hK9.out _ _ ?kaubv (fun hHeld => ?_)
                  case kaubv => trivial
                  clear hK9
                  refine wpAnyH_ready (rs := [4, 6]) (by kernel_rfl) (by simp) ?_
                  refine (AllReadyH.cons rfl (fun K9 hK9 => ?aubw) (AllReadyH.cons rfl (fun K9 hK9 => ?aubx) AllReadyH.nil))
                  case aubw =>
                    go_simp
                    refine hK9.out _ _ ?kaubo (fun hHeld => ?_)
                    case kaubo => trivial
                    clear hK9
                    refine wpAnyH_ready (rs := [6]) (by kernel_rfl) (by simp) ?_
                    refine (AllReadyH.cons rfl (fun K9 hK9 => ?aubd) AllReadyH.nil)
                    case aubd =>
                      go_simp
                      refine hK9.out _ _ ?kaubq (fun hHeld => ?_)
                      case kaubq => trivial
                      clear hK9
                      refine wpAnyH_ready (rs := [7]) (by kernel_rfl) (by simp) ?_
                      refine (AllReadyH.cons rfl (fun K9 hK9 => ?aubra) AllReadyH.nil)
                      case aubra =>
                        refine step_append_lies _ (by rfl) (.tmp 26) (.tmp 28) 57 (by rfl) B 31 z0 (.slice none 0 0) 1 24 Tryd.underlying57 hi0 hz0 hz1 hz2 rfl (by decide) V j xs (by simp [Act.eval]) (HOw.out.alloc _) ⟨Wb.heap.size, 0, none⟩ 1 1 [.slice (some ⟨g, 0, none⟩) 32 32] (by simp [Act.eval]) rfl (by exact cell_one_new _ _ _) (by simp [Value.oneCell']) (by decide) (by unfold maxLen; omega) (by omega) HBs.out _ rfl ?_
                        intro g2 cap2 w6 hown2 hgrow hat hlt4
                        obtain ⟨r1, r2, r3⟩ := HU.out w6 g2 cap2 hown2 hgrow (hat.imp id fun e => by (first | exact e | simpa using e))
                        clear hown2 hgrow hat hlt4
                        refine hK9.out _ _ ?kaubra (fun hHeld => ?_)
                        case kaubra => trivial
                        clear hK9
                        simp only [Act.put, List.setIfInBounds_toArray]
                        refine wpAnyH_take (i := 8) (oi := { dst := some 30, op := Go.Op.nilCheck (Go.Operand.tmp 22), type := 0, pos := _, after := #[{ on := 0, ground := Go.Ground.data }, { on := 0, ground := Go.Ground.phase }, { on := 1, ground := Go.Ground.phase }, { on := 2, ground := Go.Ground.phase }, { on := 3, ground := Go.Ground.phase }, { on := 4, ground := Go.Ground.phase }, { on := 5, ground := Go.Ground.phase }, { on := 6, ground := Go.Ground.phase }, { on := 7, ground := Go.Ground.phase }], guard := none }) (v := ?vaubrx) rfl (by kernel_rfl) (by kernel_rfl) (by kernel_rfl) (fun _ _ _ h => h) (Or.inl ⟨by rfl, ?yaubrx⟩) (by assumption) ?_
                        case yaubrx =>
                          intro w hSw
                          (try dsimp only at hSw)
                          go_simp
                          (try with_reducible rfl)
                        simp only [Act.put]
                        refine wpAnyH_take (i := 9) (oi := { dst := some 31, op := Go.Op.fieldAddr 60 (Go.Operand.tmp 30) 1, type := 0, pos := _, after := #[{ on := 8, ground := Go.Ground.data }, { on := 0, ground := Go.Ground.phase }, { on := 1, ground := Go.Ground.phase }, { on := 2, ground := Go.Ground.phase }, { on := 3, ground := Go.Ground.phase }, { on := 4, ground := Go.Ground.phase }, { on := 5, ground := Go.Ground.phase }, { on := 6, ground := Go.Ground.phase }, { on := 7, ground := Go.Ground.phase }], guard := none }) (v := ?vaubry) rfl (by kernel_rfl) (by kernel_rfl) (by kernel_rfl) (fun _ _ _ h => h) (Or.inl ⟨by rfl, ?yaubry⟩) (by assumption) ?_
                        case yaubry =>
                          intro w hSw
                          (try dsimp only at hSw)
                          go_simp
                          (try with_reducible rfl)
                        simp only [Act.put]
                        refine wpAnyH_ready (rs := [10]) (by kernel_rfl) (by simp) ?_
                        refine (AllReadyH.cons rfl (fun K9 hK9 => ?aubrs) AllReadyH.nil)
                        case aubrs =>
                          go_simp
                          refine hK9.out _ _ ?kaubrs (fun hHeld => ?_)
                          case kaubrs => trivial
                          clear hK9
                          refine wpAnyH_done (by kernel_rfl) ?_ _
                          refine NoPanic.normal ?_
                          obtain ⟨F2, hN⟩ := r1
                          clear r2 r3 c0 c1 c2 HBl HOw HBs HU hHeld
                          go_wp2_with fail
                          go_roundw
                          case rel => exact ⟨j + 1, by omega, by go_num, F2, hN⟩
                          case measure => simp [intOf]; omega
                  case aubx =>
                    go_simp
                    refine hK9.out _ _ ?kaubs (fun hHeld => ?_)
                    case kaubs => trivial
                    clear hK9
                    refine wpAnyH_ready (rs := [4]) (by kernel_rfl) (by simp) ?_
                    refine (AllReadyH.cons rfl (fun K9 hK9 => ?aube) AllReadyH.nil)
                    case aube =>
                      go_simp
                      refine hK9.out _ _ ?kaubt (fun hHeld => ?_)
                      case kaubt => trivial
                      clear hK9
                      refine wpAnyH_ready (rs := [7]) (by kernel_rfl) (by simp) ?_
                      refine (AllReadyH.cons rfl (fun K9 hK9 => ?aubua) AllReadyH.nil)
                      case aubua =>
                        refine step_append_lies _ (by rfl) (.tmp 26) (.tmp 28) 57 (by rfl) B 31 z0 (.slice none 0 0) 1 24 Tryd.underlying57 hi0 hz0 hz1 hz2 rfl (by decide) V j xs (by simp [Act.eval]) (HOw.out.alloc _) ⟨Wb.heap.size, 0, none⟩ 1 1 [.slice (some ⟨g, 0, none⟩) 32 32] (by simp [Act.eval]) rfl (by exact cell_one_new _ _ _) (by simp [Value.oneCell']) (by decide) (by unfold maxLen; omega) (by omega) HBs.out _ rfl ?_
                        intro g2 cap2 w6 hown2 hgrow hat hlt4
                        obtain ⟨r1, r2, r3⟩ := HU.out w6 g2 cap2 hown2 hgrow (hat.imp id fun e => by (first | exact e | simpa using e))
                        clear hown2 hgrow hat hlt4
                        refine hK9.out _ _ ?kaubua (fun hHeld => ?_)
                        case kaubua => trivial
                        clear hK9
                        simp only [Act.put, List.setIfInBounds_toArray]
                        refine wpAnyH_take (i := 8) (oi := { dst := some 30, op := Go.Op.nilCheck (Go.Operand.tmp 22), type := 0, pos := _, after := #[{ on := 0, ground := Go.Ground.data }, { on := 0, ground := Go.Ground.phase }, { on := 1, ground := Go.Ground.phase }, { on := 2, ground := Go.Ground.phase }, { on := 3, ground := Go.Ground.phase }, { on := 4, ground := Go.Ground.phase }, { on := 5, ground := Go.Ground.phase }, { on := 6, ground := Go.Ground.phase }, { on := 7, ground := Go.Ground.phase }], guard := none }) (v := ?vaubux) rfl (by kernel_rfl) (by kernel_rfl) (by kernel_rfl) (fun _ _ _ h => h) (Or.inl ⟨by rfl, ?yaubux⟩) (by assumption) ?_
                        case yaubux =>
                          intro w hSw
                          (try dsimp only at hSw)
                          go_simp
                          (try with_reducible rfl)
                        simp only [Act.put]
                        refine wpAnyH_take (i := 9) (oi := { dst := some 31, op := Go.Op.fieldAddr 60 (Go.Operand.tmp 30) 1, type := 0, pos := _, after := #[{ on := 8, ground := Go.Ground.data }, { on := 0, ground := Go.Ground.phase }, { on := 1, ground := Go.Ground.phase }, { on := 2, ground := Go.Ground.phase }, { on := 3, ground := Go.Ground.phase }, { on := 4, ground := Go.Ground.phase }, { on := 5, ground := Go.Ground.phase }, { on := 6, ground := Go.Ground.phase }, { on := 7, ground := Go.Ground.phase }], guard := none }) (v := ?vaubuy) rfl (by kernel_rfl) (by kernel_rfl) (by kernel_rfl) (fun _ _ _ h => h) (Or.inl ⟨by rfl, ?yaubuy⟩) (by assumption) ?_
                        case yaubuy =>
                          intro w hSw
                          (try dsimp only at hSw)
                          go_simp
                          (try with_reducible rfl)
                        simp only [Act.put]
                        refine wpAnyH_ready (rs := [10]) (by kernel_rfl) (by simp) ?_
                        refine (AllReadyH.cons rfl (fun K9 hK9 => ?aubus) AllReadyH.nil)
                        case aubus =>
                          go_simp
                          refine hK9.out _ _ ?kaubus (fun hHeld => ?_)
                          case kaubus => trivial
                          clear hK9
                          refine wpAnyH_done (by kernel_rfl) ?_ _
                          refine NoPanic.normal ?_
                          obtain ⟨F2, hN⟩ := r1
                          clear r2 r3 c0 c1 c2 HBl HOw HBs HU hHeld
                          go_wp2_with fail
                          go_roundw
                          case rel => exact ⟨j + 1, by omega, by go_num, F2, hN⟩
                          case measure => simp [intOf]; omega
    · obtain rfl : j = n := by omega
      have i0 : ¬ (j : Int) < (j : Int) := by omega
      have HF : Hid (∃ F, RAt wr B kd j fresh F ∧ Below B w wr) := ⟨F, hN.done, hN.below⟩
      clear hN
      go_wp2_with fail
      go_ret
      have hE := HF.out
      rw [HKD.out] at hE
      obtain ⟨F', e1, e2⟩ := hE
      exact ⟨kd, rfl, ⟨F', e1⟩, e2⟩

end Go.Proofs.YtclheepbojogfacDoor.Dk
