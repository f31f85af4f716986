/-
  The statements' own disk: a row of pages is copied; Sync.
-/
import Derived.Test.YtclheepbojogfacDoorDh
namespace Go.Proofs.YtclheepbojogfacDoor.Dk
open Go.RowKit Go.Deep
open Go.RowKit (Below)
set_option linter.unusedVariables false

variable {w w' : World} {B n kd : Nat} {F F' : Nat → Prop} {s : St} {v u : Value} {l : List UInt8} {f : Nat → List UInt8} {xs : List Value}

theorem Tryd.infoBytes : (Tryd.prog.info? 31).map (fun i => (i.zero, i.size, i.bytes)) = some (some (.slice none 0 0), 1, 24) := by kernel_rfl

theorem PsAt.ones (h : PsAt w B F v n f xs) : ∀ u ∈ xs, u.oneCell' = true := fun u hu => by
  obtain ⟨i, hi, rfl⟩ := List.getElem_of_mem hu
  have hl := h.own.1
  obtain ⟨u', e1, e2⟩ := h.pg i (by omega)
  rw [List.getElem?_eq_getElem hi] at e1
  cases e1
  exact e2.one

/-- The same pages in a row of their own. -/
theorem PsAt.again {g c : Nat} (h : PsAt w B F v n f xs) (hown : w'.ownsRow B 31 1 (.slice (some ⟨g, 0, none⟩) n c) n xs) (hF : ∀ k, F k → F' k) (hg : F' g) (e : ∀ k, F k → Tg w k 5 → w'.heap[k]? = w.heap[k]?) : PsAt w' B F' (.slice (some ⟨g, 0, none⟩) n c) n f xs :=
  ⟨hown, fun i hi => by
    obtain ⟨u, e1, e2⟩ := h.pg i hi
    exact ⟨u, e1, e2.keep hF e⟩, fun k e => by
    simp only [Value.ownBlock, Option.some.injEq] at e
    exact e ▸ hg⟩

section

/-- What is there now becomes what is kept. -/
theorem RAt.keptAgain (h : RAt w B kd n s F) (hn : 1 ≤ n) : ∃ g c xs, w.cell? ⟨kd, 1, none⟩ = some (.slice (some ⟨g, 0, none⟩) n c) ∧ xs.length = n ∧ (∀ j u, xs[j]? = some u → w.cell? ((⟨g, 0, none⟩ : Addr).add j) = some u) ∧ (∀ u ∈ xs, u.oneCell' = true) ∧
    ∀ w' g' c', w'.ownsRow B 31 1 (.slice (some ⟨g', 0, none⟩) n c') n xs → w.grownBy w' none → g' = w.heap.size →
      RAt (w'.setCell ⟨kd, 0, none⟩ (.slice (some ⟨g', 0, none⟩) n c')) B kd n { s with kept := s.now } (fun b => F b ∨ b = g') ∧ Turn F w (w'.setCell ⟨kd, 0, none⟩ (.slice (some ⟨g', 0, none⟩) n c')) ∧ w'.frozen? ⟨kd, 0, none⟩ = false ∧ ∃ v, w'.cell? ⟨kd, 0, none⟩ = some v := by
  obtain ⟨K, N, R, xk, xn, xr, h1, h2, h3, h4, h5⟩ := h.ex
  obtain ⟨g, c, rfl, _, hlt⟩ := h3.own.form hn
  refine ⟨g, c, xn, h1.cell (i := 1) (by omega), by rw [h3.own.1]; omega, fun j u hu => h3.own.cells rfl j u hu, h3.ones, ?_⟩
  rintro w' g' c' hown hgrow rfl
  have hG : ∀ k, k < w.heap.size → w'.heap[k]? = w.heap[k]? := fun k hk => hgrow.block k hk (by simp)
  have h1' : w'.rowIs kd 60 5 (cells5 K (.slice (some ⟨g, 0, none⟩) n c) R s.left s.down) := h1.of_block (hG kd h1.lt)
  have hO : ∀ k, k < w.heap.size → k ≠ kd → (w'.setCell ⟨kd, 0, none⟩ (.slice (some ⟨w.heap.size, 0, none⟩) n c')).heap[k]? = w.heap[k]? := fun k hk q => by
    rw [blk_setCell_other _ _ _ _ (show k ≠ kd from q)]
    exact hG k hk
  have ht : ∀ k, Tg w k 5 ∨ Tg w k 31 ∨ Tg w k 80 → k ≠ kd := fun k q e => by
    subst e
    rcases q with q | q | q <;> exact absurd (Tg.one q (Tg.row h1)) (by decide)
  have hlk := h1.lt
  have hown' : (w'.setCell ⟨kd, 0, none⟩ (.slice (some ⟨w.heap.size, 0, none⟩) n c')).ownsRow B 31 1 (.slice (some ⟨w.heap.size, 0, none⟩) n c') n xn := own_block hown fun k e => by
    simp only [Value.ownBlock, Option.some.injEq] at e
    exact blk_setCell_other _ _ _ _ (show k ≠ kd by omega)
  refine ⟨⟨⟨_, .slice (some ⟨g, 0, none⟩) n c, R, xn, xn, xr, (h1'.set 0 _).congr fun i hi => ?_, h3.again hown' (fun _ q => Or.inl q) (Or.inr rfl) fun k hk q => hO k (h.own k hk).2 (ht k (Or.inl q)),
      h3.keep (fun _ q => Or.inl q) fun k hk q => hO k (h.own k hk).2 (ht k (q.imp id fun e => Or.inl (Tg.own h3.own e))), h4.keep (fun _ q => Or.inl q) fun k hk q => hO k (h.own k hk).2 (ht k (q.imp id fun e => Or.inr (Tg.own h4.own e))), fun k e e' => ?_⟩, Or.inl h.dk, fun b hb => ?_, h.wide⟩,
    ⟨hgrow.os, hgrow.tape, hgrow.output, by simpa using hgrow.size, fun k hk hn => hO k hk fun e => hn (by rw [e]; exact h.dk)⟩, h1'.frozen 0, _, h1'.cell (i := 0) (by omega)⟩
  · unfold cells5
    have : i = 0 ∨ i = 1 ∨ i = 2 ∨ i = 3 ∨ i = 4 := by omega
    rcases this with rfl | rfl | rfl | rfl | rfl <;> rfl
  · simp only [Value.ownBlock, Option.some.injEq] at e e'
    omega
  · have hs : w.heap.size ≤ w'.heap.size := hgrow.size
    rcases hb with hb | rfl
    · have := h.own b hb
      exact ⟨this.1, by simp; omega⟩
    · have := hown.lt _ rfl
      exact ⟨this.1, by simpa using this.2⟩

/-- What is kept becomes what is there now. -/
theorem RAt.nowAgain (h : RAt w B kd n s F) (hn : 1 ≤ n) : ∃ g c xs, w.cell? ⟨kd, 0, none⟩ = some (.slice (some ⟨g, 0, none⟩) n c) ∧ xs.length = n ∧ (∀ j u, xs[j]? = some u → w.cell? ((⟨g, 0, none⟩ : Addr).add j) = some u) ∧ (∀ u ∈ xs, u.oneCell' = true) ∧
    ∀ w' g' c', w'.ownsRow B 31 1 (.slice (some ⟨g', 0, none⟩) n c') n xs → w.grownBy w' none → g' = w.heap.size →
      RAt (w'.setCell ⟨kd, 1, none⟩ (.slice (some ⟨g', 0, none⟩) n c')) B kd n { s with now := s.kept } (fun b => F b ∨ b = g') ∧ Turn F w (w'.setCell ⟨kd, 1, none⟩ (.slice (some ⟨g', 0, none⟩) n c')) ∧ w'.frozen? ⟨kd, 1, none⟩ = false ∧ ∃ v, w'.cell? ⟨kd, 1, none⟩ = some v := by
  obtain ⟨K, N, R, xk, xn, xr, h1, h2, h3, h4, h5⟩ := h.ex
  obtain ⟨g, c, rfl, _, hlt⟩ := h2.own.form hn
  refine ⟨g, c, xk, h1.cell (i := 0) (by omega), by rw [h2.own.1]; omega, fun j u hu => h2.own.cells rfl j u hu, h2.ones, ?_⟩
  rintro w' g' c' hown hgrow rfl
  have hG : ∀ k, k < w.heap.size → w'.heap[k]? = w.heap[k]? := fun k hk => hgrow.block k hk (by simp)
  have h1' : w'.rowIs kd 60 5 (cells5 (.slice (some ⟨g, 0, none⟩) n c) N R s.left s.down) := h1.of_block (hG kd h1.lt)
  have hO : ∀ k, k < w.heap.size → k ≠ kd → (w'.setCell ⟨kd, 1, none⟩ (.slice (some ⟨w.heap.size, 0, none⟩) n c')).heap[k]? = w.heap[k]? := fun k hk q => by
    rw [blk_setCell_other _ _ _ _ (show k ≠ kd from q)]
    exact hG k hk
  have ht : ∀ k, Tg w k 5 ∨ Tg w k 31 ∨ Tg w k 80 → k ≠ kd := fun k q e => by
    subst e
    rcases q with q | q | q <;> exact absurd (Tg.one q (Tg.row h1)) (by decide)
  have hlk := h1.lt
  have hown' : (w'.setCell ⟨kd, 1, none⟩ (.slice (some ⟨w.heap.size, 0, none⟩) n c')).ownsRow B 31 1 (.slice (some ⟨w.heap.size, 0, none⟩) n c') n xk := own_block hown fun k e => by
    simp only [Value.ownBlock, Option.some.injEq] at e
    exact blk_setCell_other _ _ _ _ (show k ≠ kd by omega)
  refine ⟨⟨⟨.slice (some ⟨g, 0, none⟩) n c, _, R, xk, xk, xr, (h1'.set 1 _).congr fun i hi => ?_, h2.keep (fun _ q => Or.inl q) fun k hk q => hO k (h.own k hk).2 (ht k (q.imp id fun e => Or.inl (Tg.own h2.own e))),
      h2.again hown' (fun _ q => Or.inl q) (Or.inr rfl) fun k hk q => hO k (h.own k hk).2 (ht k (Or.inl q)), h4.keep (fun _ q => Or.inl q) fun k hk q => hO k (h.own k hk).2 (ht k (q.imp id fun e => Or.inr (Tg.own h4.own e))), fun k e e' => ?_⟩, Or.inl h.dk, fun b hb => ?_, h.wide⟩,
    ⟨hgrow.os, hgrow.tape, hgrow.output, by simpa using hgrow.size, fun k hk hn => hO k hk fun e => hn (by rw [e]; exact h.dk)⟩, h1'.frozen 1, _, h1'.cell (i := 1) (by omega)⟩
  · unfold cells5
    have : i = 0 ∨ i = 1 ∨ i = 2 ∨ i = 3 ∨ i = 4 := by omega
    rcases this with rfl | rfl | rfl | rfl | rfl <;> rfl
  · simp only [Value.ownBlock, Option.some.injEq] at e e'
    omega
  · have hs : w.heap.size ≤ w'.heap.size := hgrow.size
    rcases hb with hb | rfl
    · have := h.own b hb
      exact ⟨this.1, by simp; omega⟩
    · have := hown.lt _ rfl
      exact ⟨this.1, by simpa using this.2⟩

end

theorem RAt.cell2 (h : RAt w B kd n s F) : ∃ R, w.cell? ⟨kd, 2, none⟩ = some R := by
  obtain ⟨K, N, R, xk, xn, xr, h1, _⟩ := h.ex
  exact ⟨R, h1.cell (i := 2) (by omega)⟩

set_option maxRecDepth 100000 in
set_option maxHeartbeats 2000000 in
/-- All is kept. -/
theorem r_sync (h : RAt w B kd n s F) (hn : 1 ≤ n) (hn2 : n ≤ 80) (hB : B ≤ w.heap.size) :
    Calls Tryd.prog 17 #[.pointer (some ⟨kd, 0, none⟩)] w fun e w' => ∃ x, e = .returned (.int .i64 x) ∧ ∃ s', Syncs s x s' ∧ ∃ F', RAt w' B kd n s' F' ∧ (∀ b, F' b → F b ∨ w.heap.size ≤ b) ∧ Turn F w w' := by
  have HR : Hid (RAt w B kd n s F) := h
  have HC : Hid (1 ≤ n ∧ n ≤ 80 ∧ B ≤ w.heap.size) := ⟨hn, hn2, hB⟩
  clear h hn hn2 hB
  go_enter Tryd.func17, Tryd.ntmps17
  go_wp2_with fail
  refine (r_step HR.out).mono ?_
  rintro e w1 ⟨⟨rfl, hoff, hr⟩ | ⟨rfl, hon, hr⟩, ht⟩
  · have HX : Hid (Off s ∧ RAt w1 B kd n (fall s) F ∧ Turn F w w1) := ⟨hoff, hr, ht⟩
    clear hoff hr ht
    go_wp2_with fail
    go_ret
    exact ⟨8, rfl, _, Or.inl ⟨HX.out.1, rfl, rfl⟩, F, HX.out.2.1, fun b q => Or.inl q, HX.out.2.2⟩
  have HX : Hid (¬ Off s ∧ RAt w1 B kd n (less s) F ∧ Turn F w w1) := ⟨hon, hr, ht⟩
  have HB : Hid (B ≤ w1.heap.size) := show _ ≤ _ from Nat.le_trans HC.out.2.2 ht.size
  obtain ⟨g, c, xs, p1, p2, p3, p4, p5⟩ := hr.keptAgain HC.out.1
  have HP : Hid (xs.length = n * 1 ∧ (∀ j u, xs[j]? = some u → w1.cell? ((⟨g, 0, none⟩ : Addr).add j) = some u) ∧ (∀ u ∈ xs, u.oneCell' = true)) := ⟨by omega, p3, p4⟩
  have HU : Hid (∀ w' g' c', w'.ownsRow B 31 1 (.slice (some ⟨g', 0, none⟩) n c') n xs → w1.grownBy w' none → g' = w1.heap.size →
      RAt (w'.setCell ⟨kd, 0, none⟩ (.slice (some ⟨g', 0, none⟩) n c')) B kd n { less s with kept := (less s).now } (fun b => F b ∨ b = g') ∧ Turn F w1 (w'.setCell ⟨kd, 0, none⟩ (.slice (some ⟨g', 0, none⟩) n c')) ∧ w'.frozen? ⟨kd, 0, none⟩ = false ∧ ∃ v, w'.cell? ⟨kd, 0, none⟩ = some v) := p5
  obtain ⟨z0, hi0, hz0, hz1, hz2⟩ := info_parts Tryd.infoBytes
  clear hon hr ht p2 p3 p4 p5
  go_wp2_with (first
    | (at_builtin; refine wpList_append_lies _ rfl (.tmp 9) (.tmp 13) 57 rfl B 31 z0 (.slice none 0 0) 1 24 Tryd.underlying57 hi0 hz0 hz1 hz2 rfl (by decide) (.slice none 0 0) 0 [] rfl (World.ownsRow_nil ..) ⟨g, 0, none⟩ n c xs rfl HP.out.1 HP.out.2.1 HP.out.2.2 ?c2 ?c3 ?c4 HB.out _ rfl ?_))
  case c2 => exact HC.out.1
  case c3 => have := HC.out; unfold maxLen; omega
  case c4 => have := HC.out; omega
  intro g2 c2 w2 hown hgrow hat hlt2
  have hg2 : g2 = w1.heap.size := by
    rcases hat with e | e
    · cases e
    · exact e
  obtain ⟨r1, r2, r3, v0, r4⟩ := HU.out w2 g2 c2 hown hgrow hg2
  have HE : Hid (g2 = w1.heap.size) := hg2
  obtain ⟨W3, hW3⟩ : ∃ W3, w2.setCell ⟨kd, 0, none⟩ (.slice (some ⟨g2, 0, none⟩) n c2) = W3 := ⟨_, rfl⟩
  rw [hW3] at r1 r2
  have HF : Hid (RAt W3 B kd n { less s with kept := (less s).now } (fun b => F b ∨ b = g2) ∧ Turn F w W3) := ⟨r1, HX.out.2.2.trans r2⟩
  obtain ⟨R0, q1⟩ := r1.cell2
  have q2 := r1.free 2
  clear hown hgrow hat r1 r2 hg2 hlt2
  go_wp2_with (first | rw [hW3])
  go_ret
  refine ⟨0, rfl, _, Or.inr ⟨HX.out.1, rfl, rfl⟩, _, HF.out.1.setNone, fun b q => ?_, HF.out.2.trans (turn_set F HX.out.2.1.dk _)⟩
  rcases q with q | rfl
  · exact Or.inl q
  · have := HE.out; have := HX.out.2.2.size; omega

end Go.Proofs.YtclheepbojogfacDoor.Dk
