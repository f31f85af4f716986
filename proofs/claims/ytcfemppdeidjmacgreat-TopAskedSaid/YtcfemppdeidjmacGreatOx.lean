/-
  follow of package asks: the edges as they come and go.
-/
import Derived.Test.YtcfemppdeidjmacGreatOw
namespace Go.Proofs.YtcfemppdeidjmacGreat.As
open Go.RowKit Go.Deep
open Go.RowKit (Below)
set_option linter.unusedVariables false

variable {w w' wr : World} {f : Nat → Int × Int × Int}

set_option maxRecDepth 100000 in
theorem Tryz.infoTwo : (Tryz.prog.info? 233).map (fun i => (i.zero, i.size, i.bytes)) = some (some (.agg #[.int .i64 0, .int .i64 0]), 2, 16) := by kernel_rfl

theorem two_put (w : World) (x y : Nat) (ty : TypeId) : ∀ j u, (two (x, y))[j]? = some u → (w.alloc (.cells #[.int .i64 (x : Int), .int .i64 (y : Int)] ty)).cell? (Addr.add ⟨w.heap.size, 0, none⟩ j) = some u := fun j u hj => by
  match j, hj with
  | 0, hj => cases hj; simp [Addr.add]
  | 1, hj => cases hj; simp [Addr.add]

theorem twos_set : ∀ (S : List (Nat × Nat)) (p i z t : Nat), S[p]? = some (i, z) → (twos S).set (p * 2 + 1) (.int .i64 (t : Nat)) = twos (S.set p (i, t))
  | [], p, i, z, t, h => by simp at h
  | s :: S, 0, i, z, t, h => by
    simp only [List.getElem?_cons_zero, Option.some.injEq] at h
    subst h
    rfl
  | s :: S, p + 1, i, z, t, h => by
    rw [List.getElem?_cons_succ] at h
    have ih := twos_set S p i z t h
    have e1 : twos (s :: S) = two s ++ twos S := by simp [twos]
    have e2 : twos ((s :: S).set (p + 1) (i, t)) = two s ++ twos (S.set p (i, t)) := by simp [twos]
    rw [e1, e2, ← ih, List.set_append_right _ _ (by simp [two]; omega)]
    congr 2
    simp [two]
    omega

/-- Where the loop of follow stands: so many events were right. -/
structure Fol (w wr : World) (f : Nat → Int × Int × Int) (m n t : Nat) (v : Value) : Prop where
  map : ∃ lv D, OMap wr w.heap.size D (here f t) lv ∧ Opens f m t lv
  own : wr.ownsRow w.heap.size 233 2 v (sofar f m t).length (twos (sofar f m t))
  below : Below w.heap.size w wr
  more : w.heap.size < wr.heap.size
  may : ∀ j, j < t → May n f j

theorem own_not_map {base n : Nat} {ty : TypeId} {v : Value} {xs : List Value} {s mb : Nat} (h : w.ownsRow base ty s v n xs) (hm : ∃ es c, w.heap[mb]? = some (.map es c)) : v.ownBlock ≠ some mb := by
  obtain ⟨es, c, hm⟩ := hm
  intro e
  rcases h.2 with ⟨q, _⟩ | ⟨g, cap, cur, hv, _, hg, _⟩
  · rw [q] at e; cases e
  · rw [hv] at e
    cases e
    rw [hm] at hg
    cases hg

theorem own_same {base n : Nat} {ty : TypeId} {v : Value} {xs : List Value} {s : Nat} (h : w.ownsRow base ty s v n xs) (hb : ∀ g, v.ownBlock = some g → w'.heap[g]? = w.heap[g]?) : w'.ownsRow base ty s v n xs := by
  refine ⟨h.1, ?_⟩
  rcases h.2 with h0 | ⟨g, cap, cur, hv, h1, h2, h3⟩
  · exact Or.inl h0
  · refine Or.inr ⟨g, cap, cur, hv, h1, ?_, h3⟩
    rw [hb g (by rw [hv]; rfl)]; exact h2

theorem own_bound {base n : Nat} {ty : TypeId} {v : Value} {xs : List Value} {s k : Nat} (h : w.ownsRow base ty s v n xs) (hk : v.ownBlock = some k) : base ≤ k ∧ k < w.heap.size := by
  rcases h.2 with ⟨h0, _⟩ | ⟨g', cap, cur, hv, h1, h2, h3⟩
  · rw [h0] at hk; cases hk
  · rw [hv] at hk
    cases hk
    exact ⟨h1, (Array.getElem?_eq_some_iff.1 h2).1⟩

theorem Fol.step {m n t : Nat} {v : Value} (h : Fol w wr f m n t v) (hb : Below wr.heap.size wr w') : Fol w w' f m n t v := by
  obtain ⟨lv, D, hM, hO⟩ := h.map
  have hs := h.below.size
  refine ⟨⟨lv, D, hM.of_block (hb.block _ hM.lt), hO⟩, own_same h.own fun g e => hb.block g (own_bound h.own e).2, h.below.trans (hb.mono hs), ?_, h.may⟩
  have := hb.size
  have := h.more
  omega

theorem Fol.start (w : World) (f : Nat → Int × Int × Int) (m n : Nat) : Fol w (w.alloc (.map #[] 0)) f m n 0 (.slice none 0 0) := by
  have own := World.ownsMap_made w Tryz.prog 44 intElem
  exact ⟨⟨fun _ => 0, _, ⟨⟨0, own⟩, fun v kl _ => by simp [Maps.has, here], rfl, fun e he => absurd he (by simp [here])⟩, Opens.start f m _⟩, World.ownsRow_nil .., (Below.refl _ _).alloc (Nat.le_refl _) _, by simp, fun j hj => absurd hj (Nat.not_lt_zero _)⟩

/-- What follow comes to. -/
def Follows (w : World) (f : Nat → Int × Int × Int) (m : Nat) (n : Int) (e : Ending) (w' : World) : Prop :=
  ∃ (v : Value) (k : Nat) (x : Int), e = .returned (.tuple #[v, .int .i64 (k : Nat), errOf x]) ∧ EFault n m f k x ∧ Below w.heap.size w w' ∧ (x ≠ 0 → v = .slice none 0 0) ∧ (x = 0 → w'.ownsRow w.heap.size 233 2 v (spans f m m).length (twos (spans f m m)))

set_option maxRecDepth 100000 in
set_option maxHeartbeats 1000000 in
theorem follow_no {a : Option Addr} {m c : Nat} (n : Int) (h : (n < 1 ∨ 60 < n) ∨ 120 < m) :
    Calls Tryz.prog 112 #[.int .i64 n, .slice a m c] w (Follows w f m n) := by
  by_cases h1 : n < 1
  · go_enter Tryz.func112, Tryz.ntmps112
    go_wp2_with fail
    go_ret3
    exact ⟨_, 0, 1, rfl, Or.inl ⟨Or.inl h1, rfl, rfl⟩, Below.refl _ _, fun _ => rfl, fun q => absurd q (by decide)⟩
  by_cases h2 : 60 < n
  · go_enter Tryz.func112, Tryz.ntmps112
    go_wp2_with fail
    go_ret3
    exact ⟨_, 0, 1, rfl, Or.inl ⟨Or.inr h2, rfl, rfl⟩, Below.refl _ _, fun _ => rfl, fun q => absurd q (by decide)⟩
  have h3 : 120 < (m : Int) := by omega
  clear h
  go_enter Tryz.func112, Tryz.ntmps112
  go_wp2_with fail
  go_ret3
  exact ⟨_, 0, 3, rfl, Or.inr (Or.inl ⟨by omega, by omega, rfl, rfl⟩), Below.refl _ _, fun _ => rfl, fun q => absurd q (by decide)⟩

end Go.Proofs.YtcfemppdeidjmacGreat.As
