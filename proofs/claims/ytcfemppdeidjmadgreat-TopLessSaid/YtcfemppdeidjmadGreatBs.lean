/-
  The lists of what is near, as they grow.
-/
import Derived.Test.YtcfemppdeidjmadGreatBr
namespace Go.Proofs.YtcfemppdeidjmadGreat.Br
open Go.RowKit Go.Deep
open Go.RowKit (Below)
set_option linter.unusedVariables false

variable {w w' w6 : World} {kw kn n u base : Nat} {V : Nat → Value} {nb : Nat → List Nat} {E : List (Nat × Nat)}

/-- Of each node those that it has an edge to. -/
def nbl (E : List (Nat × Nat)) (i : Nat) : List Nat := E.flatMap fun e => if e.1 = i then [e.2] else if e.2 = i then [e.1] else []

theorem nbl_nil (i : Nat) : nbl [] i = [] := rfl
theorem nbl_snoc (E : List (Nat × Nat)) (x y : Nat) (h : x ≠ y) (i : Nat) : nbl (E ++ [(x, y)]) i = upd (upd (nbl E) x (nbl E x ++ [y])) y (nbl E y ++ [x]) i := by
  unfold nbl
  rw [List.flatMap_append]
  by_cases h1 : i = y
  · subst h1
    rw [upd_self]
    simp [h]
  · rw [upd_ne _ _ h1]
    by_cases h2 : i = x
    · subst h2
      rw [upd_self]
      simp
    · rw [upd_ne _ _ h2]
      simp [Ne.symm h1, Ne.symm h2]
theorem nbl_len (E : List (Nat × Nat)) (i : Nat) : (nbl E i).length ≤ E.length := by
  induction E with
  | nil => exact Nat.le_refl _
  | cons e E ih =>
    unfold nbl at ih ⊢
    rw [List.flatMap_cons, List.length_append, List.length_cons]
    have : (if e.1 = i then [e.2] else if e.2 = i then [e.1] else []).length ≤ 1 := by
      split
      · simp
      · split <;> simp
    omega
theorem nbl_near (hlt : ∀ e ∈ E, e.1 < e.2 ∧ e.2 < n) (hl : E.length ≤ 200) : Near E n (nbl E) := by
  have key : ∀ a y, Adj E a y ↔ y ∈ nbl E a := fun a y => by
    unfold Adj nbl
    rw [List.mem_flatMap]
    constructor
    · rintro (h | h)
      · exact ⟨_, h, by simp⟩
      · have := hlt _ h
        simp only at this
        exact ⟨_, h, by simp only; rw [if_neg (by omega)]; simp⟩
    · rintro ⟨e, h1, h2⟩
      split at h2
      · rename_i q
        simp at h2
        subst q h2
        exact Or.inl h1
      · split at h2
        · rename_i q
          simp at h2
          subst q h2
          exact Or.inr h1
        · cases h2
  refine ⟨key, fun a y h => ?_, fun a => Nat.le_trans (nbl_len E a) hl⟩
  rcases (key a y).2 h with q | q
  · have := hlt _ q
    simp only at this
    omega
  · have := hlt _ q
    simp only at this
    omega

theorem own_same {base n : Nat} {ty : TypeId} {v : Value} {xs : List Value} {s : Nat} (h : w.ownsRow base ty s v n xs) (hb : ∀ g, v.ownBlock = some g → w'.heap[g]? = w.heap[g]?) : w'.ownsRow base ty s v n xs := by
  refine ⟨h.1, ?_⟩
  rcases h.2 with h0 | ⟨g, cap, cur, hv, h1, h2, h3⟩
  · exact Or.inl h0
  · refine Or.inr ⟨g, cap, cur, hv, h1, ?_, h3⟩
    rw [hb g (by rw [hv]; rfl)]; exact h2

theorem own_bound {base n : Nat} {ty : TypeId} {v : Value} {xs : List Value} {s k : Nat} (h : w.ownsRow base ty s v n xs) (hk : v.ownBlock = some k) : base ≤ k ∧ k < w.heap.size := by
  rcases h.2 with ⟨h0, _⟩ | ⟨g', cap, cur, hv, h1, h2, h3⟩
  · rw [h0] at hk; cases hk
  · rw [hv] at hk
    cases hk
    exact ⟨h1, (Array.getElem?_eq_some_iff.1 h2).1⟩

/-- The walker while its lists grow. -/
structure BAt (base : Nat) (w : World) (kw kn n : Nat) (V : Nat → Value) (nb : Nat → List Nat) : Prop where
  st : w.rowIs kw 127 2 (cells2 kn n 0)
  nd : ∃ g, w.rowIs kn 83 (n * 6) g ∧ ∀ i, i < n → Node V blank g i
  ne : kw ≠ kn
  bw : base ≤ kw
  bn : base ≤ kn
  own : ∀ i, i < n → w.ownsRow base 3 1 (V i) (nb i).length (ints (nb i))
  off : ∀ i, i < n → ∀ k, (V i).ownBlock = some k → k ≠ kw ∧ k ≠ kn
  apart : ∀ i j, i < n → j < n → i ≠ j → ∀ k, (V i).ownBlock = some k → (V j).ownBlock ≠ some k

theorem BAt.below (h : BAt base w kw kn n V nb) (hb : Below w.heap.size w w') : BAt base w' kw kn n V nb := by
  obtain ⟨g, h1, h2⟩ := h.nd
  exact ⟨h.st.of_block (hb.block _ h.st.lt), ⟨g, h1.of_block (hb.block _ h1.lt), h2⟩, h.ne, h.bw, h.bn, fun i hi => own_keep (h.own i hi) hb, h.off, h.apart⟩

theorem BAt.w0 (h : BAt base w kw kn n V nb) : w.cell? ⟨kw, 0, none⟩ = some (.slice (some ⟨kn, 0, none⟩) n n) := h.st.cell (i := 0) (by omega)
theorem BAt.f0 (h : BAt base w kw kn n V nb) (hu : u < n) : w.cell? ⟨kn, u * 6, none⟩ = some (V u) := by
  obtain ⟨g, h1, h2⟩ := h.nd; rw [h1.cell (i := u * 6) (by omega), (h2 u hu).near]
theorem BAt.fz (h : BAt base w kw kn n V nb) (i : Nat) : w.frozen? ⟨kn, i, none⟩ = false := by
  obtain ⟨g, h1, h2⟩ := h.nd; exact h1.frozen i

/-- A list has grown, and is put in its place. -/
theorem BAt.push {K g1 cap x : Nat} (h : BAt base w kw kn n V nb) (hu : u < n) (hK : (nb u).length = K) (hown : w6.ownsRow base 3 1 (.slice (some ⟨g1, 0, none⟩) (K + 1) cap) (K + 1) (ints (nb u) ++ [.int .i64 ((x : Nat) : Int)])) (hg : w.grownBy w6 (V u).ownBlock) (hat : (V u).ownBlock = some g1 ∨ g1 = w.heap.size) :
    (w6.cell? ⟨kn, u * 6, none⟩ = some (V u) ∧ w6.frozen? ⟨kn, u * 6, none⟩ = false ∧ w6.cell? ⟨kw, 0, none⟩ = some (.slice (some ⟨kn, 0, none⟩) n n)) ∧ BAt base (w6.setCell ⟨kn, u * 6, none⟩ (.slice (some ⟨g1, 0, none⟩) (K + 1) cap)) kw kn n (upd V u (.slice (some ⟨g1, 0, none⟩) (K + 1) cap)) (upd nb u (nb u ++ [x])) := by
  obtain ⟨g, h1, h2⟩ := h.nd
  have e1 : w6.heap[kw]? = w.heap[kw]? := hg.block kw h.st.lt fun e => (h.off u hu kw e.symm).1 rfl
  have e2 : w6.heap[kn]? = w.heap[kn]? := hg.block kn h1.lt fun e => (h.off u hu kn e.symm).2 rfl
  have hne : g1 ≠ kw ∧ g1 ≠ kn := by
    rcases hat with e | e
    · exact h.off u hu g1 e
    · have := h.st.lt
      have := h1.lt
      omega
  have hst := h.st.of_block e1
  have hn6 := h1.of_block e2
  refine ⟨⟨by rw [hn6.cell (i := u * 6) (by omega), (h2 u hu).near], hn6.frozen _, hst.cell (i := 0) (by omega)⟩, ⟨hst.setOther (a := ⟨kn, u * 6, none⟩) (by exact h.ne) _, ⟨_, hn6.set (u * 6) _, fun i hi => ?_⟩, h.ne, h.bw, h.bn, fun i hi => ?_, fun i hi k hk => ?_, fun i j hi hj hij k hk => ?_⟩⟩
  · have q := h2 i hi
    refine ⟨?_, by simp only [if_neg (show i * 6 + 1 ≠ u * 6 by omega)]; exact q.fr, by simp only [if_neg (show i * 6 + 2 ≠ u * 6 by omega)]; exact q.least, by simp only [if_neg (show i * 6 + 3 ≠ u * 6 by omega)]; exact q.turn, by simp only [if_neg (show i * 6 + 4 ≠ u * 6 by omega)]; exact q.back, by simp only [if_neg (show i * 6 + 5 ≠ u * 6 by omega)]; exact q.pieces⟩
    by_cases e : i = u
    · subst e; simp [upd_self]
    · simp only [if_neg (show i * 6 ≠ u * 6 by omega), upd_ne _ _ e]; exact q.near
  · by_cases e : i = u
    · subst e
      rw [upd_self, upd_self, List.length_append, hK, ints_snoc]
      exact ownsRow_setCell_other hown (a := ⟨kn, i * 6, none⟩) (by simp [Value.ownBlock]; exact hne.2) _
    · rw [upd_ne _ _ e, upd_ne _ _ e]
      refine ownsRow_setCell_other (own_same (h.own i hi) fun k hk => hg.block k (own_bound (h.own i hi) hk).2 fun q => h.apart i u hi hu e k hk q.symm) (a := ⟨kn, u * 6, none⟩) (fun q => ?_) _
      exact (h.off i hi kn q).2 rfl
  · by_cases e : i = u
    · subst e; rw [upd_self] at hk; cases hk; exact hne
    · rw [upd_ne _ _ e] at hk; exact h.off i hi k hk
  · by_cases e : i = u
    · subst e
      rw [upd_self] at hk
      cases hk
      rw [upd_ne _ _ (Ne.symm hij)]
      rcases hat with q | q
      · exact h.apart i j hi hj hij _ q
      · intro r
        have r1 : g1 < w.heap.size := (own_bound (h.own j hj) r).2
        omega
    · rw [upd_ne _ _ e] at hk
      by_cases e' : j = u
      · subst e'
        rw [upd_self]
        intro r
        cases r
        rcases hat with q | q
        · exact h.apart i j hi hj hij _ hk q
        · have r1 : g1 < w.heap.size := (own_bound (h.own i hi) hk).2
          omega
      · rw [upd_ne _ _ e']
        exact h.apart i j hi hj hij k hk

/-- The lists have grown: the walk can begin. -/
theorem BAt.walker (h : BAt base w kw kn n V nb) : WAt w kw kn n V nb blank := by
  refine ⟨h.st, h.nd, h.ne, fun i hi => ?_⟩
  obtain ⟨a, c, e, hI⟩ := own_ints (h.own i hi) rfl
  refine ⟨a, c, e, hI, fun p hp => ?_⟩
  have ho := h.own i hi
  rcases ho.2 with ⟨h0, _⟩ | ⟨g', cap, cur, hv, h1, h2, h3⟩
  · rw [e, hp] at h0; cases h0
  · rw [e, hp] at hv
    cases hv
    exact h.off i hi _ (by rw [e, hp]; rfl)

end Go.Proofs.YtcfemppdeidjmadGreat.Br
