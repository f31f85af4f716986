/-
  Bridges and joints, plain: an edge without which there are more parts is one whose nodes have no way without it; a node without which the others are more parts is one that parts two others.
-/
import Derived.Test.YtgmadfiibaeleacDoorMa
namespace Go.Proofs.YtgmadfiibaeleacDoor.Br
set_option linter.unusedVariables false

variable {E E' A B : List (Nat × Nat)} {p q : Nat → Nat} {n a : Nat} {e : Nat × Nat}

/-- An edge is left out, wherever it stands: there are more parts just if there is no way between its nodes. -/
theorem more_out (hp : Rest (A ++ B) p) (hq : Rest (A ++ e :: B) q) (ha : e.1 < n) (hb : e.2 < n) : partsOf n q < partsOf n p ↔ ¬ Conn (A ++ B) e.1 e.2 := by
  obtain ⟨r, hr⟩ := rest_of (e :: (A ++ B))
  have e1 : ∀ i, r i = q i := hr.one hq fun i j => conn_perm List.perm_middle.symm i j
  have e2 : partsOf n q = partsOf n r := by unfold partsOf; exact cnt_congr n fun i _ => by rw [e1]
  rw [e2]
  by_cases hc : Conn (A ++ B) e.1 e.2
  · have e3 : ∀ i, r i = p i := hr.one hp fun i j => by
      obtain ⟨u, v⟩ := e
      exact conn_more hc i j
    have e4 : partsOf n r = partsOf n p := by unfold partsOf; exact cnt_congr n fun i _ => by rw [e3]
    simp [hc]
    omega
  · have := parts_less (E := A ++ B) (a := e.1) (b := e.2) hp hr ha hb hc
    simp [hc]
    omega

/-- The edges that do not touch a node. -/
def without (E : List (Nat × Nat)) (a : Nat) : List (Nat × Nat) := E.filter fun e => decide (e.1 ≠ a ∧ e.2 ≠ a)

theorem mem_without : e ∈ without E a ↔ e ∈ E ∧ e.1 ≠ a ∧ e.2 ≠ a := by simp [without]

/-- Without its edges a node is alone. -/
theorem without_alone (hq : Rest (without E a) q) {i : Nat} (h : q i = a ∨ Conn (without E a) i a) : i = a := by
  have hc : Conn (without E a) i a := by
    rcases h with h | h
    · have := hq.conn i
      rw [h] at this
      exact this
    · exact h
  have := hc (fun i j => i = a ↔ j = a) ⟨⟨fun _ => Iff.rfl, fun h => h.symm, fun h k => h.trans k⟩, fun e he => by
    have := mem_without.1 he
    simp [this.2.1, this.2.2]⟩
  exact this.2 rfl

/-- A node that parts two others. -/
def Joint (E : List (Nat × Nat)) (a : Nat) : Prop := ∃ x y, x ≠ a ∧ y ≠ a ∧ Conn E x y ∧ ¬ Conn (without E a) x y

theorem cnt_filter (n : Nat) (t : Nat → Bool) : cnt n t = ((List.range n).filter t).length := by unfold cnt; rw [List.countP_eq_length_filter]

/-- The parts without a node, but itself. -/
theorem parts_without (hq : Rest (without E a) q) (ha : a < n) : partsOf n q = ((List.range n).filter fun i => decide (q i = i ∧ i ≠ a)).length + 1 := by
  have hqa : q a = a := without_alone hq (Or.inr ((conn_eqv _).symm (hq.conn a)))
  have := cnt_or (p := fun i => decide (q i = i ∧ i ≠ a)) (q := fun i => decide (i = a)) (r := fun i => decide (q i = i)) n (fun i _ => by
    by_cases h : i = a
    · subst h; simp [hqa]
    · simp [h]) (fun i _ => by by_cases h : i = a <;> simp [h])
  rw [cnt_one, if_pos ha] at this
  unfold partsOf
  rw [this, cnt_filter]

theorem rest_lt (hE : Among n E) (hp : Rest E p) {i : Nat} (hi : i < n) : p i < n := by have := hp.le i; omega

/-- A node's edges are left out: the others are more parts just if it parts two of them. -/
theorem joint_count (hE : Among n E) (hp : Rest E p) (hq : Rest (without E a) q) (ha : a < n) : partsOf n p + 1 < partsOf n q ↔ Joint E a := by
  rw [parts_without hq ha]
  have hp' : partsOf n p = ((List.range n).filter fun i => decide (p i = i)).length := cnt_filter ..
  have hmono : ∀ {i j}, Conn (without E a) i j → Conn E i j := fun h => conn_mono (fun e he => (mem_without.1 he).1) h
  constructor
  · intro hlt
    apply Classical.byContradiction
    intro hno
    have hall : ∀ x y, x ≠ a → y ≠ a → Conn E x y → Conn (without E a) x y := fun x y hx hy hc => Classical.byContradiction fun h => hno ⟨x, y, hx, hy, hc, h⟩
    have := pigeon (f := p) ((List.range n).filter fun i => decide (q i = i ∧ i ≠ a)) ((List.range n).filter fun i => decide (p i = i)) (List.nodup_range.sublist List.filter_sublist) (fun x hx y hy e => by
      have h1 := of_decide_eq_true (List.mem_filter.1 hx).2
      have h2 := of_decide_eq_true (List.mem_filter.1 hy).2
      have h3 := (hq.same x y).2 (hall x y h1.2 h2.2 ((hp.same x y).1 e))
      rw [h1.1, h2.1] at h3
      exact h3) (fun x hx => List.mem_filter.2 ⟨List.mem_range.2 (rest_lt hE hp (List.mem_range.1 (List.mem_filter.1 hx).1)), by simp [hp.least]⟩)
    omega
  · rintro ⟨x, y, hx, hy, hc, hnc⟩
    -- the node has an edge to another one
    have hb : ∃ b, b ≠ a ∧ b < n ∧ Conn E a b := by
      apply Classical.byContradiction
      intro hno
      refine hnc (hc (fun i j => Conn (without E a) i j) ⟨conn_eqv _, fun e he => ?_⟩)
      have hbd := hE e he
      by_cases h1 : e.1 = a
      · by_cases h2 : e.2 = a
        · rw [h1, h2]; exact (conn_eqv _).refl a
        · exact absurd ⟨e.2, h2, hbd.2, by rw [← h1]; exact conn_edge he⟩ hno
      · by_cases h2 : e.2 = a
        · exact absurd ⟨e.1, h1, hbd.1, by rw [← h2]; exact (conn_eqv _).symm (conn_edge he)⟩ hno
        · exact conn_edge (mem_without.2 ⟨he, h1, h2⟩)
    obtain ⟨b, hba, hbn, hab⟩ := hb
    have hxn : x < n ∧ y < n := by
      have key : ∀ i, Conn E x i → i = x ∨ (i < n ∧ x < n) := fun i hi => by
        have := hi (fun u v => u = v ∨ (u < n ∧ v < n)) ⟨⟨fun _ => Or.inl rfl, fun h => h.elim (fun h => Or.inl h.symm) (fun h => Or.inr ⟨h.2, h.1⟩), fun h k => by
          rcases h with rfl | h
          · exact k
          · rcases k with rfl | k
            · exact Or.inr h
            · exact Or.inr ⟨h.1, k.2⟩⟩, fun e he => Or.inr (hE e he)⟩
        rcases this with h | h
        · exact Or.inl h.symm
        · exact Or.inr ⟨h.2, h.1⟩
      rcases key y hc with h | h
      · subst h; exact absurd ((conn_eqv _).refl _) hnc
      · exact ⟨h.2, h.1⟩
    -- for each least one of a part, a least one without the node
    obtain ⟨g, hg⟩ : ∃ g : Nat → Nat, ∀ c, g c = if c = p x then q x else if c = a then q b else q c := ⟨_, fun _ => rfl⟩
    have hq1 : ∀ i, i ≠ a → q i ≠ a := fun i hi h => hi (without_alone hq (Or.inl h))
    have hpq : ∀ i, p (q i) = p i := fun i => ((hp.same i (q i)).2 (hmono (hq.conn i))).symm
    have hpg : ∀ c, p c = c → p (g c) = c := fun c hcc => by
      rw [hg]
      split
      · rename_i h; rw [hpq, h]
      · split
        · rename_i h; subst h
          rw [hpq, ← (hp.same c b).2 hab, hcc]
        · rw [hpq, hcc]
    have hgn : ∀ c, g c ≠ a := fun c => by
      rw [hg]
      split
      · exact hq1 x hx
      · split
        · exact hq1 b hba
        · rename_i h; exact hq1 c h
    have hgr : ∀ c, q (g c) = g c := fun c => by
      rw [hg]
      split
      · exact hq.least x
      · split
        · exact hq.least b
        · exact hq.least c
    have hgl : ∀ c, c < n → g c < n := fun c hcn => by
      rw [hg]
      split
      · have := hq.le x; omega
      · split
        · have := hq.le b; omega
        · have := hq.le c; omega
    have hqxy : q x ≠ q y := fun h => hnc ((hq.same x y).1 h)
    have hpxy : p x = p y := (hp.same x y).2 hc
    obtain ⟨h, hh⟩ : ∃ h : Nat → Nat, ∀ c, h c = if c = n then q y else g c := ⟨_, fun _ => rfl⟩
    have hyn : q y < n := by have := hq.le y; omega
    have hcnt := pigeon (f := h) (n :: (List.range n).filter fun i => decide (p i = i)) ((List.range n).filter fun i => decide (q i = i ∧ i ≠ a)) (List.nodup_cons.2 ⟨fun hm => by have := List.mem_range.1 (List.mem_filter.1 hm).1; omega, List.nodup_range.sublist List.filter_sublist⟩) (fun u hu v hv e => by
      have big : ∀ c, c ∈ (List.range n).filter (fun i => decide (p i = i)) → c < n ∧ p c = c := fun c hc => ⟨List.mem_range.1 (List.mem_filter.1 hc).1, of_decide_eq_true (List.mem_filter.1 hc).2⟩
      have no : ∀ c, c < n → p c = c → g c ≠ q y := fun c h1 h2 h3 => by
        have h4 := hpg c h2
        rw [h3, hpq, ← hpxy] at h4
        have : g c = q x := by rw [hg, if_pos h4.symm]
        exact hqxy (this.symm.trans h3)
      rw [hh, hh] at e
      rcases List.mem_cons.1 hu with rfl | hu
      · rcases List.mem_cons.1 hv with rfl | hv
        · rfl
        · obtain ⟨v1, v2⟩ := big v hv
          rw [if_pos rfl, if_neg (by omega)] at e
          exact absurd e.symm (no v v1 v2)
      · obtain ⟨u1, u2⟩ := big u hu
        rcases List.mem_cons.1 hv with rfl | hv
        · rw [if_neg (by omega), if_pos rfl] at e
          exact absurd e (no u u1 u2)
        · obtain ⟨v1, v2⟩ := big v hv
          rw [if_neg (by omega), if_neg (by omega)] at e
          have := hpg u u2
          rw [e, hpg v v2] at this
          exact this.symm) (fun c hc => by
      refine List.mem_filter.2 ⟨List.mem_range.2 ?_, decide_eq_true ?_⟩
      · rw [hh]
        rcases List.mem_cons.1 hc with rfl | hc
        · rw [if_pos rfl]; exact hyn
        · have := List.mem_range.1 (List.mem_filter.1 hc).1
          rw [if_neg (by omega)]
          exact hgl c this
      · rw [hh]
        rcases List.mem_cons.1 hc with rfl | hc
        · rw [if_pos rfl]; exact ⟨hq.least y, hq1 y hy⟩
        · have := List.mem_range.1 (List.mem_filter.1 hc).1
          rw [if_neg (by omega)]
          exact ⟨hgr c, hgn c⟩)
    rw [List.length_cons] at hcnt
    omega

end Go.Proofs.YtgmadfiibaeleacDoor.Br
