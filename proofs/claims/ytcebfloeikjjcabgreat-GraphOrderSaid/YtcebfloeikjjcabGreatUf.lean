/-
  Parts that are put together: links of one root below another, the last link first; who is whose root, how many nodes a part has, how many parts there are.
-/
import Derived.WalkKit
namespace Go.Proofs.YtcebfloeikjjcabGreat

/-- Who stands above a node. -/
def ab : List (Nat × Nat) → Nat → Nat
  | [], i => i
  | (l, g) :: L, i => if i = l then g else ab L i

/-- What stands as a node's size. -/
def cz : List (Nat × Nat) → Nat → Nat
  | [], _ => 1
  | (l, g) :: L, i => if i = g then cz L g + cz L l else cz L i

/-- A node's root. -/
def rt : List (Nat × Nat) → Nat → Nat
  | [], i => i
  | (l, g) :: L, i => if rt L i = l then g else rt L i

/-- How many steps up it is. -/
def ht : List (Nat × Nat) → Nat → Nat
  | [], _ => 0
  | (l, _) :: L, i => if rt L i = l then ht L i + 1 else ht L i

/-- Each link is of two roots. -/
def Lnkd (n : Nat) : List (Nat × Nat) → Prop
  | [] => True
  | (l, g) :: L => l < n ∧ g < n ∧ l ≠ g ∧ rt L l = l ∧ rt L g = g ∧ Lnkd n L

theorem rt_rt {n : Nat} : ∀ {L : List (Nat × Nat)}, Lnkd n L → ∀ i, rt L (rt L i) = rt L i
  | [], _, _ => rfl
  | (l, g) :: L, ⟨_, _, hne, hl, hg, h⟩, i => by
    have ih := rt_rt h i
    by_cases hi : rt L i = l
    · simp only [rt, if_pos hi, hg, if_neg (Ne.symm hne)]
    · simp only [rt, if_neg hi, ih]

theorem rt_lt {n : Nat} : ∀ {L : List (Nat × Nat)}, Lnkd n L → ∀ i, i < n → rt L i < n
  | [], _, _, hi => hi
  | (l, g) :: L, ⟨_, hgn, _, _, _, h⟩, i, hi => by
    have ih := rt_lt h i hi
    by_cases hl : rt L i = l
    · simp only [rt, if_pos hl]; exact hgn
    · simp only [rt, if_neg hl]; exact ih

/-- Who is a root behind a link. -/
theorem root_cons {n l g : Nat} {L : List (Nat × Nat)} (h : Lnkd n ((l, g) :: L)) (i : Nat) : rt ((l, g) :: L) i = i ↔ rt L i = i ∧ i ≠ l := by
  obtain ⟨_, _, hne, hl, hg, h⟩ := h
  by_cases hi : rt L i = l
  · simp only [rt, if_pos hi]
    constructor
    · intro e; subst e; exact absurd (hg.symm.trans hi) (Ne.symm hne)
    · rintro ⟨e, e2⟩; exact absurd (e.symm.trans hi) e2
  · simp only [rt, if_neg hi]
    constructor
    · intro e; exact ⟨e, fun e2 => hi (e.trans e2)⟩
    · exact fun e => e.1

theorem ab_root {n : Nat} : ∀ {L : List (Nat × Nat)}, Lnkd n L → ∀ i, rt L i = i → ab L i = i
  | [], _, _, _ => rfl
  | (l, g) :: L, h, i, hi => by
    obtain ⟨h1, h2⟩ := (root_cons h i).1 hi
    simp only [ab, if_neg h2]
    exact ab_root h.2.2.2.2.2 i h1

theorem ht_root {n : Nat} : ∀ {L : List (Nat × Nat)}, Lnkd n L → ∀ i, rt L i = i → ht L i = 0
  | [], _, _, _ => rfl
  | (l, g) :: L, h, i, hi => by
    obtain ⟨h1, h2⟩ := (root_cons h i).1 hi
    have h3 : ¬ rt L i = l := by rw [h1]; exact h2
    simp only [ht, if_neg h3]
    exact ht_root h.2.2.2.2.2 i h1

theorem ab_step {n : Nat} : ∀ {L : List (Nat × Nat)}, Lnkd n L → ∀ i, rt L i ≠ i → ab L i ≠ i ∧ rt L (ab L i) = rt L i ∧ ht L (ab L i) < ht L i ∧ (i < n → ab L i < n)
  | [], _, i, hi => absurd rfl hi
  | (l, g) :: L, hh, i, hi => by
    obtain ⟨hln, hgn, hne, hl, hg, h⟩ := hh
    by_cases hil : i = l
    · subst hil
      have z := ht_root h g hg
      refine ⟨?_, ?_, ?_, ?_⟩
      · simp only [ab, if_pos]; exact Ne.symm hne
      · simp only [ab, rt, if_pos, hg, hl, if_neg (Ne.symm hne)]
      · simp only [ab, ht, if_pos, hg, hl, if_neg (Ne.symm hne), z]; omega
      · intro _; simp only [ab, if_pos]; exact hgn
    · have hr : rt L i ≠ i := fun e => hi ((root_cons (n := n) ⟨hln, hgn, hne, hl, hg, h⟩ i).2 ⟨e, hil⟩)
      obtain ⟨a1, a2, a3, a4⟩ := ab_step h i hr
      refine ⟨by simp only [ab, if_neg hil]; exact a1, ?_, ?_, by simp only [ab, if_neg hil]; exact a4⟩
      · simp only [ab, if_neg hil, rt, a2]
      · simp only [ab, if_neg hil, ht, a2]
        split <;> omega

/-- How many below n are so. -/
def cnt (n : Nat) (p : Nat → Bool) : Nat := (List.range n).countP p

theorem cnt_succ (n : Nat) (p : Nat → Bool) : cnt (n + 1) p = cnt n p + (if p n then 1 else 0) := by
  unfold cnt
  rw [List.range_succ, List.countP_append, List.countP_singleton]

theorem cnt_le (p : Nat → Bool) : ∀ n, cnt n p ≤ n
  | 0 => Nat.le_refl _
  | n + 1 => by rw [cnt_succ]; have := cnt_le p n; split <;> omega

theorem cnt_congr {p q : Nat → Bool} : ∀ n, (∀ i, i < n → p i = q i) → cnt n p = cnt n q
  | 0, _ => rfl
  | n + 1, h => by rw [cnt_succ, cnt_succ, cnt_congr n (fun i hi => h i (by omega)), h n (by omega)]

theorem cnt_or {p q r : Nat → Bool} : ∀ n, (∀ i, i < n → r i = (p i || q i)) → (∀ i, i < n → (p i && q i) = false) → cnt n r = cnt n p + cnt n q
  | 0, _, _ => rfl
  | n + 1, h, hd => by
    rw [cnt_succ, cnt_succ, cnt_succ, cnt_or n (fun i hi => h i (by omega)) (fun i hi => hd i (by omega)), h n (by omega)]
    have := hd n (by omega)
    cases hp : p n <;> cases hq : q n <;> simp [hp, hq] at this ⊢ <;> omega

theorem cnt_one (l : Nat) : ∀ n, cnt n (fun i => decide (i = l)) = if l < n then 1 else 0
  | 0 => rfl
  | n + 1 => by
    rw [cnt_succ, cnt_one l n]
    by_cases h1 : n = l
    · subst h1; simp
    · by_cases h2 : l < n
      · simp [h1, h2]; omega
      · simp [h1, h2]; omega

theorem cnt_id : ∀ n, cnt n (fun i => decide (i = i)) = n
  | 0 => rfl
  | n + 1 => by rw [cnt_succ, cnt_id n]; simp

/-- A root's size: how many have it as their root. -/
theorem cz_count {n : Nat} : ∀ {L : List (Nat × Nat)}, Lnkd n L → ∀ r, r < n → rt L r = r → cz L r = cnt n (fun i => decide (rt L i = r))
  | [], _, r, hr, _ => by
    have := cnt_one r n
    rw [if_pos hr] at this
    exact this.symm
  | (l, g) :: L, hh, r, hr, hroot => by
    obtain ⟨h1, h2⟩ := (root_cons hh r).1 hroot
    obtain ⟨hln, hgn, hne, hl, hg, h⟩ := hh
    by_cases hrg : r = g
    · subst hrg
      simp only [cz, if_pos]
      rw [cz_count h r hr h1, cz_count h l hln hl]
      refine (cnt_or n (fun i _ => ?_) (fun i _ => ?_)).symm
      · by_cases hi : rt L i = l
        · simp [rt, hi]
        · simp [rt, hi]
      · by_cases hi : rt L i = l
        · simp [hi, hne]
        · simp [hi]
    · simp only [cz, if_neg hrg]
      rw [cz_count h r hr h1]
      refine cnt_congr n fun i _ => ?_
      by_cases hi : rt L i = l
      · simp [rt, hi, Ne.symm h2, Ne.symm hrg]
      · simp [rt, hi]

theorem cz_two {n : Nat} {L : List (Nat × Nat)} (h : Lnkd n L) {a b : Nat} (ha : a < n) (hb : b < n) (ra : rt L a = a) (rb : rt L b = b) (hne : a ≠ b) : cz L a + cz L b ≤ n := by
  rw [cz_count h a ha ra, cz_count h b hb rb]
  rw [← cnt_or (r := fun i => decide (rt L i = a) || decide (rt L i = b)) n (fun i _ => rfl) (fun i _ => ?_)]
  · exact cnt_le _ _
  · by_cases hi : rt L i = a
    · simp [hi, hne]
    · simp [hi]

theorem cz_le {n : Nat} {L : List (Nat × Nat)} (h : Lnkd n L) {a : Nat} (ha : a < n) (ra : rt L a = a) : cz L a ≤ n := by
  rw [cz_count h a ha ra]; exact cnt_le _ _

/-- How many roots there are. -/
theorem roots_count {n : Nat} : ∀ {L : List (Nat × Nat)}, Lnkd n L → cnt n (fun i => decide (rt L i = i)) + L.length = n
  | [], _ => cnt_id n
  | (l, g) :: L, hh => by
    have ih := roots_count hh.2.2.2.2.2
    have hc := cnt_or (p := fun i => decide (rt ((l, g) :: L) i = i)) (q := fun i => decide (i = l)) (r := fun i => decide (rt L i = i)) n (fun i _ => by
      have := root_cons hh i
      by_cases hi : i = l
      · subst hi; simp [hh.2.2.2.1]
      · by_cases h2 : rt L i = i
        · simp [h2, hi, this.2 ⟨h2, hi⟩]
        · have h3 : ¬ rt ((l, g) :: L) i = i := fun e => h2 (this.1 e).1
          simp [h2, hi, h3]) (fun i _ => by
      have := root_cons hh i
      by_cases hi : i = l
      · subst hi
        have h3 : ¬ rt ((i, g) :: L) i = i := fun e => (this.1 e).2 rfl
        simp [h3]
      · simp [hi])
    rw [cnt_one, if_pos hh.1] at hc
    simp only [List.length_cons]
    omega

theorem links_lt {n : Nat} {L : List (Nat × Nat)} (h : Lnkd n L) (hn : 0 < n) : L.length < n := by
  have h1 := roots_count h
  have h2 : 0 < cnt n (fun i => decide (rt L i = i)) := by
    unfold cnt
    rw [List.countP_pos_iff]
    exact ⟨rt L 0, List.mem_range.2 (rt_lt h 0 hn), by simp [rt_rt h]⟩
  omega

theorem pigeon {f : Nat → Nat} : ∀ (l m : List Nat), l.Nodup → (∀ x ∈ l, ∀ y ∈ l, f x = f y → x = y) → (∀ x ∈ l, f x ∈ m) → l.length ≤ m.length
  | [], m, _, _, _ => Nat.zero_le _
  | a :: l, m, hn, hi, hm => by
    obtain ⟨hna, hnl⟩ := List.nodup_cons.1 hn
    have ha := hm a (List.mem_cons_self ..)
    have ih := pigeon l (m.erase (f a)) hnl (fun x hx y hy => hi x (List.mem_cons_of_mem _ hx) y (List.mem_cons_of_mem _ hy)) (fun x hx => by
      refine (List.mem_erase_of_ne (fun e => ?_)).2 (hm x (List.mem_cons_of_mem _ hx))
      have := hi x (List.mem_cons_of_mem _ hx) a (List.mem_cons_self ..) e
      subst this
      exact hna hx)
    rw [List.length_erase_of_mem ha] at ih
    have : 0 < m.length := List.length_pos_of_mem ha
    simp only [List.length_cons]
    omega

theorem roots_le {n : Nat} {L M : List (Nat × Nat)} (hM : Lnkd n M) (h : ∀ i j, rt M i = rt M j → rt L i = rt L j) : cnt n (fun i => decide (rt L i = i)) ≤ cnt n (fun i => decide (rt M i = i)) := by
  unfold cnt
  rw [List.countP_eq_length_filter, List.countP_eq_length_filter]
  refine pigeon (f := rt M) _ _ (List.nodup_range.sublist List.filter_sublist) ?_ ?_
  · intro x hx y hy e
    have h1 := of_decide_eq_true (List.mem_filter.1 hx).2
    have h2 := of_decide_eq_true (List.mem_filter.1 hy).2
    rw [← h1, ← h2]
    exact h x y e
  · intro x hx
    refine List.mem_filter.2 ⟨List.mem_range.2 (rt_lt hM x (List.mem_range.1 (List.mem_filter.1 hx).1)), ?_⟩
    simp [rt_rt hM]

/-- The same parts: as many links. -/
theorem links_same {n : Nat} {L M : List (Nat × Nat)} (hL : Lnkd n L) (hM : Lnkd n M) (h : ∀ i j, rt L i = rt L j ↔ rt M i = rt M j) : L.length = M.length := by
  have h1 := roots_count hL
  have h2 := roots_count hM
  have h3 := roots_le hM (fun i j => (h i j).2)
  have h4 := roots_le hL (fun i j => (h i j).1)
  omega

/-- The same parts: as great. -/
theorem size_same {n : Nat} {L M : List (Nat × Nat)} (hL : Lnkd n L) (hM : Lnkd n M) (h : ∀ i j, rt L i = rt L j ↔ rt M i = rt M j) {a : Nat} (ha : a < n) : cz L (rt L a) = cz M (rt M a) := by
  rw [cz_count hL _ (rt_lt hL a ha) (rt_rt hL a), cz_count hM _ (rt_lt hM a ha) (rt_rt hM a)]
  refine cnt_congr n fun i _ => ?_
  by_cases e : rt L i = rt L a
  · simp [e, (h i a).1 e]
  · have : ¬ rt M i = rt M a := fun e2 => e ((h i a).2 e2)
    simp [e, this]

/-- Both numbers are nodes. -/
def Nodes (n : Nat) (a b : Int) : Prop := 0 ≤ a ∧ a < n ∧ 0 ≤ b ∧ b < n

/-- What a Join makes of the links. -/
def Joins (n : Nat) (a b : Int) (L L' : List (Nat × Nat)) : Prop :=
  (¬ Nodes n a b ∧ L' = L) ∨ (Nodes n a b ∧ rt L a.toNat = rt L b.toNat ∧ L' = L) ∨
    (Nodes n a b ∧ rt L a.toNat ≠ rt L b.toNat ∧ (L' = (rt L a.toNat, rt L b.toNat) :: L ∨ L' = (rt L b.toNat, rt L a.toNat) :: L))

theorem Joins.linked {n : Nat} {a b : Int} {L L' : List (Nat × Nat)} (h : Joins n a b L L') (hL : Lnkd n L) : Lnkd n L' := by
  rcases h with ⟨_, rfl⟩ | ⟨_, _, rfl⟩ | ⟨⟨a0, a1, b0, b1⟩, hne, rfl | rfl⟩
  · exact hL
  · exact hL
  · exact ⟨rt_lt hL _ (by omega), rt_lt hL _ (by omega), hne, rt_rt hL _, rt_rt hL _, hL⟩
  · exact ⟨rt_lt hL _ (by omega), rt_lt hL _ (by omega), Ne.symm hne, rt_rt hL _, rt_rt hL _, hL⟩

theorem Joins.more {n : Nat} {a b : Int} {L L' : List (Nat × Nat)} (h : Joins n a b L L') : ∃ M, L' = M ++ L := by
  rcases h with ⟨_, rfl⟩ | ⟨_, _, rfl⟩ | ⟨_, _, rfl | rfl⟩
  · exact ⟨[], rfl⟩
  · exact ⟨[], rfl⟩
  · exact ⟨[_], rfl⟩
  · exact ⟨[_], rfl⟩

/-- One or other, the same. -/
structure Eqv (Q : Nat → Nat → Prop) : Prop where
  refl : ∀ i, Q i i
  symm : ∀ {i j}, Q i j → Q j i
  trans : ∀ {i j k}, Q i j → Q j k → Q i k

/-- The parts are those that these pairs make. -/
structure Gen (n : Nat) (E : List (Int × Int)) (L : List (Nat × Nat)) : Prop where
  linked : Lnkd n L
  has : ∀ e ∈ E, Nodes n e.1 e.2 → rt L e.1.toNat = rt L e.2.toNat
  least : ∀ Q, Eqv Q → (∀ e ∈ E, Nodes n e.1 e.2 → Q e.1.toNat e.2.toNat) → ∀ i j, rt L i = rt L j → Q i j

theorem Gen.start (n : Nat) : Gen n [] [] := ⟨trivial, fun _ h => absurd h (by simp), fun Q hQ _ i j e => by
  have e' : i = j := e
  subst e'
  exact hQ.refl _⟩

theorem rt_cons_of {l g : Nat} {L : List (Nat × Nat)} {i j : Nat} (h : rt L i = rt L j) : rt ((l, g) :: L) i = rt ((l, g) :: L) j := by simp only [rt, h]

/-- Behind a link two are the same if they were, or one was of the one and the other of the other. -/
theorem rt_cons_split {l g : Nat} {L : List (Nat × Nat)} {i j : Nat} (h : rt ((l, g) :: L) i = rt ((l, g) :: L) j) : rt L i = rt L j ∨ (rt L i = l ∧ rt L j = g) ∨ (rt L i = g ∧ rt L j = l) := by
  by_cases hi : rt L i = l
  · by_cases hj : rt L j = l
    · exact Or.inl (hi.trans hj.symm)
    · simp only [rt, if_pos hi, if_neg hj] at h
      exact Or.inr (Or.inl ⟨hi, h.symm⟩)
  · by_cases hj : rt L j = l
    · simp only [rt, if_neg hi, if_pos hj] at h
      exact Or.inr (Or.inr ⟨h, hj⟩)
    · simp only [rt, if_neg hi, if_neg hj] at h
      exact Or.inl h

theorem Gen.step {n : Nat} {E : List (Int × Int)} {a b : Int} {L L' : List (Nat × Nat)} (h : Gen n E L) (hj : Joins n a b L L') : Gen n ((a, b) :: E) L' := by
  have hl := hj.linked h.linked
  rcases hj with ⟨hno, rfl⟩ | ⟨_, he, rfl⟩ | ⟨hnd, hne, hc⟩
  · refine ⟨hl, fun e hm hn => ?_, fun Q hQ hs => h.least Q hQ fun e hm => hs e (List.mem_cons_of_mem _ hm)⟩
    rcases List.mem_cons.1 hm with rfl | hm
    · exact absurd hn hno
    · exact h.has e hm hn
  · refine ⟨hl, fun e hm hn => ?_, fun Q hQ hs => h.least Q hQ fun e hm => hs e (List.mem_cons_of_mem _ hm)⟩
    rcases List.mem_cons.1 hm with rfl | hm
    · exact he
    · exact h.has e hm hn
  · refine ⟨hl, fun e hm hn => ?_, fun Q hQ hs i j e => ?_⟩
    · rcases List.mem_cons.1 hm with rfl | hm
      · rcases hc with rfl | rfl
        · simp only [rt, if_pos, if_neg (Ne.symm hne)]
        · simp only [rt, if_pos, if_neg hne]
      · rcases hc with rfl | rfl
        · exact rt_cons_of (h.has e hm hn)
        · exact rt_cons_of (h.has e hm hn)
    · have hQab : Q a.toNat b.toNat := hs (a, b) (List.mem_cons_self ..) hnd
      have hle := h.least Q hQ fun e hm => hs e (List.mem_cons_of_mem _ hm)
      rcases hc with rfl | rfl
      · rcases rt_cons_split e with e | ⟨e1, e2⟩ | ⟨e1, e2⟩
        · exact hle i j e
        · exact hQ.trans (hle i _ e1) (hQ.trans hQab (hle _ j e2.symm))
        · exact hQ.trans (hle i _ e1) (hQ.trans (hQ.symm hQab) (hle _ j e2.symm))
      · rcases rt_cons_split e with e | ⟨e1, e2⟩ | ⟨e1, e2⟩
        · exact hle i j e
        · exact hQ.trans (hle i _ e1) (hQ.trans (hQ.symm hQab) (hle _ j e2.symm))
        · exact hQ.trans (hle i _ e1) (hQ.trans hQab (hle _ j e2.symm))

theorem eqv_rt (L : List (Nat × Nat)) : Eqv fun i j => rt L i = rt L j := ⟨fun _ => rfl, fun h => h.symm, fun h k => h.trans k⟩

/-- The same pairs, turned round and in another order, make the same parts. -/
theorem Gen.same {n : Nat} {E F : List (Int × Int)} {L M : List (Nat × Nat)} (h : Gen n E L) (k : Gen n F M) (hE : ∀ a b, (a, b) ∈ E ↔ (b, a) ∈ F) (i j : Nat) : rt L i = rt L j ↔ rt M i = rt M j := by
  constructor
  · refine h.least _ (eqv_rt M) (fun e hm hn => ?_) i j
    have := k.has (e.2, e.1) ((hE e.1 e.2).1 hm) ⟨hn.2.2.1, hn.2.2.2, hn.1, hn.2.1⟩
    exact this.symm
  · refine k.least _ (eqv_rt L) (fun e hm hn => ?_) i j
    have := h.has (e.2, e.1) ((hE e.2 e.1).2 hm) ⟨hn.2.2.1, hn.2.2.2, hn.1, hn.2.1⟩
    exact this.symm

end Go.Proofs.YtcebfloeikjjcabGreat
