/-
  Ma
-/
import Derived.WalkKit
namespace Go.Proofs.YtcfemppdeidjmacGreat

def ab : List (Nat × Nat) → Nat → Nat
  | [], i => i
  | (l, g) :: L, i => if i = l then g else ab L i

def cz : List (Nat × Nat) → Nat → Nat
  | [], _ => 1
  | (l, g) :: L, i => if i = g then cz L g + cz L l else cz L i

def rt : List (Nat × Nat) → Nat → Nat
  | [], i => i
  | (l, g) :: L, i => if rt L i = l then g else rt L i

def ht : List (Nat × Nat) → Nat → Nat
  | [], _ => 0
  | (l, _) :: L, i => if rt L i = l then ht L i + 1 else ht L i

def Lnkd (n : Nat) : List (Nat × Nat) → Prop
  | [] => True
  | (l, g) :: L => l < n ∧ g < n ∧ l ≠ g ∧ rt L l = l ∧ rt L g = g ∧ Lnkd n L

theorem rt_rt {n : Nat} : ∀ {L : List (Nat × Nat)}, Lnkd n L → ∀ i, rt L (rt L i) = rt L i
  | [], _, _ => rfl
  | (l, g) :: L, ⟨_, _, hne, hl, hg, h⟩, i => by
    have ih := rt_rt h i
    by_cases hi : rt L i = l
    · simp only [rt, if_pos hi, hg, if_neg (Ne.symm hne)]
    · simp only [rt, if_neg hi, ih]

theorem rt_lt {n : Nat} : ∀ {L : List (Nat × Nat)}, Lnkd n L → ∀ i, i < n → rt L i < n
  | [], _, _, hi => hi
  | (l, g) :: L, ⟨_, hgn, _, _, _, h⟩, i, hi => by
    have ih := rt_lt h i hi
    by_cases hl : rt L i = l
    · simp only [rt, if_pos hl]; exact hgn
    · simp only [rt, if_neg hl]; exact ih

theorem root_cons {n l g : Nat} {L : List (Nat × Nat)} (h : Lnkd n ((l, g) :: L)) (i : Nat) : rt ((l, g) :: L) i = i ↔ rt L i = i ∧ i ≠ l := by
  obtain ⟨_, _, hne, hl, hg, h⟩ := h
  by_cases hi : rt L i = l
  · simp only [rt, if_pos hi]
    constructor
    · intro e; subst e; exact absurd (hg.symm.trans hi) (Ne.symm hne)
    · rintro ⟨e, e2⟩; exact absurd (e.symm.trans hi) e2
  · simp only [rt, if_neg hi]
    constructor
    · intro e; exact ⟨e, fun e2 => hi (e.trans e2)⟩
    · exact fun e => e.1

theorem ab_root {n : Nat} : ∀ {L : List (Nat × Nat)}, Lnkd n L → ∀ i, rt L i = i → ab L i = i
  | [], _, _, _ => rfl
  | (l, g) :: L, h, i, hi => by
    obtain ⟨h1, h2⟩ := (root_cons h i).1 hi
    simp only [ab, if_neg h2]
    exact ab_root h.2.2.2.2.2 i h1

theorem ht_root {n : Nat} : ∀ {L : List (Nat × Nat)}, Lnkd n L → ∀ i, rt L i = i → ht L i = 0
  | [], _, _, _ => rfl
  | (l, g) :: L, h, i, hi => by
    obtain ⟨h1, h2⟩ := (root_cons h i).1 hi
    have h3 : ¬ rt L i = l := by rw [h1]; exact h2
    simp only [ht, if_neg h3]
    exact ht_root h.2.2.2.2.2 i h1

theorem ab_step {n : Nat} : ∀ {L : List (Nat × Nat)}, Lnkd n L → ∀ i, rt L i ≠ i → ab L i ≠ i ∧ rt L (ab L i) = rt L i ∧ ht L (ab L i) < ht L i ∧ (i < n → ab L i < n)
  | [], _, i, hi => absurd rfl hi
  | (l, g) :: L, hh, i, hi => by
    obtain ⟨hln, hgn, hne, hl, hg, h⟩ := hh
    by_cases hil : i = l
    · subst hil
      have z := ht_root h g hg
      refine ⟨?_, ?_, ?_, ?_⟩
      · simp only [ab, if_pos]; exact Ne.symm hne
      · simp only [ab, rt, if_pos, hg, hl, if_neg (Ne.symm hne)]
      · simp only [ab, ht, if_pos, hg, hl, if_neg (Ne.symm hne), z]; omega
      · intro _; simp only [ab, if_pos]; exact hgn
    · have hr : rt L i ≠ i := fun e => hi ((root_cons (n := n) ⟨hln, hgn, hne, hl, hg, h⟩ i).2 ⟨e, hil⟩)
      obtain ⟨a1, a2, a3, a4⟩ := ab_step h i hr
      refine ⟨by simp only [ab, if_neg hil]; exact a1, ?_, ?_, by simp only [ab, if_neg hil]; exact a4⟩
      · simp only [ab, if_neg hil, rt, a2]
      · simp only [ab, if_neg hil, ht, a2]
        split <;> omega

def cnt (n : Nat) (p : Nat → Bool) : Nat := (List.range n).countP p

theorem cnt_succ (n : Nat) (p : Nat → Bool) : cnt (n + 1) p = cnt n p + (if p n then 1 else 0) := by
  unfold cnt
  rw [List.range_succ, List.countP_append, List.countP_singleton]

theorem cnt_le (p : Nat → Bool) : ∀ n, cnt n p ≤ n
  | 0 => Nat.le_refl _
  | n + 1 => by rw [cnt_succ]; have := cnt_le p n; split <;> omega

theorem cnt_congr {p q : Nat → Bool} : ∀ n, (∀ i, i < n → p i = q i) → cnt n p = cnt n q
  | 0, _ => rfl
  | n + 1, h => by rw [cnt_succ, cnt_succ, cnt_congr n (fun i hi => h i (by omega)), h n (by omega)]

theorem cnt_or {p q r : Nat → Bool} : ∀ n, (∀ i, i < n → r i = (p i || q i)) → (∀ i, i < n → (p i && q i) = false) → cnt n r = cnt n p + cnt n q
  | 0, _, _ => rfl
  | n + 1, h, hd => by
    rw [cnt_succ, cnt_succ, cnt_succ, cnt_or n (fun i hi => h i (by omega)) (fun i hi => hd i (by omega)), h n (by omega)]
    have := hd n (by omega)
    cases hp : p n <;> cases hq : q n <;> simp [hp, hq] at this ⊢ <;> omega

theorem cnt_one (l : Nat) : ∀ n, cnt n (fun i => decide (i = l)) = if l < n then 1 else 0
  | 0 => rfl
  | n + 1 => by
    rw [cnt_succ, cnt_one l n]
    by_cases h1 : n = l
    · subst h1; simp
    · by_cases h2 : l < n
      · simp [h1, h2]; omega
      · simp [h1, h2]; omega

theorem cnt_id : ∀ n, cnt n (fun i => decide (i = i)) = n
  | 0 => rfl
  | n + 1 => by rw [cnt_succ, cnt_id n]; simp

theorem cz_count {n : Nat} : ∀ {L : List (Nat × Nat)}, Lnkd n L → ∀ r, r < n → rt L r = r → cz L r = cnt n (fun i => decide (rt L i = r))
  | [], _, r, hr, _ => by
    have := cnt_one r n
    rw [if_pos hr] at this
    exact this.symm
  | (l, g) :: L, hh, r, hr, hroot => by
    obtain ⟨h1, h2⟩ := (root_cons hh r).1 hroot
    obtain ⟨hln, hgn, hne, hl, hg, h⟩ := hh
    by_cases hrg : r = g
    · subst hrg
      simp only [cz, if_pos]
      rw [cz_count h r hr h1, cz_count h l hln hl]
      refine (cnt_or n (fun i _ => ?_) (fun i _ => ?_)).symm
      · by_cases hi : rt L i = l
        · simp [rt, hi]
        · simp [rt, hi]
      · by_cases hi : rt L i = l
        · simp [hi, hne]
        · simp [hi]
    · simp only [cz, if_neg hrg]
      rw [cz_count h r hr h1]
      refine cnt_congr n fun i _ => ?_
      by_cases hi : rt L i = l
      · simp [rt, hi, Ne.symm h2, Ne.symm hrg]
      · simp [rt, hi]

theorem cz_two {n : Nat} {L : List (Nat × Nat)} (h : Lnkd n L) {a b : Nat} (ha : a < n) (hb : b < n) (ra : rt L a = a) (rb : rt L b = b) (hne : a ≠ b) : cz L a + cz L b ≤ n := by
  rw [cz_count h a ha ra, cz_count h b hb rb]
  rw [← cnt_or (r := fun i => decide (rt L i = a) || decide (rt L i = b)) n (fun i _ => rfl) (fun i _ => ?_)]
  · exact cnt_le _ _
  · by_cases hi : rt L i = a
    · simp [hi, hne]
    · simp [hi]

theorem roots_count {n : Nat} : ∀ {L : List (Nat × Nat)}, Lnkd n L → cnt n (fun i => decide (rt L i = i)) + L.length = n
  | [], _ => cnt_id n
  | (l, g) :: L, hh => by
    have ih := roots_count hh.2.2.2.2.2
    have hc := cnt_or (p := fun i => decide (rt ((l, g) :: L) i = i)) (q := fun i => decide (i = l)) (r := fun i => decide (rt L i = i)) n (fun i _ => by
      have := root_cons hh i
      by_cases hi : i = l
      · subst hi; simp [hh.2.2.2.1]
      · by_cases h2 : rt L i = i
        · simp [h2, hi, this.2 ⟨h2, hi⟩]
        · have h3 : ¬ rt ((l, g) :: L) i = i := fun e => h2 (this.1 e).1
          simp [h2, hi, h3]) (fun i _ => by
      have := root_cons hh i
      by_cases hi : i = l
      · subst hi
        have h3 : ¬ rt ((i, g) :: L) i = i := fun e => (this.1 e).2 rfl
        simp [h3]
      · simp [hi])
    rw [cnt_one, if_pos hh.1] at hc
    simp only [List.length_cons]
    omega

theorem links_lt {n : Nat} {L : List (Nat × Nat)} (h : Lnkd n L) (hn : 0 < n) : L.length < n := by
  have h1 := roots_count h
  have h2 : 0 < cnt n (fun i => decide (rt L i = i)) := by
    unfold cnt
    rw [List.countP_pos_iff]
    exact ⟨rt L 0, List.mem_range.2 (rt_lt h 0 hn), by simp [rt_rt h]⟩
  omega

theorem pigeon {f : Nat → Nat} : ∀ (l m : List Nat), l.Nodup → (∀ x ∈ l, ∀ y ∈ l, f x = f y → x = y) → (∀ x ∈ l, f x ∈ m) → l.length ≤ m.length
  | [], m, _, _, _ => Nat.zero_le _
  | a :: l, m, hn, hi, hm => by
    obtain ⟨hna, hnl⟩ := List.nodup_cons.1 hn
    have ha := hm a (List.mem_cons_self ..)
    have ih := pigeon l (m.erase (f a)) hnl (fun x hx y hy => hi x (List.mem_cons_of_mem _ hx) y (List.mem_cons_of_mem _ hy)) (fun x hx => by
      refine (List.mem_erase_of_ne (fun e => ?_)).2 (hm x (List.mem_cons_of_mem _ hx))
      have := hi x (List.mem_cons_of_mem _ hx) a (List.mem_cons_self ..) e
      subst this
      exact hna hx)
    rw [List.length_erase_of_mem ha] at ih
    have : 0 < m.length := List.length_pos_of_mem ha
    simp only [List.length_cons]
    omega

def Nodes (n : Nat) (a b : Int) : Prop := 0 ≤ a ∧ a < n ∧ 0 ≤ b ∧ b < n

def Joins (n : Nat) (a b : Int) (L L' : List (Nat × Nat)) : Prop :=
  (¬ Nodes n a b ∧ L' = L) ∨ (Nodes n a b ∧ rt L a.toNat = rt L b.toNat ∧ L' = L) ∨
    (Nodes n a b ∧ rt L a.toNat ≠ rt L b.toNat ∧ (L' = (rt L a.toNat, rt L b.toNat) :: L ∨ L' = (rt L b.toNat, rt L a.toNat) :: L))

theorem Joins.linked {n : Nat} {a b : Int} {L L' : List (Nat × Nat)} (h : Joins n a b L L') (hL : Lnkd n L) : Lnkd n L' := by
  rcases h with ⟨_, rfl⟩ | ⟨_, _, rfl⟩ | ⟨⟨a0, a1, b0, b1⟩, hne, rfl | rfl⟩
  · exact hL
  · exact hL
  · exact ⟨rt_lt hL _ (by omega), rt_lt hL _ (by omega), hne, rt_rt hL _, rt_rt hL _, hL⟩
  · exact ⟨rt_lt hL _ (by omega), rt_lt hL _ (by omega), Ne.symm hne, rt_rt hL _, rt_rt hL _, hL⟩

structure Eqv (Q : Nat → Nat → Prop) : Prop where
  refl : ∀ i, Q i i
  symm : ∀ {i j}, Q i j → Q j i
  trans : ∀ {i j k}, Q i j → Q j k → Q i k

structure Gen (n : Nat) (E : List (Int × Int)) (L : List (Nat × Nat)) : Prop where
  linked : Lnkd n L
  has : ∀ e ∈ E, Nodes n e.1 e.2 → rt L e.1.toNat = rt L e.2.toNat
  least : ∀ Q, Eqv Q → (∀ e ∈ E, Nodes n e.1 e.2 → Q e.1.toNat e.2.toNat) → ∀ i j, rt L i = rt L j → Q i j

theorem Gen.start (n : Nat) : Gen n [] [] := ⟨trivial, fun _ h => absurd h (by simp), fun Q hQ _ i j e => by
  have e' : i = j := e
  subst e'
  exact hQ.refl _⟩

theorem rt_cons_of {l g : Nat} {L : List (Nat × Nat)} {i j : Nat} (h : rt L i = rt L j) : rt ((l, g) :: L) i = rt ((l, g) :: L) j := by simp only [rt, h]

theorem rt_cons_split {l g : Nat} {L : List (Nat × Nat)} {i j : Nat} (h : rt ((l, g) :: L) i = rt ((l, g) :: L) j) : rt L i = rt L j ∨ (rt L i = l ∧ rt L j = g) ∨ (rt L i = g ∧ rt L j = l) := by
  by_cases hi : rt L i = l
  · by_cases hj : rt L j = l
    · exact Or.inl (hi.trans hj.symm)
    · simp only [rt, if_pos hi, if_neg hj] at h
      exact Or.inr (Or.inl ⟨hi, h.symm⟩)
  · by_cases hj : rt L j = l
    · simp only [rt, if_neg hi, if_pos hj] at h
      exact Or.inr (Or.inr ⟨h, hj⟩)
    · simp only [rt, if_neg hi, if_neg hj] at h
      exact Or.inl h

theorem Gen.step {n : Nat} {E : List (Int × Int)} {a b : Int} {L L' : List (Nat × Nat)} (h : Gen n E L) (hj : Joins n a b L L') : Gen n ((a, b) :: E) L' := by
  have hl := hj.linked h.linked
  rcases hj with ⟨hno, rfl⟩ | ⟨_, he, rfl⟩ | ⟨hnd, hne, hc⟩
  · refine ⟨hl, fun e hm hn => ?_, fun Q hQ hs => h.least Q hQ fun e hm => hs e (List.mem_cons_of_mem _ hm)⟩
    rcases List.mem_cons.1 hm with rfl | hm
    · exact absurd hn hno
    · exact h.has e hm hn
  · refine ⟨hl, fun e hm hn => ?_, fun Q hQ hs => h.least Q hQ fun e hm => hs e (List.mem_cons_of_mem _ hm)⟩
    rcases List.mem_cons.1 hm with rfl | hm
    · exact he
    · exact h.has e hm hn
  · refine ⟨hl, fun e hm hn => ?_, fun Q hQ hs i j e => ?_⟩
    · rcases List.mem_cons.1 hm with rfl | hm
      · rcases hc with rfl | rfl
        · simp only [rt, if_pos, if_neg (Ne.symm hne)]
        · simp only [rt, if_pos, if_neg hne]
      · rcases hc with rfl | rfl
        · exact rt_cons_of (h.has e hm hn)
        · exact rt_cons_of (h.has e hm hn)
    · have hQab : Q a.toNat b.toNat := hs (a, b) (List.mem_cons_self ..) hnd
      have hle := h.least Q hQ fun e hm => hs e (List.mem_cons_of_mem _ hm)
      rcases hc with rfl | rfl
      · rcases rt_cons_split e with e | ⟨e1, e2⟩ | ⟨e1, e2⟩
        · exact hle i j e
        · exact hQ.trans (hle i _ e1) (hQ.trans hQab (hle _ j e2.symm))
        · exact hQ.trans (hle i _ e1) (hQ.trans (hQ.symm hQab) (hle _ j e2.symm))
      · rcases rt_cons_split e with e | ⟨e1, e2⟩ | ⟨e1, e2⟩
        · exact hle i j e
        · exact hQ.trans (hle i _ e1) (hQ.trans (hQ.symm hQab) (hle _ j e2.symm))
        · exact hQ.trans (hle i _ e1) (hQ.trans hQab (hle _ j e2.symm))

theorem eqv_rt (L : List (Nat × Nat)) : Eqv fun i j => rt L i = rt L j := ⟨fun _ => rfl, fun h => h.symm, fun h k => h.trans k⟩

end Go.Proofs.YtcfemppdeidjmacGreat

namespace Go.Proofs.YtcfemppdeidjmacGreat

def Among (n : Nat) (E : List (Nat × Nat)) : Prop := ∀ e ∈ E, e.1 < n ∧ e.2 < n

def Over (E : List (Nat × Nat)) (Q : Nat → Nat → Prop) : Prop := Eqv Q ∧ ∀ e ∈ E, Q e.1 e.2

def Conn (E : List (Nat × Nat)) (i j : Nat) : Prop := ∀ Q, Over E Q → Q i j

theorem conn_eqv (E : List (Nat × Nat)) : Eqv (Conn E) :=
  ⟨fun i _Q h => h.1.refl i, fun hc Q h => h.1.symm (hc Q h), fun hc hd Q h => h.1.trans (hc Q h) (hd Q h)⟩
theorem conn_over (E : List (Nat × Nat)) : Over E (Conn E) := ⟨conn_eqv E, fun e he _Q h => h.2 e he⟩
theorem conn_edge {E : List (Nat × Nat)} {a b : Nat} (h : (a, b) ∈ E) : Conn E a b := (conn_over E).2 (a, b) h
theorem conn_mono {E E' : List (Nat × Nat)} (h : ∀ e ∈ E, e ∈ E') {i j : Nat} (hc : Conn E i j) : Conn E' i j := hc _ ⟨conn_eqv E', fun e he => (conn_over E').2 e (h e he)⟩

theorem conn_cons {E : List (Nat × Nat)} {a b i j : Nat} : Conn ((a, b) :: E) i j ↔ Conn E i j ∨ (Conn E i a ∧ Conn E b j) ∨ (Conn E i b ∧ Conn E a j) := by
  constructor
  · intro h
    refine h (fun i j => Conn E i j ∨ (Conn E i a ∧ Conn E b j) ∨ (Conn E i b ∧ Conn E a j)) ⟨⟨fun i => Or.inl ((conn_eqv E).refl i), ?_, ?_⟩, ?_⟩
    · rintro i j (h | ⟨h1, h2⟩ | ⟨h1, h2⟩)
      · exact Or.inl ((conn_eqv E).symm h)
      · exact Or.inr (Or.inr ⟨(conn_eqv E).symm h2, (conn_eqv E).symm h1⟩)
      · exact Or.inr (Or.inl ⟨(conn_eqv E).symm h2, (conn_eqv E).symm h1⟩)
    · intro i j k h1 h2
      have t := @Eqv.trans _ (conn_eqv E)
      have s := @Eqv.symm _ (conn_eqv E)
      rcases h1 with h1 | ⟨h1, h1'⟩ | ⟨h1, h1'⟩ <;> rcases h2 with h2 | ⟨h2, h2'⟩ | ⟨h2, h2'⟩
      · exact Or.inl (t h1 h2)
      · exact Or.inr (Or.inl ⟨t h1 h2, h2'⟩)
      · exact Or.inr (Or.inr ⟨t h1 h2, h2'⟩)
      · exact Or.inr (Or.inl ⟨h1, t h1' h2⟩)
      · exact Or.inl (t h1 (t (s (t h1' h2)) h2'))
      · exact Or.inl (t h1 h2')
      · exact Or.inr (Or.inr ⟨h1, t h1' h2⟩)
      · exact Or.inl (t h1 h2')
      · exact Or.inl (t h1 (t (s (t h1' h2)) h2'))
    · intro e he
      rcases List.mem_cons.1 he with rfl | he
      · exact Or.inr (Or.inl ⟨(conn_eqv E).refl _, (conn_eqv E).refl _⟩)
      · exact Or.inl ((conn_over E).2 e he)
  · have m : ∀ {i j}, Conn E i j → Conn ((a, b) :: E) i j := fun h => conn_mono (fun e he => List.mem_cons_of_mem _ he) h
    have e : Conn ((a, b) :: E) a b := conn_edge (List.mem_cons_self ..)
    have q := conn_eqv ((a, b) :: E)
    rintro (h | ⟨h1, h2⟩ | ⟨h1, h2⟩)
    · exact m h
    · exact q.trans (m h1) (q.trans e (m h2))
    · exact q.trans (m h1) (q.trans (q.symm e) (m h2))

structure Low (E : List (Nat × Nat)) (p : Nat → Nat) : Prop where
  le : ∀ i, p i ≤ i
  conn : ∀ i, Conn E i (p i)

theorem Low.start (E : List (Nat × Nat)) : Low E fun i => i := ⟨fun _ => Nat.le_refl _, fun i => (conn_eqv E).refl i⟩

structure Rest (E : List (Nat × Nat)) (p : Nat → Nat) : Prop extends Low E p where
  edge : ∀ e ∈ E, p e.1 = p e.2

theorem Rest.same {E : List (Nat × Nat)} {p : Nat → Nat} (h : Rest E p) (i j : Nat) : p i = p j ↔ Conn E i j := by
  constructor
  · intro e
    have h1 := h.conn i
    rw [e] at h1
    exact (conn_eqv E).trans h1 ((conn_eqv E).symm (h.conn j))
  · intro hc
    exact hc (fun i j => p i = p j) ⟨⟨fun _ => rfl, fun h => h.symm, fun h k => h.trans k⟩, h.edge⟩

theorem Rest.least {E : List (Nat × Nat)} {p : Nat → Nat} (h : Rest E p) (i : Nat) : p (p i) = p i := ((h.same i (p i)).2 (h.conn i)).symm

theorem Rest.one {E E' : List (Nat × Nat)} {p q : Nat → Nat} (h : Rest E p) (k : Rest E' q) (hE : ∀ i j, Conn E i j ↔ Conn E' i j) (i : Nat) : p i = q i := by
  have h1 : p (q i) = p i := ((h.same (q i) i).2 ((hE _ _).2 ((conn_eqv E').symm (k.conn i))))
  have h2 : q (p i) = q i := ((k.same (p i) i).2 ((hE _ _).1 ((conn_eqv E).symm (h.conn i))))
  have h3 := h.le (q i)
  have h4 := k.le (p i)
  omega

theorem Gen.conn {n : Nat} {E : List (Int × Int)} {L : List (Nat × Nat)} (h : Gen n E L) {D : List (Nat × Nat)} (hD : ∀ a b : Nat, (a < n ∧ b < n ∧ (((a : Int), (b : Int)) ∈ E ∨ ((b : Int), (a : Int)) ∈ E)) ↔ ((a, b) ∈ D ∨ (b, a) ∈ D)) (i j : Nat) : rt L i = rt L j ↔ Conn D i j := by
  constructor
  · refine h.least _ (conn_eqv D) (fun e he hn => ?_) i j
    obtain ⟨x, hx⟩ := Int.eq_ofNat_of_zero_le hn.1
    obtain ⟨y, hy⟩ := Int.eq_ofNat_of_zero_le hn.2.2.1
    obtain ⟨e1, e2⟩ := e
    simp only at hx hy
    subst hx hy
    obtain ⟨_, n2, _, n4⟩ := hn
    simp only at n2 n4
    have hm := (hD x y).1 ⟨by omega, by omega, Or.inl he⟩
    simp only [Int.toNat_natCast]
    rcases hm with hm | hm
    · exact conn_edge hm
    · exact (conn_eqv D).symm (conn_edge hm)
  · intro hc
    refine hc (fun i j => rt L i = rt L j) ⟨eqv_rt L, fun e he => ?_⟩
    obtain ⟨a, b⟩ := e
    obtain ⟨h1, h2, h3⟩ := (hD a b).2 (Or.inl he)
    rcases h3 with h3 | h3
    · have := h.has _ h3 ⟨by simp only; omega, by simp only; omega, by simp only; omega, by simp only; omega⟩
      simpa using this
    · have := h.has _ h3 ⟨by simp only; omega, by simp only; omega, by simp only; omega, by simp only; omega⟩
      simpa using this.symm

def partsOf (n : Nat) (p : Nat → Nat) : Nat := cnt n fun i => decide (p i = i)

theorem parts_less {E : List (Nat × Nat)} {p q : Nat → Nat} {a b n : Nat} (h : Rest E p) (k : Rest ((a, b) :: E) q) (ha : a < n) (hb : b < n) (hne : ¬ Conn E a b) : partsOf n q + 1 = partsOf n p := by
  have hpa : p a ≠ p b := fun e => hne ((h.same a b).1 e)
  have key : ∀ i, q i = i ↔ p i = i ∧ i ≠ max (p a) (p b) := by
    intro i
    have hq : ∀ j, q i ≤ j ∨ ¬ Conn ((a, b) :: E) i j := fun j => by
      rcases Classical.em (Conn ((a, b) :: E) i j) with hc | hc
      · left
        have := (k.same i j).2 hc
        rw [this]
        exact k.le j
      · exact Or.inr hc
    have pq : Conn ((a, b) :: E) i (p i) := conn_cons.2 (Or.inl (h.conn i))
    constructor
    · intro e
      have h1 : p i = i := by
        rcases hq (p i) with h2 | h2
        · have := h.le i; omega
        · exact absurd pq h2
      refine ⟨h1, fun em => ?_⟩
      rcases Nat.lt_or_ge (p a) (p b) with hl | hl
      · rw [Nat.max_eq_right (by omega)] at em
        have hc : Conn ((a, b) :: E) i (p a) := by
          rw [em]
          refine conn_cons.2 (Or.inr (Or.inr ⟨(conn_eqv E).symm (h.conn b), h.conn a⟩))
        rcases hq (p a) with h2 | h2
        · omega
        · exact h2 hc
      · rw [Nat.max_eq_left hl] at em
        have hc : Conn ((a, b) :: E) i (p b) := by
          rw [em]
          refine conn_cons.2 (Or.inr (Or.inl ⟨(conn_eqv E).symm (h.conn a), h.conn b⟩))
        rcases hq (p b) with h2 | h2
        · omega
        · exact h2 hc
    · rintro ⟨h1, h2⟩
      have hc : Conn ((a, b) :: E) i (q i) := k.conn i
      have hle := k.le i
      rcases conn_cons.1 hc with hc | ⟨c1, c2⟩ | ⟨c1, c2⟩
      · have := (h.same i (q i)).2 hc
        have := h.le (q i)
        omega
      · have e1 : p i = p a := (h.same i a).2 c1
        have e2 : p b = p (q i) := (h.same b (q i)).2 c2
        have e3 := h.le (q i)
        have : Conn ((a, b) :: E) i (p b) := conn_cons.2 (Or.inr (Or.inl ⟨c1, h.conn b⟩))
        rw [Nat.max_def] at h2
        split at h2 <;> omega
      · have e1 : p i = p b := (h.same i b).2 c1
        have e2 : p a = p (q i) := (h.same a (q i)).2 c2
        have e3 := h.le (q i)
        rw [Nat.max_def] at h2
        split at h2 <;> omega
  unfold partsOf
  have hm : max (p a) (p b) < n := by
    have := h.le a
    have := h.le b
    omega
  have hroot : p (max (p a) (p b)) = max (p a) (p b) := by
    rcases Nat.lt_or_ge (p a) (p b) with hl | hl
    · rw [Nat.max_eq_right (by omega)]; exact h.least b
    · rw [Nat.max_eq_left hl]; exact h.least a
  have hc := cnt_or (p := fun i => decide (q i = i)) (q := fun i => decide (i = max (p a) (p b))) (r := fun i => decide (p i = i)) n (fun i _ => by
    by_cases e : i = max (p a) (p b)
    · subst e; simp [hroot]
    · by_cases e2 : p i = i
      · simp [e2, e, (key i).2 ⟨e2, e⟩]
      · have : ¬ q i = i := fun e3 => e2 ((key i).1 e3).1
        simp [e2, e, this]) (fun i _ => by
    by_cases e : i = max (p a) (p b)
    · have : ¬ q i = i := fun e3 => ((key i).1 e3).2 e
      simp [this]
    · simp [e])
  rw [cnt_one, if_pos hm] at hc
  omega

end Go.Proofs.YtcfemppdeidjmacGreat

namespace Go.Proofs.YtcfemppdeidjmacGreat

def Forest : List (Nat × Nat) → Prop
  | [] => True
  | (a, b) :: E => ¬ Conn E a b ∧ Forest E

theorem least_of {P : Nat → Prop} {k : Nat} (h : P k) : ∃ m, P m ∧ ∀ j, P j → m ≤ j := by
  induction k using Nat.strongRecOn with
  | ind k ih =>
    rcases Classical.em (∃ j, P j ∧ j < k) with ⟨j, hj, hlt⟩ | hn
    · exact ih j hlt hj
    · exact ⟨k, h, fun j hj => Nat.le_of_not_lt fun hlt => hn ⟨j, hj, hlt⟩⟩

theorem rest_of (E : List (Nat × Nat)) : ∃ p, Rest E p := by
  have h : ∀ i, ∃ m, Conn E i m ∧ ∀ j, Conn E i j → m ≤ j := fun i => least_of ((conn_eqv E).refl i)
  refine ⟨fun i => Classical.choose (h i), ⟨⟨fun i => ?_, fun i => ?_⟩, fun e he => ?_⟩⟩
  · exact (Classical.choose_spec (h i)).2 i ((conn_eqv E).refl i)
  · exact (Classical.choose_spec (h i)).1
  · have s1 := Classical.choose_spec (h e.1)
    have s2 := Classical.choose_spec (h e.2)
    have hc := (conn_over E).2 e he
    have := s1.2 _ ((conn_eqv E).trans hc s2.1)
    have := s2.2 _ ((conn_eqv E).trans ((conn_eqv E).symm hc) s1.1)
    omega

theorem conn_more {E : List (Nat × Nat)} {a b : Nat} (h : Conn E a b) (i j : Nat) : Conn ((a, b) :: E) i j ↔ Conn E i j := by
  rw [conn_cons]
  have q := conn_eqv E
  constructor
  · rintro (h1 | ⟨h1, h2⟩ | ⟨h1, h2⟩)
    · exact h1
    · exact q.trans h1 (q.trans h h2)
    · exact q.trans h1 (q.trans (q.symm h) h2)
  · exact Or.inl

theorem rest_nil {p : Nat → Nat} (h : Rest [] p) (i : Nat) : p i = i := h.conn i (fun i j => i = j) ⟨⟨fun _ => rfl, fun h => h.symm, fun h k => h.trans k⟩, fun e he => absurd he (by simp)⟩ |>.symm

theorem forest_parts {n : Nat} : ∀ {E : List (Nat × Nat)} {p : Nat → Nat}, Among n E → Rest E p → n ≤ partsOf n p + E.length ∧ (Forest E ↔ partsOf n p + E.length = n)
  | [], p, _, h => by
    have : partsOf n p = n := by
      unfold partsOf
      rw [cnt_congr n (q := fun i => decide (i = i)) fun i _ => by simp [rest_nil h i]]
      exact cnt_id n
    simp [this, Forest]
  | (a, b) :: E, q, ha, h => by
    obtain ⟨p, hp⟩ := rest_of E
    have hab := ha (a, b) (List.mem_cons_self ..)
    obtain ⟨ih1, ih2⟩ := forest_parts (n := n) (fun e he => ha e (List.mem_cons_of_mem _ he)) hp
    rcases Classical.em (Conn E a b) with hc | hc
    · have e : partsOf n q = partsOf n p := by
        unfold partsOf
        refine cnt_congr n fun i _ => ?_
        rw [h.one hp (conn_more hc) i]
      simp only [List.length_cons]
      refine ⟨by omega, fun hf => absurd hc hf.1, fun e2 => ?_⟩
      omega
    · have e := parts_less hp h hab.1 hab.2 hc
      simp only [List.length_cons]
      refine ⟨by omega, fun hf => ?_, fun e2 => ⟨hc, ih2.2 (by omega)⟩⟩
      have := ih2.1 hf.2
      omega

theorem conn_perm {E E' : List (Nat × Nat)} (h : E.Perm E') (i j : Nat) : Conn E i j ↔ Conn E' i j :=
  ⟨conn_mono fun _ he => h.mem_iff.1 he, conn_mono fun _ he => h.mem_iff.2 he⟩

theorem Forest.perm {n : Nat} {E E' : List (Nat × Nat)} (hf : Forest E) (ha : Among n E) (h : E.Perm E') : Forest E' := by
  obtain ⟨p, hp⟩ := rest_of E
  obtain ⟨q, hq⟩ := rest_of E'
  have e : partsOf n q = partsOf n p := by
    unfold partsOf
    refine cnt_congr n fun i _ => ?_
    rw [hq.one hp (fun i j => (conn_perm h i j).symm) i]
  have ha' : Among n E' := fun e he => ha e (h.mem_iff.2 he)
  refine ((forest_parts ha' hq).2).2 ?_
  have := ((forest_parts ha hp).2).1 hf
  have := h.length_eq
  omega

theorem Forest.out {n : Nat} {A B : List (Nat × Nat)} {a b : Nat} (hf : Forest (A ++ (a, b) :: B)) (ha : Among n (A ++ (a, b) :: B)) : Forest (A ++ B) ∧ ¬ Conn (A ++ B) a b := by
  have := hf.perm ha (List.perm_middle)
  exact ⟨this.2, this.1⟩

theorem conn_out {A B : List (Nat × Nat)} {a b i j : Nat} : Conn (A ++ (a, b) :: B) i j ↔ Conn (A ++ B) i j ∨ (Conn (A ++ B) i a ∧ Conn (A ++ B) b j) ∨ (Conn (A ++ B) i b ∧ Conn (A ++ B) a j) := by
  rw [← conn_cons]
  exact conn_perm List.perm_middle i j

theorem Forest.put {n : Nat} {A B : List (Nat × Nat)} {a b : Nat} (hf : Forest (A ++ B)) (ha : Among n (A ++ B)) (h1 : a < n) (h2 : b < n) (hc : ¬ Conn (A ++ B) a b) : Forest (A ++ (a, b) :: B) := by
  refine Forest.perm (n := n) (E := (a, b) :: (A ++ B)) ⟨hc, hf⟩ (fun e he => ?_) List.perm_middle.symm
  rcases List.mem_cons.1 he with rfl | he
  · exact ⟨h1, h2⟩
  · exact ha e he

end Go.Proofs.YtcfemppdeidjmacGreat

namespace Go.Proofs.YtcfemppdeidjmacGreat

def Edg (E : List (Nat × Nat)) (x y : Nat) : Prop := (x, y) ∈ E ∨ (y, x) ∈ E

theorem Edg.symm {E : List (Nat × Nat)} {x y : Nat} (h : Edg E x y) : Edg E y x := h.elim Or.inr Or.inl
theorem Edg.conn {E : List (Nat × Nat)} {x y : Nat} (h : Edg E x y) : Conn E x y := h.elim conn_edge fun h => (conn_eqv E).symm (conn_edge h)

def Goes : Nat → List (Nat × Nat) → Nat → Prop
  | a, [], b => a = b
  | a, m :: ms, b => a = m.1 ∧ Goes m.2 ms b

theorem goes_append : ∀ {l r : List (Nat × Nat)} {a b : Nat}, Goes a (l ++ r) b ↔ ∃ c, Goes a l c ∧ Goes c r b
  | [], r, a, b => by
    simp only [List.nil_append, Goes]
    exact ⟨fun h => ⟨a, rfl, h⟩, fun ⟨c, e, h⟩ => e ▸ h⟩
  | m :: l, r, a, b => by
    simp only [List.cons_append, Goes, goes_append]
    exact ⟨fun ⟨h1, c, h2, h3⟩ => ⟨c, ⟨h1, h2⟩, h3⟩, fun ⟨c, ⟨h1, h2⟩, h3⟩ => ⟨h1, c, h2, h3⟩⟩

theorem goes_conn {E : List (Nat × Nat)} : ∀ {l : List (Nat × Nat)} {a b : Nat}, Goes a l b → (∀ x y, (x, y) ∈ l → Conn E x y) → Conn E a b ∧ ∀ x y, (x, y) ∈ l → Conn E a x
  | [], a, b, h, _ => by
    have e : a = b := h
    exact ⟨e ▸ (conn_eqv E).refl a, fun x y hm => absurd hm (by simp)⟩
  | (x, y) :: l, a, b, ⟨e, h⟩, hc => by
    have e' : a = x := e
    subst e'
    obtain ⟨h1, h2⟩ := goes_conn h (fun u v hm => hc u v (List.mem_cons_of_mem _ hm))
    have hxy := hc a y (List.mem_cons_self ..)
    refine ⟨(conn_eqv E).trans hxy h1, fun u v hm => ?_⟩
    rcases List.mem_cons.1 hm with e | hm
    · cases e; exact (conn_eqv E).refl _
    · exact (conn_eqv E).trans hxy (h2 u v hm)

def Mv (n : Nat) (E : List (Nat × Nat)) (x y : Nat) : Prop := (x = y ∧ x < n) ∨ (x ≠ y ∧ Edg E x y)

theorem Mv.conn {n : Nat} {E : List (Nat × Nat)} {x y : Nat} (h : Mv n E x y) : Conn E x y := by
  rcases h with ⟨rfl, _⟩ | ⟨_, h⟩
  · exact (conn_eqv E).refl _
  · exact h.conn

theorem Mv.lt {n : Nat} {E : List (Nat × Nat)} {x y : Nat} (h : Mv n E x y) (ha : Among n E) : x < n ∧ y < n := by
  rcases h with ⟨rfl, h⟩ | ⟨_, h | h⟩
  · exact ⟨h, h⟩
  · exact ha _ h
  · exact ⟨(ha _ h).2, (ha _ h).1⟩

structure Way (n : Nat) (E : List (Nat × Nat)) (p : Nat → Nat) (r : Nat) (l : List (Nat × Nat)) : Prop where
  nodup : l.Nodup
  goes : ∃ a, Goes a l a
  mem : ∀ x y, (x, y) ∈ l ↔ Mv n E x y ∧ p x = r

theorem Way.turn {n : Nat} {E : List (Nat × Nat)} {p : Nat → Nat} {r : Nat} {l m : List (Nat × Nat)} (h : Way n E p r (l ++ m)) : Way n E p r (m ++ l) := by
  refine ⟨(List.perm_append_comm.nodup_iff).1 h.nodup, ?_, fun x y => ?_⟩
  · obtain ⟨a, ha⟩ := h.goes
    obtain ⟨c, h1, h2⟩ := goes_append.1 ha
    exact ⟨c, goes_append.2 ⟨a, h2, h1⟩⟩
  · rw [← h.mem x y]; simp [or_comm]

structure More (E : List (Nat × Nat)) (a b : Nat) (E' : List (Nat × Nat)) : Prop where
  edg : ∀ x y, Edg E' x y ↔ Edg E x y ∨ (x = a ∧ y = b) ∨ (x = b ∧ y = a)
  conn : ∀ i j, Conn E' i j ↔ Conn E i j ∨ (Conn E i a ∧ Conn E b j) ∨ (Conn E i b ∧ Conn E a j)
  out : ¬ Conn E a b

theorem More.symm {E E' : List (Nat × Nat)} {a b : Nat} (h : More E a b E') : More E b a E' :=
  ⟨fun x y => (h.edg x y).trans (or_congr_right or_comm), fun i j => (h.conn i j).trans (or_congr_right or_comm), fun hc => h.out ((conn_eqv E).symm hc)⟩

theorem more_out {A B : List (Nat × Nat)} {a b : Nat} (hc : ¬ Conn (A ++ B) a b) : More (A ++ B) a b (A ++ (a, b) :: B) := by
  refine ⟨fun x y => ?_, fun i j => conn_out, hc⟩
  unfold Edg
  simp only [List.mem_append, List.mem_cons, Prod.mk.injEq]
  constructor
  · rintro ((h | h | h) | (h | h | h))
    · exact Or.inl (Or.inl (Or.inl h))
    · exact Or.inr (Or.inl h)
    · exact Or.inl (Or.inl (Or.inr h))
    · exact Or.inl (Or.inr (Or.inl h))
    · exact Or.inr (Or.inr ⟨h.2, h.1⟩)
    · exact Or.inl (Or.inr (Or.inr h))
  · rintro (((h | h) | (h | h)) | h | h)
    · exact Or.inl (Or.inl h)
    · exact Or.inl (Or.inr (Or.inr h))
    · exact Or.inr (Or.inl h)
    · exact Or.inr (Or.inr (Or.inr h))
    · exact Or.inl (Or.inr (Or.inl h))
    · exact Or.inr (Or.inr (Or.inl ⟨h.2, h.1⟩))

section
variable {E E' : List (Nat × Nat)} {a b : Nat} {p p' : Nat → Nat}

theorem More.ne (m : More E a b E') : a ≠ b := fun e => m.out (e ▸ (conn_eqv E).refl a)
theorem More.apart (m : More E a b E') (h : Rest E p) : p a ≠ p b := fun e => m.out ((h.same a b).1 e)

theorem More.same (m : More E a b E') (h : Rest E p) (h' : Rest E' p') (x y : Nat) : p' x = p' y ↔ p x = p y ∨ (p x = p a ∧ p b = p y) ∨ (p x = p b ∧ p a = p y) := by
  rw [h'.same, m.conn, ← h.same, ← h.same, ← h.same, ← h.same, ← h.same]

theorem More.joined (m : More E a b E') (h : Rest E p) (h' : Rest E' p') (x : Nat) : p' x = p' a ↔ p x = p a ∨ p x = p b := by
  rw [m.same h h']
  constructor
  · rintro (e | ⟨e, _⟩ | ⟨e, _⟩)
    · exact Or.inl e
    · exact Or.inl e
    · exact Or.inr e
  · rintro (e | e)
    · exact Or.inl e
    · exact Or.inr (Or.inr ⟨e, rfl⟩)

theorem More.rest (m : More E a b E') (h : Rest E p) (h' : Rest E' p') {x : Nat} (h1 : p x ≠ p a) (h2 : p x ≠ p b) : p' x = p x := by
  have e1 : p' (p x) = p' x := (m.same h h' _ _).2 (Or.inl (h.least x))
  have e2 : p (p' x) = p x := by
    rcases (m.same h h' (p' x) x).1 (h'.least x) with e | ⟨_, e⟩ | ⟨_, e⟩
    · exact e
    · exact absurd e.symm h2
    · exact absurd e.symm h1
  have := h'.le (p x)
  have := h.le (p' x)
  omega

theorem More.least (m : More E a b E') (h : Rest E p) (h' : Rest E' p') : p' a = min (p a) (p b) := by
  have e1 : p' (p a) = p' a := (m.joined h h' _).2 (Or.inl (h.least a))
  have e2 : p' (p b) = p' a := (m.joined h h' _).2 (Or.inr (h.least b))
  have l1 := h'.le (p a)
  have l2 := h'.le (p b)
  have e3 := (m.joined h h' (p' a)).1 (h'.least a)
  have l3 := h.le (p' a)
  omega

variable {n : Nat} {l1 l2 P Q M l : List (Nat × Nat)} {r : Nat}

theorem Way.link (m : More E a b E') (h : Rest E p) (h' : Rest E' p') (w1 : Way n E p (p a) l1) (g1 : Goes a l1 a) (w2 : Way n E p (p b) l2) (g2 : Goes b l2 b) :
    Way n E' p' (p' a) (l1 ++ (a, b) :: (l2 ++ [(b, a)])) := by
  have hne := m.ne
  have hap := m.apart h
  have n1 : ¬ Edg E a b := fun e => m.out e.conn
  have n2 : ¬ Edg E b a := fun e => n1 e.symm
  have i1 : (a, b) ∉ l1 := fun hm => by
    rcases ((w1.mem a b).1 hm).1 with ⟨e, _⟩ | ⟨_, e⟩
    · exact hne e
    · exact n1 e
  have i2 : (a, b) ∉ l2 := fun hm => by
    rcases ((w2.mem a b).1 hm).1 with ⟨e, _⟩ | ⟨_, e⟩
    · exact hne e
    · exact n1 e
  have i3 : (b, a) ∉ l1 := fun hm => by
    rcases ((w1.mem b a).1 hm).1 with ⟨e, _⟩ | ⟨_, e⟩
    · exact hne e.symm
    · exact n2 e
  have i4 : (b, a) ∉ l2 := fun hm => by
    rcases ((w2.mem b a).1 hm).1 with ⟨e, _⟩ | ⟨_, e⟩
    · exact hne e.symm
    · exact n2 e
  refine ⟨?_, ⟨a, ?_⟩, fun x y => ?_⟩
  · rw [List.nodup_append]
    refine ⟨w1.nodup, List.nodup_cons.2 ⟨?_, ?_⟩, ?_⟩
    · simp only [List.mem_append, List.mem_singleton, Prod.mk.injEq, not_or]
      exact ⟨i2, fun e => hne e.1⟩
    · rw [List.nodup_append]
      refine ⟨w2.nodup, by simp, ?_⟩
      rintro ⟨x, y⟩ hx z hz e
      rw [List.mem_singleton] at hz
      rw [hz] at e
      rw [e] at hx
      exact i4 hx
    · rintro ⟨x, y⟩ hx z hz e
      subst e
      simp only [List.mem_cons, List.mem_append, List.not_mem_nil, or_false] at hz
      rcases hz with e | hz | e
      · rw [e] at hx; exact i1 hx
      · exact hap (((w1.mem x y).1 hx).2.symm.trans ((w2.mem x y).1 hz).2)
      · rw [e] at hx; exact i3 hx
  · exact goes_append.2 ⟨a, g1, rfl, goes_append.2 ⟨b, g2, rfl, rfl⟩⟩
  · simp only [List.mem_append, List.mem_cons, List.not_mem_nil, or_false, w1.mem, w2.mem, Prod.mk.injEq, m.joined h h']
    constructor
    · rintro (⟨h1, h2⟩ | ⟨rfl, rfl⟩ | ⟨h1, h2⟩ | ⟨rfl, rfl⟩)
      · exact ⟨h1.elim Or.inl fun e => Or.inr ⟨e.1, (m.edg x y).2 (Or.inl e.2)⟩, Or.inl h2⟩
      · exact ⟨Or.inr ⟨hne, (m.edg _ _).2 (Or.inr (Or.inl ⟨rfl, rfl⟩))⟩, Or.inl rfl⟩
      · exact ⟨h1.elim Or.inl fun e => Or.inr ⟨e.1, (m.edg x y).2 (Or.inl e.2)⟩, Or.inr h2⟩
      · exact ⟨Or.inr ⟨hne.symm, (m.edg _ _).2 (Or.inr (Or.inr ⟨rfl, rfl⟩))⟩, Or.inr rfl⟩
    · rintro ⟨h1 | ⟨h1, h3⟩, h2⟩
      · rcases h2 with h2 | h2
        · exact Or.inl ⟨Or.inl h1, h2⟩
        · exact Or.inr (Or.inr (Or.inl ⟨Or.inl h1, h2⟩))
      · rcases (m.edg x y).1 h3 with h3 | h3 | h3
        · rcases h2 with h2 | h2
          · exact Or.inl ⟨Or.inr ⟨h1, h3⟩, h2⟩
          · exact Or.inr (Or.inr (Or.inl ⟨Or.inr ⟨h1, h3⟩, h2⟩))
        · exact Or.inr (Or.inl h3)
        · exact Or.inr (Or.inr (Or.inr h3))

theorem Way.other (m : More E a b E') (h : Rest E p) (h' : Rest E' p') (hr : p r = r) (h1 : r ≠ p a) (h2 : r ≠ p b) : Way n E p r l ↔ Way n E' p' r l := by
  have hk : ∀ x, p x = r ↔ p' x = r := fun x => by
    constructor
    · intro e
      rw [m.rest h h' (by rw [e]; exact h1) (by rw [e]; exact h2), e]
    · intro e
      have er : p' r = r := by rw [m.rest h h' (by rw [hr]; exact h1) (by rw [hr]; exact h2), hr]
      rcases (m.same h h' x r).1 (by rw [e, er]) with e | ⟨_, e⟩ | ⟨_, e⟩
      · rw [e, hr]
      · rw [hr] at e; exact absurd e.symm h2
      · rw [hr] at e; exact absurd e.symm h1
  have hm : ∀ x y, (Mv n E x y ∧ p x = r) ↔ (Mv n E' x y ∧ p' x = r) := fun x y => by
    constructor
    · rintro ⟨h3, h4⟩
      exact ⟨h3.elim Or.inl fun e => Or.inr ⟨e.1, (m.edg x y).2 (Or.inl e.2)⟩, (hk x).1 h4⟩
    · rintro ⟨h3, h4⟩
      have h5 := (hk x).2 h4
      refine ⟨h3.elim Or.inl fun e => Or.inr ⟨e.1, ?_⟩, h5⟩
      rcases (m.edg x y).1 e.2 with e | ⟨rfl, _⟩ | ⟨rfl, _⟩
      · exact e
      · exact absurd h5.symm h1
      · exact absurd h5.symm h2
  exact ⟨fun w => ⟨w.nodup, w.goes, fun x y => (w.mem x y).trans (hm x y)⟩, fun w => ⟨w.nodup, w.goes, fun x y => (w.mem x y).trans (hm x y).symm⟩⟩

theorem Way.cut (m : More E a b E') (h : Rest E p) (h' : Rest E' p') (w : Way n E' p' (p' a) (P ++ (a, b) :: (M ++ (b, a) :: Q))) :
    Way n E p (p b) M ∧ Way n E p (p a) (P ++ Q) := by
  have hne := m.ne
  have nd := w.nodup
  rw [List.nodup_append, List.nodup_cons, List.nodup_append, List.nodup_cons] at nd
  obtain ⟨nP, ⟨nab, nM, ⟨nba, nQ⟩, dM⟩, dP⟩ := nd
  have aM : (a, b) ∉ M := fun e => nab (List.mem_append_left _ e)
  have aQ : (a, b) ∉ Q := fun e => nab (List.mem_append_right _ (List.mem_cons_of_mem _ e))
  have aP : (a, b) ∉ P := fun e => dP _ e _ (List.mem_cons_self ..) rfl
  have bM : (b, a) ∉ M := fun e => dM _ e _ (List.mem_cons_self ..) rfl
  have bP : (b, a) ∉ P := fun e => dP _ e _ (List.mem_cons_of_mem _ (List.mem_append_right _ (List.mem_cons_self ..))) rfl
  obtain ⟨c, hg⟩ := w.goes
  obtain ⟨c1, gP, e1, hg⟩ := goes_append.1 hg
  have e1' : a = c1 := Eq.symm e1
  subst e1'
  obtain ⟨c2, gM, e2, gQ⟩ := goes_append.1 hg
  have e2' : b = c2 := Eq.symm e2
  subst e2'
  have gM : Goes b M b := gM
  have gQ : Goes a Q c := gQ
  have mv : ∀ x y, Mv n E' x y → (x, y) ≠ (a, b) → (x, y) ≠ (b, a) → Mv n E x y := fun x y hv n1 n2 => by
    rcases hv with hv | ⟨hv, he⟩
    · exact Or.inl hv
    · rcases (m.edg x y).1 he with he | ⟨rfl, rfl⟩ | ⟨rfl, rfl⟩
      · exact Or.inr ⟨hv, he⟩
      · exact absurd rfl n1
      · exact absurd rfl n2
  have inM : ∀ x y, (x, y) ∈ M → Mv n E x y := fun x y hm => mv x y ((w.mem x y).1 (by simp [hm])).1 (fun e => aM (e ▸ hm)) (fun e => bM (e ▸ hm))
  have inP : ∀ x y, (x, y) ∈ P → Mv n E x y := fun x y hm => mv x y ((w.mem x y).1 (by simp [hm])).1 (fun e => aP (e ▸ hm)) (fun e => bP (e ▸ hm))
  have inQ : ∀ x y, (x, y) ∈ Q → Mv n E x y := fun x y hm => mv x y ((w.mem x y).1 (by simp [hm])).1 (fun e => aQ (e ▸ hm)) (fun e => nba (e ▸ hm))
  have cM := goes_conn gM (fun x y hm => (inM x y hm).conn)
  have cP := goes_conn gP (fun x y hm => (inP x y hm).conn)
  have cQ := goes_conn gQ (fun x y hm => (inQ x y hm).conn)
  have q := conn_eqv E
  have pM : ∀ x y, (x, y) ∈ M → p x = p b := fun x y hm => (h.same x b).2 (q.symm (cM.2 x y hm))
  have pP : ∀ x y, (x, y) ∈ P → p x = p a := fun x y hm => (h.same x a).2 (q.trans (q.symm (cP.2 x y hm)) cP.1)
  have pQ : ∀ x y, (x, y) ∈ Q → p x = p a := fun x y hm => (h.same x a).2 (q.symm (cQ.2 x y hm))
  have hap := m.apart h
  have all : ∀ x y, Mv n E x y → (p x = p a ∨ p x = p b) → (x, y) ∈ P ∨ (x, y) ∈ M ∨ (x, y) ∈ Q := fun x y hv hx => by
    have hm : (x, y) ∈ P ++ (a, b) :: (M ++ (b, a) :: Q) := (w.mem x y).2 ⟨hv.elim Or.inl fun e => Or.inr ⟨e.1, (m.edg x y).2 (Or.inl e.2)⟩, (m.joined h h' x).2 hx⟩
    simp only [List.mem_append, List.mem_cons, Prod.mk.injEq] at hm
    rcases hm with hm | ⟨rfl, rfl⟩ | hm | ⟨rfl, rfl⟩ | hm
    · exact Or.inl hm
    · exact absurd hv.conn m.out
    · exact Or.inr (Or.inl hm)
    · exact absurd (q.symm hv.conn) m.out
    · exact Or.inr (Or.inr hm)
  refine ⟨⟨nM, ⟨b, gM⟩, fun x y => ⟨fun hm => ⟨inM x y hm, pM x y hm⟩, fun ⟨hv, hx⟩ => ?_⟩⟩, ⟨?_, ⟨c, goes_append.2 ⟨a, gP, gQ⟩⟩, fun x y => ⟨fun hm => ?_, fun ⟨hv, hx⟩ => ?_⟩⟩⟩
  · rcases all x y hv (Or.inr hx) with hm | hm | hm
    · exact absurd ((pP x y hm).symm.trans hx) hap
    · exact hm
    · exact absurd ((pQ x y hm).symm.trans hx) hap
  · rw [List.nodup_append]
    exact ⟨nP, nQ, fun x hx y hy => dP x hx y (List.mem_cons_of_mem _ (List.mem_append_right _ (List.mem_cons_of_mem _ hy)))⟩
  · rcases List.mem_append.1 hm with hm | hm
    · exact ⟨inP x y hm, pP x y hm⟩
    · exact ⟨inQ x y hm, pQ x y hm⟩
  · rcases all x y hv (Or.inl hx) with hm | hm | hm
    · exact List.mem_append_left _ hm
    · exact absurd (hx.symm.trans (pM x y hm)) hap
    · exact List.mem_append_right _ hm

end

end Go.Proofs.YtcfemppdeidjmacGreat

namespace Go.Proofs.YtcfemppdeidjmacGreat

def code (n : Nat) (m : Nat × Nat) : Int := if m.1 = m.2 then (m.1 : Int) else (((m.1 + 1) * n + m.2 : Nat) : Int)

theorem code_self (n a : Nat) : code n (a, a) = a := by simp [code]
theorem code_step {n a b : Nat} (h : a ≠ b) : code n (a, b) = (((a + 1) * n + b : Nat) : Int) := by simp [code, h]

theorem code_ge {n a b : Nat} (h : a ≠ b) : (n : Int) ≤ code n (a, b) := by
  rw [code_step h]
  have : n ≤ (a + 1) * n := Nat.le_mul_of_pos_left n (by omega)
  omega

theorem code_lt {n a b : Nat} (ha : a < n) : code n (a, b) < n ↔ a = b := by
  constructor
  · intro h
    rcases Nat.decEq a b with h1 | h1
    · have := code_ge (n := n) h1; omega
    · exact h1
  · intro h; subst h; rw [code_self]; omega

theorem code_inj {n a b c d : Nat} (ha : a < n) (hb : b < n) (hc : c < n) (hd : d < n) (h : code n (a, b) = code n (c, d)) : (a, b) = (c, d) := by
  rcases Nat.decEq a b with h1 | h1
  · rcases Nat.decEq c d with h2 | h2
    · rw [code_step h1, code_step h2] at h
      have h : (a + 1) * n + b = (c + 1) * n + d := by omega
      have e1 : ((a + 1) * n + b) / n = a + 1 := by rw [Nat.mul_comm, Nat.mul_add_div (by omega), Nat.div_eq_of_lt hb]
      have e2 : ((c + 1) * n + d) / n = c + 1 := by rw [Nat.mul_comm, Nat.mul_add_div (by omega), Nat.div_eq_of_lt hd]
      rw [h, e2] at e1
      have e3 : a = c := by omega
      subst e3
      have : b = d := by omega
      rw [this]
    · subst h2
      have := code_ge (n := n) h1
      rw [h, code_self] at this
      omega
  · subst h1
    rcases Nat.decEq c d with h2 | h2
    · have := code_ge (n := n) h2
      rw [← h, code_self] at this
      omega
    · subst h2
      rw [code_self, code_self] at h
      have : a = c := by omega
      rw [this]

theorem nodup_map_on {α β : Type} {f : α → β} : ∀ {l : List α}, (∀ x ∈ l, ∀ y ∈ l, f x = f y → x = y) → l.Nodup → (l.map f).Nodup
  | [], _, _ => by simp
  | a :: l, h, hn => by
    rw [List.nodup_cons] at hn
    rw [List.map_cons, List.nodup_cons]
    refine ⟨fun hm => ?_, nodup_map_on (fun x hx y hy => h x (List.mem_cons_of_mem _ hx) y (List.mem_cons_of_mem _ hy)) hn.2⟩
    obtain ⟨y, hy, e⟩ := List.mem_map.1 hm
    exact hn.1 (h y (List.mem_cons_of_mem _ hy) a (List.mem_cons_self ..) e ▸ hy)

theorem nodup_filter {α : Type} (f : α → Bool) {l : List α} (h : l.Nodup) : (l.filter f).Nodup := List.Pairwise.filter f h

def nodesOf (n : Nat) (p : Nat → Nat) (r : Nat) : List Nat := (List.range n).filter fun x => decide (p x = r)

theorem mem_nodesOf {n : Nat} {p : Nat → Nat} {r x : Nat} : x ∈ nodesOf n p r ↔ x < n ∧ p x = r := by simp [nodesOf]
theorem nodesOf_nodup (n : Nat) (p : Nat → Nat) (r : Nat) : (nodesOf n p r).Nodup := nodup_filter _ List.nodup_range
theorem nodesOf_rising (n : Nat) (p : Nat → Nat) (r : Nat) : (nodesOf n p r).Pairwise (· < ·) := List.Pairwise.filter _ List.pairwise_lt_range
theorem nodesOf_len (n : Nat) (p : Nat → Nat) (r : Nat) : (nodesOf n p r).length = cnt n fun x => decide (p x = r) := List.countP_eq_length_filter.symm

variable {n : Nat} {E : List (Nat × Nat)} {p : Nat → Nat} {r : Nat} {l : List (Nat × Nat)}

theorem Way.lt (w : Way n E p r l) (ha : Among n E) {x y : Nat} (h : (x, y) ∈ l) : x < n ∧ y < n := ((w.mem x y).1 h).1.lt ha

theorem Way.codes (w : Way n E p r l) (ha : Among n E) : (l.map (code n)).Nodup :=
  nodup_map_on (fun ⟨_, _⟩ hx ⟨_, _⟩ hy e => code_inj (w.lt ha hx).1 (w.lt ha hx).2 (w.lt ha hy).1 (w.lt ha hy).2 e) w.nodup

theorem Way.nodes (w : Way n E p r l) (ha : Among n E) : ((l.map (code n)).filter fun z : Int => decide (z < n)).Perm ((nodesOf n p r).map Int.ofNat) := by
  rw [List.perm_ext_iff_of_nodup (nodup_filter _ (w.codes ha)) (nodup_map_on (fun x _ y _ e => by have : (x : Int) = (y : Int) := e; omega) (nodesOf_nodup n p r))]
  intro z
  simp only [List.mem_filter, List.mem_map, decide_eq_true_eq, mem_nodesOf]
  constructor
  · rintro ⟨⟨⟨x, y⟩, hm, rfl⟩, hz⟩
    have hx := w.lt ha hm
    obtain rfl := (code_lt hx.1).1 hz
    exact ⟨x, ⟨hx.1, ((w.mem x x).1 hm).2⟩, by rw [code_self]; rfl⟩
  · rintro ⟨x, ⟨h1, h2⟩, rfl⟩
    exact ⟨⟨(x, x), (w.mem x x).2 ⟨Or.inl ⟨rfl, h1⟩, h2⟩, by rw [code_self]; rfl⟩, by simp; omega⟩

theorem Way.sorted (w : Way n E p r l) (ha : Among n E) : ((l.map (code n)).filter fun z : Int => decide (z < n)).mergeSort (fun x y => decide (x ≤ y)) = (nodesOf n p r).map Int.ofNat := by
  have h1 := List.pairwise_mergeSort (le := fun x y : Int => decide (x ≤ y)) (fun a b c h1 h2 => by simp at *; omega) (fun a b => by simp; omega) ((l.map (code n)).filter fun z : Int => decide (z < n))
  refine List.Perm.eq_of_pairwise (le := fun a b : Int => decide (a ≤ b) = true) (fun a b _ _ h1 h2 => by simp at *; omega) h1 ?_ ((List.mergeSort_perm _ _).trans (w.nodes ha))
  rw [List.pairwise_map]
  exact (nodesOf_rising n p r).imp fun h => by simp; omega

theorem forest_nodup : ∀ {E : List (Nat × Nat)}, Forest E → E.Nodup
  | [], _ => by simp
  | (a, b) :: E, ⟨h1, h2⟩ => List.nodup_cons.2 ⟨fun h => h1 (conn_edge h), forest_nodup h2⟩

theorem forest_filter (f : Nat × Nat → Bool) : ∀ {E : List (Nat × Nat)}, Forest E → Forest (E.filter f)
  | [], _ => trivial
  | (a, b) :: E, ⟨h1, h2⟩ => by
    rw [List.filter_cons]
    split
    · exact ⟨fun hc => h1 (conn_mono (fun e he => (List.mem_filter.1 he).1) hc), forest_filter f h2⟩
    · exact forest_filter f h2

theorem tree_edges (ha : Among n E) (hf : Forest E) (h : Rest E p) (hr : r < n) (hrr : p r = r) : (E.filter fun e => decide (p e.1 = r)).length + 1 = (nodesOf n p r).length := by
  have hcn : ∀ x y, Conn E x y → p x = p y ∧ (p x = r → Conn (E.filter fun e => decide (p e.1 = r)) x y) := fun x y hc => by
    have q := conn_eqv (E.filter fun e => decide (p e.1 = r))
    refine hc (fun x y => p x = p y ∧ (p x = r → Conn (E.filter fun e => decide (p e.1 = r)) x y)) ⟨⟨fun i => ⟨rfl, fun _ => q.refl i⟩, fun h => ⟨h.1.symm, fun e => q.symm (h.2 (h.1.trans e))⟩, fun h1 h2 => ⟨h1.1.trans h2.1, fun e => q.trans (h1.2 e) (h2.2 (h1.1.symm.trans e))⟩⟩, fun e he => ⟨h.edge e he, fun e1 => ?_⟩⟩
    exact (conn_over _).2 e (List.mem_filter.2 ⟨he, by simpa using e1⟩)
  have hq : Rest (E.filter fun e => decide (p e.1 = r)) fun x => if p x = r then r else x := by
    refine ⟨⟨fun i => ?_, fun i => ?_⟩, fun e he => ?_⟩
    · by_cases c : p i = r
      · rw [if_pos c]; have := h.le i; omega
      · rw [if_neg c]; exact Nat.le_refl _
    · by_cases c : p i = r
      · rw [if_pos c]; exact (hcn i r (by have := h.conn i; rwa [c] at this)).2 c
      · rw [if_neg c]; exact (conn_eqv _).refl i
    · obtain ⟨h1, h2⟩ := List.mem_filter.1 he
      have h2 : p e.1 = r := by simpa using h2
      have h3 : p e.2 = r := (h.edge e h1).symm.trans h2
      rw [if_pos h2, if_pos h3]
  have hp := (forest_parts (n := n) (fun e he => ha e (List.mem_filter.1 he).1) hq).2.1 (forest_filter _ hf)
  have c1 : partsOf n (fun x => if p x = r then r else x) = cnt n (fun x => decide (p x ≠ r)) + cnt n (fun x => decide (x = r)) := by
    unfold partsOf
    refine cnt_or n (fun i _ => ?_) (fun i _ => ?_)
    · by_cases c : p i = r
      · simp [c, eq_comm]
      · simp [c]
    · by_cases c : i = r
      · simp [c, hrr]
      · simp [c]
  have c2 : cnt n (fun x => decide (x = x)) = cnt n (fun x => decide (p x ≠ r)) + cnt n (fun x => decide (p x = r)) := by
    refine cnt_or n (fun i _ => ?_) (fun i _ => ?_)
    · by_cases c : p i = r <;> simp [c]
    · by_cases c : p i = r <;> simp [c]
  rw [cnt_id] at c2
  rw [cnt_one, if_pos hr] at c1
  rw [nodesOf_len]
  omega

theorem Way.len (w : Way n E p r l) (ha : Among n E) (hf : Forest E) (h : Rest E p) (hr : r < n) (hrr : p r = r) : l.length + 2 = 3 * (nodesOf n p r).length := by
  have hne : ∀ x y, (x, y) ∈ E → x ≠ y := fun x y he e => by
    obtain ⟨A, B, rfl⟩ := List.append_of_mem he
    exact (hf.out ha).2 (e ▸ (conn_eqv _).refl x)
  have two : ∀ x y, (x, y) ∈ E → (y, x) ∉ E := fun x y he hi => by
    obtain ⟨A, B, rfl⟩ := List.append_of_mem he
    refine (hf.out ha).2 ((conn_eqv _).symm (conn_edge ?_))
    simp only [List.mem_append, List.mem_cons, Prod.mk.injEq] at hi ⊢
    rcases hi with hi | ⟨e, _⟩ | hi
    · exact Or.inl hi
    · exact absurd e.symm (hne x y he)
    · exact Or.inr hi
  have hp : l.Perm ((nodesOf n p r).map (fun x => (x, x)) ++ ((E.filter fun e => decide (p e.1 = r)) ++ (E.filter fun e => decide (p e.1 = r)).map fun e => (e.2, e.1))) := by
    have n1 : ((nodesOf n p r).map (fun x => (x, x))).Nodup := nodup_map_on (fun x _ y _ e => by simpa using e) (nodesOf_nodup n p r)
    have n2 : (E.filter fun e => decide (p e.1 = r)).Nodup := nodup_filter _ (forest_nodup hf)
    have n3 : ((E.filter fun e => decide (p e.1 = r)).map fun e => (e.2, e.1)).Nodup := nodup_map_on (fun ⟨_, _⟩ _ ⟨_, _⟩ _ e => by simp at e ⊢; exact ⟨e.2, e.1⟩) n2
    have nn : ((nodesOf n p r).map (fun x => (x, x)) ++ ((E.filter fun e => decide (p e.1 = r)) ++ (E.filter fun e => decide (p e.1 = r)).map fun e => (e.2, e.1))).Nodup := by
      rw [List.nodup_append]
      refine ⟨n1, ?_, ?_⟩
      · rw [List.nodup_append]
        refine ⟨n2, n3, ?_⟩
        rintro ⟨x, y⟩ hx z hz rfl
        obtain ⟨⟨u, v⟩, hu, e⟩ := List.mem_map.1 hz
        simp only [Prod.mk.injEq] at e
        obtain ⟨rfl, rfl⟩ := e
        exact two _ _ (List.mem_filter.1 hx).1 (List.mem_filter.1 hu).1
      · rintro ⟨x, y⟩ hx z hz rfl
        obtain ⟨u, _, e⟩ := List.mem_map.1 hx
        simp only [Prod.mk.injEq] at e
        obtain ⟨rfl, rfl⟩ := e
        rcases List.mem_append.1 hz with hz | hz
        · exact hne _ _ (List.mem_filter.1 hz).1 rfl
        · obtain ⟨⟨a, b⟩, hu, e⟩ := List.mem_map.1 hz
          simp only [Prod.mk.injEq] at e
          obtain ⟨rfl, rfl⟩ := e
          exact hne _ _ (List.mem_filter.1 hu).1 rfl
    rw [List.perm_ext_iff_of_nodup w.nodup nn]
    rintro ⟨x, y⟩
    rw [w.mem]
    simp only [List.mem_append, List.mem_map, List.mem_filter, mem_nodesOf, decide_eq_true_eq, Prod.mk.injEq]
    constructor
    · rintro ⟨⟨rfl, h1⟩ | ⟨h1, h2 | h2⟩, h3⟩
      · exact Or.inl ⟨x, ⟨h1, h3⟩, rfl, rfl⟩
      · exact Or.inr (Or.inl ⟨h2, h3⟩)
      · exact Or.inr (Or.inr ⟨(y, x), ⟨h2, by rw [h.edge _ h2]; exact h3⟩, rfl, rfl⟩)
    · rintro (⟨u, ⟨h1, h2⟩, rfl, rfl⟩ | ⟨h1, h2⟩ | ⟨⟨u, v⟩, ⟨h1, h2⟩, rfl, rfl⟩)
      · exact ⟨Or.inl ⟨rfl, h1⟩, h2⟩
      · exact ⟨Or.inr ⟨hne _ _ h1, Or.inl h1⟩, h2⟩
      · exact ⟨Or.inr ⟨(hne _ _ h1).symm, Or.inr h1⟩, (h.edge _ h1).symm.trans h2⟩
  have hl := hp.length_eq
  simp only [List.length_append, List.length_map] at hl
  have := tree_edges ha hf h hr hrr
  omega

end Go.Proofs.YtcfemppdeidjmacGreat

namespace Go.Proofs.YtcfemppdeidjmacGreat
set_option linter.unusedVariables false

def Few (n : Nat) (E : List (Nat × Nat)) (a k : Nat) : Prop := ∀ X : List Nat, X.Nodup → (∀ i ∈ X, i < n ∧ Conn E i a) → X.length ≤ k

theorem Few.mono {n a k k' : Nat} {E E' : List (Nat × Nat)} (h : Few n E' a k) (hE : ∀ i, Conn E i a → Conn E' i a) (hk : k ≤ k') : Few n E a k' := fun X hX hm =>
  Nat.le_trans (h X hX fun i hi => ⟨(hm i hi).1, hE i (hm i hi).2⟩) hk

theorem Few.move {n a b k : Nat} {E : List (Nat × Nat)} (h : Few n E a k) (hc : Conn E b a) : Few n E b k := fun X hX hm =>
  h X hX fun i hi => ⟨(hm i hi).1, (conn_eqv E).trans (hm i hi).2 hc⟩

theorem few_all (n : Nat) (E : List (Nat × Nat)) (a : Nat) : Few n E a n := fun X hX hm => by
  have := hX.length_le_of_subset (l₂ := List.range n) (fun x hx => List.mem_range.2 (hm x hx).1)
  simpa using this

theorem few_of {n a k : Nat} {E : List (Nat × Nat)} {Y : List Nat} (hY : ∀ i, i < n → Conn E i a → i ∈ Y) (hl : Y.length ≤ k) : Few n E a k := fun X hX hm =>
  Nat.le_trans (hX.length_le_of_subset fun x hx => hY x (hm x hx).1 (hm x hx).2) hl

theorem few_half {n a b K : Nat} {E : List (Nat × Nat)} {X Y : List Nat} (h : Few n ((a, b) :: E) a K) (hab : ¬ Conn E a b) (hX : X.Nodup) (hXm : ∀ i ∈ X, i < n ∧ Conn E i a) (hY : Y.Nodup) (hYm : ∀ i ∈ Y, i < n ∧ Conn E i b) : X.length + Y.length ≤ K := by
  have hd : (X ++ Y).Nodup := List.nodup_append.2 ⟨hX, hY, fun x hx y hy e => by
    subst e
    exact hab ((conn_eqv E).trans ((conn_eqv E).symm (hXm x hx).2) (hYm x hy).2)⟩
  have := h (X ++ Y) hd fun i hi => by
    rcases List.mem_append.1 hi with hi | hi
    · exact ⟨(hXm i hi).1, conn_cons.2 (Or.inl (hXm i hi).2)⟩
    · exact ⟨(hYm i hi).1, conn_cons.2 (Or.inr (Or.inr ⟨(hYm i hi).2, (conn_eqv E).refl a⟩))⟩
  rwa [List.length_append] at this

theorem half_pow (n v : Nat) : n / 2 ^ (v + 1) = n / 2 ^ v / 2 := by rw [Nat.pow_succ, Nat.div_div_eq_div_mul]

def Fo (A : List (Nat × Nat)) (lv : Nat × Nat → Nat) (tr : Nat × Nat → Bool) (v : Nat) : List (Nat × Nat) := A.filter fun e => tr e && decide (v ≤ lv e)

variable {n l v : Nat} {A : List (Nat × Nat)} {lv lv' : Nat × Nat → Nat} {tr tr' : Nat × Nat → Bool} {a b : Nat} {f : Nat × Nat}

theorem mem_Fo {e : Nat × Nat} : e ∈ Fo A lv tr v ↔ e ∈ A ∧ tr e = true ∧ v ≤ lv e := by
  unfold Fo
  simp only [List.mem_filter, Bool.and_eq_true, decide_eq_true_eq]

theorem Fo.down {u : Nat} (h : u ≤ v) {i j : Nat} (hc : Conn (Fo A lv tr v) i j) : Conn (Fo A lv tr u) i j :=
  conn_mono (fun e he => by obtain ⟨h1, h2, h3⟩ := mem_Fo.1 he; exact mem_Fo.2 ⟨h1, h2, by omega⟩) hc

theorem few_ext {E E' : List (Nat × Nat)} {k : Nat} (h : Few n E a k) (he : ∀ e, e ∈ E' → e ∈ E) : Few n E' a k := h.mono (fun i hc => conn_mono (fun e h1 => he e h1) hc) (Nat.le_refl _)

theorem conn_some {E : List (Nat × Nat)} {i j : Nat} (h : Conn E i j) (hne : i ≠ j) : ∃ e ∈ E, Conn E e.1 j := by
  have := h (fun i j => i = j ∨ ((∃ e ∈ E, Conn E e.1 i) ∧ ∃ e ∈ E, Conn E e.1 j)) ⟨⟨fun _ => Or.inl rfl, ?_, ?_⟩, fun e he => Or.inr ⟨⟨e, he, (conn_eqv E).refl _⟩, ⟨e, he, conn_edge he⟩⟩⟩
  · rcases this with h1 | h1
    · exact absurd h1 hne
    · exact h1.2
  · rintro i j (h1 | h1)
    · exact Or.inl h1.symm
    · exact Or.inr ⟨h1.2, h1.1⟩
  · rintro i j k (rfl | h1) h2
    · exact h2
    · rcases h2 with rfl | h2
      · exact Or.inr h1
      · exact Or.inr ⟨h1.1, h2.2⟩

structure Levels (n : Nat) (A : List (Nat × Nat)) (lv : Nat × Nat → Nat) (tr : Nat × Nat → Bool) : Prop where
  among : Among n A
  forest : Forest (Fo A lv tr 0)
  few : ∀ v, ∀ e ∈ Fo A lv tr v, Few n (Fo A lv tr v) e.1 (n / 2 ^ v)
  joins : ∀ e ∈ A, Conn (Fo A lv tr (lv e)) e.1 e.2

theorem Levels.tree (h : Levels n A lv tr) (i j : Nat) : Conn (Fo A lv tr 0) i j ↔ Conn A i j :=
  ⟨conn_mono fun e he => (mem_Fo.1 he).1, fun hc => hc _ ⟨conn_eqv _, fun e he => Fo.down (Nat.zero_le _) (h.joins e he)⟩⟩

theorem Levels.many (h : Levels n A lv tr) {X : List Nat} (hX : X.Nodup) (hm : ∀ i ∈ X, i < n ∧ Conn (Fo A lv tr v) i a) : X.length ≤ 1 ∨ X.length ≤ n / 2 ^ v := by
  match X, hX, hm with
  | [], _, _ => exact Or.inl (Nat.zero_le _)
  | [x], _, _ => exact Or.inl (Nat.le_refl _)
  | x :: y :: X, hX, hm =>
    right
    have hne : x ≠ y := fun e => by subst e; simp at hX
    have hc : Conn (Fo A lv tr v) x y := (conn_eqv _).trans (hm x (by simp)).2 ((conn_eqv _).symm (hm y (by simp)).2)
    obtain ⟨e, he, hey⟩ := conn_some hc hne
    exact ((h.few v e he).move ((conn_eqv _).trans ((conn_eqv _).symm (hm y (by simp)).2) ((conn_eqv _).symm hey))) _ hX hm

theorem Levels.level (h : Levels n A lv tr) {e : Nat × Nat} (he : e ∈ A) (hne : e.1 ≠ e.2) : 2 ≤ n / 2 ^ lv e := by
  have ha := h.among e he
  rcases h.many (v := lv e) (a := e.2) (X := [e.1, e.2]) (by simp [hne]) (fun i hi => by
    simp only [List.mem_cons, List.not_mem_nil, or_false] at hi
    rcases hi with rfl | rfl
    · exact ⟨ha.1, h.joins e he⟩
    · exact ⟨ha.2, (conn_eqv _).refl _⟩) with q | q
  · simp at q
  · simpa using q

theorem levels_none (n : Nat) (lv : Nat × Nat → Nat) (tr : Nat × Nat → Bool) : Levels n [] lv tr :=
  ⟨fun e he => absurd he (by simp), trivial, fun v e he => absurd he (by simp [Fo]), fun e he => absurd he (by simp)⟩

theorem Fo.mem_ext {A' : List (Nat × Nat)} (hA : ∀ e, e ∈ A ↔ e ∈ A') (hl : ∀ e ∈ A, lv e = lv' e ∧ tr e = tr' e) (v : Nat) (e : Nat × Nat) : e ∈ Fo A lv tr v ↔ e ∈ Fo A' lv' tr' v := by
  rw [mem_Fo, mem_Fo]
  constructor
  · rintro ⟨h1, h2, h3⟩
    obtain ⟨q1, q2⟩ := hl e h1
    exact ⟨(hA e).1 h1, by rw [← q2]; exact h2, by rw [← q1]; exact h3⟩
  · rintro ⟨h1, h2, h3⟩
    obtain ⟨q1, q2⟩ := hl e ((hA e).2 h1)
    exact ⟨(hA e).2 h1, by rw [q2]; exact h2, by rw [q1]; exact h3⟩

theorem Levels.perm {A' : List (Nat × Nat)} (h : Levels n A lv tr) (hp : A.Perm A') (hl : ∀ e ∈ A, lv e = lv' e ∧ tr e = tr' e) : Levels n A' lv' tr' := by
  have hm := Fo.mem_ext (fun e => hp.mem_iff) hl
  refine ⟨fun e he => h.among e (hp.mem_iff.2 he), ?_, fun v e he => ?_, fun e he => ?_⟩
  · have e1 : Fo A lv tr 0 = A.filter fun e => tr' e && decide (0 ≤ lv' e) := List.filter_congr fun e he => by rw [(hl e he).1, (hl e he).2]
    have h2 : (Fo A lv tr 0).Perm (Fo A' lv' tr' 0) := by rw [e1]; exact hp.filter _
    exact h.forest.perm (n := n) (fun e he => h.among e (mem_Fo.1 he).1) h2
  · exact few_ext (h.few v e ((hm v e).2 he)) fun e he => (hm v e).2 he
  · have he' := hp.mem_iff.2 he
    rw [← (hl e he').1]
    exact conn_mono (fun x hx => (hm _ x).1 hx) (h.joins e he')

theorem Levels.add_tree (h : Levels n A lv tr) (ha : a < n) (hb : b < n) (hc : ¬ Conn A a b) (h0 : lv (a, b) = 0) (ht : tr (a, b) = true) : Levels n ((a, b) :: A) lv tr := by
  have e0 : Fo ((a, b) :: A) lv tr 0 = (a, b) :: Fo A lv tr 0 := by unfold Fo; rw [List.filter_cons_of_pos (by simp [ht])]
  have ev : ∀ v, 0 < v → Fo ((a, b) :: A) lv tr v = Fo A lv tr v := fun v hv => by unfold Fo; rw [List.filter_cons_of_neg (by simp [h0]; omega)]
  refine ⟨fun e he => ?_, ?_, fun v e he => ?_, fun e he => ?_⟩
  · rcases List.mem_cons.1 he with rfl | he
    · exact ⟨ha, hb⟩
    · exact h.among e he
  · rw [e0]; exact ⟨fun h1 => hc ((h.tree a b).1 h1), h.forest⟩
  · rcases Nat.eq_zero_or_pos v with rfl | hv
    · simpa using few_all n _ _
    · rw [ev v hv] at he ⊢; exact h.few v e he
  · rcases List.mem_cons.1 he with rfl | he
    · rw [h0, e0]; exact conn_edge (List.mem_cons_self ..)
    · exact conn_mono (fun x hx => by obtain ⟨q1, q2, q3⟩ := mem_Fo.1 hx; exact mem_Fo.2 ⟨List.mem_cons_of_mem _ q1, q2, q3⟩) (h.joins e he)

theorem Levels.add_rest (h : Levels n A lv tr) (ha : a < n) (hb : b < n) (hc : Conn A a b) (h0 : lv (a, b) = 0) (ht : tr (a, b) = false) : Levels n ((a, b) :: A) lv tr := by
  have ev : ∀ v, Fo ((a, b) :: A) lv tr v = Fo A lv tr v := fun v => by unfold Fo; rw [List.filter_cons_of_neg (by simp [ht])]
  refine ⟨fun e he => ?_, ?_, fun v e he => ?_, fun e he => ?_⟩
  · rcases List.mem_cons.1 he with rfl | he
    · exact ⟨ha, hb⟩
    · exact h.among e he
  · rw [ev]; exact h.forest
  · rw [ev] at he ⊢; exact h.few v e he
  · rw [ev]
    rcases List.mem_cons.1 he with rfl | he
    · rw [h0]; exact (h.tree a b).2 hc
    · exact h.joins e he

theorem Levels.drop_rest {e : Nat × Nat} (h : Levels n (e :: A) lv tr) (ht : tr e = false) : Levels n A lv tr := by
  have ev : ∀ v, Fo (e :: A) lv tr v = Fo A lv tr v := fun v => by unfold Fo; rw [List.filter_cons_of_neg (by simp [ht])]
  refine ⟨fun x hx => h.among x (List.mem_cons_of_mem _ hx), ?_, fun v x hx => ?_, fun x hx => ?_⟩
  · have := h.forest; rwa [ev] at this
  · have := h.few v x (by rw [ev]; exact hx); rwa [ev] at this
  · have := h.joins x (List.mem_cons_of_mem _ hx); rwa [ev] at this

structure Cut (n : Nat) (A : List (Nat × Nat)) (lv : Nat × Nat → Nat) (tr : Nat × Nat → Bool) (a b l : Nat) : Prop where
  among : Among n A
  ends : a < n ∧ b < n
  forest : Forest (Fo A lv tr 0)
  apart : ¬ Conn (Fo A lv tr 0) a b
  few : ∀ v, ∀ e ∈ Fo A lv tr v, Few n (Fo A lv tr v) e.1 (n / 2 ^ v)
  both : ∀ v, v < l → Few n ((a, b) :: Fo A lv tr v) a (n / 2 ^ v)
  low : ∀ e ∈ A, lv e < l → Conn ((a, b) :: Fo A lv tr (lv e)) e.1 e.2
  high : ∀ e ∈ A, l ≤ lv e → Conn (Fo A lv tr (lv e)) e.1 e.2

theorem Levels.cut (h : Levels n ((a, b) :: A) lv tr) (ht : tr (a, b) = true) : Cut n A lv tr a b (lv (a, b) + 1) := by
  have e0 : ∀ v, v ≤ lv (a, b) → Fo ((a, b) :: A) lv tr v = (a, b) :: Fo A lv tr v := fun v hv => by unfold Fo; rw [List.filter_cons_of_pos (by simp [ht, hv])]
  have ev : ∀ v, lv (a, b) < v → Fo ((a, b) :: A) lv tr v = Fo A lv tr v := fun v hv => by unfold Fo; rw [List.filter_cons_of_neg (by simp [ht]; omega)]
  have hf := h.forest
  rw [e0 0 (Nat.zero_le _)] at hf
  refine ⟨fun e he => h.among e (List.mem_cons_of_mem _ he), h.among (a, b) (List.mem_cons_self ..), hf.2, hf.1, fun v e he => ?_, fun v hv => ?_, fun e he hl => ?_, fun e he hl => ?_⟩
  · rcases Nat.lt_or_ge (lv (a, b)) v with hv | hv
    · have := h.few v e (by rw [ev v hv]; exact he); rwa [ev v hv] at this
    · have := h.few v e (by rw [e0 v hv]; exact List.mem_cons_of_mem _ he)
      rw [e0 v hv] at this
      exact few_ext this fun x hx => List.mem_cons_of_mem _ hx
  · have := h.few v (a, b) (by rw [e0 v (by omega)]; exact List.mem_cons_self ..)
    rwa [e0 v (by omega)] at this
  · have := h.joins e (List.mem_cons_of_mem _ he)
    rwa [e0 _ (by omega)] at this
  · have := h.joins e (List.mem_cons_of_mem _ he)
    rwa [ev _ (by omega)] at this

theorem Cut.done (h : Cut n A lv tr a b 0) : Levels n A lv tr := ⟨h.among, h.forest, h.few, fun e he => h.high e he (Nat.zero_le _)⟩

theorem Cut.down (h : Cut n A lv tr a b (l + 1)) (hn : ∀ e ∈ A, lv e = l → Conn (Fo A lv tr l) e.1 e.2) : Cut n A lv tr a b l :=
  ⟨h.among, h.ends, h.forest, h.apart, h.few, fun v hv => h.both v (by omega), fun e he hl => h.low e he (by omega), fun e he hl => by
    rcases Nat.lt_or_ge l (lv e) with h1 | h1
    · exact h.high e he (by omega)
    · have e1 : lv e = l := by omega
      rw [e1]; exact hn e he e1⟩

theorem Cut.apart_at (h : Cut n A lv tr a b l) (v : Nat) : ¬ Conn (Fo A lv tr v) a b := fun hc => h.apart (Fo.down (Nat.zero_le _) hc)

theorem Cut.half (h : Cut n A lv tr a b (l + 1)) {X Y : List Nat} (hX : X.Nodup) (hXm : ∀ i ∈ X, i < n ∧ Conn (Fo A lv tr l) i a) (hY : Y.Nodup) (hYm : ∀ i ∈ Y, i < n ∧ Conn (Fo A lv tr l) i b) : X.length + Y.length ≤ n / 2 ^ l :=
  few_half (h.both l (by omega)) (h.apart_at l) hX hXm hY hYm

structure Rise (A : List (Nat × Nat)) (lv lv' : Nat × Nat → Nat) (f : Nat × Nat) (l : Nat) : Prop where
  at_ : f ∈ A
  was : lv f = l
  is : lv' f = l + 1
  rest : ∀ e ∈ A, e ≠ f → lv' e = lv e

theorem Rise.mem (h : Rise A lv lv' f l) (e : Nat × Nat) : e ∈ Fo A lv' tr v ↔ e ∈ Fo A lv tr v ∨ (e = f ∧ tr f = true ∧ v = l + 1) := by
  rw [mem_Fo, mem_Fo]
  by_cases he : e = f
  · subst he
    rw [h.is, h.was]
    constructor
    · rintro ⟨h1, h2, h3⟩
      rcases Nat.lt_or_ge l v with h4 | h4
      · exact Or.inr ⟨rfl, h2, by omega⟩
      · exact Or.inl ⟨h1, h2, h4⟩
    · rintro (⟨h1, h2, h3⟩ | ⟨_, h2, h3⟩)
      · exact ⟨h1, h2, by omega⟩
      · exact ⟨h.at_, h2, by omega⟩
  · constructor
    · rintro ⟨h1, h2, h3⟩
      rw [h.rest e h1 he] at h3
      exact Or.inl ⟨h1, h2, h3⟩
    · rintro (⟨h1, h2, h3⟩ | ⟨h1, _⟩)
      · exact ⟨h1, h2, by rw [h.rest e h1 he]; exact h3⟩
      · exact absurd h1 he

theorem Rise.up (h : Rise A lv lv' f l) {i j : Nat} (hc : Conn (Fo A lv tr v) i j) : Conn (Fo A lv' tr v) i j := conn_mono (fun e he => (h.mem e).2 (Or.inl he)) hc

theorem Rise.same (h : Rise A lv lv' f l) (hv : v ≠ l + 1) (e : Nat × Nat) : e ∈ Fo A lv' tr v ↔ e ∈ Fo A lv tr v := by
  rw [h.mem]
  exact ⟨fun h1 => h1.elim id fun h2 => absurd h2.2.2 hv, Or.inl⟩

theorem Cut.raise_tree (h : Cut n A lv tr a b (l + 1)) (r : Rise A lv lv' f l) (ht : tr f = true) (hf : Few n (Fo A lv tr l) f.1 (n / 2 ^ (l + 1))) : Cut n A lv' tr a b (l + 1) := by
  have e0 : Fo A lv' tr 0 = Fo A lv tr 0 := by unfold Fo; exact List.filter_congr fun e _ => by simp
  have hfl : f ∈ Fo A lv tr l := mem_Fo.2 ⟨r.at_, ht, by rw [r.was]; exact Nat.le_refl _⟩
  have sub : ∀ e, e ∈ Fo A lv' tr (l + 1) → e ∈ Fo A lv tr l := fun e he => by
    rcases (r.mem e).1 he with h1 | ⟨rfl, _⟩
    · obtain ⟨q1, q2, q3⟩ := mem_Fo.1 h1; exact mem_Fo.2 ⟨q1, q2, by omega⟩
    · exact hfl
  refine ⟨h.among, h.ends, by rw [e0]; exact h.forest, by rw [e0]; exact h.apart, fun v e he => ?_, fun v hv => ?_, fun e he hl => ?_, fun e he hl => ?_⟩
  · by_cases hv : v = l + 1
    · subst hv
      rcases Classical.em (Conn (Fo A lv tr l) e.1 f.1) with hc | hc
      · exact (hf.move hc).mono (fun i hi => conn_mono sub hi) (Nat.le_refl _)
      · have he' : e ∈ Fo A lv tr (l + 1) := by
          rcases (r.mem e).1 he with h1 | ⟨rfl, _⟩
          · exact h1
          · exact absurd ((conn_eqv _).refl _) hc
        refine (h.few (l + 1) e he').mono (fun i hi => ?_) (Nat.le_refl _)
        have h1 : Conn (f :: Fo A lv tr (l + 1)) i e.1 := conn_mono (fun x hx => by
          rcases (r.mem x).1 hx with h2 | ⟨rfl, _⟩
          · exact List.mem_cons_of_mem _ h2
          · exact List.mem_cons_self ..) hi
        have ef : f = (f.1, f.2) := rfl
        rw [ef] at h1
        rcases conn_cons.1 h1 with h2 | ⟨_, h2⟩ | ⟨_, h2⟩
        · exact h2
        · exact absurd ((conn_eqv _).symm ((conn_eqv _).trans (conn_edge hfl) (Fo.down (by omega) h2))) hc
        · exact absurd ((conn_eqv _).symm (Fo.down (by omega) h2)) hc
    · have := h.few v e ((r.same hv e).1 he)
      exact few_ext this fun x hx => (r.same hv x).1 hx
  · exact few_ext (h.both v hv) fun x hx => by
      rcases List.mem_cons.1 hx with rfl | hx
      · exact List.mem_cons_self ..
      · exact List.mem_cons_of_mem _ ((r.same (by omega) x).1 hx)
  · by_cases hef : e = f
    · subst hef; rw [r.is] at hl; omega
    · rw [r.rest e he hef] at hl ⊢
      exact conn_mono (fun x hx => by
        rcases List.mem_cons.1 hx with rfl | hx
        · exact List.mem_cons_self ..
        · exact List.mem_cons_of_mem _ ((r.mem x).2 (Or.inl hx))) (h.low e he hl)
  · by_cases hef : e = f
    · subst hef; rw [r.is]; exact conn_edge ((r.mem e).2 (Or.inr ⟨rfl, ht, rfl⟩))
    · rw [r.rest e he hef] at hl ⊢
      exact r.up (h.high e he hl)

theorem Cut.raise_rest (h : Cut n A lv tr a b (l + 1)) (r : Rise A lv lv' f l) (ht : tr f = false) (hc : Conn (Fo A lv tr (l + 1)) f.1 f.2) : Cut n A lv' tr a b (l + 1) := by
  have sm : ∀ v e, e ∈ Fo A lv' tr v ↔ e ∈ Fo A lv tr v := fun v e => by
    rw [r.mem]
    exact ⟨fun h1 => h1.elim id fun h2 => by rw [ht] at h2; exact absurd h2.2.1 (by simp), Or.inl⟩
  have e0 : Fo A lv' tr 0 = Fo A lv tr 0 := by unfold Fo; exact List.filter_congr fun e _ => by simp
  refine ⟨h.among, h.ends, by rw [e0]; exact h.forest, by rw [e0]; exact h.apart, fun v e he => ?_, fun v hv => ?_, fun e he hl => ?_, fun e he hl => ?_⟩
  · exact few_ext (h.few v e ((sm v e).1 he)) fun x hx => (sm v x).1 hx
  · exact few_ext (h.both v hv) fun x hx => by
      rcases List.mem_cons.1 hx with rfl | hx
      · exact List.mem_cons_self ..
      · exact List.mem_cons_of_mem _ ((sm v x).1 hx)
  · by_cases hef : e = f
    · subst hef; rw [r.is] at hl; omega
    · rw [r.rest e he hef] at hl ⊢
      exact conn_mono (fun x hx => by
        rcases List.mem_cons.1 hx with rfl | hx
        · exact List.mem_cons_self ..
        · exact List.mem_cons_of_mem _ ((sm _ x).2 hx)) (h.low e he hl)
  · by_cases hef : e = f
    · subst hef; rw [r.is]; exact r.up hc
    · rw [r.rest e he hef] at hl ⊢
      exact r.up (h.high e he hl)

theorem Cut.replace (h : Cut n A lv tr a b (l + 1)) (hA : A.Nodup) (hfA : f ∈ A) (hl : lv f = l) (hf : tr f = false) (hc : ¬ Conn (Fo A lv tr l) f.1 f.2) (h1 : tr' f = true) (h2 : ∀ e ∈ A, e ≠ f → tr' e = tr e) : Levels n A lv tr' := by
  have mem : ∀ v e, e ∈ Fo A lv tr' v ↔ e ∈ Fo A lv tr v ∨ (e = f ∧ v ≤ l) := fun v e => by
    rw [mem_Fo, mem_Fo]
    by_cases he : e = f
    · subst he
      rw [h1, hf, hl]
      constructor
      · exact fun q => Or.inr ⟨rfl, q.2.2⟩
      · rintro (⟨_, q, _⟩ | ⟨_, q⟩)
        · cases q
        · exact ⟨hfA, rfl, q⟩
    · constructor
      · rintro ⟨q1, q2, q3⟩
        rw [h2 e q1 he] at q2
        exact Or.inl ⟨q1, q2, q3⟩
      · rintro (⟨q1, q2, q3⟩ | ⟨q, _⟩)
        · exact ⟨q1, by rw [h2 e q1 he]; exact q2, q3⟩
        · exact absurd q he
  have hj := h.low f hfA (by omega)
  rw [hl] at hj
  have cross : (Conn (Fo A lv tr l) f.1 a ∧ Conn (Fo A lv tr l) b f.2) ∨ (Conn (Fo A lv tr l) f.1 b ∧ Conn (Fo A lv tr l) a f.2) := by
    rcases conn_cons.1 hj with q | q | q
    · exact absurd q hc
    · exact Or.inl q
    · exact Or.inr q
  have fab : ∀ u, u ≤ l → Conn (Fo A lv tr' u) a b := fun u hu => by
    have up : ∀ {i j}, Conn (Fo A lv tr l) i j → Conn (Fo A lv tr' u) i j := fun {i j} q => conn_mono (fun x hx => (mem u x).2 (Or.inl hx)) (Fo.down hu q)
    have fe : Conn (Fo A lv tr' u) f.1 f.2 := conn_edge ((mem u f).2 (Or.inr ⟨rfl, hu⟩))
    have q := conn_eqv (Fo A lv tr' u)
    rcases cross with ⟨q1, q2⟩ | ⟨q1, q2⟩
    · exact q.trans (q.symm (up q1)) (q.trans fe (q.symm (up q2)))
    · exact q.trans (up q2) (q.trans (q.symm fe) (up q1))
  have abf : ∀ u, u ≤ l → Conn ((a, b) :: Fo A lv tr u) f.1 f.2 := fun u hu => conn_mono (fun x hx => by
    rcases List.mem_cons.1 hx with rfl | hx
    · exact List.mem_cons_self ..
    · obtain ⟨q1, q2, q3⟩ := mem_Fo.1 hx; exact List.mem_cons_of_mem _ (mem_Fo.2 ⟨q1, q2, by omega⟩)) hj
  have swap : ∀ u, u ≤ l → ∀ {i j}, Conn (Fo A lv tr' u) i j → Conn ((a, b) :: Fo A lv tr u) i j := fun u hu {i j} q => q _ ⟨conn_eqv _, fun e he => by
    rcases (mem u e).1 he with q1 | ⟨rfl, _⟩
    · exact conn_edge (List.mem_cons_of_mem _ q1)
    · exact abf u hu⟩
  have swap' : ∀ u, u ≤ l → ∀ {i j}, Conn ((a, b) :: Fo A lv tr u) i j → Conn (Fo A lv tr' u) i j := fun u hu {i j} q => q _ ⟨conn_eqv _, fun e he => by
    rcases List.mem_cons.1 he with rfl | he
    · exact fab u hu
    · exact conn_edge ((mem u e).2 (Or.inl he))⟩
  refine ⟨h.among, ?_, fun v e he => ?_, fun e he => ?_⟩
  · -- the new tree is f and the elder edges, in some order
    have hp : (f :: Fo A lv tr 0).Perm (Fo A lv tr' 0) := by
      have n1 : (Fo A lv tr' 0).Nodup := hA.sublist List.filter_sublist
      have n2 : (f :: Fo A lv tr 0).Nodup := List.nodup_cons.2 ⟨fun q => absurd ((mem_Fo.1 q).2.1.symm.trans hf) (by simp), hA.sublist List.filter_sublist⟩
      refine (List.perm_ext_iff_of_nodup n2 n1).2 fun e => ?_
      rw [mem 0 e, List.mem_cons]
      constructor
      · rintro (q | q)
        · exact Or.inr ⟨q, Nat.zero_le _⟩
        · exact Or.inl q
      · rintro (q | ⟨q, _⟩)
        · exact Or.inr q
        · exact Or.inl q
    refine Forest.perm (n := n) (E := f :: Fo A lv tr 0) ⟨fun q => ?_, h.forest⟩ (fun e he => ?_) hp
    · -- were they joined, the two would be
      have up : ∀ {i j}, Conn (Fo A lv tr l) i j → Conn (Fo A lv tr 0) i j := fun {i j} q => Fo.down (Nat.zero_le _) q
      have e := conn_eqv (Fo A lv tr 0)
      rcases cross with ⟨q1, q2⟩ | ⟨q1, q2⟩
      · exact h.apart (e.trans (e.symm (up q1)) (e.trans q (e.symm (up q2))))
      · exact h.apart (e.trans (up q2) (e.trans (e.symm q) (up q1)))
    · rcases List.mem_cons.1 he with rfl | he
      · exact h.among _ hfA
      · exact h.among _ (mem_Fo.1 he).1
  · rcases Nat.lt_or_ge l v with hv | hv
    · have hs : ∀ x, x ∈ Fo A lv tr' v → x ∈ Fo A lv tr v := fun x hx => by
        rcases (mem v x).1 hx with q | ⟨_, q⟩
        · exact q
        · omega
      exact few_ext (h.few v e (hs e he)) hs
    · rcases Classical.em (Conn ((a, b) :: Fo A lv tr v) e.1 a) with q | q
      · exact ((h.both v (by omega)).move q).mono (fun i hi => swap v hv hi) (Nat.le_refl _)
      · have he' : e ∈ Fo A lv tr v := by
          rcases (mem v e).1 he with q1 | ⟨rfl, _⟩
          · exact q1
          · refine absurd ?_ q
            have qe := conn_eqv ((a, b) :: Fo A lv tr v)
            have dn : ∀ {i j}, Conn (Fo A lv tr l) i j → Conn ((a, b) :: Fo A lv tr v) i j := fun {i j} q => conn_cons.2 (Or.inl (Fo.down hv q))
            rcases cross with ⟨q1, _⟩ | ⟨q1, _⟩
            · exact dn q1
            · exact qe.trans (dn q1) (qe.symm (conn_edge (List.mem_cons_self ..)))
        refine (h.few v e he').mono (fun i hi => ?_) (Nat.le_refl _)
        rcases conn_cons.1 (swap v hv hi) with q1 | ⟨_, q1⟩ | ⟨_, q1⟩
        · exact q1
        · exact absurd ((conn_eqv _).symm ((conn_eqv _).trans (conn_edge (List.mem_cons_self ..)) (conn_cons.2 (Or.inl q1)))) q
        · exact absurd ((conn_eqv _).symm (conn_cons.2 (Or.inl q1))) q
  · rcases Nat.lt_or_ge l (lv e) with q | q
    · exact conn_mono (fun x hx => (mem _ x).2 (Or.inl hx)) (h.high e he (by omega))
    · exact swap' _ q (h.low e he (by omega))

end Go.Proofs.YtcfemppdeidjmacGreat
