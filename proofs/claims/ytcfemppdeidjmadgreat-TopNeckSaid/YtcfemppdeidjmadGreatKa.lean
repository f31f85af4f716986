/-
  Spans, plain: of edges that weigh something those that no lighter ones join; they join as much as all do, at each weight; none without a ring that joins as much is lighter; the neck of two nodes.
-/
import Derived.Test.YtcfemppdeidjmadGreatMa
namespace Go.Proofs.YtcfemppdeidjmadGreat
set_option linter.unusedVariables false

variable {m n : Nat} {ed : Nat → Nat × Nat} {wt : Nat → Nat} {t : Nat → Bool}

/-- Does k come ahead of i: lighter, or as heavy and first? -/
def ahead (wt : Nat → Nat) (k i : Nat) : Bool := decide (wt k < wt i ∨ wt k = wt i ∧ k < i)

theorem ahead_iff {k i : Nat} : ahead wt k i = true ↔ wt k < wt i ∨ wt k = wt i ∧ k < i := by unfold ahead; exact decide_eq_true_iff

/-- The edges at the places that are picked. -/
def picked (m : Nat) (ed : Nat → Nat × Nat) (d : Nat → Bool) : List (Nat × Nat) := ((List.range m).filter d).map ed

theorem mem_picked {d : Nat → Bool} {e : Nat × Nat} : e ∈ picked m ed d ↔ ∃ k, k < m ∧ d k = true ∧ ed k = e := by
  unfold picked
  simp only [List.mem_map, List.mem_filter, List.mem_range, and_assoc]

def lighter (m : Nat) (ed : Nat → Nat × Nat) (wt : Nat → Nat) (i : Nat) : List (Nat × Nat) := picked m ed (fun k => ahead wt k i)
def upto (m : Nat) (ed : Nat → Nat × Nat) (wt : Nat → Nat) (V : Nat) : List (Nat × Nat) := picked m ed (fun k => decide (wt k ≤ V))

/-- No lighter ones join its nodes. -/
def Takes (m : Nat) (ed : Nat → Nat × Nat) (wt : Nat → Nat) (i : Nat) : Prop := ¬ Conn (lighter m ed wt i) (ed i).1 (ed i).2

/-- A test that tells it. -/
def Tells (m : Nat) (ed : Nat → Nat × Nat) (wt : Nat → Nat) (t : Nat → Bool) : Prop := ∀ i, t i = true ↔ Takes m ed wt i

theorem tells_some (m : Nat) (ed : Nat → Nat × Nat) (wt : Nat → Nat) : ∃ t, Tells m ed wt t :=
  ⟨fun i => @decide (Takes m ed wt i) (Classical.propDecidable _), fun i => @decide_eq_true_iff _ (Classical.propDecidable _)⟩

/-- The places of all edges, the lightest first. -/
structure Order (m : Nat) (wt : Nat → Nat) (o : List Nat) : Prop where
  perm : o.Perm (List.range m)
  rises : o.Pairwise fun x y => ahead wt x y = true

theorem order_sort (m : Nat) (wt : Nat → Nat) : Order m wt ((List.range m).mergeSort fun x y => !ahead wt y x) := by
  have tr : ∀ a b c : Nat, (!ahead wt b a) = true → (!ahead wt c b) = true → (!ahead wt c a) = true := fun a b c h1 h2 => by
    simp only [ahead, Bool.not_eq_true', decide_eq_false_iff_not] at *; omega
  have to : ∀ a b : Nat, ((!ahead wt b a) || (!ahead wt a b)) = true := fun a b => by
    simp only [ahead, Bool.or_eq_true, Bool.not_eq_true', decide_eq_false_iff_not]; omega
  have hp := List.mergeSort_perm (List.range m) (fun x y => !ahead wt y x)
  refine ⟨hp, ?_⟩
  have hs := List.pairwise_mergeSort tr to (List.range m)
  have hn : ((List.range m).mergeSort fun x y => !ahead wt y x).Nodup := hp.nodup_iff.2 List.nodup_range
  refine (hs.and hn).imp fun {a b} h => ?_
  obtain ⟨h1, h2⟩ := h
  simp only [ahead, Bool.not_eq_true', decide_eq_false_iff_not, decide_eq_true_eq] at *
  omega

theorem Order.lt {o : List Nat} (h : Order m wt o) {k : Nat} (hk : k ∈ o) : k < m := List.mem_range.1 (h.perm.mem_iff.1 hk)
theorem Order.nodup {o : List Nat} (h : Order m wt o) : o.Nodup := h.perm.nodup_iff.2 List.nodup_range
theorem Order.len {o : List Nat} (h : Order m wt o) : o.length = m := by rw [h.perm.length_eq, List.length_range]

/-- Who stands ahead of a place are just those that come ahead of it. -/
theorem Order.before {P Q : List Nat} {i : Nat} (h : Order m wt (P ++ i :: Q)) (k : Nat) : k ∈ P ↔ k < m ∧ ahead wt k i = true := by
  have hr := h.rises
  rw [List.pairwise_append] at hr
  obtain ⟨_, h2, h3⟩ := hr
  rw [List.pairwise_cons] at h2
  constructor
  · intro hk
    exact ⟨h.lt (List.mem_append_left _ hk), h3 k hk i (List.mem_cons_self ..)⟩
  · rintro ⟨hk, ha⟩
    have hm : k ∈ P ++ i :: Q := h.perm.mem_iff.2 (List.mem_range.2 hk)
    rcases List.mem_append.1 hm with hm | hm
    · exact hm
    · rw [ahead_iff] at ha
      rcases List.mem_cons.1 hm with rfl | hm
      · omega
      · have := ahead_iff.1 (h2.1 k hm)
        omega

theorem conn_ext {E E' : List (Nat × Nat)} (h : ∀ e, e ∈ E ↔ e ∈ E') (i j : Nat) : Conn E i j ↔ Conn E' i j :=
  ⟨conn_mono fun e he => (h e).1 he, conn_mono fun e he => (h e).2 he⟩

theorem Order.lighter {P Q : List Nat} {i : Nat} (h : Order m wt (P ++ i :: Q)) (x y : Nat) : Conn (P.map ed) x y ↔ Conn (lighter m ed wt i) x y := by
  refine conn_ext (fun e => ?_) x y
  unfold Go.Proofs.YtcfemppdeidjmadGreat.lighter
  rw [mem_picked, List.mem_map]
  constructor
  · rintro ⟨k, hk, rfl⟩
    obtain ⟨h1, h2⟩ := (h.before k).1 hk
    exact ⟨k, h1, h2, rfl⟩
  · rintro ⟨k, h1, h2, rfl⟩
    exact ⟨k, (h.before k).2 ⟨h1, h2⟩, rfl⟩

theorem Order.all {o : List Nat} (h : Order m wt o) (x y : Nat) : Conn (o.map ed) x y ↔ Conn (picked m ed fun _ => true) x y := by
  refine conn_ext (fun e => ?_) x y
  rw [mem_picked, List.mem_map]
  constructor
  · rintro ⟨k, hk, rfl⟩
    exact ⟨k, h.lt hk, rfl, rfl⟩
  · rintro ⟨k, h1, _, rfl⟩
    exact ⟨k, h.perm.mem_iff.2 (List.mem_range.2 h1), rfl⟩

/-- A set of places that has all who come ahead of its own. -/
def Closed (m : Nat) (wt : Nat → Nat) (d : Nat → Bool) : Prop := ∀ k i, k < m → i < m → d i = true → ahead wt k i = true → d k = true

theorem closed_all : Closed m wt fun _ => true := fun _ _ _ _ _ _ => rfl
theorem closed_upto (V : Nat) : Closed m wt fun k => decide (wt k ≤ V) := fun k i _ _ hi ha => by
  rw [ahead_iff] at ha
  simp only [decide_eq_true_eq] at *
  omega

theorem ahead_less {k i : Nat} (hk : k < m) (h : ahead wt k i = true) : wt k * m + k < wt i * m + i := by
  rw [ahead_iff] at h
  rcases h with h | ⟨h, h2⟩
  · have := Nat.mul_le_mul_right m (show wt k + 1 ≤ wt i by omega)
    rw [Nat.add_mul] at this
    omega
  · rw [h]; omega

/-- Those of the span join as much as all, in each set that is closed. -/
theorem span_joins (ht : Tells m ed wt t) {d : Nat → Bool} (hd : Closed m wt d) (x y : Nat) : Conn (picked m ed fun k => d k && t k) x y ↔ Conn (picked m ed d) x y := by
  constructor
  · refine conn_mono fun e he => ?_
    obtain ⟨k, h1, h2, h3⟩ := mem_picked.1 he
    simp only [Bool.and_eq_true] at h2
    exact mem_picked.2 ⟨k, h1, h2.1, h3⟩
  · have key : ∀ (N i : Nat), wt i * m + i = N → i < m → d i = true → Conn (picked m ed fun k => d k && t k) (ed i).1 (ed i).2 := by
      intro N
      induction N using Nat.strongRecOn with
      | ind N ih =>
        intro i hN hi hdi
        by_cases hti : t i = true
        · exact conn_edge (mem_picked.2 ⟨i, hi, by rw [hdi, hti]; rfl, rfl⟩)
        · have hc : Conn (lighter m ed wt i) (ed i).1 (ed i).2 := Classical.byContradiction fun h => hti ((ht i).2 h)
          refine hc _ ⟨conn_eqv _, fun e he => ?_⟩
          obtain ⟨k, h1, h2, rfl⟩ := mem_picked.1 he
          exact ih _ (by rw [← hN]; exact ahead_less h1 h2) k rfl h1 (hd k i h1 hi hdi h2)
    intro hc
    refine hc _ ⟨conn_eqv _, fun e he => ?_⟩
    obtain ⟨k, h1, h2, rfl⟩ := mem_picked.1 he
    exact key _ k rfl h1 h2

/-- A part of a forest is one. -/
theorem Forest.sub : ∀ {E E' : List (Nat × Nat)}, E'.Sublist E → Forest E → Forest E'
  | _, _, .slnil, _ => trivial
  | _ :: _, _, .cons _ h, hf => Forest.sub h hf.2
  | (a, b) :: E, (_ :: E'), .cons_cons _ h, hf => ⟨fun hc => hf.1 (conn_mono (fun e he => h.subset he) hc), Forest.sub h hf.2⟩

/-- The span has no ring: each is joined by none of those that came ahead of it. -/
theorem span_forest (ht : Tells m ed wt t) : ∀ {o : List Nat}, (∀ k ∈ o, k < m) → o.Pairwise (fun x y => ahead wt y x = true) → Forest ((o.filter t).map ed)
  | [], _, _ => trivial
  | i :: o, hm, hp => by
    rw [List.pairwise_cons] at hp
    have ih := span_forest ht (fun k hk => hm k (List.mem_cons_of_mem _ hk)) hp.2
    by_cases hi : t i = true
    · rw [List.filter_cons_of_pos hi, List.map_cons]
      refine ⟨fun hc => (ht i).1 hi (conn_mono (fun e he => ?_) hc), ih⟩
      obtain ⟨k, hk, rfl⟩ := List.mem_map.1 he
      have hk2 := (List.mem_filter.1 hk).1
      exact mem_picked.2 ⟨k, hm k (List.mem_cons_of_mem _ hk2), hp.1 k hk2, rfl⟩
    · rw [List.filter_cons_of_neg hi]
      exact ih

theorem filter_and (d t : Nat → Bool) (l : List Nat) : (l.filter d).filter t = l.filter fun k => d k && t k := by
  rw [List.filter_filter]
  refine List.filter_congr fun k _ => ?_
  exact Bool.and_comm _ _

/-- How many of the span are in a closed set: as many as nodes, less its parts. -/
theorem span_many (ht : Tells m ed wt t) {d : Nat → Bool} (hd : Closed m wt d) (ha : ∀ k, k < m → (ed k).1 < n ∧ (ed k).2 < n) {p : Nat → Nat} (hp : Rest (picked m ed d) p) : partsOf n p + ((List.range m).filter fun k => d k && t k).length = n := by
  have ho := order_sort m wt
  generalize ((List.range m).mergeSort fun x y => !ahead wt y x) = o at ho
  have hf := span_forest ht (o := o.reverse.filter d) (fun k hk => ho.lt (List.mem_reverse.1 (List.mem_filter.1 hk).1)) ((List.pairwise_reverse.2 ho.rises).sublist List.filter_sublist)
  rw [filter_and] at hf
  have hperm : (o.reverse.filter fun k => d k && t k).Perm ((List.range m).filter fun k => d k && t k) := ((List.reverse_perm o).trans ho.perm).filter _
  have ham : Among n ((o.reverse.filter fun k => d k && t k).map ed) := fun e he => by
    obtain ⟨k, hk, rfl⟩ := List.mem_map.1 he
    exact ha k (ho.lt (List.mem_reverse.1 (List.mem_filter.1 hk).1))
  obtain ⟨q, hq⟩ := rest_of ((o.reverse.filter fun k => d k && t k).map ed)
  have h1 := ((forest_parts ham hq).2).1 hf
  have e : ∀ i, q i = p i := hq.one hp fun i j => (conn_perm (hperm.map ed) i j).trans (span_joins ht hd i j)
  have e2 : partsOf n q = partsOf n p := by unfold partsOf; exact cnt_congr n fun i _ => by rw [e i]
  rw [List.length_map, hperm.length_eq] at h1
  omega

theorem cnt_mono {p q : Nat → Bool} : ∀ n, (∀ i, i < n → p i = true → q i = true) → cnt n p ≤ cnt n q
  | 0, _ => Nat.le_refl _
  | n + 1, h => by
    rw [cnt_succ, cnt_succ]
    have ih := cnt_mono n (fun i hi => h i (by omega))
    have := h n (by omega)
    cases hp : p n <;> cases hq : q n <;> simp [hp, hq] at this ⊢ <;> omega

/-- Who joins more has fewer parts. -/
theorem parts_mono {E E' : List (Nat × Nat)} {p q : Nat → Nat} (h : Rest E p) (k : Rest E' q) (hE : ∀ i j, Conn E i j → Conn E' i j) : partsOf n q ≤ partsOf n p := by
  unfold partsOf
  refine cnt_mono n fun i _ hi => ?_
  simp only [decide_eq_true_eq] at *
  have h1 := hE _ _ (h.conn i)
  have h2 := (k.same i (p i)).2 h1
  have h3 := k.le (p i)
  have h4 := h.le i
  omega

/-- Edges without a ring are in each closed set no more than the span's. -/
theorem forest_many (ht : Tells m ed wt t) {d : Nat → Bool} (hd : Closed m wt d) (ha : ∀ k, k < m → (ed k).1 < n ∧ (ed k).2 < n) {T : List Nat} (hT : ∀ k ∈ T, k < m) (hf : Forest (T.map ed)) : (T.filter d).length ≤ ((List.range m).filter fun k => d k && t k).length := by
  obtain ⟨p, hp⟩ := rest_of (picked m ed d)
  obtain ⟨q, hq⟩ := rest_of ((T.filter d).map ed)
  have h1 := span_many ht hd ha hp
  have ham : Among n ((T.filter d).map ed) := fun e he => by
    obtain ⟨k, hk, rfl⟩ := List.mem_map.1 he
    exact ha k (hT k (List.mem_filter.1 hk).1)
  have h2 := ((forest_parts ham hq).2).1 (hf.sub (List.filter_sublist.map ed))
  have h3 := parts_mono (n := n) hq hp fun i j => conn_mono fun e he => by
    obtain ⟨k, hk, rfl⟩ := List.mem_map.1 he
    have := List.mem_filter.1 hk
    exact mem_picked.2 ⟨k, hT k this.1, this.2, rfl⟩
  rw [List.length_map] at h2
  omega

/-- Edges without a ring that join all are as many as the span's. -/
theorem forest_all (ht : Tells m ed wt t) (ha : ∀ k, k < m → (ed k).1 < n ∧ (ed k).2 < n) {T : List Nat} (hT : ∀ k ∈ T, k < m) (hf : Forest (T.map ed)) (hj : ∀ k, k < m → Conn (T.map ed) (ed k).1 (ed k).2) : T.length = ((List.range m).filter t).length := by
  obtain ⟨p, hp⟩ := rest_of (picked m ed fun _ => true)
  obtain ⟨q, hq⟩ := rest_of (T.map ed)
  have h1 := span_many ht (closed_all (m := m) (wt := wt)) ha hp
  have ham : Among n (T.map ed) := fun e he => by
    obtain ⟨k, hk, rfl⟩ := List.mem_map.1 he
    exact ha k (hT k hk)
  have h2 := ((forest_parts ham hq).2).1 hf
  have e : ∀ i, q i = p i := hq.one hp fun i j => ⟨conn_mono fun e he => by
      obtain ⟨k, hk, rfl⟩ := List.mem_map.1 he
      exact mem_picked.2 ⟨k, hT k hk, rfl, rfl⟩, fun hc => hc _ ⟨conn_eqv _, fun e he => by
      obtain ⟨k, hk, _, rfl⟩ := mem_picked.1 he
      exact hj k hk⟩⟩
  have e2 : partsOf n q = partsOf n p := by unfold partsOf; exact cnt_congr n fun i _ => by rw [e i]
  rw [List.length_map] at h2
  have h3 : partsOf n p + ((List.range m).filter t).length = n := by simpa using h1
  omega

/-- The sum of a list, each cut at a height. -/
def low (M : Nat) (l : List Nat) : Nat := (l.map fun x => min x M).sum

theorem low_succ (M : Nat) : ∀ l : List Nat, low (M + 1) l + (l.filter fun x => decide (x ≤ M)).length = low M l + l.length
  | [] => rfl
  | x :: l => by
    have ih := low_succ M l
    unfold low at *
    simp only [List.map_cons, List.sum_cons, List.length_cons]
    by_cases h : x ≤ M
    · rw [List.filter_cons_of_pos (by simpa using h), List.length_cons]
      omega
    · rw [List.filter_cons_of_neg (by simpa using h)]
      omega

theorem low_zero (l : List Nat) : low 0 l = 0 := by
  unfold low
  induction l with
  | nil => rfl
  | cons x l ih => simp only [List.map_cons, List.sum_cons, ih]; omega

theorem low_all {M : Nat} : ∀ {l : List Nat}, (∀ x ∈ l, x ≤ M) → low M l = l.sum
  | [], _ => rfl
  | x :: l, h => by
    have ih := low_all (l := l) (fun y hy => h y (List.mem_cons_of_mem _ hy))
    have := h x (List.mem_cons_self ..)
    unfold low at *
    simp only [List.map_cons, List.sum_cons, ih]
    omega

theorem sum_layers {X Y : List Nat} (hl : X.length = Y.length) (h : ∀ V, (Y.filter fun x => decide (x ≤ V)).length ≤ (X.filter fun x => decide (x ≤ V)).length) {M : Nat} (hX : ∀ x ∈ X, x ≤ M) (hY : ∀ x ∈ Y, x ≤ M) : X.sum ≤ Y.sum := by
  have key : ∀ M, low M X ≤ low M Y := by
    intro M
    induction M with
    | zero => rw [low_zero, low_zero]; exact Nat.le_refl _
    | succ M ih =>
      have h1 := low_succ M X
      have h2 := low_succ M Y
      have h3 := h M
      omega
  have := key M
  rw [low_all hX, low_all hY] at this
  exact this

/-- None is lighter. -/
theorem span_least (ht : Tells m ed wt t) (ha : ∀ k, k < m → (ed k).1 < n ∧ (ed k).2 < n) {T : List Nat} (hT : ∀ k ∈ T, k < m) (hf : Forest (T.map ed)) (hj : ∀ k, k < m → Conn (T.map ed) (ed k).1 (ed k).2) {M : Nat} (hM : ∀ k, k < m → wt k ≤ M) :
    (((List.range m).filter t).map wt).sum ≤ (T.map wt).sum := by
  refine sum_layers (M := M) (by rw [List.length_map, List.length_map]; exact (forest_all ht ha hT hf hj).symm) (fun V => ?_) (fun x hx => ?_) (fun x hx => ?_)
  · rw [List.filter_map, List.filter_map, List.length_map, List.length_map, List.filter_filter]
    have := forest_many ht (closed_upto (m := m) (wt := wt) V) ha hT hf
    simpa [Function.comp_def] using this
  · obtain ⟨k, hk, rfl⟩ := List.mem_map.1 hx
    exact hM k (List.mem_range.1 (List.mem_filter.1 hk).1)
  · obtain ⟨k, hk, rfl⟩ := List.mem_map.1 hx
    exact hM k (hT k hk)

/-- The neck of two nodes: with the edges up to it there is a way, with lighter ones alone there is none. -/
structure Neck (m : Nat) (ed : Nat → Nat × Nat) (wt : Nat → Nat) (a b W : Nat) : Prop where
  way : Conn (upto m ed wt W) a b
  none : ∀ V, V < W → ¬ Conn (upto m ed wt V) a b

theorem upto_mono {V W : Nat} (h : V ≤ W) {a b : Nat} (hc : Conn (upto m ed wt V) a b) : Conn (upto m ed wt W) a b := by
  refine conn_mono (fun e he => ?_) hc
  obtain ⟨k, h1, h2, rfl⟩ := mem_picked.1 he
  simp only [decide_eq_true_eq] at h2
  exact mem_picked.2 ⟨k, h1, by simp only [decide_eq_true_eq]; omega, rfl⟩

theorem upto_all {V : Nat} {a b : Nat} (hc : Conn (upto m ed wt V) a b) : Conn (picked m ed fun _ => true) a b := by
  refine conn_mono (fun e he => ?_) hc
  obtain ⟨k, h1, h2, rfl⟩ := mem_picked.1 he
  exact mem_picked.2 ⟨k, h1, rfl, rfl⟩

theorem all_upto {M : Nat} (hM : ∀ k, k < m → wt k ≤ M) {a b : Nat} (hc : Conn (picked m ed fun _ => true) a b) : Conn (upto m ed wt M) a b := by
  refine conn_mono (fun e he => ?_) hc
  obtain ⟨k, h1, h2, rfl⟩ := mem_picked.1 he
  exact mem_picked.2 ⟨k, h1, by simp only [decide_eq_true_eq]; exact hM k h1, rfl⟩

theorem Neck.one {a b V W : Nat} (h : Neck m ed wt a b V) (k : Neck m ed wt a b W) : V = W := by
  rcases Nat.lt_trichotomy V W with h1 | h1 | h1
  · exact absurd h.way (k.none V h1)
  · exact h1
  · exact absurd k.way (h.none W h1)

theorem Neck.symm {a b W : Nat} (h : Neck m ed wt a b W) : Neck m ed wt b a W :=
  ⟨(conn_eqv _).symm h.way, fun V hV hc => h.none V hV ((conn_eqv _).symm hc)⟩

theorem neck_self (a : Nat) : Neck m ed wt a a 0 := ⟨(conn_eqv _).refl a, fun V hV => absurd hV (Nat.not_lt_zero _)⟩

theorem Neck.least {a b W V : Nat} (h : Neck m ed wt a b W) (hc : Conn (upto m ed wt V) a b) : W ≤ V :=
  Nat.le_of_not_lt fun hV => h.none V hV hc

/-- By a third node it is no narrower. -/
theorem Neck.third {a b c V W : Nat} (h : Neck m ed wt a b V) (k : Neck m ed wt b c W) : Conn (upto m ed wt (max V W)) a c :=
  (conn_eqv _).trans (upto_mono (Nat.le_max_left ..) h.way) (upto_mono (Nat.le_max_right ..) k.way)

/-- The edge that first joins two nodes is as heavy as their neck. -/
theorem neck_at {P Q : List Nat} {i a b : Nat} (h : Order m wt (P ++ i :: Q)) (hn : ¬ Conn (P.map ed) a b) (hy : Conn ((P ++ [i]).map ed) a b) : Neck m ed wt a b (wt i) := by
  have hi : i < m := h.lt (List.mem_append_right _ (List.mem_cons_self ..))
  refine ⟨conn_mono (fun e he => ?_) hy, fun V hV hc => hn (conn_mono (fun e he => ?_) hc)⟩
  · obtain ⟨k, hk, rfl⟩ := List.mem_map.1 he
    rcases List.mem_append.1 hk with hk | hk
    · obtain ⟨h1, h2⟩ := (h.before k).1 hk
      rw [ahead_iff] at h2
      exact mem_picked.2 ⟨k, h1, by simp only [decide_eq_true_eq]; omega, rfl⟩
    · obtain rfl := List.mem_singleton.1 hk
      exact mem_picked.2 ⟨k, hi, by simp, rfl⟩
  · obtain ⟨k, h1, h2, rfl⟩ := mem_picked.1 he
    simp only [decide_eq_true_eq] at h2
    exact List.mem_map.2 ⟨k, (h.before k).2 ⟨h1, ahead_iff.2 (by omega)⟩, rfl⟩

/-- No edge of the span is heavier than the neck between its nodes. -/
theorem neck_span {i : Nat} (hi : i < m) (ht : Takes m ed wt i) : Neck m ed wt (ed i).1 (ed i).2 (wt i) := by
  refine ⟨conn_edge (mem_picked.2 ⟨i, hi, by simp, rfl⟩), fun V hV hc => ht (conn_mono (fun e he => ?_) hc)⟩
  obtain ⟨k, h1, h2, rfl⟩ := mem_picked.1 he
  simp only [decide_eq_true_eq] at h2
  exact mem_picked.2 ⟨k, h1, ahead_iff.2 (by omega), rfl⟩

/-- What rises and has just these. -/
theorem span_sorted {o : List Nat} (h : Order m wt o) (t : Nat → Bool) : (o.filter t).mergeSort (fun x y => decide (x ≤ y)) = (List.range m).filter t := by
  refine List.Perm.eq_of_pairwise (le := fun a b : Nat => a ≤ b) (fun a b _ _ h1 h2 => Nat.le_antisymm h1 h2) ?_ ?_ ((List.mergeSort_perm _ _).trans (h.perm.filter t))
  · have := List.pairwise_mergeSort (le := fun x y : Nat => decide (x ≤ y)) (fun a b c h1 h2 => by simp only [decide_eq_true_eq] at *; omega) (fun a b => by simp only [Bool.or_eq_true, decide_eq_true_eq]; omega) (o.filter t)
    exact this.imp fun h => by simpa using h
  · exact (List.pairwise_lt_range.imp fun h => Nat.le_of_lt h).sublist List.filter_sublist

end Go.Proofs.YtcfemppdeidjmadGreat
