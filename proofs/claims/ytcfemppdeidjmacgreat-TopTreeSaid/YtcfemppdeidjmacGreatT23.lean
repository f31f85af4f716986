/-
  Ka
-/
import Derived.Test.YtcfemppdeidjmacGreatT4
namespace Go.Proofs.YtcfemppdeidjmacGreat
set_option linter.unusedVariables false

variable {m n : Nat} {ed : Nat → Nat × Nat} {wt : Nat → Nat} {t : Nat → Bool}

def ahead (wt : Nat → Nat) (k i : Nat) : Bool := decide (wt k < wt i ∨ wt k = wt i ∧ k < i)

theorem ahead_iff {k i : Nat} : ahead wt k i = true ↔ wt k < wt i ∨ wt k = wt i ∧ k < i := by unfold ahead; exact decide_eq_true_iff

def picked (m : Nat) (ed : Nat → Nat × Nat) (d : Nat → Bool) : List (Nat × Nat) := ((List.range m).filter d).map ed

theorem mem_picked {d : Nat → Bool} {e : Nat × Nat} : e ∈ picked m ed d ↔ ∃ k, k < m ∧ d k = true ∧ ed k = e := by
  unfold picked
  simp only [List.mem_map, List.mem_filter, List.mem_range, and_assoc]

def lighter (m : Nat) (ed : Nat → Nat × Nat) (wt : Nat → Nat) (i : Nat) : List (Nat × Nat) := picked m ed (fun k => ahead wt k i)
def upto (m : Nat) (ed : Nat → Nat × Nat) (wt : Nat → Nat) (V : Nat) : List (Nat × Nat) := picked m ed (fun k => decide (wt k ≤ V))

def Takes (m : Nat) (ed : Nat → Nat × Nat) (wt : Nat → Nat) (i : Nat) : Prop := ¬ Conn (lighter m ed wt i) (ed i).1 (ed i).2

def Tells (m : Nat) (ed : Nat → Nat × Nat) (wt : Nat → Nat) (t : Nat → Bool) : Prop := ∀ i, t i = true ↔ Takes m ed wt i

theorem tells_some (m : Nat) (ed : Nat → Nat × Nat) (wt : Nat → Nat) : ∃ t, Tells m ed wt t :=
  ⟨fun i => @decide (Takes m ed wt i) (Classical.propDecidable _), fun i => @decide_eq_true_iff _ (Classical.propDecidable _)⟩

structure Order (m : Nat) (wt : Nat → Nat) (o : List Nat) : Prop where
  perm : o.Perm (List.range m)
  rises : o.Pairwise fun x y => ahead wt x y = true

theorem order_sort (m : Nat) (wt : Nat → Nat) : Order m wt ((List.range m).mergeSort fun x y => !ahead wt y x) := by
  have tr : ∀ a b c : Nat, (!ahead wt b a) = true → (!ahead wt c b) = true → (!ahead wt c a) = true := fun a b c h1 h2 => by
    simp only [ahead, Bool.not_eq_true', decide_eq_false_iff_not] at *; omega
  have to : ∀ a b : Nat, ((!ahead wt b a) || (!ahead wt a b)) = true := fun a b => by
    simp only [ahead, Bool.or_eq_true, Bool.not_eq_true', decide_eq_false_iff_not]; omega
  have hp := List.mergeSort_perm (List.range m) (fun x y => !ahead wt y x)
  refine ⟨hp, ?_⟩
  have hs := List.pairwise_mergeSort tr to (List.range m)
  have hn : ((List.range m).mergeSort fun x y => !ahead wt y x).Nodup := hp.nodup_iff.2 List.nodup_range
  refine (hs.and hn).imp fun {a b} h => ?_
  obtain ⟨h1, h2⟩ := h
  simp only [ahead, Bool.not_eq_true', decide_eq_false_iff_not, decide_eq_true_eq] at *
  omega

theorem Order.lt {o : List Nat} (h : Order m wt o) {k : Nat} (hk : k ∈ o) : k < m := List.mem_range.1 (h.perm.mem_iff.1 hk)
theorem Order.len {o : List Nat} (h : Order m wt o) : o.length = m := by rw [h.perm.length_eq, List.length_range]

theorem Order.before {P Q : List Nat} {i : Nat} (h : Order m wt (P ++ i :: Q)) (k : Nat) : k ∈ P ↔ k < m ∧ ahead wt k i = true := by
  have hr := h.rises
  rw [List.pairwise_append] at hr
  obtain ⟨_, h2, h3⟩ := hr
  rw [List.pairwise_cons] at h2
  constructor
  · intro hk
    exact ⟨h.lt (List.mem_append_left _ hk), h3 k hk i (List.mem_cons_self ..)⟩
  · rintro ⟨hk, ha⟩
    have hm : k ∈ P ++ i :: Q := h.perm.mem_iff.2 (List.mem_range.2 hk)
    rcases List.mem_append.1 hm with hm | hm
    · exact hm
    · rw [ahead_iff] at ha
      rcases List.mem_cons.1 hm with rfl | hm
      · omega
      · have := ahead_iff.1 (h2.1 k hm)
        omega

theorem conn_ext {E E' : List (Nat × Nat)} (h : ∀ e, e ∈ E ↔ e ∈ E') (i j : Nat) : Conn E i j ↔ Conn E' i j :=
  ⟨conn_mono fun e he => (h e).1 he, conn_mono fun e he => (h e).2 he⟩

theorem Order.lighter {P Q : List Nat} {i : Nat} (h : Order m wt (P ++ i :: Q)) (x y : Nat) : Conn (P.map ed) x y ↔ Conn (lighter m ed wt i) x y := by
  refine conn_ext (fun e => ?_) x y
  unfold Go.Proofs.YtcfemppdeidjmacGreat.lighter
  rw [mem_picked, List.mem_map]
  constructor
  · rintro ⟨k, hk, rfl⟩
    obtain ⟨h1, h2⟩ := (h.before k).1 hk
    exact ⟨k, h1, h2, rfl⟩
  · rintro ⟨k, h1, h2, rfl⟩
    exact ⟨k, (h.before k).2 ⟨h1, h2⟩, rfl⟩

def Closed (m : Nat) (wt : Nat → Nat) (d : Nat → Bool) : Prop := ∀ k i, k < m → i < m → d i = true → ahead wt k i = true → d k = true

theorem closed_all : Closed m wt fun _ => true := fun _ _ _ _ _ _ => rfl
theorem ahead_less {k i : Nat} (hk : k < m) (h : ahead wt k i = true) : wt k * m + k < wt i * m + i := by
  rw [ahead_iff] at h
  rcases h with h | ⟨h, h2⟩
  · have := Nat.mul_le_mul_right m (show wt k + 1 ≤ wt i by omega)
    rw [Nat.add_mul] at this
    omega
  · rw [h]; omega

theorem span_joins (ht : Tells m ed wt t) {d : Nat → Bool} (hd : Closed m wt d) (x y : Nat) : Conn (picked m ed fun k => d k && t k) x y ↔ Conn (picked m ed d) x y := by
  constructor
  · refine conn_mono fun e he => ?_
    obtain ⟨k, h1, h2, h3⟩ := mem_picked.1 he
    simp only [Bool.and_eq_true] at h2
    exact mem_picked.2 ⟨k, h1, h2.1, h3⟩
  · have key : ∀ (N i : Nat), wt i * m + i = N → i < m → d i = true → Conn (picked m ed fun k => d k && t k) (ed i).1 (ed i).2 := by
      intro N
      induction N using Nat.strongRecOn with
      | ind N ih =>
        intro i hN hi hdi
        by_cases hti : t i = true
        · exact conn_edge (mem_picked.2 ⟨i, hi, by rw [hdi, hti]; rfl, rfl⟩)
        · have hc : Conn (lighter m ed wt i) (ed i).1 (ed i).2 := Classical.byContradiction fun h => hti ((ht i).2 h)
          refine hc _ ⟨conn_eqv _, fun e he => ?_⟩
          obtain ⟨k, h1, h2, rfl⟩ := mem_picked.1 he
          exact ih _ (by rw [← hN]; exact ahead_less h1 h2) k rfl h1 (hd k i h1 hi hdi h2)
    intro hc
    refine hc _ ⟨conn_eqv _, fun e he => ?_⟩
    obtain ⟨k, h1, h2, rfl⟩ := mem_picked.1 he
    exact key _ k rfl h1 h2

theorem span_forest (ht : Tells m ed wt t) : ∀ {o : List Nat}, (∀ k ∈ o, k < m) → o.Pairwise (fun x y => ahead wt y x = true) → Forest ((o.filter t).map ed)
  | [], _, _ => trivial
  | i :: o, hm, hp => by
    rw [List.pairwise_cons] at hp
    have ih := span_forest ht (fun k hk => hm k (List.mem_cons_of_mem _ hk)) hp.2
    by_cases hi : t i = true
    · rw [List.filter_cons_of_pos hi, List.map_cons]
      refine ⟨fun hc => (ht i).1 hi (conn_mono (fun e he => ?_) hc), ih⟩
      obtain ⟨k, hk, rfl⟩ := List.mem_map.1 he
      have hk2 := (List.mem_filter.1 hk).1
      exact mem_picked.2 ⟨k, hm k (List.mem_cons_of_mem _ hk2), hp.1 k hk2, rfl⟩
    · rw [List.filter_cons_of_neg hi]
      exact ih

theorem filter_and (d t : Nat → Bool) (l : List Nat) : (l.filter d).filter t = l.filter fun k => d k && t k := by
  rw [List.filter_filter]
  refine List.filter_congr fun k _ => ?_
  exact Bool.and_comm _ _

theorem span_many (ht : Tells m ed wt t) {d : Nat → Bool} (hd : Closed m wt d) (ha : ∀ k, k < m → (ed k).1 < n ∧ (ed k).2 < n) {p : Nat → Nat} (hp : Rest (picked m ed d) p) : partsOf n p + ((List.range m).filter fun k => d k && t k).length = n := by
  have ho := order_sort m wt
  generalize ((List.range m).mergeSort fun x y => !ahead wt y x) = o at ho
  have hf := span_forest ht (o := o.reverse.filter d) (fun k hk => ho.lt (List.mem_reverse.1 (List.mem_filter.1 hk).1)) ((List.pairwise_reverse.2 ho.rises).sublist List.filter_sublist)
  rw [filter_and] at hf
  have hperm : (o.reverse.filter fun k => d k && t k).Perm ((List.range m).filter fun k => d k && t k) := ((List.reverse_perm o).trans ho.perm).filter _
  have ham : Among n ((o.reverse.filter fun k => d k && t k).map ed) := fun e he => by
    obtain ⟨k, hk, rfl⟩ := List.mem_map.1 he
    exact ha k (ho.lt (List.mem_reverse.1 (List.mem_filter.1 hk).1))
  obtain ⟨q, hq⟩ := rest_of ((o.reverse.filter fun k => d k && t k).map ed)
  have h1 := ((forest_parts ham hq).2).1 hf
  have e : ∀ i, q i = p i := hq.one hp fun i j => (conn_perm (hperm.map ed) i j).trans (span_joins ht hd i j)
  have e2 : partsOf n q = partsOf n p := by unfold partsOf; exact cnt_congr n fun i _ => by rw [e i]
  rw [List.length_map, hperm.length_eq] at h1
  omega

def low (M : Nat) (l : List Nat) : Nat := (l.map fun x => min x M).sum

end Go.Proofs.YtcfemppdeidjmacGreat
