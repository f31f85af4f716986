/-
  Events, plain: the spans as far as they are known ahead of an event; which span is open of an edge that is there; the edges that are there all through a stretch, and those that are there in a piece of it.
-/
import Derived.Test.YtcfemppdeidjmacGreatF19
namespace Go.Proofs.YtcfemppdeidjmacGreat.As
set_option linter.unusedVariables false

variable {f : Nat → Int × Int × Int} {n m t i j k : Nat} {e : Nat × Nat}

/-- The spans as far as they are known ahead of an event, of m events. -/
def sofar (f : Nat → Int × Int × Int) (m t : Nat) : List (Nat × Nat) := (places f 1 t).map fun i => (i, if til f m i < t then til f m i else m)

theorem sofar_len (f : Nat → Int × Int × Int) (m t : Nat) : (sofar f m t).length = (places f 1 t).length := by simp [sofar]

theorem til_ne (h : i < m) (ht : t < m) (hw : (f t).1 ≠ 2) : til f m i ≠ t := fun q => hw (by have := (til_drop (f := f) h (by omega)).1; rw [q] at this; exact this)

theorem sofar_stay (ht : t < m) (hw : (f t).1 ≠ 2) : ((places f 1 t).map fun i => (i, if til f m i < t + 1 then til f m i else m)) = sofar f m t := by
  unfold sofar
  refine List.map_congr_left fun i hi => ?_
  have h1 := (mem_places.1 hi).1
  have h2 := til_ne (f := f) (i := i) (m := m) (by omega) ht hw
  by_cases h : til f m i < t
  · rw [if_pos h, if_pos (by omega)]
  · rw [if_neg h, if_neg (by omega)]

theorem sofar_add (ht : t < m) (hw : (f t).1 = 1) : sofar f m (t + 1) = sofar f m t ++ [(t, m)] := by
  have h1 := sofar_stay (f := f) ht (by omega : (f t).1 ≠ 2)
  have h2 := (til_gt (f := f) ht).1
  show ((places f 1 (t + 1)).map _) = _
  rw [places_succ, if_pos hw, List.map_append, h1]
  simp only [List.map_cons, List.map_nil]
  rw [if_neg (by omega)]

theorem sofar_ask (ht : t < m) (hw : (f t).1 ≠ 1) (hw2 : (f t).1 ≠ 2) : sofar f m (t + 1) = sofar f m t := by
  have h1 := sofar_stay (f := f) ht hw2
  show ((places f 1 (t + 1)).map _) = _
  rw [places_succ, if_neg hw, List.append_nil, h1]

theorem sofar_end (f : Nat → Int × Int × Int) (m : Nat) : sofar f m m = spans f m m := by
  unfold sofar spans
  refine List.map_congr_left fun i hi => ?_
  have h1 := til_gt (f := f) (mem_places.1 hi).1
  by_cases h : til f m i < m
  · rw [if_pos h]
  · rw [if_neg h]; congr 1; omega

theorem sofar_start (f : Nat → Int × Int × Int) (m : Nat) : sofar f m 0 = [] := rfl

/-- Of each edge that is there, the place of its span among those that are known. -/
def Opens (f : Nat → Int × Int × Int) (m t : Nat) (pl : Nat × Nat → Nat) : Prop := ∀ e ∈ here f t, ∃ i, (places f 1 t)[pl e]? = some i ∧ eOf f i = e ∧ t ≤ til f m i

theorem Opens.start (f : Nat → Int × Int × Int) (m : Nat) (pl : Nat × Nat → Nat) : Opens f m 0 pl := fun e he => by simp [here] at he

theorem Opens.lt {pl : Nat × Nat → Nat} (h : Opens f m t pl) (he : e ∈ here f t) : pl e < (sofar f m t).length := by
  obtain ⟨i, hi, _⟩ := h e he
  rw [sofar_len]
  exact (List.getElem?_eq_some_iff.1 hi).1

theorem Opens.add {pl pl' : Nat × Nat → Nat} (h : Opens f m t pl) (ht : t < m) (hw : (f t).1 = 1) (hn : eOf f t ∉ here f t) (h1 : pl' (eOf f t) = (sofar f m t).length) (h2 : ∀ e, e ≠ eOf f t → pl' e = pl e) : Opens f m (t + 1) pl' := fun e he => by
  have ep : places f 1 (t + 1) = places f 1 t ++ [t] := by rw [places_succ, if_pos hw]
  rw [here_add hw] at he
  rw [ep]
  rcases List.mem_append.1 he with q | q
  · have hne : e ≠ eOf f t := fun r => hn (r ▸ q)
    obtain ⟨i, hi, h3, h4⟩ := h e q
    have hl := (List.getElem?_eq_some_iff.1 hi).1
    have him := (mem_places.1 (List.mem_of_getElem? hi)).1
    have := til_ne (f := f) (i := i) (m := m) (by omega) ht (by omega : (f t).1 ≠ 2)
    exact ⟨i, by rw [h2 e hne, List.getElem?_append_left hl]; exact hi, h3, by omega⟩
  · rw [List.mem_singleton] at q
    subst q
    exact ⟨t, by rw [h1, sofar_len, List.getElem?_append_right (Nat.le_refl _), Nat.sub_self]; rfl, rfl, (til_gt ht).1⟩

theorem Opens.ask {pl : Nat × Nat → Nat} (h : Opens f m t pl) (ht : t < m) (hw : (f t).1 ≠ 1) (hw2 : (f t).1 ≠ 2) : Opens f m (t + 1) pl := fun e he => by
  rw [here_ask hw hw2] at he
  rw [places_succ, if_neg hw, List.append_nil]
  obtain ⟨i, hi, h3, h4⟩ := h e he
  have him := (mem_places.1 (List.mem_of_getElem? hi)).1
  have := til_ne (f := f) (i := i) (m := m) (by omega) ht hw2
  exact ⟨i, hi, h3, by omega⟩

theorem Opens.drop {pl : Nat × Nat → Nat} (h : Opens f m t pl) (ht : t < m) (hw : (f t).1 = 2) (hnd : (here f t).Nodup) : Opens f m (t + 1) pl := fun e he => by
  rw [here_drop hw, hnd.mem_erase_iff] at he
  rw [places_succ, if_neg (by omega), List.append_nil]
  obtain ⟨i, hi, h3, h4⟩ := h e he.2
  have him := (mem_places.1 (List.mem_of_getElem? hi)).1
  refine ⟨i, hi, h3, ?_⟩
  rcases Nat.lt_or_ge t (til f m i) with q | q
  · exact q
  · have e1 : til f m i = t := by omega
    have := (til_drop (f := f) (m := m) (i := i) (by omega) (by omega)).2
    rw [e1, h3] at this
    exact absurd this.symm he.1

theorem sofar_drop {pl : Nat × Nat → Nat} (h : Opens f m t pl) (hmay : ∀ k, k < t → May n f k) (ht : t < m) (hw : (f t).1 = 2) (hin : eOf f t ∈ here f t) :
    ∃ i, (sofar f m t)[pl (eOf f t)]? = some (i, m) ∧ sofar f m (t + 1) = (sofar f m t).set (pl (eOf f t)) (i, t) := by
  obtain ⟨i, hi, h3, h4⟩ := h _ hin
  have hp := (List.getElem?_eq_some_iff.1 hi).1
  have hmi := mem_places.1 (List.mem_of_getElem? hi)
  have htil : til f m i = t := by
    rcases Nat.lt_or_ge t (til f m i) with q | q
    · exact absurd ⟨hw, h3.symm⟩ (til_no hmi.1 q)
    · omega
  have hset : ∀ q i', (places f 1 t)[q]? = some i' → q ≠ pl (eOf f t) → til f m i' ≠ t := fun q i' hq hne he => by
    have hmi' := mem_places.1 (List.mem_of_getElem? hq)
    have hii : i' ≠ i := fun e => by
      subst e
      have hnd : (places f 1 t).Nodup := List.Pairwise.filter _ List.nodup_range
      exact hne ((List.getElem?_inj (List.getElem?_eq_some_iff.1 hq).1 hnd).1 (hq.trans hi.symm))
    have hd := til_drop (f := f) (m := m) (i := i') (by omega) (by omega)
    rw [he] at hd
    have hee : eOf f i' = eOf f i := hd.2.symm.trans h3.symm
    rcases Nat.lt_or_ge i' i with q | q
    · refine (hmay i hmi.1).add hmi.2 ((mem_here (n := n) fun k hk => hmay k (by omega)).2 ⟨i', q, hmi'.2, hee, fun s h1 h2 => ?_⟩)
      rw [← hee]
      exact til_no (m := m) h1 (by omega)
    · refine (hmay i' hmi'.1).add hmi'.2 ((mem_here (n := n) fun k hk => hmay k (by omega)).2 ⟨i, by omega, hmi.2, hee.symm, fun s h1 h2 => ?_⟩)
      rw [hee]
      exact til_no (m := m) h1 (by omega)
  refine ⟨i, ?_, ?_⟩
  · unfold sofar
    rw [List.getElem?_map, hi]
    simp [htil]
  · refine List.ext_getElem? fun q => ?_
    have ep : places f 1 (t + 1) = places f 1 t := by rw [places_succ, if_neg (by omega), List.append_nil]
    rw [List.getElem?_set]
    unfold sofar
    rw [ep, List.getElem?_map, List.getElem?_map, List.length_map]
    by_cases hqp : pl (eOf f t) = q
    · subst hqp
      rw [if_pos rfl, hi, if_pos hp]
      simp [htil]
    · rw [if_neg hqp]
      cases hq : (places f 1 t)[q]? with
      | none => rfl
      | some i' =>
        have := hset q i' hq (fun e => hqp e.symm)
        simp only [Option.map_some, Option.some.injEq, Prod.mk.injEq, true_and]
        by_cases h5 : til f m i' < t
        · rw [if_pos h5, if_pos (by omega)]
        · rw [if_neg h5, if_neg (by omega)]

/-- There all through a stretch; there in a piece of it. -/
def whole (low high : Nat) (s : Nat × Nat) : Bool := decide (s.1 ≤ low ∧ high ≤ s.2)
def piece (low high : Nat) (s : Nat × Nat) : Bool := decide (¬ (s.1 ≤ low ∧ high ≤ s.2) ∧ s.1 < high ∧ low < s.2)

/-- Of the events from low on, ahead of high: what is there is what P adds, and what these spans have. -/
structure Cov (f : Nat → Int × Int × Int) (m : Nat) (P : List Nat) (S : List (Nat × Nat)) (low high : Nat) : Prop where
  pin : ∀ i ∈ P, i < m
  sin : ∀ s ∈ S, s.1 < m ∧ s.2 ≤ m ∧ (f s.1).1 = 1
  all : ∀ t, low ≤ t → t < high → (f t).1 = 3 → ∀ e, e ∈ here f t ↔ (∃ i ∈ P, eOf f i = e) ∨ ∃ s ∈ S, s.1 < t ∧ t < s.2 ∧ eOf f s.1 = e

theorem Cov.start (h : ∀ k, k < m → May n f k) : Cov f m [] (spans f m m) 0 m := by
  refine ⟨fun i hi => by simp at hi, fun s hs => ?_, fun t h1 h2 h3 e => ?_⟩
  · obtain ⟨i, hi, rfl⟩ := List.mem_map.1 hs
    have := mem_places.1 hi
    exact ⟨this.1, (til_gt this.1).2, this.2⟩
  · rw [mem_til h (by omega)]
    constructor
    · rintro ⟨i, q1, q2, q3, q4⟩
      have := til_ne (f := f) (i := i) (m := m) (by omega) h2 (by omega : (f t).1 ≠ 2)
      exact Or.inr ⟨(i, til f m i), List.mem_map.2 ⟨i, mem_places.2 ⟨by omega, q2⟩, rfl⟩, q1, by show t < til f m i; omega, q3⟩
    · rintro (⟨i, hi, _⟩ | ⟨s, hs, q1, q2, q3⟩)
      · simp at hi
      · obtain ⟨i, hi, rfl⟩ := List.mem_map.1 hs
        exact ⟨i, q1, (mem_places.1 hi).2, q3, Nat.le_of_lt q2⟩

theorem Cov.sub {P : List Nat} {S : List (Nat × Nat)} {low high low' high' : Nat} (h : Cov f m P S low high) (h1 : low ≤ low') (h2 : high' ≤ high) : Cov f m P S low' high' :=
  ⟨h.pin, h.sin, fun t q1 q2 => h.all t (by omega) (by omega)⟩

theorem Cov.down {P P' : List Nat} {S : List (Nat × Nat)} {low high : Nat} (h : Cov f m P S low high) (hP : ∀ i, i ∈ P' ↔ i ∈ P ∨ ∃ s ∈ S, whole low high s = true ∧ s.1 = i) : Cov f m P' (S.filter (piece low high)) low high := by
  refine ⟨fun i hi => ?_, fun s hs => h.sin s (List.mem_filter.1 hs).1, fun t h1 h2 h3 e => ?_⟩
  · rcases (hP i).1 hi with q | ⟨s, q1, _, rfl⟩
    · exact h.pin i q
    · exact (h.sin s q1).1
  · rw [h.all t h1 h2 h3 e]
    constructor
    · rintro (⟨i, q1, q2⟩ | ⟨s, q1, q2, q3, q4⟩)
      · exact Or.inl ⟨i, (hP i).2 (Or.inl q1), q2⟩
      · by_cases hw : s.1 ≤ low ∧ high ≤ s.2
        · exact Or.inl ⟨s.1, (hP _).2 (Or.inr ⟨s, q1, by simpa [whole] using hw, rfl⟩), q4⟩
        · exact Or.inr ⟨s, List.mem_filter.2 ⟨q1, by unfold piece; exact decide_eq_true ⟨hw, by omega, by omega⟩⟩, q2, q3, q4⟩
    · rintro (⟨i, q1, q2⟩ | ⟨s, q1, q2, q3, q4⟩)
      · rcases (hP i).1 q1 with q | ⟨s, r1, r2, rfl⟩
        · exact Or.inl ⟨i, q, q2⟩
        · have hw : s.1 ≤ low ∧ high ≤ s.2 := by simpa [whole] using r2
          have hne : s.1 ≠ t := fun e => by have := (h.sin s r1).2.2; rw [e] at this; omega
          exact Or.inr ⟨s, r1, by omega, by omega, q2⟩
      · exact Or.inr ⟨s, (List.mem_filter.1 q1).1, q2, q3, q4⟩

/-- The edges of these events, as pairs. -/
def prs (f : Nat → Int × Int × Int) (P : List Nat) : List (Int × Int) := P.map fun i => ((f i).2.1, (f i).2.2)

theorem eOf_cases (h : May n f i) : (eOf f i = ((f i).2.1.toNat, (f i).2.2.toNat)) ∨ (eOf f i = ((f i).2.2.toNat, (f i).2.1.toNat)) := by
  unfold eOf
  rcases Int.le_total (f i).2.1 (f i).2.2 with q | q
  · left; rw [Int.min_eq_left q, Int.max_eq_right q]
  · right; rw [Int.min_eq_right q, Int.max_eq_left q]

/-- At an Ask the union tells just what is asked. -/
theorem Cov.leaf {P : List Nat} {L S : List (Nat × Nat)} (hmay : ∀ k, k < m → May n f k) (h : Cov f m P (S.filter (piece t (t + 1))) t (t + 1)) (hG : Gen n (prs f P) L) (hw : (f t).1 = 3) (i j : Nat) : rt L i = rt L j ↔ Conn (here f t) i j := by
  have hall : ∀ e, e ∈ here f t ↔ ∃ i ∈ P, eOf f i = e := fun e => by
    rw [h.all t (Nat.le_refl _) (by omega) hw e]
    refine ⟨fun q => q.resolve_right ?_, Or.inl⟩
    rintro ⟨s, q1, q2, q3, _⟩
    have := of_decide_eq_true (List.mem_filter.1 q1).2
    exact this.1 ⟨by omega, by omega⟩
  have hnd : ∀ i ∈ P, Nodes n (f i).2.1 (f i).2.2 := fun i hi => by
    have := hmay i (h.pin i hi)
    exact ⟨this.a.1, this.a.2, this.b.1, this.b.2⟩
  constructor
  · refine hG.least _ (conn_eqv _) (fun e he hn => ?_) i j
    obtain ⟨k, hk, rfl⟩ := List.mem_map.1 he
    have hc : Conn (here f t) (eOf f k).1 (eOf f k).2 := conn_edge ((hall _).2 ⟨k, hk, rfl⟩)
    rcases eOf_cases (hmay k (h.pin k hk)) with q | q
    · rw [q] at hc; exact hc
    · rw [q] at hc; exact (conn_eqv _).symm hc
  · intro hc
    refine hc (fun i j => rt L i = rt L j) ⟨eqv_rt L, fun e he => ?_⟩
    obtain ⟨k, hk, rfl⟩ := (hall e).1 he
    have := hG.has _ (List.mem_map.2 ⟨k, hk, rfl⟩) (hnd k hk)
    rcases eOf_cases (hmay k (h.pin k hk)) with q | q
    · rw [q]; exact this
    · rw [q]; exact this.symm

/-- Two ends of one list, as long: the same. -/
theorem same_end {α : Type _} {A B C D : List α} (h : A ++ B = C ++ D) (hl : B.length = D.length) : B = D := (List.append_inj' h hl).2

end Go.Proofs.YtcfemppdeidjmacGreat.As
