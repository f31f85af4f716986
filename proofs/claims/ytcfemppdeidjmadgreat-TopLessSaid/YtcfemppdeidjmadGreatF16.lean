/-
  Bridges and joints, plain: an edge without which there are more parts is one whose nodes have no way without it; a node without which the others are more parts is one that parts two others.
  Edges that came in, plain: which of them is wrong first, and how; the list that they are; its bridges and joints; one edge more.
  The statements' own answer, for edges that came in (wherever their list begins): is there such a node, how many there may be; an edge of two nodes, where it stands in a list, a list without one; of each node the least one of its part; how many parts.
-/
import Derived.Test.YtcfemppdeidjmadGreatMa
import Derived.Test.YtcfemppdeidjmadGreatChecked
import Derived.WalkKit
import Derived.WalkSpells
import Derived.WalkLawsBesides
import Derived.Deep.RegionHeld3
import Derived.Deep.OwnRows
import Derived.OneCell
import Derived.BigQuiet
import Derived.BigRegion
import Derived.Below
import Derived.Maps.AppendAt
import Derived.Deep.AppendLies
namespace Go.Proofs.YtcfemppdeidjmadGreat.Br
set_option linter.unusedVariables false

variable {E E' A B : List (Nat × Nat)} {p q : Nat → Nat} {n a : Nat} {e : Nat × Nat}

/-- An edge is left out, wherever it stands: there are more parts just if there is no way between its nodes. -/
theorem more_out (hp : Rest (A ++ B) p) (hq : Rest (A ++ e :: B) q) (ha : e.1 < n) (hb : e.2 < n) : partsOf n q < partsOf n p ↔ ¬ Conn (A ++ B) e.1 e.2 := by
  obtain ⟨r, hr⟩ := rest_of (e :: (A ++ B))
  have e1 : ∀ i, r i = q i := hr.one hq fun i j => conn_perm List.perm_middle.symm i j
  have e2 : partsOf n q = partsOf n r := by unfold partsOf; exact cnt_congr n fun i _ => by rw [e1]
  rw [e2]
  by_cases hc : Conn (A ++ B) e.1 e.2
  · have e3 : ∀ i, r i = p i := hr.one hp fun i j => by
      obtain ⟨u, v⟩ := e
      exact conn_more hc i j
    have e4 : partsOf n r = partsOf n p := by unfold partsOf; exact cnt_congr n fun i _ => by rw [e3]
    simp [hc]
    omega
  · have := parts_less (E := A ++ B) (a := e.1) (b := e.2) hp hr ha hb hc
    simp [hc]
    omega

/-- The edges that do not touch a node. -/
def without (E : List (Nat × Nat)) (a : Nat) : List (Nat × Nat) := E.filter fun e => decide (e.1 ≠ a ∧ e.2 ≠ a)

theorem mem_without : e ∈ without E a ↔ e ∈ E ∧ e.1 ≠ a ∧ e.2 ≠ a := by simp [without]

/-- Without its edges a node is alone. -/
theorem without_alone (hq : Rest (without E a) q) {i : Nat} (h : q i = a ∨ Conn (without E a) i a) : i = a := by
  have hc : Conn (without E a) i a := by
    rcases h with h | h
    · have := hq.conn i
      rw [h] at this
      exact this
    · exact h
  have := hc (fun i j => i = a ↔ j = a) ⟨⟨fun _ => Iff.rfl, fun h => h.symm, fun h k => h.trans k⟩, fun e he => by
    have := mem_without.1 he
    simp [this.2.1, this.2.2]⟩
  exact this.2 rfl

/-- A node that parts two others. -/
def Joint (E : List (Nat × Nat)) (a : Nat) : Prop := ∃ x y, x ≠ a ∧ y ≠ a ∧ Conn E x y ∧ ¬ Conn (without E a) x y

theorem cnt_filter (n : Nat) (t : Nat → Bool) : cnt n t = ((List.range n).filter t).length := by unfold cnt; rw [List.countP_eq_length_filter]

/-- The parts without a node, but itself. -/
theorem parts_without (hq : Rest (without E a) q) (ha : a < n) : partsOf n q = ((List.range n).filter fun i => decide (q i = i ∧ i ≠ a)).length + 1 := by
  have hqa : q a = a := without_alone hq (Or.inr ((conn_eqv _).symm (hq.conn a)))
  have := cnt_or (p := fun i => decide (q i = i ∧ i ≠ a)) (q := fun i => decide (i = a)) (r := fun i => decide (q i = i)) n (fun i _ => by
    by_cases h : i = a
    · subst h; simp [hqa]
    · simp [h]) (fun i _ => by by_cases h : i = a <;> simp [h])
  rw [cnt_one, if_pos ha] at this
  unfold partsOf
  rw [this, cnt_filter]

theorem rest_lt (hE : Among n E) (hp : Rest E p) {i : Nat} (hi : i < n) : p i < n := by have := hp.le i; omega

/-- A node's edges are left out: the others are more parts just if it parts two of them. -/
theorem joint_count (hE : Among n E) (hp : Rest E p) (hq : Rest (without E a) q) (ha : a < n) : partsOf n p + 1 < partsOf n q ↔ Joint E a := by
  rw [parts_without hq ha]
  have hp' : partsOf n p = ((List.range n).filter fun i => decide (p i = i)).length := cnt_filter ..
  have hmono : ∀ {i j}, Conn (without E a) i j → Conn E i j := fun h => conn_mono (fun e he => (mem_without.1 he).1) h
  constructor
  · intro hlt
    apply Classical.byContradiction
    intro hno
    have hall : ∀ x y, x ≠ a → y ≠ a → Conn E x y → Conn (without E a) x y := fun x y hx hy hc => Classical.byContradiction fun h => hno ⟨x, y, hx, hy, hc, h⟩
    have := pigeon (f := p) ((List.range n).filter fun i => decide (q i = i ∧ i ≠ a)) ((List.range n).filter fun i => decide (p i = i)) (List.nodup_range.sublist List.filter_sublist) (fun x hx y hy e => by
      have h1 := of_decide_eq_true (List.mem_filter.1 hx).2
      have h2 := of_decide_eq_true (List.mem_filter.1 hy).2
      have h3 := (hq.same x y).2 (hall x y h1.2 h2.2 ((hp.same x y).1 e))
      rw [h1.1, h2.1] at h3
      exact h3) (fun x hx => List.mem_filter.2 ⟨List.mem_range.2 (rest_lt hE hp (List.mem_range.1 (List.mem_filter.1 hx).1)), by simp [hp.least]⟩)
    omega
  · rintro ⟨x, y, hx, hy, hc, hnc⟩
    -- the node has an edge to another one
    have hb : ∃ b, b ≠ a ∧ b < n ∧ Conn E a b := by
      apply Classical.byContradiction
      intro hno
      refine hnc (hc (fun i j => Conn (without E a) i j) ⟨conn_eqv _, fun e he => ?_⟩)
      have hbd := hE e he
      by_cases h1 : e.1 = a
      · by_cases h2 : e.2 = a
        · rw [h1, h2]; exact (conn_eqv _).refl a
        · exact absurd ⟨e.2, h2, hbd.2, by rw [← h1]; exact conn_edge he⟩ hno
      · by_cases h2 : e.2 = a
        · exact absurd ⟨e.1, h1, hbd.1, by rw [← h2]; exact (conn_eqv _).symm (conn_edge he)⟩ hno
        · exact conn_edge (mem_without.2 ⟨he, h1, h2⟩)
    obtain ⟨b, hba, hbn, hab⟩ := hb
    have hxn : x < n ∧ y < n := by
      have key : ∀ i, Conn E x i → i = x ∨ (i < n ∧ x < n) := fun i hi => by
        have := hi (fun u v => u = v ∨ (u < n ∧ v < n)) ⟨⟨fun _ => Or.inl rfl, fun h => h.elim (fun h => Or.inl h.symm) (fun h => Or.inr ⟨h.2, h.1⟩), fun h k => by
          rcases h with rfl | h
          · exact k
          · rcases k with rfl | k
            · exact Or.inr h
            · exact Or.inr ⟨h.1, k.2⟩⟩, fun e he => Or.inr (hE e he)⟩
        rcases this with h | h
        · exact Or.inl h.symm
        · exact Or.inr ⟨h.2, h.1⟩
      rcases key y hc with h | h
      · subst h; exact absurd ((conn_eqv _).refl _) hnc
      · exact ⟨h.2, h.1⟩
    -- for each least one of a part, a least one without the node
    obtain ⟨g, hg⟩ : ∃ g : Nat → Nat, ∀ c, g c = if c = p x then q x else if c = a then q b else q c := ⟨_, fun _ => rfl⟩
    have hq1 : ∀ i, i ≠ a → q i ≠ a := fun i hi h => hi (without_alone hq (Or.inl h))
    have hpq : ∀ i, p (q i) = p i := fun i => ((hp.same i (q i)).2 (hmono (hq.conn i))).symm
    have hpg : ∀ c, p c = c → p (g c) = c := fun c hcc => by
      rw [hg]
      split
      · rename_i h; rw [hpq, h]
      · split
        · rename_i h; subst h
          rw [hpq, ← (hp.same c b).2 hab, hcc]
        · rw [hpq, hcc]
    have hgn : ∀ c, g c ≠ a := fun c => by
      rw [hg]
      split
      · exact hq1 x hx
      · split
        · exact hq1 b hba
        · rename_i h; exact hq1 c h
    have hgr : ∀ c, q (g c) = g c := fun c => by
      rw [hg]
      split
      · exact hq.least x
      · split
        · exact hq.least b
        · exact hq.least c
    have hgl : ∀ c, c < n → g c < n := fun c hcn => by
      rw [hg]
      split
      · have := hq.le x; omega
      · split
        · have := hq.le b; omega
        · have := hq.le c; omega
    have hqxy : q x ≠ q y := fun h => hnc ((hq.same x y).1 h)
    have hpxy : p x = p y := (hp.same x y).2 hc
    obtain ⟨h, hh⟩ : ∃ h : Nat → Nat, ∀ c, h c = if c = n then q y else g c := ⟨_, fun _ => rfl⟩
    have hyn : q y < n := by have := hq.le y; omega
    have hcnt := pigeon (f := h) (n :: (List.range n).filter fun i => decide (p i = i)) ((List.range n).filter fun i => decide (q i = i ∧ i ≠ a)) (List.nodup_cons.2 ⟨fun hm => by have := List.mem_range.1 (List.mem_filter.1 hm).1; omega, List.nodup_range.sublist List.filter_sublist⟩) (fun u hu v hv e => by
      have big : ∀ c, c ∈ (List.range n).filter (fun i => decide (p i = i)) → c < n ∧ p c = c := fun c hc => ⟨List.mem_range.1 (List.mem_filter.1 hc).1, of_decide_eq_true (List.mem_filter.1 hc).2⟩
      have no : ∀ c, c < n → p c = c → g c ≠ q y := fun c h1 h2 h3 => by
        have h4 := hpg c h2
        rw [h3, hpq, ← hpxy] at h4
        have : g c = q x := by rw [hg, if_pos h4.symm]
        exact hqxy (this.symm.trans h3)
      rw [hh, hh] at e
      rcases List.mem_cons.1 hu with rfl | hu
      · rcases List.mem_cons.1 hv with rfl | hv
        · rfl
        · obtain ⟨v1, v2⟩ := big v hv
          rw [if_pos rfl, if_neg (by omega)] at e
          exact absurd e.symm (no v v1 v2)
      · obtain ⟨u1, u2⟩ := big u hu
        rcases List.mem_cons.1 hv with rfl | hv
        · rw [if_neg (by omega), if_pos rfl] at e
          exact absurd e (no u u1 u2)
        · obtain ⟨v1, v2⟩ := big v hv
          rw [if_neg (by omega), if_neg (by omega)] at e
          have := hpg u u2
          rw [e, hpg v v2] at this
          exact this.symm) (fun c hc => by
      refine List.mem_filter.2 ⟨List.mem_range.2 ?_, decide_eq_true ?_⟩
      · rw [hh]
        rcases List.mem_cons.1 hc with rfl | hc
        · rw [if_pos rfl]; exact hyn
        · have := List.mem_range.1 (List.mem_filter.1 hc).1
          rw [if_neg (by omega)]
          exact hgl c this
      · rw [hh]
        rcases List.mem_cons.1 hc with rfl | hc
        · rw [if_pos rfl]; exact ⟨hq.least y, hq1 y hy⟩
        · have := List.mem_range.1 (List.mem_filter.1 hc).1
          rw [if_neg (by omega)]
          exact ⟨hgr c, hgn c⟩)
    rw [List.length_cons] at hcnt
    omega

end Go.Proofs.YtcfemppdeidjmadGreat.Br

namespace Go.Proofs.YtcfemppdeidjmadGreat.Br
set_option linter.unusedVariables false

variable {f : Nat → Int × Int} {m n k k' i j : Nat} {x x' : Int} {E E' A B : List (Nat × Nat)} {e : Nat × Nat}

/-- Both are nodes, the lesser one first. -/
def Sane (n : Nat) (f : Nat → Int × Int) (k : Nat) : Prop := 0 ≤ (f k).1 ∧ (f k).1 < (f k).2 ∧ (f k).2 < n
/-- It rises. -/
def Climbs (f : Nat → Int × Int) (k : Nat) : Prop := 0 < k → (f (k - 1)).1 < (f k).1 ∨ (f (k - 1)).1 = (f k).1 ∧ (f (k - 1)).2 < (f k).2
def May (n : Nat) (f : Nat → Int × Int) (k : Nat) : Prop := Sane n f k ∧ Climbs f k
def Bad (n : Nat) (f : Nat → Int × Int) (k : Nat) (x : Int) : Prop := (¬ Sane n f k ∧ x = 1) ∨ (Sane n f k ∧ ¬ Climbs f k ∧ x = 2)

theorem Bad.not (h : Bad n f k x) : ¬ May n f k := by
  rintro ⟨h1, h2⟩
  rcases h with ⟨h, _⟩ | ⟨_, h, _⟩
  · exact h h1
  · exact h h2
theorem Bad.one (h : Bad n f k x) (h' : Bad n f k x') : x = x' := by
  rcases h with ⟨a1, a2⟩ | ⟨a1, _, a2⟩ <;> rcases h' with ⟨b1, b2⟩ | ⟨b1, _, b2⟩
  · omega
  · exact absurd b1 a1
  · exact absurd a1 b1
  · omega
theorem Bad.pos (h : Bad n f k x) : x ≠ 0 := by rcases h with ⟨_, h⟩ | ⟨_, _, h⟩ <;> omega
theorem bad_or (n : Nat) (f : Nat → Int × Int) (k : Nat) : May n f k ∨ ∃ x, Bad n f k x := by
  by_cases h1 : Sane n f k
  · by_cases h2 : Climbs f k
    · exact Or.inl ⟨h1, h2⟩
    · exact Or.inr ⟨2, Or.inr ⟨h1, h2, rfl⟩⟩
  · exact Or.inr ⟨1, Or.inl ⟨h1, rfl⟩⟩

/-- Of m edges at n nodes: the place of the first one that is wrong, and how. -/
def EFault (n : Int) (m : Nat) (f : Nat → Int × Int) (k : Nat) (x : Int) : Prop :=
  ((n < 1 ∨ 60 < n) ∧ k = 0 ∧ x = 1) ∨ ((1 ≤ n ∧ n ≤ 60) ∧ 200 < m ∧ k = 0 ∧ x = 3) ∨
  ((1 ≤ n ∧ n ≤ 60) ∧ m ≤ 200 ∧ k < m ∧ (∀ j, j < k → May n.toNat f j) ∧ Bad n.toNat f k x) ∨ ((1 ≤ n ∧ n ≤ 60) ∧ m ≤ 200 ∧ (∀ j, j < m → May n.toNat f j) ∧ k = 0 ∧ x = 0)

theorem EFault.one {n : Int} (h : EFault n m f k x) (h' : EFault n m f k' x') : k = k' ∧ x = x' := by
  rcases h with ⟨a1, a2, a3⟩ | ⟨a1, a2, a3, a4⟩ | ⟨a1, a2, a3, a4, a5⟩ | ⟨a1, a2, a3, a4, a5⟩ <;> rcases h' with ⟨b1, b2, b3⟩ | ⟨b1, b2, b3, b4⟩ | ⟨b1, b2, b3, b4, b5⟩ | ⟨b1, b2, b3, b4, b5⟩
  case inr.inr.inl.inr.inr.inl =>
    rcases Nat.lt_trichotomy k k' with q | q | q
    · exact absurd (b4 k q) a5.not
    · subst q
      exact ⟨rfl, a5.one b5⟩
    · exact absurd (a4 k' q) b5.not
  case inr.inr.inl.inr.inr.inr => exact absurd (b3 k a3) a5.not
  case inr.inr.inr.inr.inr.inl => exact absurd (a3 k' b3) b5.not
  all_goals omega

/-- All that is handed in may be. -/
def Valid (n : Int) (m : Nat) (f : Nat → Int × Int) : Prop := (1 ≤ n ∧ n ≤ 60) ∧ m ≤ 200 ∧ ∀ j, j < m → May n.toNat f j

theorem fault_or (n : Int) (m : Nat) (f : Nat → Int × Int) : Valid n m f ∨ ∃ k x, EFault n m f k x ∧ x ≠ 0 := by
  by_cases h1 : n < 1 ∨ 60 < n
  · exact Or.inr ⟨0, 1, Or.inl ⟨h1, rfl, rfl⟩, by decide⟩
  by_cases h2 : 200 < m
  · exact Or.inr ⟨0, 3, Or.inr (Or.inl ⟨by omega, h2, rfl, rfl⟩), by decide⟩
  have key : ∀ t, t ≤ m → (∃ k x, k < t ∧ (∀ j, j < k → May n.toNat f j) ∧ Bad n.toNat f k x) ∨ ∀ j, j < t → May n.toNat f j := by
    intro t
    induction t with
    | zero => exact fun _ => Or.inr fun j hj => absurd hj (Nat.not_lt_zero _)
    | succ t ih =>
      intro ht
      rcases ih (by omega) with ⟨k, x, q1, q2, q3⟩ | hall
      · exact Or.inl ⟨k, x, by omega, q2, q3⟩
      · rcases bad_or n.toNat f t with hm | ⟨x, hb⟩
        · refine Or.inr fun j hj => ?_
          rcases Nat.lt_or_ge j t with q | q
          · exact hall j q
          · obtain rfl : j = t := by omega
            exact hm
        · exact Or.inl ⟨t, x, by omega, hall, hb⟩
  rcases key m (Nat.le_refl _) with ⟨k, x, q1, q2, q3⟩ | hall
  · exact Or.inr ⟨k, x, Or.inr (Or.inr (Or.inl ⟨by omega, by omega, q1, q2, q3⟩)), q3.pos⟩
  · exact Or.inl ⟨by omega, by omega, hall⟩

theorem Valid.fault {n : Int} (h : Valid n m f) : EFault n m f 0 0 := Or.inr (Or.inr (Or.inr ⟨h.1, h.2.1, h.2.2, rfl, rfl⟩))

/-- The list that they are. -/
def edges (f : Nat → Int × Int) (m : Nat) : List (Nat × Nat) := (List.range m).map fun i => ((f i).1.toNat, (f i).2.toNat)

theorem edges_len (f : Nat → Int × Int) (m : Nat) : (edges f m).length = m := by simp [edges]
theorem edges_get (h : i < m) : (edges f m)[i]? = some ((f i).1.toNat, (f i).2.toNat) := by simp [edges, h]
theorem edges_getD (h : i < m) : (edges f m).getD i (0, 0) = ((f i).1.toNat, (f i).2.toNat) := by rw [List.getD_eq_getElem?_getD, edges_get h]; rfl

/-- A list that rises. -/
def Up (E : List (Nat × Nat)) : Prop := E.Pairwise fun x y => x.1 < y.1 ∨ x.1 = y.1 ∧ x.2 < y.2

theorem Up.nodup (h : Up E) : E.Nodup := h.imp fun {x y} q e => by subst e; omega

theorem climb (h : ∀ j, j < m → May n f j) : ∀ {j i : Nat}, i < j → j < m → (f i).1 < (f j).1 ∨ (f i).1 = (f j).1 ∧ (f i).2 < (f j).2 := by
  intro j
  induction j with
  | zero => intro i hi; exact absurd hi (Nat.not_lt_zero _)
  | succ j ih =>
    intro i hi hj
    have h1 := (h (j + 1) hj).2 (by omega)
    rw [Nat.add_sub_cancel] at h1
    rcases Nat.lt_or_ge i j with q | q
    · have h2 := ih q (by omega)
      omega
    · obtain rfl : i = j := by omega
      exact h1

theorem edges_up (h : ∀ j, j < m → May n f j) : Up (edges f m) := by
  unfold Up edges
  rw [List.pairwise_map]
  refine List.Pairwise.imp_of_mem ?_ (List.pairwise_lt_range (n := m))
  intro i j hi hj hij
  rw [List.mem_range] at hi hj
  have h1 := climb h hij hj
  have h2 := (h i hi).1
  have h3 := (h j hj).1
  unfold Sane at h2 h3
  show (f i).1.toNat < (f j).1.toNat ∨ _ = _ ∧ (f i).2.toNat < (f j).2.toNat
  omega

theorem edges_among (h : ∀ j, j < m → May n f j) : Among n (edges f m) := fun e he => by
  obtain ⟨i, hi, rfl⟩ := List.mem_map.1 he
  have h2 := (h i (List.mem_range.1 hi)).1
  unfold Sane at h2
  show (f i).1.toNat < n ∧ (f i).2.toNat < n
  omega

/-- A bridge: without it there is no way between its nodes. -/
def Bridge (E : List (Nat × Nat)) (e : Nat × Nat) : Prop := ¬ Conn (E.erase e) e.1 e.2

/-- Such are the bridges. -/
def Brs (E L : List (Nat × Nat)) : Prop := ∃ t : Nat × Nat → Bool, (∀ e ∈ E, t e = true ↔ Bridge E e) ∧ L = E.filter t

theorem Brs.one {L L' : List (Nat × Nat)} (h : Brs E L) (h' : Brs E L') : L = L' := by
  obtain ⟨t, h1, rfl⟩ := h
  obtain ⟨t', h2, rfl⟩ := h'
  exact List.filter_congr fun e he => by rw [Bool.eq_iff_iff, h1 e he, h2 e he]

theorem brs_some (E : List (Nat × Nat)) : ∃ t : Nat × Nat → Bool, ∀ e, t e = true ↔ Bridge E e := ⟨fun e => @decide (Bridge E e) (Classical.propDecidable _), fun e => by simp⟩

/-- Such are the joints. -/
def Jts (n : Nat) (E : List (Nat × Nat)) (L : List Nat) : Prop := ∃ t : Nat → Bool, (∀ a, a < n → (t a = true ↔ Joint E a)) ∧ L = (List.range n).filter t

theorem Jts.one {L L' : List Nat} (h : Jts n E L) (h' : Jts n E L') : L = L' := by
  obtain ⟨t, h1, rfl⟩ := h
  obtain ⟨t', h2, rfl⟩ := h'
  exact List.filter_congr fun a ha => by rw [Bool.eq_iff_iff, h1 a (List.mem_range.1 ha), h2 a (List.mem_range.1 ha)]

theorem jts_some (E : List (Nat × Nat)) : ∃ t : Nat → Bool, ∀ a, t a = true ↔ Joint E a := ⟨fun a => @decide (Joint E a) (Classical.propDecidable _), fun a => by simp⟩

theorem erase_mid (h : Up (A ++ e :: B)) : (A ++ e :: B).erase e = A ++ B := by
  have h1 : e ∉ A := fun q => (List.nodup_append.1 h.nodup).2.2 e q e List.mem_cons_self rfl
  rw [List.erase_append_right _ h1, List.erase_cons_head]

/-- One edge more: each other bridge was one. -/
theorem bridge_less (hs : ∀ x ∈ E, x ∈ E') (hn : E.Nodup) (hn' : E'.Nodup) (h : Bridge E' e) : Bridge E e := fun hc => h (conn_mono (fun x hx => by
  rw [hn.mem_erase_iff] at hx
  exact (hn'.mem_erase_iff).2 ⟨hx.1, hs x hx.2⟩) hc)

/-- The edge that is more is a bridge just if its nodes were not joined. -/
theorem bridge_new (h : Up (A ++ e :: B)) : Bridge (A ++ e :: B) e ↔ ¬ Conn (A ++ B) e.1 e.2 := by unfold Bridge; rw [erase_mid h]

theorem rest_less {p q : Nat → Nat} (hs : ∀ x ∈ E, x ∈ E') (hp : Rest E p) (hq : Rest E' q) (i : Nat) : q i ≤ p i ∧ q i = q (p i) := by
  have h1 := (hq.same i (p i)).2 (conn_mono hs (hp.conn i))
  have h2 := hq.le (p i)
  omega

end Go.Proofs.YtcfemppdeidjmadGreat.Br

namespace Go.Proofs.YtcfemppdeidjmadGreat.Br
open Go.RowKit Go.Deep
open Go.RowKit (Below)
set_option linter.unusedVariables false

theorem Tryz.infoInt : (Tryz.prog.info? 3).map (fun i => (i.zero, i.size, i.bytes)) = some (some (.int .i64 0), 1, 8) := by kernel_rfl

theorem cell_keep {W w' : World} {p : Addr} {v : Value} (hb : Below W.heap.size W w') (h : W.cell? p = some v) : w'.cell? p = some v :=
  (hb.cell (World.block_lt_of_cell? _ _ h)).trans h
theorem below_step {w a b : World} (h1 : Below w.heap.size w a) (h2 : Below a.heap.size a b) : Below w.heap.size w b := h1.trans (h2.mono h1.size)
theorem below_drewN {w a : World} {n : Nat} (h : a = w.drewN n) : Below w.heap.size w a := by
  subst h
  induction n with
  | zero => exact Below.refl _ _
  | succ n ih => exact ih.drew

def ev (a b : Int) : Value := .agg #[.int .i64 a, .int .i64 b]

theorem cell_one_new (w : World) (v : Value) (t : TypeId) : ∀ k u, [v][k]? = some u → (w.alloc (.cells #[v] t)).cell? (Addr.add ⟨w.heap.size, 0, none⟩ k) = some u
  | 0, u, h => by simp at h; subst h; simp [Addr.add]
  | k + 1, u, h => by simp at h

variable {w w' : World} {p p' : Nat → Nat} {E E' : List (Nat × Nat)}

/-- An edge's two cells. -/
def two (e : Nat × Nat) : List Value := [.int .i64 (e.1 : Int), .int .i64 (e.2 : Int)]
def twos (l : List (Nat × Nat)) : List Value := l.flatMap two

theorem twos_len (l : List (Nat × Nat)) : (twos l).length = l.length * 2 := by
  induction l with
  | nil => rfl
  | cons e l ih => simp only [twos, List.flatMap_cons, List.length_append] at ih ⊢; rw [ih]; simp [two]; omega

theorem twos_snoc (l : List (Nat × Nat)) (e : Nat × Nat) : twos (l ++ [e]) = twos l ++ two e := by simp [twos]

set_option maxRecDepth 1000000 in
theorem Tryz.infoEdge : (Tryz.prog.info? 32).map (fun i => (i.zero, i.size, i.bytes)) = some (some (.agg #[.int .i64 0, .int .i64 0]), 2, 16) := by kernel_rfl

theorem twos_get : ∀ (ss : List (Nat × Nat)) (j : Nat), j < ss.length * 2 → (twos ss)[j]? = some ((two (ss.getD (j / 2) (0, 0))).getD (j % 2) undef)
  | [], j, h => by simp at h
  | e :: l, 0, _ => rfl
  | e :: l, 1, _ => rfl
  | e :: l, j + 2, h => by
    have ih := twos_get l j (by simp at h; omega)
    rw [show twos (e :: l) = two e ++ twos l by simp [twos], List.getElem?_append_right (by simp [two]), show j + 2 - (two e).length = j by simp [two], ih]
    rw [show (j + 2) / 2 = j / 2 + 1 by omega, show (j + 2) % 2 = j % 2 by omega]
    rfl

/-- A list of edges lies in memory. -/
structure EdgesAt (w : World) (a : Option Addr) (E : List (Nat × Nat)) : Prop where
  cell : ∀ i, i < E.length → ∃ b o, a = some ⟨b, o, none⟩ ∧ w.cell? ⟨b, o + i * 2, none⟩ = some (.int .i64 ((E.getD i (0, 0)).1 : Nat)) ∧ w.cell? ⟨b, o + i * 2 + 1, none⟩ = some (.int .i64 ((E.getD i (0, 0)).2 : Nat))

theorem own_edges {base n : Nat} {ty : TypeId} {v : Value} {F : List (Nat × Nat)} (h : w.ownsRow base ty 2 v n (twos F)) (hn : F.length = n) : ∃ a c, v = .slice a n c ∧ EdgesAt w a F ∧ n ≤ c ∧ c ≤ maxLen := by
  rcases h.2 with ⟨hv, h0⟩ | ⟨g', cap', cur, hv, hb, hg, h1, h2, h3, h4⟩
  · subst h0
    exact ⟨none, 0, hv, ⟨fun i hi => by omega⟩, Nat.le_refl _, Nat.zero_le _⟩
  · subst hv
    refine ⟨_, _, rfl, ⟨fun i hi => ⟨g', 0, rfl, ?_, ?_⟩⟩, h1, h2⟩
    · have e := twos_get F (i * 2) (by omega)
      rw [← h4, List.getElem?_take, if_pos (by omega), show i * 2 / 2 = i by omega, show i * 2 % 2 = 0 by omega] at e
      simp only [World.cell?, hg]
      simpa [two] using e
    · have e := twos_get F (i * 2 + 1) (by omega)
      rw [← h4, List.getElem?_take, if_pos (by omega), show (i * 2 + 1) / 2 = i by omega, show (i * 2 + 1) % 2 = 1 by omega] at e
      simp only [World.cell?, hg]
      simpa [two] using e

theorem own_mono {base base' n s : Nat} {ty : TypeId} {v : Value} {xs : List Value} (h : w.ownsRow base ty s v n xs) (hb : base' ≤ base) : w.ownsRow base' ty s v n xs := by
  refine ⟨h.1, ?_⟩
  rcases h.2 with h0 | ⟨g, cap, cur, hv, h1, h2⟩
  · exact Or.inl h0
  · exact Or.inr ⟨g, cap, cur, hv, Nat.le_trans hb h1, h2⟩

theorem own_keep {base n s : Nat} {ty : TypeId} {v : Value} {xs : List Value} (h : w.ownsRow base ty s v n xs) (hb : Below w.heap.size w w') : w'.ownsRow base ty s v n xs := by
  refine ⟨h.1, ?_⟩
  rcases h.2 with h0 | ⟨g, cap, cur, hv, h1, h2, h3⟩
  · exact Or.inl h0
  · exact Or.inr ⟨g, cap, cur, hv, h1, (hb.block g (Array.getElem?_eq_some_iff.1 h2).1).trans h2, h3⟩

theorem EdgesAt.below {a : Option Addr} (h : EdgesAt w a E) (hb : Below w.heap.size w w') : EdgesAt w' a E := ⟨fun i hi => by
  obtain ⟨b, o, e, h1, h2⟩ := h.cell i hi
  exact ⟨b, o, e, cell_keep hb h1, cell_keep hb h2⟩⟩

theorem two_new (w : World) (x y : Nat) : ∀ j u, (two (x, y))[j]? = some u → (w.alloc (.cells #[.int .i64 (x : Int), .int .i64 (y : Int)] 32)).cell? (Addr.add ⟨w.heap.size, 0, none⟩ j) = some u := fun j u hj => by
  match j, hj with
  | 0, hj => cases hj; simp [Addr.add]
  | 1, hj => cases hj; simp [Addr.add]

/-- A list of numbers that may be written to. -/
structure Wr (w : World) (k n : Nat) (q : Nat → Nat) : Prop where
  cell : ∀ i, i < n → w.cell? ⟨k, i, none⟩ = some (.int .i64 (q i : Nat))
  free : ∀ i, i < n → w.frozen? ⟨k, i, none⟩ = false

theorem Wr.set {k n : Nat} {q : Nat → Nat} (h : Wr w k n q) (b x : Nat) (hb : b < n) : Wr (w.setCell ⟨k, b, none⟩ (.int .i64 (x : Nat))) k n (tell q b x) := by
  refine ⟨fun i hi => ?_, fun i hi => by rw [World.frozen?_setCell]; exact h.free i hi⟩
  unfold tell
  by_cases e : i = b
  · subst e
    rw [if_pos rfl]
    exact World.cell?_setCell_same (h := h.cell i hi) ..
  · rw [if_neg e]
    exact (World.cell?_setCell_other (h := by simp only [ne_eq, Addr.mk.injEq, not_and]; intro _ h1; exact absurd h1.symm e) ..).trans (h.cell i hi)

/-- The sum of such a list, read off the world. -/
def sumAt (w : World) (k n : Nat) : Nat := total (fun i => match w.cell? ⟨k, i, none⟩ with | some (.int _ x) => x.toNat | _ => 0) n

theorem Wr.sum {k n : Nat} {q : Nat → Nat} (h : Wr w k n q) : sumAt w k n = total q n := by
  unfold sumAt
  refine total_congr n fun i hi => ?_
  rw [h.cell i hi]
  exact Int.toNat_natCast _

theorem own_wr {base e cap k n : Nat} {q : Nat → Nat} (h : w.ownsRow base 3 1 (.slice (some ⟨k, 0, none⟩) n cap) n ((List.range n).map fun i => Value.int .i64 ((q i : Nat) : Int))) (hn : 0 < n) : Wr w k n q ∧ base ≤ k ∧ k < w.heap.size := by
  rcases h.2 with ⟨_, h0⟩ | ⟨g', cap', cur, hv, hb, hg, h1, h2, h3, h4⟩
  · omega
  · simp only [Value.slice.injEq, Option.some.injEq, Addr.mk.injEq, and_true, true_and] at hv
    obtain ⟨rfl, rfl⟩ := hv
    refine ⟨⟨fun i hi => ?_, fun i hi => by simp [World.frozen?, hg]⟩, hb, (Array.getElem?_eq_some_iff.1 hg).1⟩
    have e1 : (cur.toList.take (n * 1))[i]? = some (Value.int .i64 ((q i : Nat) : Int)) := by rw [h4]; simp [hi]
    rw [List.getElem?_take, if_pos (by omega)] at e1
    simp only [World.cell?, hg]
    simpa using e1

/-- Is this the edge of x and y? -/
def IsOf (e : Nat × Nat) (x y : Int) : Prop := (e.1 : Int) = min x y ∧ (e.2 : Int) = max x y

theorem edges_cells {b o : Nat} (h : EdgesAt w (some ⟨b, o, none⟩) E) (j : Nat) (u : Value) (hu : (twos E)[j]? = some u) : w.cell? ⟨b, o + j, none⟩ = some u := by
  have hj : j < E.length * 2 := by rw [← twos_len]; exact (List.getElem?_eq_some_iff.1 hu).1
  rw [twos_get E j hj] at hu
  obtain ⟨b', o', e, h1, h2⟩ := h.cell (j / 2) (by omega)
  simp only [Option.some.injEq, Addr.mk.injEq, and_true] at e
  obtain ⟨rfl, rfl⟩ := e
  generalize E.getD (j / 2) (0, 0) = x at *
  rcases Nat.mod_two_eq_zero_or_one j with c | c
  · rw [c] at hu
    rw [show j / 2 * 2 = j by omega] at h1
    rw [h1, ← hu]; rfl
  · rw [c] at hu
    rw [show o + j / 2 * 2 + 1 = o + j by omega] at h2
    rw [h2, ← hu]; rfl

theorem two_one (l : List (Nat × Nat)) : ∀ u ∈ twos l, u.oneCell' = true := fun u hu => by
  simp only [twos, List.mem_flatMap, two, List.mem_cons, List.not_mem_nil, or_false] at hu
  obtain ⟨e, _, rfl | rfl⟩ := hu <;> rfl

theorem add_at (b i j : Nat) : (⟨b, i, none⟩ : Addr).add j = ⟨b, i + j, none⟩ := by unfold Addr.add; split <;> simp_all

theorem twos_app (A B : List (Nat × Nat)) : twos (A ++ B) = twos A ++ twos B := by simp [twos]

end Go.Proofs.YtcfemppdeidjmadGreat.Br
