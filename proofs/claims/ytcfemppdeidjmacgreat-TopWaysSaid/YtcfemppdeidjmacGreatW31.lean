/-
  Pn Pf Po Pp
-/
import Derived.Test.YtcfemppdeidjmacGreatW20
import Derived.Test.YtcfemppdeidjmacGreatW25
import Derived.Test.YtcfemppdeidjmacGreatW30
import Derived.Test.YtcfemppdeidjmacGreatW19
import Derived.Test.YtcfemppdeidjmacGreatW18
import Derived.Laws.Bits64b
import Derived.Laws.CopyOwn
namespace Go.Proofs.YtcfemppdeidjmacGreat.Pt
open Go.Proofs.YtcfemppdeidjmacGreat.Br
set_option linter.unusedVariables false

variable {E : List (Nat × Nat)} {a b u v i j k n m : Nat} {Q : List Nat} {d : Nat → Int}

structure Reach (E : List (Nat × Nat)) (a : Nat) (Q : List Nat) (d : Nat → Int) (i : Nat) : Prop where
  head : Q[0]? = some a
  nd : Q.Nodup
  dist : ∀ x ∈ Q, ∃ k, Dist E a x k ∧ d x = (k : Nat)
  out : ∀ x, x ∉ Q → d x = -1
  done : ∀ p x y : Nat, p < i → Q[p]? = some x → Next E x y → y ∈ Q
  up : ∀ p q x y k j : Nat, p ≤ q → Q[p]? = some x → Q[q]? = some y → Dist E a x k → Dist E a y j → k ≤ j
  near : ∀ x k : Nat, Q[i]? = some x → Dist E a x k → ∀ y ∈ Q, ∀ j, Dist E a y j → j ≤ k + 1
  less : ∀ x k : Nat, Q[i]? = some x → Dist E a x k → ∀ y j : Nat, Dist E a y j → j < k → ∃ p, p < i ∧ Q[p]? = some y

theorem reach_start (E : List (Nat × Nat)) (a : Nat) : Reach E a [a] (fun x => if x = a then 0 else -1) 0 := by
  have one : ∀ (p x : Nat), [a][p]? = some x → p = 0 ∧ x = a := fun p x h => by
    cases p with
    | zero => simp at h; exact ⟨rfl, h.symm⟩
    | succ p => simp at h
  refine ⟨rfl, by simp, fun x hx => ?_, fun x hx => ?_, fun p x y hp => absurd hp (Nat.not_lt_zero _), fun p q x y k j _ h1 h2 h3 h4 => ?_, fun x k h1 h2 y hy j h3 => ?_, fun x k h1 h2 y j h3 h4 => ?_⟩
  · obtain rfl : x = a := by simpa using hx
    exact ⟨0, dist_self E x, by simp⟩
  · have : x ≠ a := by simpa using hx
    simp [this]
  · obtain ⟨_, rfl⟩ := one _ _ h1
    obtain ⟨_, rfl⟩ := one _ _ h2
    rw [h3.one h4]; exact Nat.le_refl _
  · obtain rfl : y = a := by simpa using hy
    rw [h3.one (dist_self E y)]; omega
  · obtain ⟨_, rfl⟩ := one _ _ h1
    rw [h2.one (dist_self E x)] at h4
    omega

theorem Reach.lt (h : Reach E a Q d i) (hi : i < Q.length) : ∃ u, Q[i]? = some u ∧ u ∈ Q := ⟨_, List.getElem?_eq_getElem hi, List.getElem_mem hi⟩

theorem Reach.push (h : Reach E a Q d i) (hu : Q[i]? = some u) (hn : Next E u v) (hv : v ∉ Q) (hk : d u = (k : Nat)) : Reach E a (Q ++ [v]) (put d v ((k + 1 : Nat) : Int)) i := by
  have huQ : u ∈ Q := List.mem_of_getElem? hu
  obtain ⟨k', hd, hk'⟩ := h.dist u huQ
  obtain rfl : k' = k := by omega
  have hdv : Dist E a v (k' + 1) := by
    obtain ⟨j, hj, hjk⟩ := hd.near (c := v) hn.symm
    rcases Nat.lt_or_ge j (k' + 1) with q | q
    · exfalso
      cases j with
      | zero =>
        obtain rfl := dist_zero hj
        exact hv (List.mem_of_getElem? h.head)
      | succ j =>
        obtain ⟨c, h1, h2⟩ := hj.next
        obtain ⟨p, hp, hc⟩ := h.less u k' hu hd c j h2 (by omega)
        exact hv (h.done p c v hp hc h1.symm)
    · obtain rfl : j = k' + 1 := by omega
      exact hj
  have hi : i < Q.length := (List.getElem?_eq_some_iff.1 hu).1
  have old : ∀ p, p < Q.length → (Q ++ [v])[p]? = Q[p]? := fun p hp => List.getElem?_append_left hp
  have oldi : (Q ++ [v])[i]? = Q[i]? := old i hi
  have part : ∀ p x, (Q ++ [v])[p]? = some x → (p < Q.length ∧ Q[p]? = some x) ∨ (p = Q.length ∧ x = v) := fun p x hx => by
    rcases Nat.lt_or_ge p Q.length with q | q
    · exact Or.inl ⟨q, by rw [← old p q]; exact hx⟩
    · have hl := (List.getElem?_eq_some_iff.1 hx).1
      rw [List.length_append, List.length_singleton] at hl
      obtain rfl : p = Q.length := by omega
      rw [List.getElem?_append_right (Nat.le_refl _), Nat.sub_self] at hx
      simp at hx
      exact Or.inr ⟨rfl, hx.symm⟩
  refine ⟨by rw [old 0 (by omega)]; exact h.head, ?_, fun x hx => ?_, fun x hx => ?_, fun p x y hp hx hxy => ?_, fun p q x y k1 k2 hpq h1 h2 h3 h4 => ?_, fun x k1 h1 h2 y hy j hj => ?_, fun x k1 h1 h2 y j hj hlt => ?_⟩
  · rw [List.nodup_append]
    refine ⟨h.nd, by simp, fun x hx y hy e => ?_⟩
    obtain rfl : y = v := by simpa using hy
    exact hv (e ▸ hx)
  · rcases List.mem_append.1 hx with q | q
    · obtain ⟨j, h1, h2⟩ := h.dist x q
      exact ⟨j, h1, (put_other (fun e : x = v => hv (e ▸ q))).trans h2⟩
    · obtain rfl : x = v := by simpa using q
      exact ⟨k' + 1, hdv, put_same⟩
  · rw [List.mem_append, not_or] at hx
    rw [put_other (by simpa using hx.2)]
    exact h.out x hx.1
  · rw [old p (by omega)] at hx
    exact List.mem_append_left _ (h.done p x y hp hx hxy)
  · rcases part p x h1 with ⟨p1, p2⟩ | ⟨rfl, rfl⟩
    · rcases part q y h2 with ⟨q1, q2⟩ | ⟨rfl, rfl⟩
      · exact h.up p q x y k1 k2 hpq p2 q2 h3 h4
      · rw [h4.one hdv]
        exact h.near u k' hu hd x (List.mem_of_getElem? p2) k1 h3
    · rcases part q y h2 with ⟨q1, q2⟩ | ⟨rfl, rfl⟩
      · omega
      · rw [h3.one h4]; exact Nat.le_refl _
  · rw [oldi, hu] at h1
    cases h1
    rw [h2.one hd]
    rcases List.mem_append.1 hy with q | q
    · exact h.near u k' hu hd y q j hj
    · obtain rfl : y = v := by simpa using q
      rw [hj.one hdv]; exact Nat.le_refl _
  · rw [oldi] at h1
    obtain ⟨p, hp, hq⟩ := h.less x k1 h1 h2 y j hj hlt
    exact ⟨p, hp, by rw [old p (by omega)]; exact hq⟩

theorem Reach.step (h : Reach E a Q d i) (hu : Q[i]? = some u) (hn : ∀ y, Next E u y → y ∈ Q) : Reach E a Q d (i + 1) := by
  have huQ : u ∈ Q := List.mem_of_getElem? hu
  obtain ⟨k, hd, hk⟩ := h.dist u huQ
  have hdone : ∀ p x y, p < i + 1 → Q[p]? = some x → Next E x y → y ∈ Q := fun p x y hp hx hxy => by
    rcases Nat.lt_or_ge p i with q | q
    · exact h.done p x y q hx hxy
    · obtain rfl : p = i := by omega
      rw [hu] at hx
      cases hx
      exact hn y hxy
  refine ⟨h.head, h.nd, h.dist, h.out, hdone, h.up, fun x k1 h1 h2 y hy j hj => ?_, fun x k1 h1 h2 y j hj hlt => ?_⟩
  · have hkk := h.up i (i + 1) u x k k1 (by omega) hu h1 hd h2
    have := h.near u k hu hd y hy j hj
    omega
  · have hkk := h.up i (i + 1) u x k k1 (by omega) hu h1 hd h2
    have hk1 := h.near u k hu hd x (List.mem_of_getElem? h1) k1 h2
    rcases Nat.lt_or_ge j k with q | q
    · obtain ⟨p, hp, hq⟩ := h.less u k hu hd y j hj q
      exact ⟨p, by omega, hq⟩
    · obtain rfl : j = k := by omega
      cases j with
      | zero =>
        obtain rfl := dist_zero hj
        exact ⟨0, by omega, h.head⟩
      | succ j =>
        obtain ⟨c, c1, c2⟩ := hj.next
        obtain ⟨p, hp, hc⟩ := h.less u (j + 1) hu hd c j c2 (by omega)
        have hyQ := h.done p c y hp hc c1.symm
        obtain ⟨r, hr, he⟩ := List.mem_iff_getElem.1 hyQ
        have hr' : Q[r]? = some y := by rw [List.getElem?_eq_getElem hr, he]
        rcases Nat.lt_or_ge r (i + 1) with z | z
        · exact ⟨r, z, hr'⟩
        · have := h.up (i + 1) r x y k1 (j + 1) z h1 hr' h2 hj
          omega

theorem Reach.far (h : Reach E a Q d Q.length) (x : Nat) : Far E a x (d x) := by
  by_cases hx : x ∈ Q
  · obtain ⟨k, h1, h2⟩ := h.dist x hx
    exact Or.inl ⟨k, h1, h2⟩
  · refine Or.inr ⟨fun k hk => ?_, h.out x hx⟩
    have key : ∀ (k x : Nat), Walk E a x k → x ∈ Q := by
      intro k
      induction k with
      | zero =>
        intro x hw
        rw [hw.zero]
        exact List.mem_of_getElem? h.head
      | succ k ih =>
        intro x hw
        obtain ⟨c, h1, h2⟩ := hw.parts
        obtain ⟨p, hp, he⟩ := List.mem_iff_getElem.1 (ih c h2)
        exact h.done p c x hp (by rw [List.getElem?_eq_getElem hp, he]) h1.symm
    exact hx (key k x hk)

theorem Reach.few (h : Reach E a Q d i) (hE : Among n E) (ha : a < n) : Q.length ≤ n := by
  have := pigeon (f := id) Q (List.range n) h.nd (fun x _ y _ e => e) (fun x hx => by
    obtain ⟨k, h1, _⟩ := h.dist x hx
    exact List.mem_range.2 (walk_lt hE h1.1 ha))
  simpa using this

theorem Reach.among (h : Reach E a Q d i) (hE : Among n E) (ha : a < n) {x : Nat} (hx : x ∈ Q) : x < n := by
  obtain ⟨k, h1, _⟩ := h.dist x hx
  exact walk_lt hE h1.1 ha

theorem Reach.known (h : Reach E a Q d i) (x : Nat) : d x = -1 ↔ x ∉ Q := by
  constructor
  · intro e hx
    obtain ⟨k, _, h2⟩ := h.dist x hx
    omega
  · exact h.out x

theorem nbl_up (hu : Up E) (hlt : ∀ e ∈ E, e.1 < e.2) (i : Nat) : (nbl E i).Pairwise (· < ·) := by
  unfold nbl
  rw [List.pairwise_flatMap]
  refine ⟨fun e _ => ?_, ?_⟩
  · split
    · simp
    · split <;> simp
  · refine List.Pairwise.imp_of_mem (fun {x y} hx hy hxy => ?_) hu
    have h1 := hlt x hx
    have h2 := hlt y hy
    intro p hp q hq
    split at hp
    · split at hq
      · simp at hp hq; omega
      · split at hq
        · simp at hp hq; omega
        · cases hq
    · split at hp
      · split at hq
        · simp at hp hq; omega
        · split at hq
          · simp at hp hq; omega
          · cases hq
      · cases hp

theorem first_near (hp : (nbl E u).Pairwise (· < ·)) (hN : ∀ y, Next E u y ↔ y ∈ nbl E u) {g : Nat} (hj : (nbl E u)[j]? = some v) (hv : Dist E b v g) (hno : ∀ y ∈ (nbl E u).take j, ¬ Dist E b y g) : ∀ c, Next E u c → Dist E b c g → v ≤ c := by
  intro c h1 h2
  obtain ⟨p, hpl, he⟩ := List.mem_iff_getElem.1 ((hN c).1 h1)
  obtain ⟨hjl, hje⟩ := List.getElem?_eq_some_iff.1 hj
  rcases Nat.lt_trichotomy p j with q | q | q
  · exact absurd h2 (hno c (by rw [List.mem_take_iff_getElem]; exact ⟨p, by omega, he⟩))
  · subst q
    rw [← hje, ← he]; exact Nat.le_refl _
  · have := List.pairwise_iff_getElem.1 hp j p hjl hpl q
    omega

end Go.Proofs.YtcfemppdeidjmacGreat.Pt

namespace Go.Proofs.YtcfemppdeidjmacGreat.Pt
open Go.RowKit Go.Deep Go.Proofs.YtcfemppdeidjmacGreat.Br
open Go.RowKit (Below)
set_option linter.unusedVariables false

variable {w w' : World} {f : Nat → Int × Int}

def NumsAt (w : World) (a : Option Addr) (n : Nat) (g : Nat → Int) : Prop := ∀ i, i < n → ∃ b o, a = some ⟨b, o, none⟩ ∧ w.cell? ⟨b, o + i, none⟩ = some (.int .i64 (g i))

theorem NumsAt.below {a : Option Addr} {n : Nat} {g : Nat → Int} (h : NumsAt w a n g) (hb : Below w.heap.size w w') : NumsAt w' a n g := fun i hi => by
  obtain ⟨b, o, e, q⟩ := h i hi
  exact ⟨b, o, e, cell_keep hb q⟩

def Node (n x : Int) : Prop := 0 ≤ x ∧ x < n

end Go.Proofs.YtcfemppdeidjmacGreat.Pt

namespace Go.Proofs.YtcfemppdeidjmacGreat.Pt
open Go.RowKit Go.Deep Go.Proofs.YtcfemppdeidjmacGreat.Br
open Go.RowKit (Below)
set_option linter.unusedVariables false

variable {w w' w6 : World} {f : Nat → Int × Int} {kn n u base : Nat} {V : Nat → Value} {nb : Nat → List Nat} {E : List (Nat × Nat)}

structure LAt (base : Nat) (w : World) (kn n : Nat) (V : Nat → Value) (nb : Nat → List Nat) : Prop where
  row : w.rowIs kn 33 n V
  bn : base ≤ kn
  own : ∀ i, i < n → w.ownsRow base 3 1 (V i) (nb i).length (ints (nb i))
  off : ∀ i, i < n → ∀ k, (V i).ownBlock = some k → k ≠ kn
  apart : ∀ i j, i < n → j < n → i ≠ j → ∀ k, (V i).ownBlock = some k → (V j).ownBlock ≠ some k

theorem LAt.below (h : LAt base w kn n V nb) (hb : Below w.heap.size w w') : LAt base w' kn n V nb :=
  ⟨h.row.of_block (hb.block _ h.row.lt), h.bn, fun i hi => own_keep (h.own i hi) hb, h.off, h.apart⟩

theorem LAt.at (h : LAt base w kn n V nb) (hu : u < n) : w.cell? ⟨kn, u, none⟩ = some (V u) := h.row.cell hu
theorem LAt.fz (h : LAt base w kn n V nb) (i : Nat) : w.frozen? ⟨kn, i, none⟩ = false := h.row.frozen i

theorem LAt.push {K g1 cap x : Nat} (h : LAt base w kn n V nb) (hu : u < n) (hK : (nb u).length = K) (hown : w6.ownsRow base 3 1 (.slice (some ⟨g1, 0, none⟩) (K + 1) cap) (K + 1) (ints (nb u) ++ [.int .i64 ((x : Nat) : Int)])) (hg : w.grownBy w6 (V u).ownBlock) (hat : (V u).ownBlock = some g1 ∨ g1 = w.heap.size) :
    LAt base (w6.setCell ⟨kn, u, none⟩ (.slice (some ⟨g1, 0, none⟩) (K + 1) cap)) kn n (upd V u (.slice (some ⟨g1, 0, none⟩) (K + 1) cap)) (upd nb u (nb u ++ [x])) := by
  have e2 : w6.heap[kn]? = w.heap[kn]? := hg.block kn h.row.lt fun e => h.off u hu kn e.symm rfl
  have hne : g1 ≠ kn := by
    rcases hat with e | e
    · exact h.off u hu g1 e
    · have := h.row.lt
      omega
  have hn6 := h.row.of_block e2
  refine ⟨(hn6.set u _).congr fun i hi => ?_, h.bn, fun i hi => ?_, fun i hi k hk => ?_, fun i j hi hj hij k hk => ?_⟩
  · by_cases e : i = u
    · subst e; simp [upd_self]
    · simp only [if_neg e, upd_ne _ _ e]
  · by_cases e : i = u
    · subst e
      rw [upd_self, upd_self, List.length_append, hK, ints_snoc]
      exact ownsRow_setCell_other hown (a := ⟨kn, i, none⟩) (by simp [Value.ownBlock]; exact hne) _
    · rw [upd_ne _ _ e, upd_ne _ _ e]
      refine ownsRow_setCell_other (own_same (h.own i hi) fun k hk => hg.block k (own_bound (h.own i hi) hk).2 fun q => h.apart i u hi hu e k hk q.symm) (a := ⟨kn, u, none⟩) (fun q => ?_) _
      exact h.off i hi kn q rfl
  · by_cases e : i = u
    · subst e; rw [upd_self] at hk; cases hk; exact hne
    · rw [upd_ne _ _ e] at hk; exact h.off i hi k hk
  · by_cases e : i = u
    · subst e
      rw [upd_self] at hk
      cases hk
      rw [upd_ne _ _ (Ne.symm hij)]
      rcases hat with q | q
      · exact h.apart i j hi hj hij _ q
      · intro r
        have r1 : g1 < w.heap.size := (own_bound (h.own j hj) r).2
        omega
    · rw [upd_ne _ _ e] at hk
      by_cases e' : j = u
      · subst e'
        rw [upd_self]
        intro r
        cases r
        rcases hat with q | q
        · exact h.apart i j hi hj hij _ hk q
        · have r1 : g1 < w.heap.size := (own_bound (h.own i hi) hk).2
          omega
      · rw [upd_ne _ _ e']
        exact h.apart i j hi hj hij k hk

structure NearAt (w : World) (kn n : Nat) (V : Nat → Value) (nb : Nat → List Nat) : Prop where
  cell : ∀ i, i < n → w.cell? ⟨kn, i, none⟩ = some (V i)
  list : ∀ i, i < n → ∃ a c, V i = .slice a (nb i).length c ∧ IntsAt w a (nb i).length (nb i)

theorem LAt.near (h : LAt base w kn n V nb) : NearAt w kn n V nb := ⟨fun i hi => h.at hi, fun i hi => own_ints (h.own i hi) rfl⟩

theorem NearAt.below (h : NearAt w kn n V nb) (hb : Below w.heap.size w w') : NearAt w' kn n V nb := ⟨fun i hi => cell_keep hb (h.cell i hi), fun i hi => by
  obtain ⟨a, c, e, hI⟩ := h.list i hi
  exact ⟨a, c, e, hI.below hb⟩⟩

def NodesTold (n : Int) (q : Nat) (g : Nat → Int) (v : Value) : Prop := ((∃ i, i < q ∧ ¬ Node n (g i)) ∧ v = .iface 102 (.int .i64 1)) ∨ ((∀ i, i < q → Node n (g i)) ∧ v = .nilIface)

set_option maxRecDepth 100000 in
set_option maxHeartbeats 1000000 in
theorem pcheck_ok {a a' : Option Addr} {m c q c' : Nat} {g : Nat → Int} (h : EgAt w a m f) (n : Int) (hv : Valid n m f) (hg : NumsAt w a' q g) (hq : q ≤ 2) :
    Calls Tryz.prog 49 #[.int .i64 n, .slice a m c, .slice a' q c'] w fun e w' => ∃ v, e = .returned v ∧ NodesTold n q g v ∧ Below w.heap.size w w' := by
  have hch := check_any (c := c) h n
  have HV : Hid (EFault n m f 0 0) := hv.fault
  have HG : Hid (NumsAt w a' q g) := hg
  have hn : 1 ≤ n ∧ n ≤ 60 := hv.1
  clear h hv hg
  go_enter Tryz.func49, Tryz.ntmps49
  go_wp2_with fail
  refine hch.mono ?_
  rintro e w1 ⟨k1, x1, rfl, hF1, hb1⟩
  obtain ⟨rfl, rfl⟩ := hF1.one HV.out
  have he : errV 0 = .nilIface := if_pos rfl
  rw [he]
  have HB1 : Hid (Below w.heap.size w w1) := hb1
  clear hch hF1 he hb1
  go_wp2_with fail
  go_loopw [10, 22] (fun _ i wr => ∃ j : Nat, j ≤ q ∧ i = .int .i64 (j : Nat) ∧ (∀ i, i < j → Node n (g i)) ∧ Below w.heap.size w wr) (fun _ i _ => q - (intOf i).toNat)
  case atStart => exact ⟨0, Nat.zero_le _, rfl, fun i h => absurd h (Nat.not_lt_zero _), HB1.out⟩
  case round =>
    obtain ⟨j, hj, rfl, hall, hb⟩ := hrel
    have HA : Hid (∀ i, i < j → Node n (g i)) := hall
    have HB : Hid (Below w.heap.size w wr) := hb
    by_cases hlt : j < q
    · obtain ⟨b, o, rfl, c0⟩ := HG.out.below hb j hlt
      have i0 : (0 : Int) ≤ (j : Int) := by omega
      have i1 : (j : Int) < (q : Int) := by omega
      clear hall hb
      by_cases h1 : g j < 0
      · have HT : Hid (NodesTold n q g (.iface 102 (.int .i64 1))) := Or.inl ⟨⟨j, hlt, fun z => by unfold Node at z; omega⟩, rfl⟩
        go_wp2_with fail
        go_ret
        exact ⟨_, rfl, HT.out, HB.out⟩
      · by_cases h2 : n ≤ g j
        · have HT : Hid (NodesTold n q g (.iface 102 (.int .i64 1))) := Or.inl ⟨⟨j, hlt, fun z => by unfold Node at z; omega⟩, rfl⟩
          go_wp2_with fail
          go_ret
          exact ⟨_, rfl, HT.out, HB.out⟩
        · have HA2 : Hid (∀ i, i < j + 1 → Node n (g i)) := fun i hi => by
            by_cases e : i = j
            · subst e; unfold Node; omega
            · exact HA.out i (by omega)
          go_wp2_with fail
          go_roundw
          case rel => exact ⟨j + 1, by omega, by go_num, HA2.out, HB.out⟩
          case measure => simp [intOf]; omega
    · obtain rfl : j = q := by omega
      have HT : Hid (NodesTold n j g .nilIface) := Or.inr ⟨hall, rfl⟩
      clear hall hb
      go_wp2_with fail
      go_ret
      exact ⟨_, rfl, HT.out, HB.out⟩

end Go.Proofs.YtcfemppdeidjmacGreat.Pt

namespace Go.Proofs.YtcfemppdeidjmacGreat.Pt
open Go.RowKit Go.Deep Go.Proofs.YtcfemppdeidjmacGreat.Br
open Go.RowKit (Below)
set_option linter.unusedVariables false

variable {w w' : World}

theorem mask_of (a : Nat) (ha : a < 4294967296) : bits .and .u64 (a : Int) 4294967295 = (a : Int) := by
  have h := bits_and_u64_nat a 4294967295 (by omega) (by omega)
  have e : a &&& 4294967295 = a % 4294967296 := Nat.and_two_pow_sub_one_eq_mod a 32
  rw [e, Nat.mod_eq_of_lt ha] at h
  exact h
theorem mask_one : bits .and .u64 1 4294967295 = 1 := mask_of 1 (by omega)
theorem mask_zero : bits .and .u64 0 4294967295 = 0 := mask_of 0 (by omega)

set_option maxHeartbeats 1000000 in
theorem mul64_one (y : Nat) (hy : y < 4294967296) (w : World) :
    Calls Tryz.prog 204 #[.int .u64 1, .int .u64 (y : Nat)] w fun e w' => e = .returned (.tuple #[.int .u64 0, .int .u64 (y : Nat)]) ∧ w' = w := by
  have m1 := mask_of y hy
  have d1 : ((y : Nat) : Int) / 4294967296 = 0 := by omega
  have w1 : IntKind.u64.wrap ((y : Nat) : Int) = (y : Nat) := by rw [IntKind.wrap_u64]; omega
  have m2 := mask_one
  have m3 := mask_zero
  clear hy
  go_enter Tryz.func204, Tryz.ntmps204
  go_wp2
  go_ret2
  exact ⟨rfl, rfl⟩

set_option maxHeartbeats 1000000 in
theorem mul_one (y : Nat) (hy : y < 4294967296) (w : World) :
    Calls Tryz.prog 179 #[.int .u64 1, .int .u64 (y : Nat)] w fun e w' => e = .returned (.tuple #[.int .u64 0, .int .u64 (y : Nat)]) ∧ w' = w := by
  have h64 := mul64_one y hy w
  clear hy
  go_enter Tryz.func179, Tryz.ntmps179
  go_wp2_with fail
  refine h64.mono ?_
  rintro e w' ⟨rfl, rfl⟩
  go_wp2_with fail
  go_ret2
  exact ⟨rfl, rfl⟩

def Some (w : World) (k n m : Nat) (x : Int) : Prop := ∃ l : List Value, w.heap[k]? = some (.cells l.toArray 3 (0, 0)) ∧ l.length = n ∧ ∀ i, i < m → l[i]? = some (.int .i64 x)

theorem Some.row {k n : Nat} {x : Int} (h : Some w k n n x) : w.rowIs k 3 n (fun _ => .int .i64 x) := by
  obtain ⟨l, h1, h2, h3⟩ := h
  exact ⟨_, h1, by simpa using h2, fun i hi => by simpa using h3 i hi⟩

theorem Some.cell {k n m j : Nat} {x : Int} (h : Some w k n m x) (hj : j < m) : w.cell? ((⟨k, 0, none⟩ : Addr).add j) = some (.int .i64 x) := by
  obtain ⟨l, h1, h2, h3⟩ := h
  have e : (⟨k, 0, none⟩ : Addr).add j = ⟨k, j, none⟩ := by
    unfold Addr.add
    split
    · simp
    · simp
  rw [e]
  simp [World.cell?, h1, h3 j hj]

theorem some_splice {l : List Value} {k n m c : Nat} {x : Int} (h1 : w.heap[k]? = some (.cells (splice l m (List.replicate c (.int .i64 x))).toArray 3 (0, 0))) (h2 : l.length = n) (h3 : ∀ i, i < m → l[i]? = some (.int .i64 x)) (hc : m + c ≤ n) : Some w k n (m + c) x := by
  refine ⟨_, h1, by rw [length_splice _ _ _ (by simp; omega)]; exact h2, fun i hi => ?_⟩
  unfold splice
  by_cases q : i < m
  · rw [List.getElem?_append_left (by rw [List.length_take]; omega), List.getElem?_take]
    simp [q, h3 i q]
  · rw [List.getElem?_append_right (by rw [List.length_take]; omega), List.length_take, Nat.min_eq_left (by omega), List.getElem?_append_left (by simp; omega), List.getElem?_replicate]
    rw [if_pos (by omega)]

theorem copy_some {k n m c sLen sCap base : Nat} {x : Int} {w0 : World} {a : Addr} (h : Some w k n m x) (hc : c = Nat.min sLen (n - m)) (hm : m ≤ n) (hs : ∀ j, j < c → w.cell? (a.add j) = some (.int .i64 x)) (hb : Below base w0 w) (hk : base ≤ k) :
    ∃ W1, (Builtin.copy_ #[33, 33] 3 #[.slice (some ⟨k, m, none⟩) (n - m) (n - m), .slice (some a) sLen sCap]).run Tryz.prog w = .ok (.int .i64 (c : Nat)) W1 ∧ Some W1 k n (m + c) x ∧ Below base w0 W1 := by
  obtain ⟨l, h1, h2, h3⟩ := h
  have hcn : m + c ≤ n := by have : c ≤ n - m := by rw [hc]; exact Nat.min_le_right _ _
                             omega
  have hr := run_copy_row (P := Tryz.prog) w 33 33 3 3 k m (n - m) (n - m) a sLen sCap l.toArray 3 (List.replicate c (.int .i64 x)) Tryz.underlying33 (by kernel_rfl) h1 (by rw [List.length_replicate]; exact hc) (fun j v hv => by
    rw [List.getElem?_replicate] at hv
    split at hv
    · rename_i q
      cases hv
      exact hs j q
    · cases hv) (by simp; omega) (fun v hv => by
    obtain ⟨_, rfl⟩ := List.mem_replicate.1 hv
    rfl)
  refine ⟨_, by rw [hr]; simp only [splice, goInt, List.append_assoc, List.length_replicate], some_splice (setRow_heap w k _ _ 3 _ h1) h2 h3 hcn, below_setRow hb hk _⟩

set_option maxRecDepth 100000 in
set_option maxHeartbeats 1000000 in
theorem repeat_any {g0 o0 c0 n : Nat} {x : Int} (hx : w.cell? ⟨g0, o0, none⟩ = some (.int .i64 x)) (hn : 1 ≤ n) (hn2 : n ≤ 60) :
    Calls Tryz.prog 127 #[.slice (some ⟨g0, o0, none⟩) 1 c0, .int .i64 (n : Nat)] w fun e w' => ∃ k, e = .returned (.slice (some ⟨k, 0, none⟩) n n) ∧ w.heap.size ≤ k ∧ w'.rowIs k 3 n (fun _ => .int .i64 x) ∧ Below w.heap.size w w' := by
  have hmu := mul_one n (by omega) w
  have i0 : ¬ (n : Int) < 0 := by omega
  have i1 : ¬ (9223372036854775807 : Int) < (n : Int) := by omega
  have w1 : IntKind.u64.wrap ((n : Nat) : Int) = (n : Nat) := by rw [IntKind.wrap_u64]; omega
  have w2 : IntKind.i64.wrap ((n : Nat) : Int) = (n : Nat) := by rw [IntKind.wrap_i64]; omega
  have hmk := run_make_row' (P := Tryz.prog) 33 3 (.int .i64 0) 8 Tryz.underlying33 Tryz.infoInt rfl .i64 .i64 n (by omega) (by omega) w
  have hlt := World.block_lt_of_cell? _ _ hx
  have hB0 := below_box w (.cells (madeCells #[.int .i64 0] n) 3)
  have hx2 := cell_keep hB0 hx
  obtain ⟨l0, hl0n, hG⟩ : ∃ l0 : List Value, l0.length = n ∧ (w.alloc (.cells (madeCells #[.int .i64 0] n) 3)).heap[w.heap.size]? = some (.cells l0.toArray 3 (0, 0)) := by
    obtain ⟨c, h1, h2, _⟩ := World.rowIs_made w (.int .i64 0) n 3
    exact ⟨c.toList, by simpa using h2, by rw [Array.toArray_toList]; exact h1⟩
  obtain ⟨W0, hW0⟩ : ∃ W0, w.alloc (.cells (madeCells #[.int .i64 0] n) 3) = W0 := ⟨_, rfl⟩
  rw [hW0] at hmk hB0 hx2 hG
  obtain ⟨B, hB⟩ : ∃ B, w.heap.size = B := ⟨_, rfl⟩
  rw [hB] at hmk hB0 hG hlt
  obtain ⟨W1, hcp, hS1, hB1⟩ := copy_some (m := 0) (sLen := 1) (sCap := c0) (a := ⟨g0, o0, none⟩) (x := x) (c := 1) ⟨l0, hG, hl0n, fun i hi => absurd hi (Nat.not_lt_zero _)⟩ (by rw [Nat.sub_zero]; exact (Nat.min_eq_left hn).symm) (Nat.zero_le _) (fun j hj => by
    obtain rfl : j = 0 := by omega
    exact hx2) hB0 (Nat.le_refl _)
  rw [Nat.sub_zero] at hcp
  have HS1 : Hid (Some W1 B n 1 x) := hS1
  have HB1 : Hid (Below B w W1) := hB1
  have HBs : Hid (w.heap.size = B) := hB
  clear hS1 hB1 hB hB0 hG hW0 hlt hx2 hl0n hx
  go_enter Tryz.func127, Tryz.ntmps127
  go_wp2_with fail
  refine hmu.mono ?_
  rintro e w' ⟨rfl, rfl⟩
  clear hmu
  go_wp2_with fail
  go_loopw [8] (fun i wr => ∃ m : Nat, m ≤ n ∧ 1 ≤ m ∧ i = .int .i64 (m : Nat) ∧ Some wr B n m x ∧ Below B w' wr) (fun i _ => n - (intOf i).toNat)
  case atStart => exact ⟨1, hn, Nat.le_refl _, rfl, HS1.out, HB1.out⟩
  case round =>
    obtain ⟨m, hm, hm1, rfl, hS, hb⟩ := hrel
    by_cases hlt : m < n
    · have j0 : (m : Int) < (n : Int) := by omega
      have j1 : (0 : Int) ≤ (m : Int) := by omega
      have j2 : (m : Int) ≤ (n : Int) := by omega
      have j3 : ¬ n = m := by omega
      obtain ⟨c, hc⟩ : ∃ c, c = Nat.min m (n - m) := ⟨_, rfl⟩
      have hc1 : 1 ≤ c ∧ c ≤ n - m := by rw [hc]; exact ⟨Nat.le_min.2 ⟨hm1, by omega⟩, Nat.min_le_right _ _⟩
      have hsd : Some wr.drew B n m x := hS
      have hbd : Below B w' wr.drew := hb.drew
      obtain ⟨W2, hcp2, hS2, hB2⟩ := copy_some (sLen := m) (sCap := n) (a := ⟨B, 0, none⟩) (x := x) (c := c) hsd hc hm (fun j hj => hsd.cell (Nat.lt_of_lt_of_le hj (by rw [hc]; exact Nat.min_le_left _ _))) hbd (Nat.le_refl _)
      have HS2 : Hid (Some W2 B n (m + c) x) := hS2
      have HB2 : Hid (Below B w' W2) := hB2
      have j4 : IntKind.i64.wrap ((m : Int) + (c : Int)) = ((m + c : Nat) : Int) := by rw [IntKind.wrap_i64]; omega
      have HC : Hid (1 ≤ c ∧ c ≤ n - m) := hc1
      clear hsd hbd hS2 hB2 hc hS hb hc1
      go_wp2_with fail
      go_region
      rw [show ((m : Int) + (c : Int)) = ((m + c : Nat) : Int) by omega]
      go_wp2_with fail
      go_roundw
      case rel => exact ⟨m + c, by have := HC.out; omega, by omega, rfl, HS2.out, HB2.out⟩
      case measure => have := HC.out; simp [intOf]; omega
    · obtain rfl : m = n := by omega
      have HX : Hid (wr.rowIs B 3 m (fun _ => .int .i64 x) ∧ Below B w' wr) := ⟨hS.row, hb⟩
      clear hS hb
      go_wp2_with fail
      go_ret
      rw [HBs.out]
      exact ⟨B, rfl, Nat.le_refl _, HX.out.1, HX.out.2⟩

end Go.Proofs.YtcfemppdeidjmacGreat.Pt
