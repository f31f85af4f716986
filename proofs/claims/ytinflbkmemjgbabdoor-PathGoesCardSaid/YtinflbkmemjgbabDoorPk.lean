/-
  BridgeHolds: what is wanted of lists and numbers; how many edges a node has.
-/
import Derived.Test.YtinflbkmemjgbabDoorPj
import Derived.Test.YtinflbkmemjgbabDoorPh
import Derived.Test.YtinflbkmemjgbabDoorBv
namespace Go.Proofs.YtinflbkmemjgbabDoor.Pt
open Go.RowKit Go.Deep Go.Proofs.YtinflbkmemjgbabDoor.Br
open Go.RowKit (Below)
set_option linter.unusedVariables false

variable {w w' : World} {f : Nat → Int × Int} {E : List (Nat × Nat)} {a n : Nat}

/-- How many edges a node has. -/
def dg (E : List (Nat × Nat)) (i : Nat) : Nat := E.countP fun e => decide (e.1 = i ∨ e.2 = i)

theorem dg_snoc (E : List (Nat × Nat)) (u v i : Nat) : dg (E ++ [(u, v)]) i = dg E i + if u = i ∨ v = i then 1 else 0 := by
  unfold dg
  rw [List.countP_append, List.countP_singleton]
  simp

theorem dg_le (E : List (Nat × Nat)) (i : Nat) : dg E i ≤ E.length := List.countP_le_length

/-- Another edge of a node that has more than one. -/
theorem dg_more {e : Nat × Nat} (hn : E.Nodup) (he : e ∈ E) (ha : e.1 = a ∨ e.2 = a) (h : 1 < dg E a) : ∃ g ∈ E, g ≠ e ∧ (g.1 = a ∨ g.2 = a) := by
  have h1 : dg E a = dg (e :: E.erase e) a := (List.perm_cons_erase he).countP_eq _
  unfold dg at h1 h
  rw [List.countP_cons, if_pos (by simpa using ha)] at h1
  have h2 : 0 < (E.erase e).countP fun e => decide (e.1 = a ∨ e.2 = a) := by omega
  obtain ⟨g, hg, hp⟩ := List.countP_pos_iff.1 h2
  rw [hn.mem_erase_iff] at hg
  exact ⟨g, hg.2, hg.1, by simpa using hp⟩

/-- Of two edges in a row each is a bridge. -/
theorem row_brs {L : List (Nat × Nat)} (h : Brs [(0, 1), (1, 2)] L) : L.length = 2 := by
  obtain ⟨t, h1, rfl⟩ := h
  have b1 : t (0, 1) = true := (h1 _ (by simp)).2 fun hc => by
    have := (closed (P := fun x => x = 0) hc fun u v q => by
      have q' : (u, v) ∈ [((1 : Nat), (2 : Nat))] := q
      simp at q'
      omega).1 rfl
    simp at this
  have b2 : t (1, 2) = true := (h1 _ (by simp)).2 fun hc => by
    have := (closed (P := fun x => x = 2) hc fun u v q => by
      have q' : (u, v) ∈ [((0 : Nat), (1 : Nat))] := q
      simp at q'
      omega).2 rfl
    simp at this
  simp [b1, b2]

theorem row_at (w : World) : EgAt (w.alloc (.cells #[.int .i64 0, .int .i64 1, .int .i64 1, .int .i64 2] 56)) (some ⟨w.heap.size, 0, none⟩) 2 (fn [(0, 1), (1, 2)]) := fun i hi => by
  refine ⟨w.heap.size, 0, rfl, ?_⟩
  have : i = 0 ∨ i = 1 := by omega
  rcases this with rfl | rfl <;> simp [fn]

theorem row_valid : Valid ((3 : Nat) : Int) 2 (fn [(0, 1), (1, 2)]) := ⟨by decide, by decide, by
  have := fn_may (F := [(0, 1), (1, 2)]) (n := 3) (by unfold Up; simp) (by simp)
  simpa using this⟩

theorem row_edges : edges (fn [(0, 1), (1, 2)]) 2 = [(0, 1), (1, 2)] := fn_edges [(0, 1), (1, 2)]

set_option maxRecDepth 100000 in
set_option maxHeartbeats 1000000 in
/-- A number that is in a list. -/
theorem has_yes {ad : Option Addr} {N c : Nat} {g : Nat → Int} (h : NumsAt w ad N g) (x : Int) (hn : N < 1000000) (hx : ∃ i, i < N ∧ g i = x) :
    Calls Tryd.prog 31 #[.slice ad N c, .int .i64 x] w fun e w' => e = .returned (.bool true) ∧ Below w.heap.size w w' := by
  obtain ⟨q, hq, hqx⟩ := hx
  have HQ : Hid (q < N ∧ g q = x) := ⟨hq, hqx⟩
  have HC : Hid (∀ i, i < N → ∃ b o y, ad = some ⟨b, o, none⟩ ∧ w.cell? ⟨b, o + i, none⟩ = some (.int .i64 y) ∧ y = g i) := fun i hi => by
    obtain ⟨b, o, e, q⟩ := h i hi
    exact ⟨b, o, _, e, q, rfl⟩
  clear h hq hqx
  go_enter Tryd.func31, Tryd.ntmps31
  go_wp2_with fail
  go_loopw [5] (fun i wr => ∃ j : Nat, j ≤ N ∧ i = .int .i64 (j : Nat) ∧ Below w.heap.size w wr ∧ j ≤ q) (fun i _ => N - (intOf i).toNat)
  case atStart => exact ⟨0, Nat.zero_le _, rfl, Below.refl _ _, Nat.zero_le _⟩
  case round =>
    obtain ⟨j, hj, rfl, hb, hjq⟩ := hrel
    by_cases hlt : j < N
    · obtain ⟨b, o, y, rfl, q1, hy⟩ := HC.out j hlt
      replace q1 := cell_keep hb q1
      have HB : Hid (Below w.heap.size w wr) := hb
      have i0 : (0 : Int) ≤ (j : Int) := by omega
      have i1 : (j : Int) < (N : Int) := by omega
      by_cases hyx : y = x
      · have t1 : (y == x) = true := by rw [hyx]; simp
        clear hb hy hjq hyx
        go_wp2_with fail
        go_ret
        exact ⟨rfl, HB.out⟩
      · have t1 : (y == x) = false := by rw [beq_eq_false_iff_ne]; exact hyx
        have HJ : Hid (j + 1 ≤ q) := by
          show j + 1 ≤ q
          rcases Nat.lt_or_ge j q with z | z
          · exact z
          · obtain rfl : j = q := by omega
            exact absurd (hy.trans HQ.out.2) hyx
        clear hb hy hjq hyx
        go_wp2_with fail
        go_roundw
        case rel => exact ⟨j + 1, by omega, by go_num, HB.out, HJ.out⟩
        case measure => simp [intOf]; omega
    · exfalso
      have := HQ.out.1
      omega

/-- One edge left out: what is left may be. -/
theorem out_valid {A B : List (Nat × Nat)} {x : Nat × Nat} {m : Nat} (hn : 1 ≤ n ∧ n ≤ 60) (hm : (A ++ B).length = m) (hm2 : m ≤ 200) (hu : Up (A ++ x :: B)) (hl : ∀ e ∈ A ++ x :: B, e.1 < e.2 ∧ e.2 < n) : Valid ((n : Nat) : Int) m (fn (A ++ B)) := by
  refine ⟨by omega, hm2, ?_⟩
  have hu' : Up (A ++ B) := List.Pairwise.sublist (List.Sublist.append_left (List.sublist_cons_self _ _) _) hu
  have := fn_may (F := A ++ B) (n := n) hu' (fun e he => hl e (by
    rcases List.mem_append.1 he with q | q
    · exact List.mem_append_left _ q
    · exact List.mem_append_right _ (List.mem_cons_of_mem _ q)))
  rw [hm] at this
  simpa using this

theorem brs_mem {L : List (Nat × Nat)} {e : Nat × Nat} (h : Brs E L) (he : e ∈ E) : e ∈ L ↔ Bridge E e := by
  obtain ⟨t, h1, rfl⟩ := h
  rw [List.mem_filter, h1 e he]
  exact ⟨fun q => q.2, fun q => ⟨he, q⟩⟩

theorem brs_sub {L : List (Nat × Nat)} (h : Brs E L) : ∀ e ∈ L, e ∈ E := by
  obtain ⟨t, h1, rfl⟩ := h
  exact fun e he => (List.mem_filter.1 he).1

theorem next_lt {L : List (Nat × Nat)} {u v : Nat} (hl : ∀ e ∈ L, e.1 < e.2) (huv : u < v) : Next L u v ↔ (u, v) ∈ L :=
  ⟨fun h => h.elim id fun q => by have := hl _ q; simp only at this; omega, Or.inl⟩

theorem cut_at {S : List (Nat × Nat)} {j : Nat} {s : Nat × Nat} (h : S[j]? = some s) : S = S.take j ++ s :: S.drop (j + 1) := by
  obtain ⟨hj, rfl⟩ := List.getElem?_eq_some_iff.1 h
  simp

theorem out_cut {b o m m1 c k : Nat} {A B : List (Nat × Nat)} {x : Nat × Nat} (hE : EdgesAt w (some ⟨b, o, none⟩) (A ++ x :: B)) (hm : m1 + 1 = m) (hn : (A ++ B).length = m1) (hc : m ≤ c) (hc2 : c ≤ maxLen) (hn2 : m < 1000000) (hk : A.length = k) :
    Calls Tryd.prog 30 #[.slice (some ⟨b, o, none⟩) m c, .int .i64 (k : Nat)] w fun e w' => ∃ v, e = .returned v ∧ Below w.heap.size w w' ∧ w'.ownsRow w.heap.size 56 2 v m1 (twos (A ++ B)) := by
  subst hm
  exact out_own hE hn hc hc2 (by omega) hk

theorem bridge_out {A B : List (Nat × Nat)} {x : Nat × Nat} (hu : Up (A ++ x :: B)) : Bridge (A ++ x :: B) x ↔ ∀ k, ¬ Walk (A ++ B) x.2 x.1 k := by
  rw [bridge_walk, erase_mid hu]

theorem jts_at {L : List Nat} {N : Nat} (h : Jts n E L) (hN : L.length = N) (ha : a < n) (hj : Joint E a) : ∃ i, i < N ∧ ((L.getD i 0 : Nat) : Int) = (a : Nat) := by
  obtain ⟨t, h1, rfl⟩ := h
  have hm : a ∈ (List.range n).filter t := List.mem_filter.2 ⟨List.mem_range.2 ha, (h1 a ha).2 hj⟩
  obtain ⟨i, hi, e⟩ := List.mem_iff_getElem.1 hm
  refine ⟨i, by rw [← hN]; exact hi, ?_⟩
  rw [List.getD_eq_getElem?_getD, List.getElem?_eq_getElem hi]
  show ((_ : Nat) : Int) = _
  simp [e]

end Go.Proofs.YtinflbkmemjgbabDoor.Pt
