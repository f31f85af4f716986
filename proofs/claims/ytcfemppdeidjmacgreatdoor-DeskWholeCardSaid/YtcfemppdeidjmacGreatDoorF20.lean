/-
  The statements' own answer, for events (no text of another layer is wanted): is there such a node, how many there may be; an edge of two nodes, where it stands in a list, a list without one; of each node the least one of its part.
  Are two lists of answers, or of pairs, the same? Events as they lie in memory.
-/
import Derived.Test.YtcfemppdeidjmacGreatDoorF19
import Derived.Test.YtcfemppdeidjmacGreatDoorChecked
import Derived.WalkKit
import Derived.WalkSpells
import Derived.WalkLawsBesides
import Derived.Deep.RegionHeld3
import Derived.Deep.OwnRows
import Derived.OneCell
import Derived.BigQuiet
import Derived.BigRegion
import Derived.Below
import Derived.Maps.AppendAt
import Derived.Deep.AppendLies
namespace Go.Proofs.YtcfemppdeidjmacGreatDoor.As
open Go.RowKit Go.Deep
open Go.RowKit (Below)
set_option linter.unusedVariables false

theorem Tryz.infoInt : (Tryz.prog.info? 3).map (fun i => (i.zero, i.size, i.bytes)) = some (some (.int .i64 0), 1, 8) := by kernel_rfl

theorem cell_keep {W w' : World} {p : Addr} {v : Value} (hb : Below W.heap.size W w') (h : W.cell? p = some v) : w'.cell? p = some v :=
  (hb.cell (World.block_lt_of_cell? _ _ h)).trans h
theorem below_step {w a b : World} (h1 : Below w.heap.size w a) (h2 : Below a.heap.size a b) : Below w.heap.size w b := h1.trans (h2.mono h1.size)
theorem below_drewN {w a : World} {n : Nat} (h : a = w.drewN n) : Below w.heap.size w a := by
  subst h
  induction n with
  | zero => exact Below.refl _ _
  | succ n ih => exact ih.drew

def ev (a b : Int) : Value := .agg #[.int .i64 a, .int .i64 b]

theorem cell_one_new (w : World) (v : Value) (t : TypeId) : ∀ k u, [v][k]? = some u → (w.alloc (.cells #[v] t)).cell? (Addr.add ⟨w.heap.size, 0, none⟩ k) = some u
  | 0, u, h => by simp at h; subst h; simp [Addr.add]
  | k + 1, u, h => by simp at h

variable {w w' : World} {p p' : Nat → Nat} {E E' : List (Nat × Nat)}

set_option maxHeartbeats 400000 in
theorem fault_any (n : Int) (w : World) : Calls Tryz.prog 7 #[.int .i64 n] w fun e w' => e = .returned (.int .i64 (if n < 1 ∨ 60 < n then 1 else 0)) ∧ w' = w := by
  by_cases h1 : n < 1
  · rw [if_pos (Or.inl h1)]
    go_enter Tryz.func7, Tryz.ntmps7
    go_wp2_with fail
    go_ret
    exact ⟨rfl, rfl⟩
  · by_cases h2 : 60 < n
    · rw [if_pos (Or.inr h2)]
      go_enter Tryz.func7, Tryz.ntmps7
      go_wp2_with fail
      go_ret
      exact ⟨rfl, rfl⟩
    · rw [if_neg (by omega)]
      go_enter Tryz.func7, Tryz.ntmps7
      go_wp2_with fail
      go_ret
      exact ⟨rfl, rfl⟩

set_option maxHeartbeats 400000 in
theorem node_any (n a : Int) (w : World) (q : Bool) (hq : q = true ↔ (0 ≤ a ∧ a < n)) : Calls Tryz.prog 31 #[.int .i64 n, .int .i64 a] w fun e w' => e = .returned (.bool q) ∧ w' = w := by
  by_cases h1 : 0 ≤ a
  · by_cases h2 : a < n
    · obtain rfl := hq.2 ⟨h1, h2⟩
      clear hq
      go_enter Tryz.func31, Tryz.ntmps31
      go_wp2_with fail
      go_ret
      exact ⟨rfl, rfl⟩
    · obtain rfl : q = false := by rw [Bool.eq_false_iff]; exact fun h => h2 (hq.1 h).2
      clear hq
      go_enter Tryz.func31, Tryz.ntmps31
      go_wp2_with fail
      go_ret
      exact ⟨rfl, rfl⟩
  · obtain rfl : q = false := by rw [Bool.eq_false_iff]; exact fun h => h1 (hq.1 h).1
    clear hq
    go_enter Tryz.func31, Tryz.ntmps31
    go_wp2_with fail
    go_ret
    exact ⟨rfl, rfl⟩

/-- An edge's two cells. -/
def two (e : Nat × Nat) : List Value := [.int .i64 (e.1 : Int), .int .i64 (e.2 : Int)]
def twos (l : List (Nat × Nat)) : List Value := l.flatMap two

theorem twos_len (l : List (Nat × Nat)) : (twos l).length = l.length * 2 := by
  induction l with
  | nil => rfl
  | cons e l ih => simp only [twos, List.flatMap_cons, List.length_append] at ih ⊢; rw [ih]; simp [two]; omega

theorem twos_snoc (l : List (Nat × Nat)) (e : Nat × Nat) : twos (l ++ [e]) = twos l ++ two e := by simp [twos]

set_option maxRecDepth 1000000 in
theorem Tryz.infoEdge : (Tryz.prog.info? 92).map (fun i => (i.zero, i.size, i.bytes)) = some (some (.agg #[.int .i64 0, .int .i64 0]), 2, 16) := by kernel_rfl

theorem twos_get : ∀ (ss : List (Nat × Nat)) (j : Nat), j < ss.length * 2 → (twos ss)[j]? = some ((two (ss.getD (j / 2) (0, 0))).getD (j % 2) undef)
  | [], j, h => by simp at h
  | e :: l, 0, _ => rfl
  | e :: l, 1, _ => rfl
  | e :: l, j + 2, h => by
    have ih := twos_get l j (by simp at h; omega)
    rw [show twos (e :: l) = two e ++ twos l by simp [twos], List.getElem?_append_right (by simp [two]), show j + 2 - (two e).length = j by simp [two], ih]
    rw [show (j + 2) / 2 = j / 2 + 1 by omega, show (j + 2) % 2 = j % 2 by omega]
    rfl

/-- A list of edges lies in memory. -/
structure EdgesAt (w : World) (a : Option Addr) (E : List (Nat × Nat)) : Prop where
  cell : ∀ i, i < E.length → ∃ b, a = some ⟨b, 0, none⟩ ∧ w.cell? ⟨b, i * 2, none⟩ = some (.int .i64 ((E.getD i (0, 0)).1 : Nat)) ∧ w.cell? ⟨b, i * 2 + 1, none⟩ = some (.int .i64 ((E.getD i (0, 0)).2 : Nat))

theorem own_edges {base n : Nat} {ty : TypeId} {v : Value} {F : List (Nat × Nat)} (h : w.ownsRow base ty 2 v n (twos F)) (hn : F.length = n) : ∃ a c, v = .slice a n c ∧ EdgesAt w a F ∧ n ≤ c ∧ c ≤ maxLen := by
  rcases h.2 with ⟨hv, h0⟩ | ⟨g', cap', cur, hv, hb, hg, h1, h2, h3, h4⟩
  · subst h0
    exact ⟨none, 0, hv, ⟨fun i hi => by omega⟩, Nat.le_refl _, Nat.zero_le _⟩
  · subst hv
    refine ⟨_, _, rfl, ⟨fun i hi => ⟨g', rfl, ?_, ?_⟩⟩, h1, h2⟩
    · have e := twos_get F (i * 2) (by omega)
      rw [← h4, List.getElem?_take, if_pos (by omega), show i * 2 / 2 = i by omega, show i * 2 % 2 = 0 by omega] at e
      simp only [World.cell?, hg]
      simpa [two] using e
    · have e := twos_get F (i * 2 + 1) (by omega)
      rw [← h4, List.getElem?_take, if_pos (by omega), show (i * 2 + 1) / 2 = i by omega, show (i * 2 + 1) % 2 = 1 by omega] at e
      simp only [World.cell?, hg]
      simpa [two] using e

theorem own_mono {base base' n s : Nat} {ty : TypeId} {v : Value} {xs : List Value} (h : w.ownsRow base ty s v n xs) (hb : base' ≤ base) : w.ownsRow base' ty s v n xs := by
  refine ⟨h.1, ?_⟩
  rcases h.2 with h0 | ⟨g, cap, cur, hv, h1, h2⟩
  · exact Or.inl h0
  · exact Or.inr ⟨g, cap, cur, hv, Nat.le_trans hb h1, h2⟩

theorem own_keep {base n s : Nat} {ty : TypeId} {v : Value} {xs : List Value} (h : w.ownsRow base ty s v n xs) (hb : Below w.heap.size w w') : w'.ownsRow base ty s v n xs := by
  refine ⟨h.1, ?_⟩
  rcases h.2 with h0 | ⟨g, cap, cur, hv, h1, h2, h3⟩
  · exact Or.inl h0
  · exact Or.inr ⟨g, cap, cur, hv, h1, (hb.block g (Array.getElem?_eq_some_iff.1 h2).1).trans h2, h3⟩

theorem EdgesAt.below {a : Option Addr} (h : EdgesAt w a E) (hb : Below w.heap.size w w') : EdgesAt w' a E := ⟨fun i hi => by
  obtain ⟨b, e, h1, h2⟩ := h.cell i hi
  exact ⟨b, e, cell_keep hb h1, cell_keep hb h2⟩⟩

theorem two_new (w : World) (x y : Nat) : ∀ j u, (two (x, y))[j]? = some u → (w.alloc (.cells #[.int .i64 (x : Int), .int .i64 (y : Int)] 92)).cell? (Addr.add ⟨w.heap.size, 0, none⟩ j) = some u := fun j u hj => by
  match j, hj with
  | 0, hj => cases hj; simp [Addr.add]
  | 1, hj => cases hj; simp [Addr.add]

/-- A list of numbers that may be written to. -/
structure Wr (w : World) (k n : Nat) (q : Nat → Nat) : Prop where
  cell : ∀ i, i < n → w.cell? ⟨k, i, none⟩ = some (.int .i64 (q i : Nat))
  free : ∀ i, i < n → w.frozen? ⟨k, i, none⟩ = false

theorem Wr.set {k n : Nat} {q : Nat → Nat} (h : Wr w k n q) (b x : Nat) (hb : b < n) : Wr (w.setCell ⟨k, b, none⟩ (.int .i64 (x : Nat))) k n (tell q b x) := by
  refine ⟨fun i hi => ?_, fun i hi => by rw [World.frozen?_setCell]; exact h.free i hi⟩
  unfold tell
  by_cases e : i = b
  · subst e
    rw [if_pos rfl]
    exact World.cell?_setCell_same (h := h.cell i hi) ..
  · rw [if_neg e]
    exact (World.cell?_setCell_other (h := by simp only [ne_eq, Addr.mk.injEq, not_and]; intro _ h1; exact absurd h1.symm e) ..).trans (h.cell i hi)

/-- The sum of such a list, read off the world. -/
def sumAt (w : World) (k n : Nat) : Nat := total (fun i => match w.cell? ⟨k, i, none⟩ with | some (.int _ x) => x.toNat | _ => 0) n

theorem Wr.sum {k n : Nat} {q : Nat → Nat} (h : Wr w k n q) : sumAt w k n = total q n := by
  unfold sumAt
  refine total_congr n fun i hi => ?_
  rw [h.cell i hi]
  exact Int.toNat_natCast _

theorem own_wr {base e cap k n : Nat} {q : Nat → Nat} (h : w.ownsRow base 3 1 (.slice (some ⟨k, 0, none⟩) n cap) n ((List.range n).map fun i => Value.int .i64 ((q i : Nat) : Int))) (hn : 0 < n) : Wr w k n q ∧ base ≤ k ∧ k < w.heap.size := by
  rcases h.2 with ⟨_, h0⟩ | ⟨g', cap', cur, hv, hb, hg, h1, h2, h3, h4⟩
  · omega
  · simp only [Value.slice.injEq, Option.some.injEq, Addr.mk.injEq, and_true, true_and] at hv
    obtain ⟨rfl, rfl⟩ := hv
    refine ⟨⟨fun i hi => ?_, fun i hi => by simp [World.frozen?, hg]⟩, hb, (Array.getElem?_eq_some_iff.1 hg).1⟩
    have e1 : (cur.toList.take (n * 1))[i]? = some (Value.int .i64 ((q i : Nat) : Int)) := by rw [h4]; simp [hi]
    rw [List.getElem?_take, if_pos (by omega)] at e1
    simp only [World.cell?, hg]
    simpa using e1

set_option maxRecDepth 100000 in
set_option maxHeartbeats 4000000 in
theorem parts_of {a : Option Addr} {m c : Nat} (hE : EdgesAt w a E) (hm : E.length = m) (hm2 : m < 1000000) (n : Nat) (hn : 0 < n) (hn2 : n ≤ 60) (ha : Among n E) (hp : Rest E p) :
    Calls Tryz.prog 35 #[.int .i64 (n : Nat), .slice a m c] w fun e w' => ∃ k cap, e = .returned (.slice (some ⟨k, 0, none⟩) n cap) ∧ Below w.heap.size w w' ∧ w.heap.size ≤ k ∧ ∀ i, i < n → w'.cell? ⟨k, i, none⟩ = some (.int .i64 (p i : Nat)) := by
  obtain ⟨i0, hi0, hz0, hz1, hz2⟩ := info_parts Tryz.infoInt
  have HC : Hid (∀ i, i < m → ∃ b u v, a = some ⟨b, 0, none⟩ ∧ E[i]? = some (u, v) ∧ w.cell? ⟨b, i * 2, none⟩ = some (.int .i64 (u : Nat)) ∧ w.cell? ⟨b, i * 2 + 1, none⟩ = some (.int .i64 (v : Nat))) := fun i hi => by
    obtain ⟨b, e, q1, q2⟩ := hE.cell i (by omega)
    have h1 : E[i]? = some (E.getD i (0, 0)) := by rw [List.getD_eq_getElem?_getD, List.getElem?_eq_getElem (by omega)]; rfl
    exact ⟨b, _, _, e, h1, q1, q2⟩
  have HM : Hid (E.length = m) := hm
  clear hE hm
  go_enter Tryz.func35, Tryz.ntmps35
  go_wp2_with fail
  go_loopw [5, 6] (fun v i wr => ∃ j : Nat, j ≤ n ∧ i = .int .i64 (j : Nat) ∧ wr.ownsRow w.heap.size 3 1 v j ((List.range j).map fun i => Value.int .i64 ((i : Nat) : Int)) ∧ Below w.heap.size w wr) (fun _ i _ => n - (intOf i).toNat)
  case atStart => exact ⟨0, Nat.zero_le _, rfl, World.ownsRow_nil .., Below.refl _ _⟩
  case round =>
    obtain ⟨j, hj, rfl, hown, hb⟩ := hrel
    by_cases hlt : j < n
    · have hb1 := hb.size
      have HO : Hid (wr.ownsRow w.heap.size 3 1 u5 j ((List.range j).map fun i => Value.int .i64 ((i : Nat) : Int))) := hown
      have HB : Hid (Below w.heap.size w wr) := hb
      clear hown hb
      have i1 : (0 : Int) ≤ (j : Int) := by omega
      go_wp2_with (first
        | (at_builtin; refine wpList_append_lies _ rfl (.tmp 16) (.tmp 18) 38 rfl w.heap.size 3 i0 (.int .i64 0) 1 8 Tryz.underlying38 hi0 hz0 hz1 hz2 rfl (by decide) u5 j ((List.range j).map fun i => Value.int .i64 ((i : Nat) : Int)) rfl (HO.out.alloc _) ⟨wr.heap.size, 0, none⟩ 1 1 [.int .i64 (j : Int)] rfl rfl ?c1 ?c2 (by decide) ?c3 ?c4 ?c5 _ rfl ?_))
      case c1 => exact cell_one_new _ _ _
      case c2 => intro u hu; simp at hu; subst hu; rfl
      case c3 => unfold maxLen; omega
      case c4 => omega
      case c5 => simp; omega
      intro g1 cap1 w2 hown hgrow hat hlt2
      have hown2 : w2.ownsRow w.heap.size 3 1 (.slice (some ⟨g1, 0, none⟩) (j + 1) cap1) (j + 1) ((List.range (j + 1)).map fun i => Value.int .i64 ((i : Nat) : Int)) := by
        rw [List.range_succ, List.map_append]; exact hown
      have hb2 : Below w.heap.size w w2 := (HB.out.alloc hb1 _).grown hgrow (by simp; omega) (fun k e => (HO.out.lt k e).1)
      have HO2 : Hid (w2.ownsRow w.heap.size 3 1 (.slice (some ⟨g1, 0, none⟩) (j + 1) cap1) (j + 1) ((List.range (j + 1)).map fun i => Value.int .i64 ((i : Nat) : Int))) := hown2
      clear hown hown2 hgrow hat hlt2
      go_wp2_with fail
      go_roundw
      case rel => exact ⟨j + 1, by omega, by go_num, HO2.out, hb2⟩
      case measure => simp [intOf]; omega
    · obtain rfl : j = n := by omega
      obtain ⟨k, cap, rfl⟩ : ∃ k cap, u5 = .slice (some ⟨k, 0, none⟩) j cap := by
        rcases hown.2 with ⟨_, h0⟩ | ⟨k, cap, _, hv, _⟩
        · omega
        · exact ⟨k, cap, hv⟩
      obtain ⟨hw0, hk, hk2⟩ := own_wr (q := fun i => i) (e := 0) hown hn
      have HW0 : Hid (Wr wr k j fun i => i) := hw0
      have HB : Hid (Below w.heap.size w wr) := hb
      clear hown hw0 hb
      go_wp2_with fail
      go_loopw [7, 8, 9, 10] (fun _ _ _ _ wr => ∃ q : Nat → Nat, Low E q ∧ Wr wr k j q ∧ Below w.heap.size w wr) (fun _ _ _ _ wr => sumAt wr k j)
      case atStart => exact ⟨fun i => i, Low.start E, HW0.out, HB.out⟩
      case round =>
        obtain ⟨q, hq, hwq, hbq⟩ := hrel
        have HS : Hid (sumAt wr k j = total q j) := hwq.sum
        have HQ : Hid (Low E q ∧ Wr wr k j q ∧ Below w.heap.size w wr) := ⟨hq, hwq, hbq⟩
        clear hq hwq hbq
        go_wp2_with fail
        go_loopw [7, 8, 9, 10] (fun same i _ _ wi => ∃ (t : Nat) (q1 : Nat → Nat), t ≤ m ∧ i = .int .i64 (t : Nat) ∧ Low E q1 ∧ Wr wi k j q1 ∧ Below w.heap.size w wi ∧ ((same = .bool true ∧ q1 = q ∧ ∀ s, s < t → ∀ e, E[s]? = some e → q e.1 = q e.2) ∨ (same = .bool false ∧ total q1 j < total q j))) (fun _ i _ _ _ => m - (intOf i).toNat)
        case atStart => exact ⟨0, q, Nat.zero_le _, rfl, HQ.out.1, HQ.out.2.1, HQ.out.2.2, Or.inl ⟨rfl, rfl, fun s hs => absurd hs (Nat.not_lt_zero _)⟩⟩
        case round =>
          obtain ⟨t, q1, ht, rfl, hlow, hwr, hbi, hst⟩ := hrel
          have HR : Hid (Low E q1 ∧ Wr wr k j q1 ∧ Below w.heap.size w wr ∧ ((u7 = .bool true ∧ q1 = q ∧ ∀ s, s < t → ∀ e, E[s]? = some e → q e.1 = q e.2) ∨ (u7 = .bool false ∧ total q1 j < total q j))) := ⟨hlow, hwr, hbi, hst⟩
          clear hlow hst
          by_cases hlt : t < m
          · obtain ⟨b, u, v, rfl, hEt, c1, c2⟩ := HC.out t hlt
            replace c1 := cell_keep hbi c1
            replace c2 := cell_keep hbi c2
            have hmem : (u, v) ∈ E := List.mem_of_getElem? hEt
            obtain ⟨hun, hvn⟩ : u < j ∧ v < j := ha (u, v) hmem
            have hcon : Conn E u v := conn_edge hmem
            have d1 := hwr.cell u hun
            have d2 := hwr.cell v hvn
            have HEt : Hid (E[t]? = some (u, v)) := hEt
            have i1 : (0 : Int) ≤ (t : Int) := by omega
            have i2 : (t : Int) < (m : Int) := by omega
            have i3 : (0 : Int) ≤ (u : Int) := by omega
            have i4 : (u : Int) < (j : Int) := by omega
            have i5 : (0 : Int) ≤ (v : Int) := by omega
            have i6 : (v : Int) < (j : Int) := by omega
            clear hwr hbi hEt hmem
            have hge : True := trivial
            rcases Nat.lt_trichotomy (q1 u) (q1 v) with hlt1 | hlt1 | hlt1
            · have t1 : ((q1 u : Nat) : Int) < ((q1 v : Nat) : Int) := by omega
              have t2 : ¬ ((q1 v : Nat) : Int) < ((q1 u : Nat) : Int) := by omega
              have HN : Hid (Low E (tell q1 v (q1 u)) ∧ Wr (wr.setCell ⟨k, v, none⟩ (.int .i64 (q1 u : Nat))) k j (tell q1 v (q1 u)) ∧ Below w.heap.size w (wr.setCell ⟨k, v, none⟩ (.int .i64 (q1 u : Nat))) ∧ total (tell q1 v (q1 u)) j < total q j) := by
                refine ⟨HR.out.1.tell hcon hlt1, HR.out.2.1.set v (q1 u) hvn, HR.out.2.2.1.setCell (p := ⟨k, v, none⟩) hk _, ?_⟩
                have hd := total_tell (p := q1) hlt1 j hvn
                rcases HR.out.2.2.2 with ⟨_, rfl, _⟩ | ⟨_, h2⟩
                · exact hd
                · omega
              have f1 := HR.out.2.1.free v hvn
              clear hlt1 hcon hge
              go_wp2_with fail
              go_roundw
              case rel => exact ⟨t + 1, _, by omega, by go_num, HN.out.1, HN.out.2.1, HN.out.2.2.1, Or.inr ⟨rfl, HN.out.2.2.2⟩⟩
              case measure => simp [intOf]; omega
            · have t1 : ¬ ((q1 u : Nat) : Int) < ((q1 v : Nat) : Int) := by omega
              have t2 : ¬ ((q1 v : Nat) : Int) < ((q1 u : Nat) : Int) := by omega
              have HN : Hid ((u7 = .bool true ∧ q1 = q ∧ ∀ s, s < t + 1 → ∀ e, E[s]? = some e → q e.1 = q e.2) ∨ (u7 = .bool false ∧ total q1 j < total q j)) := by
                rcases HR.out.2.2.2 with ⟨h1, h2, h3⟩ | h1
                · refine Or.inl ⟨h1, h2, fun s hs e he => ?_⟩
                  rcases Nat.lt_or_ge s t with h4 | h4
                  · exact h3 s h4 e he
                  · obtain rfl : s = t := by omega
                    rw [HEt.out] at he
                    cases he
                    rw [← h2]
                    exact hlt1
                · exact Or.inr h1
              clear hlt1 hcon hge
              go_wp2_with fail
              go_roundw
              case rel => exact ⟨t + 1, q1, by omega, by go_num, HR.out.1, HR.out.2.1, HR.out.2.2.1, HN.out⟩
              case measure => simp [intOf]; omega
            · have t1 : ((q1 v : Nat) : Int) < ((q1 u : Nat) : Int) := by omega
              have t2 : ¬ ((q1 u : Nat) : Int) < ((q1 v : Nat) : Int) := by omega
              have HN : Hid (Low E (tell q1 u (q1 v)) ∧ Wr (wr.setCell ⟨k, u, none⟩ (.int .i64 (q1 v : Nat))) k j (tell q1 u (q1 v)) ∧ Below w.heap.size w (wr.setCell ⟨k, u, none⟩ (.int .i64 (q1 v : Nat))) ∧ total (tell q1 u (q1 v)) j < total q j) := by
                refine ⟨HR.out.1.tell ((conn_eqv E).symm hcon) hlt1, HR.out.2.1.set u (q1 v) hun, HR.out.2.2.1.setCell (p := ⟨k, u, none⟩) hk _, ?_⟩
                have hd := total_tell (p := q1) hlt1 j hun
                rcases HR.out.2.2.2 with ⟨_, rfl, _⟩ | ⟨_, h2⟩
                · exact hd
                · omega
              have f1 := HR.out.2.1.free u hun
              clear hlt1 hcon hge
              go_wp2_with fail
              go_roundw
              case rel => exact ⟨t + 1, _, by omega, by go_num, HN.out.1, HN.out.2.1, HN.out.2.2.1, Or.inr ⟨rfl, HN.out.2.2.2⟩⟩
              case measure => simp [intOf]; omega
          · obtain rfl : t = m := by omega
            have HL : Hid (E.length = t) := HM.out
            rcases HR.out.2.2.2 with ⟨h1, h2, h3⟩ | ⟨h1, h2⟩
            · subst h1
              have hrest : Rest E q1 := ⟨HR.out.1, fun e he => by
                obtain ⟨s, hs, rfl⟩ := List.mem_iff_getElem.1 he
                rw [h2]
                exact h3 s (by rw [← HL.out]; exact hs) _ (List.getElem?_eq_getElem hs)⟩
              have HF : Hid (∀ i, i < j → wr.cell? ⟨k, i, none⟩ = some (.int .i64 (p i : Nat))) := fun i hi => by
                rw [HR.out.2.1.cell i hi, hrest.one hp (fun _ _ => Iff.rfl) i]
              clear h2 h3 hrest hwr
              go_wp2_with fail
              go_ret
              exact ⟨k, ⟨_, rfl⟩, hbi, hk, HF.out⟩
            · subst h1
              have HT : Hid (total q1 j < total q j) := h2
              clear h2
              go_wp2_with fail
              go_roundw
              case rel => exact ⟨q1, HR.out.1, HR.out.2.1, HR.out.2.2.1⟩
              case measure => rw [HR.out.2.1.sum, HS.out]; exact HT.out

set_option maxRecDepth 100000 in
theorem Tryz.sizeEdge : (Tryz.prog.info? 92).map (·.size) = some 2 := by kernel_rfl

set_option maxRecDepth 100000 in
set_option maxHeartbeats 400000 in
theorem of_edge (a b : Int) {w : World} :
    Calls Tryz.prog 52 #[.int .i64 a, .int .i64 b] w fun e w' => e = .returned (ev (min a b) (max a b)) ∧ w' = w.alloc (.cells #[.int .i64 (min a b), .int .i64 (max a b)] 92) := by
  obtain ⟨x, hx⟩ : ∃ x, x = min a b := ⟨_, rfl⟩
  obtain ⟨y, hy⟩ : ∃ y, y = max a b := ⟨_, rfl⟩
  have HX : Hid (x = min a b ∧ y = max a b) := ⟨hx, hy⟩
  rw [← hx, ← hy]
  clear hx hy
  by_cases h : a < b
  · go_enter Tryz.func52, Tryz.ntmps52
    go_wp2_with fail
    refine bodyPost_ret (results_cell_row rfl _ _ w.heap.size 92 _ (0, 0) _ rfl (heap_alloc_new _ _) Tryz.underlying92 rfl Tryz.sizeEdge) rfl ?_
    obtain ⟨hx, hy⟩ := HX.out
    rw [show x = a by omega, show y = b by omega]; exact ⟨rfl, rfl⟩
  · go_enter Tryz.func52, Tryz.ntmps52
    go_wp2_with fail
    refine bodyPost_ret (results_cell_row rfl _ _ w.heap.size 92 _ (0, 0) _ rfl (heap_alloc_new _ _) Tryz.underlying92 rfl Tryz.sizeEdge) rfl ?_
    obtain ⟨hx, hy⟩ := HX.out
    rw [show x = b by omega, show y = a by omega]; exact ⟨rfl, rfl⟩

/-- Is this the edge of x and y? -/
def IsOf (e : Nat × Nat) (x y : Int) : Prop := (e.1 : Int) = min x y ∧ (e.2 : Int) = max x y

set_option maxRecDepth 100000 in
set_option maxHeartbeats 2000000 in
theorem place_ref {a : Option Addr} {n c : Nat} (hE : EdgesAt w a E) (hn : E.length = n) (hn2 : n < 1000000) (x y : Int) :
    Calls Tryz.prog 32 #[.slice a n c, .int .i64 x, .int .i64 y] w fun e w' => ∃ r : Int, e = .returned (.int .i64 r) ∧ Below w.heap.size w w' ∧
      ((∃ j : Nat, j < n ∧ r = j ∧ IsOf (E.getD j (0, 0)) x y) ∨ (r = -1 ∧ ∀ e ∈ E, ¬ IsOf e x y)) := by
  have HC : Hid (∀ i, i < n → ∃ b, a = some ⟨b, 0, none⟩ ∧ w.cell? ⟨b, i * 2, none⟩ = some (.int .i64 ((E.getD i (0, 0)).1 : Nat)) ∧ w.cell? ⟨b, i * 2 + 1, none⟩ = some (.int .i64 ((E.getD i (0, 0)).2 : Nat))) := fun i hi => hE.cell i (by omega)
  have HEnd : Hid ((∀ j, j < n → ¬ IsOf (E.getD j (0, 0)) x y) → ∀ e ∈ E, ¬ IsOf e x y) := fun h e he => by
    obtain ⟨i, hi, rfl⟩ := List.mem_iff_getElem.1 he
    have := h i (by omega)
    rwa [List.getD_eq_getElem?_getD, List.getElem?_eq_getElem hi] at this
  clear hE hn
  go_enter Tryz.func32, Tryz.ntmps32
  go_wp2_with fail
  refine (of_edge x y).mono ?_
  rintro e w1 ⟨rfl, rfl⟩
  have HIs : Hid (∀ e : Nat × Nat, IsOf e x y ↔ (e.1 : Int) = min x y ∧ (e.2 : Int) = max x y) := fun _ => Iff.rfl
  generalize min x y = m1 at *
  generalize max x y = m2 at *
  dsimp only [ev]
  go_wp2_with fail
  have hb2 : Below w.heap.size w ((w.alloc (.cells #[.int .i64 m1, .int .i64 m2] 92)).alloc (.cells #[.int .i64 m1, .int .i64 m2] 92)) := ((Below.refl _ _).alloc (Nat.le_refl _) _).alloc (by simp) _
  have z1 : ((w.alloc (.cells #[.int .i64 m1, .int .i64 m2] 92)).alloc (.cells #[.int .i64 m1, .int .i64 m2] 92)).cell? ⟨w.heap.size + 1, 0, none⟩ = some (.int .i64 m1) := by simp
  have z2 : ((w.alloc (.cells #[.int .i64 m1, .int .i64 m2] 92)).alloc (.cells #[.int .i64 m1, .int .i64 m2] 92)).cell? ⟨w.heap.size + 1, 1, none⟩ = some (.int .i64 m2) := by simp
  generalize ((w.alloc (.cells #[.int .i64 m1, .int .i64 m2] 92)).alloc (.cells #[.int .i64 m1, .int .i64 m2] 92)) = W at *
  generalize w.heap.size + 1 = be at *
  have HB : Hid (Below w.heap.size w W) := hb2
  have HZ : Hid (W.cell? ⟨be, 0, none⟩ = some (.int .i64 m1) ∧ W.cell? ⟨be, 1, none⟩ = some (.int .i64 m2)) := ⟨z1, z2⟩
  clear hb2 z1 z2
  go_loopw [8] (fun i wr => ∃ j : Nat, j ≤ n ∧ i = .int .i64 (j : Nat) ∧ Below W.heap.size W wr ∧ ∀ i, i < j → ¬ IsOf (E.getD i (0, 0)) x y) (fun i _ => n - (intOf i).toNat)
  case atStart => exact ⟨0, Nat.zero_le _, rfl, Below.refl _ _, fun i hi => absurd hi (Nat.not_lt_zero _)⟩
  case round =>
    obtain ⟨j, hj, rfl, hb, hall⟩ := hrel
    have HAll : Hid (∀ i, i < j → ¬ IsOf (E.getD i (0, 0)) x y) := hall
    clear hall
    by_cases hlt : j < n
    · obtain ⟨b, rfl, q1, q2⟩ := HC.out j hlt
      replace q1 := cell_keep hb (cell_keep HB.out q1)
      replace q2 := cell_keep hb (cell_keep HB.out q2)
      have z1 := cell_keep hb HZ.out.1
      have z2 := cell_keep hb HZ.out.2
      obtain ⟨u, hu⟩ : ∃ u, (E.getD j (0, 0)).1 = u := ⟨_, rfl⟩
      obtain ⟨v, hv⟩ : ∃ v, (E.getD j (0, 0)).2 = v := ⟨_, rfl⟩
      rw [hu] at q1
      rw [hv] at q2
      have i0 : (0 : Int) ≤ (j : Int) := by omega
      have i1 : (j : Int) < (n : Int) := by omega
      have HU : Hid (IsOf (E.getD j (0, 0)) x y ↔ (u : Int) = m1 ∧ (v : Int) = m2) := by
        have := HIs.out (E.getD j (0, 0))
        rw [hu, hv] at this
        exact this
      clear hu hv
      by_cases h1 : (u : Int) = m1
      · by_cases h2 : (v : Int) = m2
        · have t1 : ((u : Int) == m1) = true := by rw [h1]; simp
          have t2 : ((v : Int) == m2) = true := by rw [h2]; simp
          have HY : Hid (IsOf (E.getD j (0, 0)) x y) := HU.out.2 ⟨h1, h2⟩
          clear h1 h2
          go_wp2_with fail
          go_quiet (fail)
          go_wp2_with fail
          go_ret
          exact ⟨_, rfl, below_step HB.out (below_step hb (below_drewN rfl)), Or.inl ⟨j, hlt, rfl, HY.out⟩⟩
        · have t1 : ((u : Int) == m1) = true := by rw [h1]; simp
          have t2 : ((v : Int) == m2) = false := by rw [beq_eq_false_iff_ne]; exact h2
          have HY : Hid (¬ IsOf (E.getD j (0, 0)) x y) := fun h => h2 (HU.out.1 h).2
          clear h1 h2
          go_wp2_with fail
          go_quiet (fail)
          go_wp2_with fail
          go_roundw
          case rel =>
            refine ⟨j + 1, by omega, by go_num, below_step hb (below_drewN rfl), fun i hi => ?_⟩
            rcases Nat.lt_or_ge i j with h3 | h3
            · exact HAll.out i h3
            · obtain rfl : i = j := by omega
              exact HY.out
          case measure => simp [intOf]; omega
      · have t1 : ((u : Int) == m1) = false := by rw [beq_eq_false_iff_ne]; exact h1
        have HY : Hid (¬ IsOf (E.getD j (0, 0)) x y) := fun h => h1 (HU.out.1 h).1
        clear h1
        go_wp2_with fail
        go_quiet (fail)
        go_wp2_with fail
        go_roundw
        case rel =>
          refine ⟨j + 1, by omega, by go_num, below_step hb (below_drewN rfl), fun i hi => ?_⟩
          rcases Nat.lt_or_ge i j with h3 | h3
          · exact HAll.out i h3
          · obtain rfl : i = j := by omega
            exact HY.out
        case measure => simp [intOf]; omega
    · have HY : Hid (∀ e ∈ E, ¬ IsOf e x y) := HEnd.out (fun i hi => HAll.out i (by omega))
      go_wp2_with fail
      go_ret
      exact ⟨_, rfl, below_step HB.out hb, Or.inr ⟨rfl, HY.out⟩⟩

theorem edges_cells {b : Nat} (h : EdgesAt w (some ⟨b, 0, none⟩) E) (j : Nat) (u : Value) (hu : (twos E)[j]? = some u) : w.cell? ⟨b, j, none⟩ = some u := by
  have hj : j < E.length * 2 := by rw [← twos_len]; exact (List.getElem?_eq_some_iff.1 hu).1
  rw [twos_get E j hj] at hu
  obtain ⟨b', e, h1, h2⟩ := h.cell (j / 2) (by omega)
  simp only [Option.some.injEq, Addr.mk.injEq, and_true] at e
  subst e
  generalize E.getD (j / 2) (0, 0) = x at *
  rcases Nat.mod_two_eq_zero_or_one j with c | c
  · rw [c] at hu
    rw [show j / 2 * 2 = j by omega] at h1
    rw [h1, ← hu]; rfl
  · rw [c] at hu
    rw [show j / 2 * 2 + 1 = j by omega] at h2
    rw [h2, ← hu]; rfl

theorem two_one (l : List (Nat × Nat)) : ∀ u ∈ twos l, u.oneCell' = true := fun u hu => by
  simp only [twos, List.mem_flatMap, two, List.mem_cons, List.not_mem_nil, or_false] at hu
  obtain ⟨e, _, rfl | rfl⟩ := hu <;> rfl

theorem add_at (b i j : Nat) : (⟨b, i, none⟩ : Addr).add j = ⟨b, i + j, none⟩ := by unfold Addr.add; split <;> simp_all

theorem twos_app (A B : List (Nat × Nat)) : twos (A ++ B) = twos A ++ twos B := by simp [twos]

set_option maxRecDepth 100000 in
set_option maxHeartbeats 4000000 in
theorem out_own {b m c k : Nat} {x : Nat × Nat} {A B : List (Nat × Nat)} (hE : EdgesAt w (some ⟨b, 0, none⟩) (A ++ x :: B)) (hn : (A ++ B).length = m) (hc : m + 1 ≤ c) (hc2 : c ≤ maxLen) (hn2 : m < 1000000) (hk : A.length = k) :
    Calls Tryz.prog 34 #[.slice (some ⟨b, 0, none⟩) (m + 1) c, .int .i64 (k : Nat)] w fun e w' => ∃ v, e = .returned v ∧ Below w.heap.size w w' ∧ w'.ownsRow w.heap.size 92 2 v m (twos (A ++ B)) := by
  obtain ⟨z0, hi0, hz0, hz1, hz2⟩ := info_parts Tryz.infoEdge
  obtain ⟨r, hr⟩ : ∃ r, B.length = r := ⟨_, rfl⟩
  have hkr : m = k + r := by rw [← hn, ← hk, ← hr]; simp
  have HA : Hid (∀ j u, (twos A)[j]? = some u → w.cell? ((⟨b, 0, none⟩ : Addr).add j) = some u) := fun j u hu => by
    have := edges_cells hE j u (by rw [twos_app, List.getElem?_append_left (List.getElem?_eq_some_iff.1 hu).1]; exact hu)
    rw [add_at, Nat.zero_add]; exact this
  have HB : Hid (∀ j u, (twos B)[j]? = some u → w.cell? ⟨b, (k + 1) * 2 + j, none⟩ = some u) := fun j u hu => by
    refine edges_cells hE ((k + 1) * 2 + j) u ?_
    rw [show A ++ x :: B = (A ++ [x]) ++ B by simp, twos_app, List.getElem?_append_right (by rw [twos_len]; simp; omega), twos_len, show (k + 1) * 2 + j - (A ++ [x]).length * 2 = j by simp; omega]
    exact hu
  have HL : Hid ((A ++ B).length = m ∧ A.length = k ∧ B.length = r) := ⟨hn, hk, hr⟩
  clear hE hn hk hr
  have hm2 : maxLen = maxLen := rfl
  go_enter Tryz.func34, Tryz.ntmps34
  have k0 : (0 : Int) ≤ (k : Int) := by omega
  have k1 : (k : Int) ≤ (m + 1 : Nat) := by omega
  have k2 : (k : Int) ≤ (c : Int) := by omega
  go_wp2_with (first
    | (at_builtin; refine wpList_append_own _ rfl (.tmp 6) (.tmp 9) 36 rfl w.heap.size 92 z0 (.agg #[.int .i64 0, .int .i64 0]) 2 16 Tryz.underlying36 hi0 hz0 hz1 hz2 rfl (by decide) (.slice none 0 0) 0 [] rfl (World.ownsRow_nil ..) ⟨b, 0, none⟩ k c (twos A) rfl (by rw [twos_len, HL.out.2.1]) HA.out (two_one A) ?c3 ?c4 ?c5 ?_))
  case c3 => unfold maxLen; omega
  case c4 => omega
  intro v1 w1 hown1 hgrow1 hv1
  have hb1 : Below w.heap.size w w1 := Below.grown (Below.refl _ _) hgrow1 (Nat.le_refl _) (fun k e => by cases e)
  have hs1 := hb1.size
  have HO1 : Hid (w1.ownsRow w.heap.size 92 2 v1 k (twos A)) := hown1
  have HB1 : Hid (Below w.heap.size w w1) := hb1
  clear hown1 hgrow1 hv1 hb1
  have k3 : IntKind.i64.wrap ((k : Int) + 1) = (k : Int) + 1 := by rw [IntKind.wrap_i64]; omega
  have k4 : (0 : Int) ≤ (k : Int) + 1 := by omega
  have k5 : (k : Int) + 1 ≤ ((k + r + 1 : Nat) : Int) := by omega
  obtain ⟨ad, HAd, HC2⟩ : ∃ ad : Addr, Hid (Value.slice (if c = k + 1 then some ⟨b, 0, none⟩ else some ⟨b, (k + 1) * 2, none⟩) r (c - (k + 1)) = .slice (some ad) r (c - (k + 1))) ∧ Hid (∀ j u, (twos B)[j]? = some u → w1.cell? (ad.add j) = some u) := by
    by_cases hck : c = k + 1
    · refine ⟨⟨b, 0, none⟩, show _ = _ by rw [if_pos hck], fun j u hu => ?_⟩
      have h1 : B = [] := List.length_eq_zero_iff.1 (by rw [HL.out.2.2]; omega)
      rw [h1] at hu
      cases hu
    · exact ⟨⟨b, (k + 1) * 2, none⟩, show _ = _ by rw [if_neg hck], fun j u hu => by rw [add_at]; exact cell_keep HB1.out (HB.out j u hu)⟩
  go_wp2_with (first
    | (at_builtin; refine wpList_append_own _ rfl (.tmp 11) (.tmp 15) 36 rfl w.heap.size 92 z0 (.agg #[.int .i64 0, .int .i64 0]) 2 16 Tryz.underlying36 hi0 hz0 hz1 hz2 rfl (by decide) v1 k (twos A) rfl HO1.out ad r (c - (k + 1)) (twos B) HAd.out (by rw [twos_len, HL.out.2.2]) HC2.out (two_one B) ?c3 ?c4 hs1 ?_))
  all_goals first
    | (unfold maxLen; omega)
    | omega
    | skip
  all_goals
    intro v2 w2 hown2 hgrow2 hv2
    have hb2 : Below w.heap.size w w2 := HB1.out.grown hgrow2 hs1 (fun k e => (HO1.out.lt k e).1)
    have hown3 : w2.ownsRow w.heap.size 92 2 v2 m (twos (A ++ B)) := by rw [twos_app, hkr]; exact hown2
    have HO3 : Hid (w2.ownsRow w.heap.size 92 2 v2 m (twos (A ++ B))) := hown3
    clear hown2 hgrow2 hv2 hown3
    go_wp2_with fail
    go_ret
    exact ⟨_, rfl, hb2, HO3.out⟩

end Go.Proofs.YtcfemppdeidjmacGreatDoor.As

namespace Go.Proofs.YtcfemppdeidjmacGreatDoor.As
open Go.RowKit Go.Deep
open Go.RowKit (Below)
set_option linter.unusedVariables false

variable {w w' : World} {l : List Bool} {E : List (Nat × Nat)}

/-- A list of answers, as it lies in memory. -/
structure BoolsAt (w : World) (a : Option Addr) (n : Nat) (l : List Bool) : Prop where
  len : l.length = n
  cell : ∀ i, i < n → ∃ b o, a = some ⟨b, o, none⟩ ∧ w.cell? ⟨b, o + i, none⟩ = some (.bool (l.getD i false))

theorem BoolsAt.below {a : Option Addr} {n : Nat} (h : BoolsAt w a n l) (hb : Below w.heap.size w w') : BoolsAt w' a n l := ⟨h.len, fun i hi => by
  obtain ⟨b, o, e, q⟩ := h.cell i hi
  exact ⟨b, o, e, cell_keep hb q⟩⟩

/-- Two rows of different kinds: the one stays where the other grows. -/
theorem own_grown {base base' n n' s s' : Nat} {ty ty' : TypeId} {v v' : Value} {xs xs' : List Value} (h : w.ownsRow base ty s v n xs) (h' : w.ownsRow base' ty' s' v' n' xs') (hne : ty ≠ ty') (hg : w.grownBy w' v'.ownBlock) : w'.ownsRow base ty s v n xs := by
  refine ⟨h.1, ?_⟩
  rcases h.2 with h0 | ⟨g, cap, cur, hv, h1, h2, h3⟩
  · exact Or.inl h0
  · refine Or.inr ⟨g, cap, cur, hv, h1, ?_, h3⟩
    rw [hg.block g (Array.getElem?_eq_some_iff.1 h2).1 (fun e => ?_)]
    · exact h2
    · rcases h'.2 with ⟨q, _⟩ | ⟨g', cap', cur', hv', q1, q2, _⟩
      · rw [q] at e
        cases e
      · rw [hv'] at e
        cases e
        rw [h2] at q2
        cases q2
        exact hne rfl

/-- Answers as cells. -/
def bools (l : List Bool) : List Value := l.map Value.bool

theorem bools_snoc (l : List Bool) (b : Bool) : bools (l ++ [b]) = bools l ++ [.bool b] := by simp [bools]

theorem own_bools {base n : Nat} {v : Value} {l : List Bool} (h : w.ownsRow base 4 1 v n (bools l)) (hn : l.length = n) : ∃ a c, v = .slice a n c ∧ BoolsAt w a n l ∧ n ≤ c ∧ c ≤ maxLen := by
  rcases h.2 with ⟨hv, h0⟩ | ⟨g', cap', cur, hv, hb, hg, h1, h2, h3, h4⟩
  · subst h0
    exact ⟨none, 0, hv, ⟨hn, fun i hi => by omega⟩, Nat.le_refl _, Nat.zero_le _⟩
  · subst hv
    refine ⟨_, _, rfl, ⟨hn, fun i hi => ⟨g', 0, rfl, ?_⟩⟩, h1, h2⟩
    have hi2 : i < l.length := by omega
    have e1 : (cur.toList.take (n * 1))[i]? = some (Value.bool (l.getD i false)) := by
      rw [h4, bools, List.getElem?_map, List.getElem?_eq_getElem hi2, List.getD_eq_getElem?_getD, List.getElem?_eq_getElem hi2]; rfl
    rw [List.getElem?_take, if_pos (by omega)] at e1
    simp only [World.cell?, hg, Nat.zero_add]
    simpa using e1

/-- The same, of a slice that is told. -/
theorem own_at {base n c : Nat} {a : Option Addr} {l : List Bool} (h : w.ownsRow base 4 1 (.slice a n c) n (bools l)) (hn : l.length = n) : BoolsAt w a n l := by
  obtain ⟨a', c', e, q, _⟩ := own_bools h hn
  cases e
  exact q

set_option maxRecDepth 100000 in
theorem Tryz.infoBool : (Tryz.prog.info? 4).map (fun i => (i.zero, i.size, i.bytes)) = some (some (.bool false), 1, 1) := by kernel_rfl

set_option maxRecDepth 100000 in
set_option maxHeartbeats 2000000 in
theorem bools_same {a a' : Option Addr} {n c c' : Nat} (h : BoolsAt w a n l) (h' : BoolsAt w a' n l) (hn : n < 1000000) :
    Calls Tryz.prog 15 #[.slice a n c, .slice a' n c'] w fun e w' => e = .returned (.bool true) ∧ Below w.heap.size w w' := by
  have HC : Hid (∀ i, i < n → ∃ b o b' o' q, a = some ⟨b, o, none⟩ ∧ a' = some ⟨b', o', none⟩ ∧ w.cell? ⟨b, o + i, none⟩ = some (.bool q) ∧ w.cell? ⟨b', o' + i, none⟩ = some (.bool q)) := fun i hi => by
    obtain ⟨b, o, e, q⟩ := h.cell i hi
    obtain ⟨b', o', e', q'⟩ := h'.cell i hi
    exact ⟨b, o, b', o', _, e, e', q, q'⟩
  clear h h'
  go_enter Tryz.func15, Tryz.ntmps15
  go_wp2_with fail
  go_loopw [5] (fun i wr => ∃ j : Nat, j ≤ n ∧ i = .int .i64 (j : Nat) ∧ Below w.heap.size w wr) (fun i _ => n - (intOf i).toNat)
  case atStart => exact ⟨0, Nat.zero_le _, rfl, Below.refl _ _⟩
  case round =>
    obtain ⟨j, hj, rfl, hb⟩ := hrel
    by_cases hlt : j < n
    · obtain ⟨b, o, b', o', q, rfl, rfl, q1, q2⟩ := HC.out j hlt
      replace q1 := cell_keep hb q1
      replace q2 := cell_keep hb q2
      have HB : Hid (Below w.heap.size w wr) := hb
      have i0 : (0 : Int) ≤ (j : Int) := by omega
      have i1 : (j : Int) < (n : Int) := by omega
      clear hb
      go_wp2_with fail
      go_quiet (fail)
      go_wp2_with fail
      go_roundw
      case rel => exact ⟨j + 1, by omega, by go_num, below_step HB.out (below_drewN rfl)⟩
      case measure => simp [intOf]; omega
    · obtain rfl : j = n := by omega
      go_wp2_with fail
      go_ret
      exact ⟨rfl, hb⟩

/-- Events, as they lie in memory. -/
def EvAt (w : World) (a : Option Addr) (m : Nat) (f : Nat → Int × Int × Int) : Prop :=
  ∀ i, i < m → ∃ b o, a = some ⟨b, o, none⟩ ∧ w.cell? ⟨b, o + i * 3, none⟩ = some (.int .i64 (f i).1) ∧ w.cell? ⟨b, o + i * 3 + 1, none⟩ = some (.int .i64 (f i).2.1) ∧ w.cell? ⟨b, o + i * 3 + 2, none⟩ = some (.int .i64 (f i).2.2)

theorem EvAt.below {a : Option Addr} {m : Nat} {f : Nat → Int × Int × Int} (h : EvAt w a m f) (hb : Below w.heap.size w w') : EvAt w' a m f := fun i hi => by
  obtain ⟨b, o, e, h1, h2, h3⟩ := h i hi
  exact ⟨b, o, e, cell_keep hb h1, cell_keep hb h2, cell_keep hb h3⟩

/-- The nodes that are told are numbers of the machine. -/
def Fits (f : Nat → Int × Int × Int) (m : Nat) : Prop := ∀ i, i < m → (Lit.int .i64 (f i).2.1).wf = true ∧ (Lit.int .i64 (f i).2.2).wf = true

theorem Fits.of_may {f : Nat → Int × Int × Int} {n m : Nat} (hn : n ≤ 60) (h : ∀ j, j < m → May n f j) : Fits f m := fun i hi => by
  have h1 := (h i hi).a
  have h2 := (h i hi).b
  exact ⟨WalkArith.wf_i64 (by omega), WalkArith.wf_i64 (by omega)⟩

theorem Fits.less {f : Nat → Int × Int × Int} {m k : Nat} (h : Fits f m) (hk : k ≤ m) : Fits f k := fun i hi => h i (by omega)

end Go.Proofs.YtcfemppdeidjmacGreatDoor.As
