/-
  The statements' own answer: of each node the least one of its part, told on along edges as long as something changes.
-/
import Derived.Test.YtcebfloeikjjcaaGreatDoorQa
namespace Go.Proofs.YtcebfloeikjjcaaGreatDoor
open Go.RowKit Go.Deep
set_option linter.unusedVariables false

variable {w w' : World} {p p' : Nat → Nat} {E E' : List (Nat × Nat)}

/-- A list of numbers that may be written to. -/
structure Wr (w : World) (k n : Nat) (q : Nat → Nat) : Prop where
  cell : ∀ i, i < n → w.cell? ⟨k, i, none⟩ = some (.int .i64 (q i : Nat))
  free : ∀ i, i < n → w.frozen? ⟨k, i, none⟩ = false

theorem Wr.set {k n : Nat} {q : Nat → Nat} (h : Wr w k n q) (b x : Nat) (hb : b < n) : Wr (w.setCell ⟨k, b, none⟩ (.int .i64 (x : Nat))) k n (tell q b x) := by
  refine ⟨fun i hi => ?_, fun i hi => by rw [World.frozen?_setCell]; exact h.free i hi⟩
  unfold tell
  by_cases e : i = b
  · subst e
    rw [if_pos rfl]
    exact World.cell?_setCell_same (h := h.cell i hi) ..
  · rw [if_neg e]
    exact (World.cell?_setCell_other (h := by simp only [ne_eq, Addr.mk.injEq, not_and]; intro _ h1; exact absurd h1.symm e) ..).trans (h.cell i hi)

/-- The sum of such a list, read off the world. -/
def sumAt (w : World) (k n : Nat) : Nat := total (fun i => match w.cell? ⟨k, i, none⟩ with | some (.int _ x) => x.toNat | _ => 0) n

theorem Wr.sum {k n : Nat} {q : Nat → Nat} (h : Wr w k n q) : sumAt w k n = total q n := by
  unfold sumAt
  refine total_congr n fun i hi => ?_
  rw [h.cell i hi]
  exact Int.toNat_natCast _

theorem own_wr {base e cap k n : Nat} {q : Nat → Nat} (h : w.ownsRow base 3 1 (.slice (some ⟨k, 0, none⟩) n cap) n ((List.range n).map fun i => Value.int .i64 ((q i : Nat) : Int))) (hn : 0 < n) : Wr w k n q ∧ base ≤ k ∧ k < w.heap.size := by
  rcases h.2 with ⟨_, h0⟩ | ⟨g', cap', cur, hv, hb, hg, h1, h2, h3, h4⟩
  · omega
  · simp only [Value.slice.injEq, Option.some.injEq, Addr.mk.injEq, and_true, true_and] at hv
    obtain ⟨rfl, rfl⟩ := hv
    refine ⟨⟨fun i hi => ?_, fun i hi => by simp [World.frozen?, hg]⟩, hb, (Array.getElem?_eq_some_iff.1 hg).1⟩
    have e1 : (cur.toList.take (n * 1))[i]? = some (Value.int .i64 ((q i : Nat) : Int)) := by rw [h4]; simp [hi]
    rw [List.getElem?_take, if_pos (by omega)] at e1
    simp only [World.cell?, hg]
    simpa using e1

set_option maxRecDepth 100000 in
set_option maxHeartbeats 4000000 in
theorem parts_of {a : Option Addr} {m c : Nat} (hE : EdgesAt w a E) (hm : E.length = m) (hm2 : m < 1000000) (n : Nat) (hn : 0 < n) (hn2 : n ≤ 60) (ha : Among n E) (hp : Rest E p) :
    Calls Tryz.prog 9 #[.int .i64 (n : Nat), .slice a m c] w fun e w' => ∃ k cap, e = .returned (.slice (some ⟨k, 0, none⟩) n cap) ∧ Below w.heap.size w w' ∧ w.heap.size ≤ k ∧ ∀ i, i < n → w'.cell? ⟨k, i, none⟩ = some (.int .i64 (p i : Nat)) := by
  obtain ⟨i0, hi0, hz0, hz1, hz2⟩ := info_parts Tryz.infoInt
  have HC : Hid (∀ i, i < m → ∃ b u v, a = some ⟨b, 0, none⟩ ∧ E[i]? = some (u, v) ∧ w.cell? ⟨b, i * 2, none⟩ = some (.int .i64 (u : Nat)) ∧ w.cell? ⟨b, i * 2 + 1, none⟩ = some (.int .i64 (v : Nat))) := fun i hi => by
    obtain ⟨b, e, q1, q2⟩ := hE.cell i (by omega)
    have h1 : E[i]? = some (E.getD i (0, 0)) := by rw [List.getD_eq_getElem?_getD, List.getElem?_eq_getElem (by omega)]; rfl
    exact ⟨b, _, _, e, h1, q1, q2⟩
  have HM : Hid (E.length = m) := hm
  clear hE hm
  go_enter Tryz.func9, Tryz.ntmps9
  go_wp2_with fail
  go_loopw [5, 6] (fun v i wr => ∃ j : Nat, j ≤ n ∧ i = .int .i64 (j : Nat) ∧ wr.ownsRow w.heap.size 3 1 v j ((List.range j).map fun i => Value.int .i64 ((i : Nat) : Int)) ∧ Below w.heap.size w wr) (fun _ i _ => n - (intOf i).toNat)
  case atStart => exact ⟨0, Nat.zero_le _, rfl, World.ownsRow_nil .., Below.refl _ _⟩
  case round =>
    obtain ⟨j, hj, rfl, hown, hb⟩ := hrel
    by_cases hlt : j < n
    · have hb1 := hb.size
      have HO : Hid (wr.ownsRow w.heap.size 3 1 u5 j ((List.range j).map fun i => Value.int .i64 ((i : Nat) : Int))) := hown
      have HB : Hid (Below w.heap.size w wr) := hb
      clear hown hb
      have i1 : (0 : Int) ≤ (j : Int) := by omega
      go_wp2_with (first
        | (at_builtin; refine wpList_append_lies _ rfl (.tmp 16) (.tmp 18) 32 rfl w.heap.size 3 i0 (.int .i64 0) 1 8 Tryz.underlying32 hi0 hz0 hz1 hz2 rfl (by decide) u5 j ((List.range j).map fun i => Value.int .i64 ((i : Nat) : Int)) rfl (HO.out.alloc _) ⟨wr.heap.size, 0, none⟩ 1 1 [.int .i64 (j : Int)] rfl rfl ?c1 ?c2 (by decide) ?c3 ?c4 ?c5 _ rfl ?_))
      case c1 => exact cell_one_new _ _ _
      case c2 => intro u hu; simp at hu; subst hu; rfl
      case c3 => unfold maxLen; omega
      case c4 => omega
      case c5 => simp; omega
      intro g1 cap1 w2 hown hgrow hat hlt2
      have hown2 : w2.ownsRow w.heap.size 3 1 (.slice (some ⟨g1, 0, none⟩) (j + 1) cap1) (j + 1) ((List.range (j + 1)).map fun i => Value.int .i64 ((i : Nat) : Int)) := by
        rw [List.range_succ, List.map_append]; exact hown
      have hb2 : Below w.heap.size w w2 := (HB.out.alloc hb1 _).grown hgrow (by simp; omega) (fun k e => (HO.out.lt k e).1)
      have HO2 : Hid (w2.ownsRow w.heap.size 3 1 (.slice (some ⟨g1, 0, none⟩) (j + 1) cap1) (j + 1) ((List.range (j + 1)).map fun i => Value.int .i64 ((i : Nat) : Int))) := hown2
      clear hown hown2 hgrow hat hlt2
      go_wp2_with fail
      go_roundw
      case rel => exact ⟨j + 1, by omega, by go_num, HO2.out, hb2⟩
      case measure => simp [intOf]; omega
    · obtain rfl : j = n := by omega
      obtain ⟨k, cap, rfl⟩ : ∃ k cap, u5 = .slice (some ⟨k, 0, none⟩) j cap := by
        rcases hown.2 with ⟨_, h0⟩ | ⟨k, cap, _, hv, _⟩
        · omega
        · exact ⟨k, cap, hv⟩
      obtain ⟨hw0, hk, hk2⟩ := own_wr (q := fun i => i) (e := 0) hown hn
      have HW0 : Hid (Wr wr k j fun i => i) := hw0
      have HB : Hid (Below w.heap.size w wr) := hb
      clear hown hw0 hb
      go_wp2_with fail
      go_loopw [7, 8, 9, 10] (fun _ _ _ _ wr => ∃ q : Nat → Nat, Low E q ∧ Wr wr k j q ∧ Below w.heap.size w wr) (fun _ _ _ _ wr => sumAt wr k j)
      case atStart => exact ⟨fun i => i, Low.start E, HW0.out, HB.out⟩
      case round =>
        obtain ⟨q, hq, hwq, hbq⟩ := hrel
        have HS : Hid (sumAt wr k j = total q j) := hwq.sum
        have HQ : Hid (Low E q ∧ Wr wr k j q ∧ Below w.heap.size w wr) := ⟨hq, hwq, hbq⟩
        clear hq hwq hbq
        go_wp2_with fail
        go_loopw [7, 8, 9, 10] (fun same i _ _ wi => ∃ (t : Nat) (q1 : Nat → Nat), t ≤ m ∧ i = .int .i64 (t : Nat) ∧ Low E q1 ∧ Wr wi k j q1 ∧ Below w.heap.size w wi ∧ ((same = .bool true ∧ q1 = q ∧ ∀ s, s < t → ∀ e, E[s]? = some e → q e.1 = q e.2) ∨ (same = .bool false ∧ total q1 j < total q j))) (fun _ i _ _ _ => m - (intOf i).toNat)
        case atStart => exact ⟨0, q, Nat.zero_le _, rfl, HQ.out.1, HQ.out.2.1, HQ.out.2.2, Or.inl ⟨rfl, rfl, fun s hs => absurd hs (Nat.not_lt_zero _)⟩⟩
        case round =>
          obtain ⟨t, q1, ht, rfl, hlow, hwr, hbi, hst⟩ := hrel
          have HR : Hid (Low E q1 ∧ Wr wr k j q1 ∧ Below w.heap.size w wr ∧ ((u7 = .bool true ∧ q1 = q ∧ ∀ s, s < t → ∀ e, E[s]? = some e → q e.1 = q e.2) ∨ (u7 = .bool false ∧ total q1 j < total q j))) := ⟨hlow, hwr, hbi, hst⟩
          clear hlow hst
          by_cases hlt : t < m
          · obtain ⟨b, u, v, rfl, hEt, c1, c2⟩ := HC.out t hlt
            replace c1 := cell_keep hbi c1
            replace c2 := cell_keep hbi c2
            have hmem : (u, v) ∈ E := List.mem_of_getElem? hEt
            obtain ⟨hun, hvn⟩ : u < j ∧ v < j := ha (u, v) hmem
            have hcon : Conn E u v := conn_edge hmem
            have d1 := hwr.cell u hun
            have d2 := hwr.cell v hvn
            have HEt : Hid (E[t]? = some (u, v)) := hEt
            have i1 : (0 : Int) ≤ (t : Int) := by omega
            have i2 : (t : Int) < (m : Int) := by omega
            have i3 : (0 : Int) ≤ (u : Int) := by omega
            have i4 : (u : Int) < (j : Int) := by omega
            have i5 : (0 : Int) ≤ (v : Int) := by omega
            have i6 : (v : Int) < (j : Int) := by omega
            clear hwr hbi hEt hmem
            have hge : True := trivial
            rcases Nat.lt_trichotomy (q1 u) (q1 v) with hlt1 | hlt1 | hlt1
            · have t1 : ((q1 u : Nat) : Int) < ((q1 v : Nat) : Int) := by omega
              have t2 : ¬ ((q1 v : Nat) : Int) < ((q1 u : Nat) : Int) := by omega
              have HN : Hid (Low E (tell q1 v (q1 u)) ∧ Wr (wr.setCell ⟨k, v, none⟩ (.int .i64 (q1 u : Nat))) k j (tell q1 v (q1 u)) ∧ Below w.heap.size w (wr.setCell ⟨k, v, none⟩ (.int .i64 (q1 u : Nat))) ∧ total (tell q1 v (q1 u)) j < total q j) := by
                refine ⟨HR.out.1.tell hcon hlt1, HR.out.2.1.set v (q1 u) hvn, HR.out.2.2.1.setCell (p := ⟨k, v, none⟩) hk _, ?_⟩
                have hd := total_tell (p := q1) hlt1 j hvn
                rcases HR.out.2.2.2 with ⟨_, rfl, _⟩ | ⟨_, h2⟩
                · exact hd
                · omega
              have f1 := HR.out.2.1.free v hvn
              clear hlt1 hcon hge
              go_wp2_with fail
              go_roundw
              case rel => exact ⟨t + 1, _, by omega, by go_num, HN.out.1, HN.out.2.1, HN.out.2.2.1, Or.inr ⟨rfl, HN.out.2.2.2⟩⟩
              case measure => simp [intOf]; omega
            · have t1 : ¬ ((q1 u : Nat) : Int) < ((q1 v : Nat) : Int) := by omega
              have t2 : ¬ ((q1 v : Nat) : Int) < ((q1 u : Nat) : Int) := by omega
              have HN : Hid ((u7 = .bool true ∧ q1 = q ∧ ∀ s, s < t + 1 → ∀ e, E[s]? = some e → q e.1 = q e.2) ∨ (u7 = .bool false ∧ total q1 j < total q j)) := by
                rcases HR.out.2.2.2 with ⟨h1, h2, h3⟩ | h1
                · refine Or.inl ⟨h1, h2, fun s hs e he => ?_⟩
                  rcases Nat.lt_or_ge s t with h4 | h4
                  · exact h3 s h4 e he
                  · obtain rfl : s = t := by omega
                    rw [HEt.out] at he
                    cases he
                    rw [← h2]
                    exact hlt1
                · exact Or.inr h1
              clear hlt1 hcon hge
              go_wp2_with fail
              go_roundw
              case rel => exact ⟨t + 1, q1, by omega, by go_num, HR.out.1, HR.out.2.1, HR.out.2.2.1, HN.out⟩
              case measure => simp [intOf]; omega
            · have t1 : ((q1 v : Nat) : Int) < ((q1 u : Nat) : Int) := by omega
              have t2 : ¬ ((q1 u : Nat) : Int) < ((q1 v : Nat) : Int) := by omega
              have HN : Hid (Low E (tell q1 u (q1 v)) ∧ Wr (wr.setCell ⟨k, u, none⟩ (.int .i64 (q1 v : Nat))) k j (tell q1 u (q1 v)) ∧ Below w.heap.size w (wr.setCell ⟨k, u, none⟩ (.int .i64 (q1 v : Nat))) ∧ total (tell q1 u (q1 v)) j < total q j) := by
                refine ⟨HR.out.1.tell ((conn_eqv E).symm hcon) hlt1, HR.out.2.1.set u (q1 v) hun, HR.out.2.2.1.setCell (p := ⟨k, u, none⟩) hk _, ?_⟩
                have hd := total_tell (p := q1) hlt1 j hun
                rcases HR.out.2.2.2 with ⟨_, rfl, _⟩ | ⟨_, h2⟩
                · exact hd
                · omega
              have f1 := HR.out.2.1.free u hun
              clear hlt1 hcon hge
              go_wp2_with fail
              go_roundw
              case rel => exact ⟨t + 1, _, by omega, by go_num, HN.out.1, HN.out.2.1, HN.out.2.2.1, Or.inr ⟨rfl, HN.out.2.2.2⟩⟩
              case measure => simp [intOf]; omega
          · obtain rfl : t = m := by omega
            have HL : Hid (E.length = t) := HM.out
            rcases HR.out.2.2.2 with ⟨h1, h2, h3⟩ | ⟨h1, h2⟩
            · subst h1
              have hrest : Rest E q1 := ⟨HR.out.1, fun e he => by
                obtain ⟨s, hs, rfl⟩ := List.mem_iff_getElem.1 he
                rw [h2]
                exact h3 s (by rw [← HL.out]; exact hs) _ (List.getElem?_eq_getElem hs)⟩
              have HF : Hid (∀ i, i < j → wr.cell? ⟨k, i, none⟩ = some (.int .i64 (p i : Nat))) := fun i hi => by
                rw [HR.out.2.1.cell i hi, hrest.one hp (fun _ _ => Iff.rfl) i]
              clear h2 h3 hrest hwr
              go_wp2_with fail
              go_ret
              exact ⟨k, ⟨_, rfl⟩, hbi, hk, HF.out⟩
            · subst h1
              have HT : Hid (total q1 j < total q j) := h2
              clear h2
              go_wp2_with fail
              go_roundw
              case rel => exact ⟨q1, HR.out.1, HR.out.2.1, HR.out.2.2.1⟩
              case measure => rw [HR.out.2.1.sum, HS.out]; exact HT.out

end Go.Proofs.YtcebfloeikjjcaaGreatDoor
