/-
  keep: a way is laid into the map of ways, and its nodes are at home at the least of them.
-/
import Derived.Test.YtcebfloeikjjcabGreatTw3
namespace Go.Proofs.YtcebfloeikjjcabGreat
open Go.RowKit Go.Deep Go.Shelf Go.Sort Go.Lib
open Go.RowKit (Below)
set_option linter.unusedVariables false

variable {w w' : World} {L : Pl} {p : Nat → Nat} {DW DE : DataW Unit} {E : List (Nat × Nat)}

/-- Where the homes stand behind the first j nodes. -/
structure Kept (L : Pl) (w wr : World) (p : Nat → Nat) (ns : List Nat) (h k j : Nat) : Prop where
  turn : Turn L w wr
  st : wr.rowIs L.g 66 3 (cells3 L)
  home : wr.rowIs L.hb 3 L.n (fun i => .int .i64 ((if i ∈ ns.take j then h else p i : Nat) : Int))
  list : ∀ i, i < ns.length → wr.cell? ⟨k, i, none⟩ = some (.int .i64 (ns.getD i 0 : Nat))
  wm : wr.heap[L.wb]? = w.heap[L.wb]?
  em : wr.heap[L.eb]? = w.heap[L.eb]?

theorem Kept.step {wr : World} {ns : List Nat} {h k j : Nat} (K : Kept L w wr p ns h k j) (hj : j < ns.length) (hk : k ≠ L.hb) (hg : L.g ≠ L.hb) (hw : L.hb ≠ L.wb) (he : L.hb ≠ L.eb) (x : Nat) (hx : ns.getD j 0 = x) :
    Kept L w (wr.setCell ⟨L.hb, x, none⟩ (.int .i64 (h : Int))).drew p ns h k (j + 1) := by
  refine ⟨?_, (K.st.setOther (by exact hg) _).drew, ?_, fun i hi => ?_, ?_, ?_⟩
  · refine K.turn.trans ⟨rfl, rfl, rfl, by simp [World.setCell], fun i hi hn => RowKit.Below.heap_setCell _ _ _ _ (fun e => hn (Or.inl e))⟩
  · refine ((K.home.set x _).drew).congr fun i hi => ?_
    rw [List.take_add_one, List.getElem?_eq_getElem hj]
    have ex : ns[j] = x := by rw [← hx, List.getD_eq_getElem?_getD, List.getElem?_eq_getElem hj]; rfl
    rw [ex]
    by_cases e : i = x
    · simp [e]
    · simp [e]
  · show (wr.setCell _ _).cell? _ = _
    rw [cs_other (by simp only [ne_eq, Addr.mk.injEq, not_and]; intro e; exact absurd e.symm hk)]
    exact K.list i hi
  · exact (RowKit.Below.heap_setCell _ _ _ _ (fun e => hw e.symm)).trans K.wm
  · exact (RowKit.Below.heap_setCell _ _ _ _ (fun e => he e.symm)).trans K.em

set_option maxHeartbeats 2000000 in
theorem keep_any (m : Mem w L p DW DE E) {b : Nat} {T : BT Int} (hr : RowAt w (some ⟨b, 0, none⟩) T) (hs : sz T ≤ 400) (ns : List Nat) (h : Nat) (hns : ((items T).filter fun z : Int => decide (z < (L.n : Nat))).mergeSort (fun x y => decide (x ≤ y)) = (h :: ns).map Int.ofNat) (hlt : ∀ x ∈ h :: ns, x < L.n) :
    Calls Tryz.prog 30 #[.pointer (some ⟨L.g, 0, none⟩), .pointer (some ⟨b, 0, none⟩)] w fun e w' => e = .returned (.tuple #[]) ∧ Turn L w w' ∧
      Mem w' L (fun i => if i ∈ h :: ns then h else p i) (DW.put (.int .i64 (h : Int)) (.lit (.int .i64 (b : Int)))) DE E := by
  have hz : 0 < sz T := by
    rcases Nat.eq_zero_or_pos (sz T) with h0 | h0
    · rw [← items_len] at h0
      rw [List.length_eq_zero_iff.1 h0] at hns
      simp at hns
    · exact h0
  have hnx := nodes_any m hr hs hz _ hns
  have hLn := m.n60
  have hg := m.g_off
  have hhw := m.hw
  have hhe := m.he
  have hgh : L.g ≠ L.hb := fun e => hg (Or.inl e)
  have hhl : L.hb < w.heap.size := m.home.lt
  obtain ⟨ms, hms⟩ : ∃ ms, ms = h :: ns := ⟨_, rfl⟩
  rw [← hms] at hnx hlt ⊢
  have hm0 : 0 < ms.length := by rw [hms]; simp
  have hd0 : ms.getD 0 0 = h := by rw [hms]; rfl
  have HLT : Hid (∀ x ∈ ms, x < L.n) := hlt
  clear hns hlt hms
  go_enter Tryz.func30, Tryz.ntmps30
  go_wp2_with fail
  refine hnx.mono ?_
  rintro e w1 ⟨k, rfl, hb1, hk, hle, hl⟩
  clear hnx
  rw [List.length_map] at hl hle
  have m1 := m.below hb1
  have K0 : Kept L w1 w1 p ms h k 0 := ⟨Turn.refl _, m1.st, by simpa using m1.home, fun i hi => by
    rw [hl i hi]
    congr 2
    rw [List.getD_eq_getElem?_getD, List.getD_eq_getElem?_getD, List.getElem?_map, List.getElem?_eq_getElem hi]; rfl, rfl, rfl⟩
  have HK0 : Hid (Kept L w1 w1 p ms h k 0) := K0
  have HM1 : Hid (Mem w1 L p DW DE E) := m1
  have hkh : k ≠ L.hb := by omega
  have hml : ms.length < 1000000 := by omega
  clear K0 m1 hl m
  simp only [List.length_map]
  go_wp2_with fail
  go_loopw [6, 12] (fun _ i wr => ∃ j : Nat, j ≤ ms.length ∧ i = .int .i64 (j : Nat) ∧ Kept L w1 wr p ms h k j) (fun _ i _ => ms.length - (intOf i).toNat)
  case atStart => exact ⟨0, Nat.zero_le _, rfl, HK0.out⟩
  case round =>
    obtain ⟨j, hj, rfl, K⟩ := hrel
    by_cases hlt : j < ms.length
    · have i0 : (0 : Int) ≤ (j : Int) := by omega
      have i1 : (j : Int) < (ms.length : Int) := by omega
      have i2 : (0 : Int) < (ms.length : Int) := by omega
      obtain ⟨x, hx⟩ : ∃ x, ms.getD j 0 = x := ⟨_, rfl⟩
      have hcj := K.list j hlt
      have hc0 := K.list 0 hm0
      rw [hx] at hcj
      rw [hd0] at hc0
      have hxn : x < L.n := HLT.out x (by rw [← hx, List.getD_eq_getElem?_getD, List.getElem?_eq_getElem hlt]; exact List.getElem_mem hlt)
      have i3 : (0 : Int) ≤ (x : Int) := by omega
      have i4 : (x : Int) < (L.n : Int) := by omega
      have s0 := K.st.cell (i := 0) (by omega)
      have s1 : wr.cell? ⟨L.g, 0, none⟩ = some (.slice (some ⟨L.hb, 0, none⟩) L.n L.n) := s0
      have t0 := K.home.cell hxn
      have t1 := K.home.frozen x
      have HS : Hid (Kept L w1 (wr.setCell ⟨L.hb, x, none⟩ (.int .i64 (h : Int))).drew p ms h k (j + 1)) := K.step hlt hkh hgh hhw hhe x hx
      clear K s0 hx
      go_wp2_with fail
      go_region
      all_goals
        go_wp2_with fail
        go_roundw
        case rel => exact ⟨j + 1, by omega, by go_num, HS.out⟩
        case measure => simp [intOf]; omega
    · obtain rfl : j = ms.length := by omega
      have m1 := HM1.out
      have i2 : (0 : Int) < (ms.length : Int) := by omega
      have hc0 := K.list 0 hm0
      rw [hd0] at hc0
      have s1 : wr.cell? ⟨L.g, 1, none⟩ = some (.map (some L.wb)) := K.st.cell (i := 1) (by omega)
      have hhn : h < L.n := HLT.out h (by rw [← hd0, List.getD_eq_getElem?_getD, List.getElem?_eq_getElem hm0]; exact List.getElem_mem hm0)
      obtain ⟨w2, hrun, hown, ht⟩ := ways_store (w := wr.drew) (own_block m1.ways K.wm) (by omega) h b (by omega)
      have HF : Hid (Turn L w w2 ∧ Mem w2 L (fun i => if i ∈ ms then h else p i) (DW.put (.int .i64 (h : Int)) (.lit (.int .i64 (b : Int)))) DE E) := by
        have tt : Turn L wr.drew w2 := Turn.grown ht.grown (Or.inr (Or.inl rfl))
        have hkeys : ∀ kl, Maps.has (DW.put (.int .i64 (h : Int)) (.lit (.int .i64 (b : Int)))) kl = true → ∃ r : Nat, r < L.n ∧ kl = .int .i64 (r : Int) := fun kl hk => by
          by_cases e : kl = .int .i64 (h : Int)
          · exact ⟨h, hhn, e⟩
          · rw [Maps.has_put_other e] at hk; exact m1.keys kl hk
        have bl : ∀ i, i < wr.heap.size → i ≠ L.wb → w2.heap[i]? = wr.heap[i]? := fun i hi hn => ht.grown.block i hi (fun e => hn (by cases e; rfl))
        refine ⟨(Turn.of_below hb1).trans (K.turn.trans ((Turn.refl _).drew.trans tt)), K.st.of_block (bl _ K.st.lt (fun e => hg (Or.inr (Or.inl e)))), ?_, ?_, hkeys, ?_, m1.n1, m1.n60, m1.we⟩
        · refine (K.home.of_block (bl _ K.home.lt hhw)).congr fun i _ => ?_
          rw [List.take_length]
        · exact (own_exact hown).mono (keys_size ((own_exact hown).canon Tryz.lawInt) hkeys)
        · refine m1.edges.of_block ?_
          have := map_lt m1.em
          have := K.turn.size
          rw [bl _ (by omega) (fun e => m1.we e.symm)]
          exact K.em
      clear K ht hown
      go_wp2_with fail
      go_region
      all_goals
        go_end0
        exact ⟨rfl, HF.out.1, HF.out.2⟩

end Go.Proofs.YtcebfloeikjjcabGreat
