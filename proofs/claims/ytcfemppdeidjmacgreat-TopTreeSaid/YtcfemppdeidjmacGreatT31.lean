/-
  Pw
-/
import Derived.Test.YtcfemppdeidjmacGreatT30
import Derived.Test.YtcfemppdeidjmacGreatT21
import Derived.Test.YtcfemppdeidjmacGreatT24
namespace Go.Proofs.YtcfemppdeidjmacGreat.Pt
open Go.RowKit Go.Deep Go.Proofs.YtcfemppdeidjmacGreat.Br
open Go.RowKit (Below)
set_option linter.unusedVariables false

variable {w w' : World} {f : Nat → Int × Int}

theorem edges_take {m j : Nat} (h : j ≤ m) : (edges f m).take j = edges f j := by
  unfold edges
  rw [← List.map_take, List.take_range, Nat.min_eq_left h]

theorem valid_less {n : Int} {m j : Nat} (h : Valid n m f) (hj : j ≤ m) : Valid n j f := ⟨h.1, Nat.le_trans hj h.2.1, fun i hi => h.2.2 i (by omega)⟩

def prs (f : Nat → Int × Int) (j : Nat) : List (Int × Int) := ((List.range j).map f).reverse

theorem prs_succ (f : Nat → Int × Int) (j : Nat) : prs f (j + 1) = f j :: prs f j := by
  unfold prs
  rw [List.range_succ, List.map_append, List.reverse_append]
  rfl

theorem prs_conn {n j : Nat} {L : List (Nat × Nat)} (h : Gen n (prs f j) L) (hs : ∀ i, i < j → Sane n f i) (x y : Nat) : rt L x = rt L y ↔ Conn (edges f j) x y := by
  refine h.conn (fun a b => ?_) x y
  have key : ∀ a b : Nat, (((a : Int), (b : Int)) ∈ prs f j) ↔ (a, b) ∈ edges f j := fun a b => by
    unfold prs edges
    rw [List.mem_reverse, List.mem_map, List.mem_map]
    constructor
    · rintro ⟨i, hi, e⟩
      refine ⟨i, hi, ?_⟩
      rw [e]
      rfl
    · rintro ⟨i, hi, e⟩
      have h2 := hs i (List.mem_range.1 hi)
      unfold Sane at h2
      simp only [Prod.mk.injEq] at e
      exact ⟨i, hi, Prod.ext (by show (f i).1 = _; omega) (by show (f i).2 = _; omega)⟩
  rw [key a b, key b a]
  constructor
  · rintro ⟨_, _, h⟩; exact h
  · intro h
    have hl : ∀ u v : Nat, (u, v) ∈ edges f j → u < n ∧ v < n := fun u v q => by
      obtain ⟨i, hi, e⟩ := List.mem_map.1 q
      have h2 := hs i (List.mem_range.1 hi)
      unfold Sane at h2
      simp only [Prod.mk.injEq] at e
      omega
    rcases h with h | h
    · exact ⟨(hl _ _ h).1, (hl _ _ h).2, Or.inl h⟩
    · exact ⟨(hl _ _ h).2, (hl _ _ h).1, Or.inr h⟩

def RingIs (w : World) (n m : Nat) (f : Nat → Int × Int) (e : Ending) (w' : World) : Prop :=
  ((∀ g ∈ edges f m, Bridge (edges f m) g) ∧ e = .returned (.tuple #[.slice none 0 0, .iface 102 (.int .i64 4)])) ∨
  ∃ (a' : Option Addr) (c' N : Nat) (r : Nat → Nat), e = .returned (.tuple #[.slice a' N c', .nilIface]) ∧ Ring (edges f m) N r ∧ NumsAt w' a' N (fun i => ((r i : Nat) : Int)) ∧ N ≤ c' ∧ c' ≤ maxLen

set_option maxRecDepth 100000 in
set_option maxHeartbeats 4000000 in
theorem ring_any {ad : Option Addr} {m c n : Nat} (h : EgAt w ad m f) (hmc : m ≤ c) (hcm : c ≤ maxLen) (hv : Valid (n : Nat) m f) :
    Calls Tryz.prog 31 #[.int .i64 (n : Nat), .slice ad m c] w fun e w' => RingIs w n m f e w' ∧ Below w.heap.size w w' := by
  have hc := pcheck_ok (c := c) (c' := 0) h (n : Nat) hv (nums_none w none (fun _ => 0)) (by omega)
  have hn1 : 1 ≤ n := by have := hv.1; omega
  have hn60 : n ≤ 60 := by have := hv.1; omega
  have hm200 : m ≤ 200 := hv.2.1
  have hmay : ∀ j, j < m → May n f j := by simpa using hv.2.2
  have HM : Hid (∀ j, j < m → May n f j) := hmay
  have HV : Hid (Valid (n : Nat) m f) := hv
  have HH : Hid (EgAt w ad m f) := h
  clear h hv hmay
  go_enter Tryz.func31, Tryz.ntmps31
  go_wp2_with fail
  refine hc.mono ?_
  rintro e w1 ⟨v, rfl, hT, hb1⟩
  obtain rfl := hT.yes fun i hi => absurd hi (Nat.not_lt_zero _)
  have HB1 : Hid (Below w.heap.size w w1) := hb1
  clear hc hT hb1
  go_wp2_with fail
  refine (Un.new_u (base := w.heap.size) HB1.out.size n hn1 hn60).mono ?_
  rintro e w2 ⟨g, F, rfl, hb2, hU, -⟩
  have HU2 : Hid (Un.UAt w.heap.size n w2 g F []) := hU
  have HB2 : Hid (Below w.heap.size w w2) := below_step HB1.out hb2
  clear hb2 hU HB1
  go_wp2_with fail
  go_loopw [29] (fun vi wr => ∃ (j : Nat) (F : Nat → Prop) (L : List (Nat × Nat)), vi = .int .i64 (j : Nat) ∧ j ≤ m ∧ Un.UAt w.heap.size n wr g F L ∧ Gen n (prs f j) L ∧ (∀ i x y, i < j → (edges f m)[i]? = some (x, y) → ¬ Conn ((edges f m).take i) x y) ∧ Below w.heap.size w wr) (fun vi _ => m - (intOf vi).toNat)
  case atStart => exact ⟨0, F, [], rfl, Nat.zero_le _, HU2.out, Gen.start n, fun i x y hi => absurd hi (Nat.not_lt_zero _), HB2.out⟩
  case round =>
    clear HU2 HB2 F
    obtain ⟨j, F, L, rfl, hj, hU, hG, hfr, hbr⟩ := hrel
    by_cases hlt : j < m
    · obtain ⟨b, o, rfl, c1, c2⟩ := HH.out.below hbr j hlt
      have hs := (HM.out j hlt).1
      obtain ⟨u, hu⟩ : ∃ u : Nat, (f j).1 = u := ⟨(f j).1.toNat, by unfold Sane at hs; omega⟩
      obtain ⟨v, hv⟩ : ∃ v : Nat, (f j).2 = v := ⟨(f j).2.toNat, by unfold Sane at hs; omega⟩
      have hsuv : u < v ∧ v < n := by unfold Sane at hs; omega
      have hE : (edges f m)[j]? = some (u, v) := by rw [edges_get hlt, hu, hv]; rfl
      have hfj : f j = ((u : Int), (v : Int)) := by rw [← hu, ← hv]
      rw [hu] at c1
      rw [hv] at c2
      have i0 : (0 : Int) ≤ (j : Int) := by omega
      have i1 : (j : Int) < (m : Int) := by omega
      have hWb := below_box wr (.cells #[.int .i64 (u : Int), .int .i64 (v : Int)] 44)
      have hUW := hU.below hWb
      have hneb : ¬ F wr.heap.size := fun q => by have := (hU.lt q).1; omega
      have hbs : w.heap.size ≤ wr.heap.size := hbr.size
      have hbW : Below w.heap.size w (wr.alloc (.cells #[.int .i64 (u : Int), .int .i64 (v : Int)] 44)) := below_step hbr hWb
      have e0 : (wr.alloc (.cells #[.int .i64 (u : Int), .int .i64 (v : Int)] 44)).cell? ⟨wr.heap.size, 0, none⟩ = some (.int .i64 (u : Nat)) := by simp
      have e1 : (wr.alloc (.cells #[.int .i64 (u : Int), .int .i64 (v : Int)] 44)).cell? ⟨wr.heap.size, 1, none⟩ = some (.int .i64 (v : Nat)) := by simp
      have HE : Hid ((edges f m)[j]? = some (u, v) ∧ f j = ((u : Int), (v : Int))) := ⟨hE, hfj⟩
      have HFr : Hid (∀ i x y, i < j → (edges f m)[i]? = some (x, y) → ¬ Conn ((edges f m).take i) x y) := hfr
      have HG : Hid (Gen n (prs f j) L) := hG
      clear hs hu hv hE hfj hU hG hfr hbr hWb
      go_wp2_with fail
      have hs1 : w.heap.size ≤ (wr.alloc (.cells #[.int .i64 (u : Int), .int .i64 (v : Int)] 44)).heap.size := hbW.size
      generalize wr.alloc (.cells #[.int .i64 (u : Int), .int .i64 (v : Int)] 44) = W1 at hUW hbW e0 e1 hs1 ⊢
      generalize wr.heap.size = eb at hneb hbs e0 e1 ⊢
      have HU1 : Hid (Un.UAt w.heap.size n W1 g F L ∧ ¬ F eb ∧ Below w.heap.size w W1) := ⟨hUW, hneb, hbW⟩
      clear hUW hneb hbW hbs
      refine (Un.join_u HU1.out.1 hs1 (u : Nat) (v : Nat)).mono ?_
      rintro e w3 ⟨x, err, F3, L3, rfl, hU3, hM3, hJ, hx⟩
      obtain ⟨rfl, hxx⟩ := hx ⟨by omega, by omega, by omega, by omega⟩
      clear hx
      have e0' := (World.cell?_of_block (hM3.block eb (World.block_lt_of_cell? _ _ e0) HU1.out.2.1)).trans e0
      have e1' := (World.cell?_of_block (hM3.block eb (World.block_lt_of_cell? _ _ e0) HU1.out.2.1)).trans e1
      have HB3 : Hid (Below w.heap.size w w3) := hM3.below HU1.out.2.2 hs1 (fun k hk => (HU1.out.1.lt hk).2)
      have hcn : rt L u = rt L v ↔ Conn (edges f j) u v := prs_conn HG.out (fun i hi => (HM.out i (by omega)).1) u v
      rw [Int.toNat_natCast, Int.toNat_natCast] at hxx
      have HG3 : Hid (Gen n (prs f (j + 1)) L3) := show Gen n _ _ by
        rw [prs_succ, HE.out.2]
        exact HG.out.step hJ
      have HU3 : Hid (Un.UAt w.heap.size n w3 g F3 L3) := hU3
      clear hU3 hM3 hJ e0 e1 HG hs1 HU1
      cases x with
      | true =>
        have HF3 : Hid (∀ i x y, i < j + 1 → (edges f m)[i]? = some (x, y) → ¬ Conn ((edges f m).take i) x y) := fun i x y hi he => by
          rcases Nat.lt_or_ge i j with q | q
          · exact HFr.out i x y q he
          · obtain rfl : i = j := by omega
            rw [HE.out.1] at he
            cases he
            rw [edges_take hj]
            exact fun z => hxx.1 rfl (hcn.2 z)
        clear hxx hcn
        go_wp2_with fail
        go_roundw
        case rel => exact ⟨j + 1, F3, L3, by go_num, by omega, HU3.out, HG3.out, HF3.out, HB3.out⟩
        case measure => simp [intOf]; omega
      | false =>
        have hcon : Conn (edges f j) u v := hcn.1 (Classical.byContradiction fun q => by have := hxx.2 q; cases this)
        obtain ⟨k, hd⟩ := dist_some hcon
        have hnb := neighbours_any (w := w3.drew) (a := some ⟨b, o, none⟩) (m := j) (c := c) (n := n) (f := f) (fun i hi => HH.out.below HB3.out.drew i (by omega)) (valid_less HV.out hj)
        have HD : Hid (Dist (edges f j) v u k) := hd
        have HFi : Hid (Fine (edges f j) n) := valid_fine (valid_less HV.out hj)
        have hjc : (j : Int) ≤ (c : Int) := by omega
        clear hxx hcn hcon hd
        have k12 : w3.cell? ⟨eb, 0, none⟩ = some (.int .i64 (u : Nat)) ∧ w3.cell? ⟨eb, 1, none⟩ = some (.int .i64 (v : Nat)) := ⟨e0', e1'⟩
        have k12' : w3.drew.cell? ⟨eb, 0, none⟩ = some (.int .i64 (u : Nat)) ∧ w3.drew.cell? ⟨eb, 1, none⟩ = some (.int .i64 (v : Nat)) := ⟨e0', e1'⟩
        clear e0' e1'
        go_wp2_with fail
        go_region_held3 (fun V => V.cell? ⟨eb, 0, none⟩ = some (.int .i64 (u : Nat)) ∧ V.cell? ⟨eb, 1, none⟩ = some (.int .i64 (v : Nat))) (first | (go_keep; done) | exact k12 | exact k12' | exact ⟨cell_keep hb4 k12'.1, cell_keep hb4 k12'.2⟩ | exact ⟨cell_keep hb5 (cell_keep hb4 k12'.1), cell_keep hb5 (cell_keep hb4 k12'.2)⟩)
          (first
            | (go_at_call 51; refine hnb.mono ?_; rintro e w4 ⟨kn, V, rfl, hN4, hb4⟩)
            | (go_at_call 50; refine (steps_some hN4 HFi.out (by omega) (by omega) HD.out).mono ?_; rintro e w5 ⟨ra, rc, L5, rfl, hW5, hI5, hc5, hc6, hb5⟩))
        have hsub : ∀ e ∈ edges f j, e ∈ edges f m := fun e he => by
          rw [← edges_take hj] at he
          exact List.mem_of_mem_take he
        have hno : (u, v) ∉ edges f j := fun q => by
          rw [← edges_take hj] at q
          obtain ⟨i, hi, he⟩ := List.mem_take_iff_getElem.1 q
          have hm := (List.getElem?_eq_some_iff.1 HE.out.1)
          obtain ⟨hm1, hm2⟩ := hm
          have := (List.getElem_inj (h₀ := by omega) (h₁ := hm1) (valid_fine HV.out).up.nodup).1 (he.trans hm2.symm)
          omega
        have HX : Hid (Ring (edges f m) (k + 1) (fun i => L5.getD i 0) ∧ NumsAt w5 ra (k + 1) (fun i => ((L5.getD i 0 : Nat) : Int)) ∧ k + 1 ≤ rc ∧ rc ≤ maxLen ∧ Below w.heap.size w w5) := ⟨ring_way hsub (fun e he => ((valid_fine HV.out).lt e he).1) (List.mem_of_getElem? HE.out.1) hno hW5 HD.out, IntsAt.nums hI5, hc5, hc6, below_step (below_step HB3.out.drew hb4) hb5⟩
        clear hsub hno hN4 hb4 hW5 hI5 hc5 hc6 hb5 k12 k12'
        go_wp2_with fail
        go_ret2
        exact ⟨Or.inr ⟨ra, rc, k + 1, _, rfl, HX.out.1, HX.out.2.1, HX.out.2.2.1, HX.out.2.2.2.1⟩, HX.out.2.2.2.2⟩
    · obtain rfl : j = m := by omega
      have HX : Hid (∀ g ∈ edges f j, Bridge (edges f j) g) := fresh_bridges (valid_fine HV.out).up (fun i x y he => hfr i x y (by have := (List.getElem?_eq_some_iff.1 he).1; rwa [edges_len] at this) he)
      have HB : Hid (Below w.heap.size w wr) := hbr
      clear hU hG hfr hbr
      go_wp2_with fail
      go_ret2
      exact ⟨Or.inl ⟨HX.out, rfl⟩, HB.out⟩

set_option maxRecDepth 100000 in
set_option maxHeartbeats 1000000 in
theorem ring_bad {ad : Option Addr} {m c : Nat} (h : EgAt w ad m f) (n : Int) (k : Nat) (x : Int) (hF : EFault n m f k x) (hx : x ≠ 0) :
    Calls Tryz.prog 31 #[.int .i64 n, .slice ad m c] w fun e w' => e = .returned (.tuple #[.slice none 0 0, .iface 102 (.int .i64 x)]) ∧ Below w.heap.size w w' := by
  have hc := pcheck_no (c := c) h n k x hF hx (.slice none 0 0)
  clear h hF hx
  go_enter Tryz.func31, Tryz.ntmps31
  go_wp2_with fail
  refine hc.mono ?_
  rintro e w1 ⟨rfl, hb1⟩
  clear hc
  go_wp2_with fail
  go_ret2
  exact ⟨rfl, hb1⟩

theorem ring_not {E : List (Nat × Nat)} {n N : Nat} {r : Nat → Nat} (hE : Fine E n) (h : Ring E N r) : ¬ ∀ e ∈ E, Bridge E e := fun hb => by
  have h3 := h.three
  have hlt : ∀ e ∈ E, e.1 < e.2 := fun e he => (hE.lt e he).1
  exact h.bridge hlt hE.up.nodup (i := 0) (by omega) (hb _ (next_edge hlt (h.next 0 (by omega))))

theorem ring_is : RingOk where
  ring_no := fun {w ad m c f} n h hv => by
    obtain ⟨k, x, hF, hx⟩ := (fault_or n m f).resolve_left hv
    refine (ring_bad h n k x hF hx).mono ?_
    rintro e w' ⟨rfl, hb⟩
    exact ⟨_, _, _, rfl, hb⟩
  ring_none := fun {w ad m c n f} h hmc hcm hv hall => by
    refine (ring_any h hmc hcm hv).mono ?_
    rintro e w' ⟨h1, hb⟩
    rcases h1 with ⟨_, rfl⟩ | ⟨a', c', N, r, rfl, hR, _⟩
    · exact ⟨_, rfl, hb⟩
    · exact absurd hall (ring_not (valid_fine hv) hR)
  ring_some := fun {w ad m c n f} h hmc hcm hv hall => by
    refine (ring_any h hmc hcm hv).mono ?_
    rintro e w' ⟨h1, hb⟩
    rcases h1 with ⟨h2, _⟩ | ⟨a', c', N, r, rfl, hR, hN, hc1, hc2⟩
    · exact absurd h2 hall
    · exact ⟨a', c', N, r, rfl, hR, hN, hc1, hc2, hb⟩
  bridges_no := fun {w a m c f} n h hv => by
    obtain ⟨k, x, hF, hx⟩ := (fault_or n m f).resolve_left hv
    refine (bridges_no h n k x hF hx).mono ?_
    rintro e w' ⟨rfl, hb⟩
    exact ⟨_, _, _, rfl, hb⟩
  bridges_ok := fun {w a m c n f} h hmc hcm hv => by
    refine (bridges_ok h hv).mono ?_
    rintro e w' ⟨v, L, rfl, hL, hO, hb⟩
    obtain ⟨a', c', rfl, hA, h1, h2⟩ := own_edges hO rfl
    exact ⟨a', c', _, L, rfl, hL, rfl, hA, hb⟩

end Go.Proofs.YtcfemppdeidjmacGreat.Pt
