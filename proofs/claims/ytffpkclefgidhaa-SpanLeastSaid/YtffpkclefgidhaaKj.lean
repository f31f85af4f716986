/-
  Span and Weight of package span, whatever they are asked.
-/
import Derived.Test.YtffpkclefgidhaaKi
namespace Go.Proofs.Ytffpkclefgidhaa.Sp
open Go.RowKit Go.Deep Go.Shelf Go.Sort Go.Lib
open Go.RowKit (Below)
set_option linter.unusedVariables false

variable {n : Int} {m : Nat} {hv : Nat → Int × Int × Int} {t : Nat → Bool}

/-- A list of places lies in memory. -/
def PlacesAt (w : World) (v : Value) (l : List Nat) : Prop :=
  ∃ a c, v = .slice a l.length c ∧ l.length ≤ c ∧ ∀ j, j < l.length → ∃ b, a = some ⟨b, 0, none⟩ ∧ w.cell? ⟨b, j, none⟩ = some (.int .i64 (l.getD j 0 : Nat))

theorem PlacesAt.below {w w' : World} {v : Value} {l : List Nat} (h : PlacesAt w v l) (hb : Below w.heap.size w w') : PlacesAt w' v l := by
  obtain ⟨a, c, e, hc, h⟩ := h
  exact ⟨a, c, e, hc, fun j hj => by obtain ⟨b, e, h1⟩ := h j hj; exact ⟨b, e, Un.cell_keep hb h1⟩⟩

theorem sort_ints {l S : List Nat} (hp : l.Perm S) (hs : S.Pairwise fun x y => x < y) : (l.map Int.ofNat).mergeSort (fun x y => decide (x ≤ y)) = S.map Int.ofNat := by
  refine List.Perm.eq_of_pairwise (le := fun a b : Int => a ≤ b) (fun a b _ _ h1 h2 => Int.le_antisymm h1 h2) ?_ ?_ ((List.mergeSort_perm _ _).trans (hp.map _))
  · have := List.pairwise_mergeSort (le := fun x y : Int => decide (x ≤ y)) (fun a b c h1 h2 => by simp only [decide_eq_true_eq] at *; omega) (fun a b => by simp only [Bool.or_eq_true, decide_eq_true_eq]; omega) (l.map Int.ofNat)
    exact this.imp fun h => by simpa using h
  · refine List.pairwise_map.2 (hs.imp fun {a b} h => ?_)
    show (a : Int) ≤ (b : Int)
    omega

/-- A list of one's own is sorted. -/
theorem sort_own {w : World} {base : Nat} {v : Value} {l S : List Nat} (hrow : w.ownsRow base 3 1 v l.length (ints l)) (hp : l.Perm S) (hs : S.Pairwise fun x y => x < y) (hl : l.length < 1000000) :
    Calls Try.prog 64 #[v] w fun e w' => e = .returned (.tuple #[]) ∧ (base ≤ w.heap.size → Below base w w') ∧ PlacesAt w' v S := by
  have hlen := hp.length_eq
  rcases hrow.2 with ⟨rfl, h0⟩ | ⟨g, cap, cur, rfl, hb, hg, h1, h2, h3, h4⟩
  · have hS : S = [] := by rw [List.length_eq_zero_iff.1 h0] at hp; exact List.nil_perm.1 hp
    subst hS
    have hs' : Calls Try.prog 64 #[.slice none 0 0] w fun e w' => e = .returned (.tuple #[]) ∧ w' = w := AnyM.slices_Sort_int_none Try.lSortI none 0 w
    refine hs'.mono ?_
    rintro e w' ⟨rfl, rfl⟩
    exact ⟨rfl, fun _ => Below.refl _ _, none, 0, rfl, Nat.le_refl _, fun j hj => absurd hj (Nat.not_lt_zero _)⟩
  · have hH : Holds (Value.int .i64) w g 0 (l.map Int.ofNat).toArray := fun j hj => by
      have hj' : j < l.length := by simpa using hj
      have e1 : (cur.toList.take (l.length * 1))[j]? = some (Value.int .i64 ((l[j] : Nat) : Int)) := by rw [h4]; simp [ints, hj']
      rw [List.getElem?_take, if_pos (by omega)] at e1
      refine ⟨?_, by simp [World.frozen?, hg]⟩
      simp only [World.cell?, hg, Nat.zero_add]
      have e2 : (l.map Int.ofNat).toArray[j]! = ((l[j] : Nat) : Int) := by simp [hj']
      rw [e2]
      simpa using e1
    have hglt : g < w.heap.size := (Array.getElem?_eq_some_iff.1 hg).1
    have hs' : Calls Try.prog 64 #[.slice (some ⟨g, 0, none⟩) (l.map Int.ofNat).length cap] w fun e w' => e = .returned (.tuple #[]) ∧ ∃ n os, w' = grow (putRow (Value.int .i64) (Sort.ahead w n) g 0 ((l.map Int.ofNat).mergeSort fun x y => decide (x ≤ y)).toArray) os :=
      AnyM.slices_Sort_int Try.lSortI g 0 cap (l.map Int.ofNat) w hH hglt (by simp; omega)
    rw [sort_ints hp hs, List.length_map] at hs'
    refine hs'.mono ?_
    rintro e w' ⟨rfl, q, os, rfl⟩
    refine ⟨rfl, fun hbs => (below_put _ _ hb).trans (below_grows _ (by simpa using hbs)), some ⟨g, 0, none⟩, cap, by rw [hlen], by omega, fun j hj => ⟨g, rfl, ?_⟩⟩
    have hh : Holds (Value.int .i64) (grow (putRow (Value.int .i64) (Sort.ahead w q) g 0 (S.map Int.ofNat).toArray) os) g 0 (S.map Int.ofNat).toArray :=
      holds_grow _ _ _ _ _ _ (by simpa using hglt) (holds_putRow _ _ _ _ (l.map Int.ofNat).toArray _ (holds_ahead _ _ _ _ _ _ hH) (by simp; omega))
    have h5 := (hh j (by simpa using hj)).1
    rw [Nat.zero_add] at h5
    rw [h5]
    simp [hj]

/-- What Span answers. -/
def SpanPost (n : Int) (m : Nat) (hv : Nat → Int × Int × Int) (t : Nat → Bool) (w : World) (e : Ending) (w' : World) : Prop :=
  ∃ (v : Value) (err : Int) (k : Nat), e = .returned (.tuple #[v, errV err]) ∧ Below w.heap.size w w' ∧ Fault n m hv k err ∧ ((err ≠ 0 ∧ v = .slice none 0 0) ∨ (err = 0 ∧ PlacesAt w' v ((List.range m).filter t)))

theorem picked_rises (m : Nat) (t : Nat → Bool) : ((List.range m).filter t).Pairwise fun x y => x < y := List.pairwise_lt_range.sublist List.filter_sublist

set_option maxRecDepth 100000 in
set_option maxHeartbeats 1000000 in
theorem span_any {a : Option Addr} {c : Nat} {w : World} (h : HeavyAt w a m hv) (ht : Tells m (edOf hv) (wtOf hv) t) (n : Int) :
    Calls Try.prog 32 #[.int .i64 n, .slice a m c] w (SpanPost n m hv t w) := by
  have HH : Hid (HeavyAt w a m hv) := h
  have hch := check_any (c := c) h n
  clear h
  go_enter Try.func32, Try.ntmps32
  go_wp2_with fail
  refine hch.mono ?_
  rintro e w1 ⟨k, err, rfl, hF, hb1⟩
  clear hch
  by_cases he : err = 0
  · subst he
    rw [errV_none]
    obtain ⟨n', rfl, hE, hpos⟩ := fault_plain hF
    have HF : Hid (Fault (n' : Int) m hv k 0) := hF
    clear hF
    have hbx := below_box w1 (.cells #[.slice none 0 0] 22)
    have hbW := Un.below_step hb1 hbx
    have hvW := (HH.out.below hbW).plain hpos
    have hclo : SClo w1.heap.size [] true (w1.alloc (.cells #[.slice none 0 0] 22)) (fun k => k = w1.heap.size ∨ (Value.slice none 0 0).ownBlock = some k) :=
      ⟨.slice none 0 0, heap_alloc_new _ _, World.ownsRow_nil .., rfl, rfl⟩
    have hC0 : ∀ k, (k = w1.heap.size ∨ (Value.slice none 0 0).ownBlock = some k) → w1.heap.size ≤ k := fun k hk => by
      rcases hk with rfl | hk
      · exact Nat.le_refl _
      · cases hk
    have hoff : Off a m (fun k => k = w1.heap.size ∨ (Value.slice none 0 0).ownBlock = some k) := fun b o e h0 hc => by
      obtain ⟨b', o', e', h1, _⟩ := HH.out 0 h0
      rw [e] at e'
      simp only [Option.some.injEq, Addr.mk.injEq, and_true] at e'
      have h2 := World.block_lt_of_cell? _ _ h1
      simp only at h2
      have := hC0 b hc
      have := hb1.size
      omega
    have hgr := grow_any (c := c) (span_clos hE.m200) hE ht hvW hoff hclo
    have hz1 : (w1.alloc (.cells #[.slice none 0 0] 22)).heap.size = w1.heap.size + 1 := by simp
    have HP : Hid (∀ w3 C', Un.Moves (fun k => k = w1.heap.size ∨ (Value.slice none 0 0).ownBlock = some k) (w1.alloc (.cells #[.slice none 0 0] 22)) w3 C' → Below w.heap.size w w3) := fun w3 C' hm => hm.below hbW hbW.size (fun k hk => Nat.le_trans hb1.size (hC0 k hk))
    have hm2 := hE.m200
    clear hclo hoff hvW hC0 hpos hE
    go_wp2_with fail
    generalize (w1.alloc (.cells #[.slice none 0 0] 22)) = W at *
    refine hgr.mono ?_
    rintro e w2 ⟨rfl, C', o, ho, hm, hres⟩
    clear hgr
    rcases hres with ⟨⟨v, hbox, hrow, _, _⟩, _⟩ | ⟨P, i, Q, _, _, _, _, hH⟩
    · have hb2 := HP.out w2 C' hm
      have hlt := box_lt hbox
      have cB : w2.cell? ⟨w1.heap.size, 0, none⟩ = some v := by simp [World.cell?, hbox]
      have hsrt := sort_own hrow (ho.perm.filter t) (picked_rises m t) (by have := List.length_filter_le t o; have := ho.len; omega)
      have hsz := hb1.size
      clear hbox hrow hm
      go_wp2_with fail
      refine hsrt.mono ?_
      rintro e w3 ⟨rfl, hb3, hpl⟩
      clear hsrt
      replace hb3 := hb3 hlt
      have cB3 := (hb3.cell (p := ⟨w1.heap.size, 0, none⟩) (by show w1.heap.size < w1.heap.size + 1; omega)).trans cB
      have HPl : Hid (PlacesAt w3 v ((List.range m).filter t)) := hpl
      clear hpl
      go_wp2_with fail
      go_ret2
      exact ⟨v, 0, k, by rw [errV_none]; rfl, hb2.trans (hb3.mono (by omega)), HF.out, Or.inr ⟨rfl, HPl.out⟩⟩
    · exact hH.elim
  · have HE : Hid (err ≠ 0) := he
    rw [errV_some he]
    clear he
    go_wp2_with fail
    go_ret2
    exact ⟨_, err, k, by rw [errV_some HE.out]; rfl, hb1, hF, Or.inl ⟨HE.out, rfl⟩⟩

/-- What Weight answers. -/
def WeightPost (n : Int) (m : Nat) (hv : Nat → Int × Int × Int) (t : Nat → Bool) (w : World) (e : Ending) (w' : World) : Prop :=
  ∃ (x err : Int) (k : Nat), e = .returned (.tuple #[.int .i64 x, errV err]) ∧ Below w.heap.size w w' ∧ Fault n m hv k err ∧ ((err ≠ 0 ∧ x = 0) ∨ (err = 0 ∧ x = ((((List.range m).filter t).map (wtOf hv)).sum : Nat)))

theorem sum_take (f : Nat → Nat) (l : List Nat) (j : Nat) (hj : j < l.length) : ((l.take (j + 1)).map f).sum = ((l.take j).map f).sum + f (l.getD j 0) := by
  rw [List.take_add_one, List.getElem?_eq_getElem hj, List.map_append, List.sum_append, List.getD_eq_getElem?_getD, List.getElem?_eq_getElem hj]
  simp

theorem sum_le (f : Nat → Nat) (M : Nat) : ∀ l : List Nat, (∀ k ∈ l, f k ≤ M) → (l.map f).sum ≤ l.length * M
  | [], _ => by simp
  | k :: l, h => by
    have ih := sum_le f M l (fun x hx => h x (List.mem_cons_of_mem _ hx))
    have := h k (List.mem_cons_self ..)
    simp only [List.map_cons, List.sum_cons, List.length_cons, Nat.add_mul]
    omega

set_option maxRecDepth 100000 in
set_option maxHeartbeats 1000000 in
theorem weight_any {a : Option Addr} {c : Nat} {w : World} (h : HeavyAt w a m hv) (ht : Tells m (edOf hv) (wtOf hv) t) (n : Int) :
    Calls Try.prog 33 #[.int .i64 n, .slice a m c] w (WeightPost n m hv t w) := by
  have HH : Hid (HeavyAt w a m hv) := h
  have hsp := span_any (c := c) h ht n
  clear h
  go_enter Try.func33, Try.ntmps33
  go_wp2_with fail
  refine hsp.mono ?_
  rintro e w1 ⟨v, err, k, rfl, hb1, hF, hor⟩
  clear hsp
  rcases hor with ⟨he, rfl⟩ | ⟨rfl, a1, c1, rfl, hc1, hpl⟩
  · have HE : Hid (err ≠ 0) := he
    rw [errV_some he]
    clear he
    go_wp2_with fail
    go_ret2
    exact ⟨0, err, k, by rw [errV_some HE.out]; rfl, hb1, hF, Or.inl ⟨HE.out, rfl⟩⟩
  · rw [errV_none]
    obtain ⟨n', rfl, hE, hpos⟩ := fault_plain hF
    have HV : Hid (HvAt w1 a m (edOf hv) (wtOf hv)) := (HH.out.below hb1).plain hpos
    obtain ⟨S, hS⟩ : ∃ S, (List.range m).filter t = S := ⟨_, rfl⟩
    rw [hS] at hpl hc1 ⊢
    have HS : Hid ((List.range m).filter t = S) := hS
    have hSm : ∀ k ∈ S, k < m := fun k hk => by rw [← hS] at hk; exact List.mem_range.1 (List.mem_filter.1 hk).1
    have hSl : S.length ≤ m := by rw [← hS]; have := List.length_filter_le t (List.range m); simpa using this
    have HL : Hid (∀ j, j ≤ S.length → ((S.take j).map (wtOf hv)).sum ≤ 200000000) := fun j hj => by
      have h1 := sum_le (wtOf hv) 1000000 (S.take j) (fun k hk => hE.light k (hSm k (List.mem_of_mem_take hk)))
      have h2 : (S.take j).length ≤ 200 := by rw [List.length_take]; have := hE.m200; omega
      have h3 := Nat.mul_le_mul_right 1000000 h2
      exact Nat.le_trans h1 (Nat.le_trans h3 (by decide))
    have hm2 := hE.m200
    have HW : Hid (∀ k, k < m → wtOf hv k ≤ 1000000) := hE.light
    have HF : Hid (Fault (n' : Int) m hv k 0) := hF
    have HP : Hid (∀ j, j < S.length → ∃ b, a1 = some ⟨b, 0, none⟩ ∧ w1.cell? ⟨b, j, none⟩ = some (.int .i64 (S.getD j 0 : Nat))) := hpl
    have HM : Hid (∀ k ∈ S, k < m) := hSm
    clear hpl hS hSm hF hE hpos
    go_wp2_with fail
    go_loopw [8, 10, 22] (fun s _ i wr => ∃ j : Nat, j ≤ S.length ∧ i = .int .i64 (j : Nat) ∧ s = .int .i64 ((((S.take j).map (wtOf hv)).sum : Nat) : Int) ∧ wr = w1) (fun _ _ i _ => S.length - (intOf i).toNat)
    case atStart => exact ⟨0, Nat.zero_le _, rfl, rfl, rfl⟩
    case round =>
      obtain ⟨j, hj, rfl, rfl, rfl⟩ := hrel
      by_cases hlt : j < S.length
      · obtain ⟨b, rfl, q1⟩ := HP.out j hlt
        have hmem : S.getD j 0 ∈ S := by rw [List.getD_eq_getElem?_getD, List.getElem?_eq_getElem hlt]; exact List.getElem_mem hlt
        have him := HM.out _ hmem
        obtain ⟨bl, ol, rfl, -, -, q2⟩ := HV.out _ him
        have HSum : Hid (((S.take (j + 1)).map (wtOf hv)).sum = ((S.take j).map (wtOf hv)).sum + wtOf hv (S.getD j 0)) := sum_take _ _ _ hlt
        have b1 := HL.out j (by omega)
        have b2 := HW.out _ him
        generalize S.getD j 0 = i at *
        obtain ⟨wi, hwi⟩ : ∃ wi, wtOf hv i = wi := ⟨_, rfl⟩
        rw [hwi] at q2 b2
        have HWI : Hid (wtOf hv i = wi) := hwi
        obtain ⟨su, hsu⟩ : ∃ su, ((S.take j).map (wtOf hv)).sum = su := ⟨_, rfl⟩
        rw [hsu] at b1 ⊢
        have HSU : Hid (((S.take j).map (wtOf hv)).sum = su) := hsu
        clear hwi hsu hmem
        have i0 : (0 : Int) ≤ (j : Int) := by omega
        have i1 : (j : Int) < (S.length : Int) := by omega
        have i2 : (0 : Int) ≤ (i : Int) := by omega
        have i3 : (i : Int) < (m : Int) := by omega
        have s0 : (0 : Int) ≤ (su : Int) := by omega
        have s1 : (su : Int) ≤ 200000000 := by omega
        have s2 : (0 : Int) ≤ (wi : Int) := by omega
        have s3 : (wi : Int) ≤ 1000000 := by omega
        go_wp2_with fail
        go_roundw
        case rel =>
          refine ⟨j + 1, by omega, by go_num, ?_, by first | rfl | exact trivial⟩
          rw [HSum.out, HSU.out, HWI.out]
          go_num
        case measure => simp [intOf]; omega
      · obtain rfl : j = S.length := by omega
        rw [List.take_length]
        obtain ⟨su, hsu⟩ : ∃ su, (S.map (wtOf hv)).sum = su := ⟨_, rfl⟩
        rw [hsu]
        have HSU : Hid ((S.map (wtOf hv)).sum = su) := hsu
        clear hsu
        go_wp2_with fail
        go_ret2
        exact ⟨_, 0, k, by rw [errV_none]; rfl, hb1, HF.out, Or.inr ⟨rfl, by rw [HS.out, HSU.out]⟩⟩

end Go.Proofs.Ytffpkclefgidhaa.Sp
