/-
  Tm Tw1
-/
import Derived.WalkKit
import Derived.WalkSpells
import Derived.WalkLawsBesides
import Derived.Deep.RegionHeld3
import Derived.Deep.OwnRows
import Derived.Deep.LoopGhost
import Derived.OneCell
import Derived.BigQuiet
import Derived.BigRegion
import Derived.Below
import Derived.Deep.AppendLies
import Derived.Test.YtcfemppdeidjmacGreatW3
import Derived.Test.YtcfemppdeidjmacGreatW5
namespace Go.Proofs.YtcfemppdeidjmacGreat
set_option linter.unusedSectionVars false
variable [Inhabited Zed]
open Go.RowKit Go.Deep
set_option linter.unusedVariables false

structure Pl where
  g : Nat
  hb : Nat
  wb : Nat
  eb : Nat
  n : Nat

def cells3 (L : Pl) : Nat → Value := fun i => if i = 0 then .slice (some ⟨L.hb, 0, none⟩) L.n L.n else if i = 1 then .map (some L.wb) else .map (some L.eb)

structure Mem (w : World) (L : Pl) (p : Nat → Nat) (DW DE : DataW Unit) (E : List (Nat × Nat)) : Prop where
  st : w.rowIs L.g 108 3 (cells3 L)
  home : w.rowIs L.hb 3 L.n (fun i => .int .i64 (p i : Nat))
  ways : w.ownsMap Tryz.prog 3 ptrElem L.wb L.n DW
  keys : ∀ kl, Maps.has DW kl = true → ∃ r : Nat, r < L.n ∧ kl = .int .i64 (r : Int)
  edges : ESet w L.eb DE E
  n1 : 1 ≤ L.n
  n60 : L.n ≤ 60
  we : L.wb ≠ L.eb

variable {w w' w'' : World} {L : Pl} {p : Nat → Nat} {DW DE : DataW Unit} {E : List (Nat × Nat)}

theorem Mem.c0 (h : Mem w L p DW DE E) : w.cell? ⟨L.g, 0, none⟩ = some (.slice (some ⟨L.hb, 0, none⟩) L.n L.n) := h.st.cell (i := 0) (by omega)
theorem Mem.c1 (h : Mem w L p DW DE E) : w.cell? ⟨L.g, 1, none⟩ = some (.map (some L.wb)) := h.st.cell (i := 1) (by omega)
theorem Mem.c2 (h : Mem w L p DW DE E) : w.cell? ⟨L.g, 2, none⟩ = some (.map (some L.eb)) := h.st.cell (i := 2) (by omega)
theorem Mem.at (h : Mem w L p DW DE E) {i : Nat} (hi : i < L.n) : w.cell? ⟨L.hb, i, none⟩ = some (.int .i64 (p i : Nat)) := h.home.cell hi

def IsMapAt (w : World) (b : Nat) : Prop := ∃ es c, w.heap[b]? = some (.map es c)

theorem Mem.wm (h : Mem w L p DW DE E) : IsMapAt w L.wb := by obtain ⟨es, c, hb, _⟩ := h.ways; exact ⟨es, c, hb⟩
theorem Mem.em (h : Mem w L p DW DE E) : IsMapAt w L.eb := by obtain ⟨m, es, c, hb, _⟩ := h.edges.own; exact ⟨es, c, hb⟩

theorem rowIs_tag {b : Nat} {t : TypeId} {n : Nat} {f : Nat → Value} (h : w.rowIs b t n f) : Tag w b t := by
  obtain ⟨c, hb, _⟩ := h; exact ⟨c, _, hb⟩

theorem tag_one {b : Nat} {t t' : TypeId} (h : Tag w b t) (h' : Tag w b t') : t = t' := by
  obtain ⟨c, z, h⟩ := h
  obtain ⟨c', z', h'⟩ := h'
  rw [h] at h'
  injection h' with h'
  injection h'

theorem tag_map {b : Nat} {t : TypeId} (h : Tag w b t) (h' : IsMapAt w b) : False := by
  obtain ⟨c, z, h⟩ := h
  obtain ⟨c', z', h'⟩ := h'
  rw [h] at h'
  cases h'

theorem tag_lt {b : Nat} {t : TypeId} (h : Tag w b t) : b < w.heap.size := by
  obtain ⟨c, z, h⟩ := h
  exact (Array.getElem?_eq_some_iff.1 h).1

theorem map_lt {b : Nat} (h : IsMapAt w b) : b < w.heap.size := by
  obtain ⟨c, z, h⟩ := h
  exact (Array.getElem?_eq_some_iff.1 h).1

def Foot (L : Pl) (k : Nat) : Prop := k = L.hb ∨ k = L.wb ∨ k = L.eb

theorem Mem.foot_lt (h : Mem w L p DW DE E) {k : Nat} (hk : Foot L k) : k < w.heap.size := by
  rcases hk with rfl | rfl | rfl
  · exact h.home.lt
  · exact map_lt h.wm
  · exact map_lt h.em

theorem Mem.off (h : Mem w L p DW DE E) {b : Nat} {t : TypeId} (ht : Tag w b t) (hn : t ≠ 3) : ¬ Foot L b := by
  rintro (rfl | rfl | rfl)
  · exact hn (tag_one ht (rowIs_tag h.home))
  · exact tag_map ht h.wm
  · exact tag_map ht h.em

theorem Mem.g_off (h : Mem w L p DW DE E) : ¬ Foot L L.g := h.off (rowIs_tag h.st) (by decide)
theorem Mem.hw (h : Mem w L p DW DE E) : L.hb ≠ L.wb := fun e => tag_map (rowIs_tag h.home) (e ▸ h.wm)
theorem Mem.he (h : Mem w L p DW DE E) : L.hb ≠ L.eb := fun e => tag_map (rowIs_tag h.home) (e ▸ h.em)

structure Turn (L : Pl) (w w' : World) : Prop where
  os : w'.os = w.os
  tape : w'.tape = w.tape
  output : w'.output = w.output
  size : w.heap.size ≤ w'.heap.size
  block : ∀ k, k < w.heap.size → ¬ Foot L k → w'.heap[k]? = w.heap[k]?

theorem Turn.of_below (h : Below w.heap.size w w') : Turn L w w' := ⟨h.os, h.tape, h.output, h.size, fun k hk _ => h.block k hk⟩
theorem Turn.refl (w : World) : Turn L w w := ⟨rfl, rfl, rfl, Nat.le_refl _, fun _ _ _ => rfl⟩

theorem Turn.trans (h : Turn L w w') (h' : Turn L w' w'') : Turn L w w'' :=
  ⟨h'.os.trans h.os, h'.tape.trans h.tape, h'.output.trans h.output, Nat.le_trans h.size h'.size, fun k hk hn => (h'.block k (Nat.lt_of_lt_of_le hk h.size) hn).trans (h.block k hk hn)⟩

theorem Turn.grown {row : Nat} (h : w.grownBy w' (some row)) (hf : Foot L row) : Turn L w w' :=
  ⟨h.os, h.tape, h.output, h.size, fun k hk hn => h.block k hk (fun e => by cases e; exact hn hf)⟩

theorem Turn.below {base : Nat} {w0 : World} (hb : Below base w0 w) (hs : base ≤ w.heap.size) (hF : ∀ k, Foot L k → base ≤ k) (h : Turn L w w') : Below base w0 w' :=
  hb.trans ⟨h.os, h.tape, h.output, h.size, fun k hk => h.block k (by omega) (fun e => by have := hF k e; omega)⟩

theorem Turn.drew (h : Turn L w w') : Turn L w w'.drew := ⟨h.os, h.tape, h.output, h.size, h.block⟩

theorem Mem.keep (h : Mem w L p DW DE E) (e1 : w'.heap[L.g]? = w.heap[L.g]?) (e2 : w'.heap[L.hb]? = w.heap[L.hb]?) (e3 : w'.heap[L.wb]? = w.heap[L.wb]?) (e4 : w'.heap[L.eb]? = w.heap[L.eb]?) : Mem w' L p DW DE E :=
  ⟨h.st.of_block e1, h.home.of_block e2, own_block h.ways e3, h.keys, h.edges.of_block e4, h.n1, h.n60, h.we⟩

theorem Mem.below (h : Mem w L p DW DE E) (hb : Below w.heap.size w w') : Mem w' L p DW DE E :=
  h.keep (hb.block _ h.st.lt) (hb.block _ h.home.lt) (hb.block _ (map_lt h.wm)) (hb.block _ (map_lt h.em))

theorem Mem.drew (h : Mem w L p DW DE E) : Mem w.drew L p DW DE E := h.below (Below.refl _ _).drew

theorem lies_turn (m : Mem w L p DW DE E) (t : Turn L w w') : ∀ {T : BT Int}, Lies w T → Lies w' T
  | .nil, _ => trivial
  | .node b o a l r, ⟨⟨ht, hq⟩, h0, h1, h2, h3, h4, hl, hr⟩ => by
    have e := t.block b (tag_lt ht) (m.off ht (by decide))
    have c : ∀ i v, w.cell? ⟨b, i, none⟩ = some v → w'.cell? ⟨b, i, none⟩ = some v := fun i v hc => (World.cell?_of_block (w := w) (a := ⟨b, i, none⟩) e).trans hc
    obtain ⟨x, z, hx⟩ := ht
    exact ⟨⟨⟨x, z, e.trans hx⟩, hq⟩, c _ _ h0, c _ _ h1, c _ _ h2, c _ _ h3, c _ _ h4, lies_turn m t hl, lies_turn m t hr⟩

theorem RowAt.turn {v : Option Addr} {T : BT Int} (h : RowAt w v T) (m : Mem w L p DW DE E) (t : Turn L w w') : RowAt w' v T := by
  have hz : Zok w' := h.zok.turn t.size
  rcases h.or with h | ⟨b, u, rfl, hc, ha, ht, hq⟩
  · exact ⟨Or.inl h, hz⟩
  · have e := t.block b (tag_lt ht) (m.off ht (by decide))
    obtain ⟨x, z, hx⟩ := ht
    exact ⟨Or.inr ⟨b, u, rfl, (World.cell?_of_block (w := w) (a := ⟨b, 0, none⟩) e).trans hc, ⟨lies_turn m t ha.lies, ha.at_, hz⟩, ⟨x, z, e.trans hx⟩, hq⟩, hz⟩

theorem row_some {v : Option Addr} {T : BT Int} (h : RowAt w v T) (hs : 0 < sz T) : ∃ b, v = some ⟨b, 0, none⟩ := by
  rcases h.or with ⟨_, rfl⟩ | ⟨b, u, rfl, _⟩
  · simp [sz] at hs
  · exact ⟨b, rfl⟩

end Go.Proofs.YtcfemppdeidjmacGreat

namespace Go.Proofs.YtcfemppdeidjmacGreat
set_option linter.unusedSectionVars false
variable [Inhabited Zed]
open Go.RowKit Go.Deep
set_option linter.unusedVariables false

variable {w w' : World} {L : Pl} {p : Nat → Nat} {DW DE : DataW Unit} {E : List (Nat × Nat)}

def allIn (n : Nat) (xs : List Int) : Bool := xs.all fun x => decide (0 ≤ x) && decide (x < n)

theorem allIn_take {n : Nat} {xs : List Int} {k : Nat} (h : ∀ i, i < k → ∀ x, xs[i]? = some x → 0 ≤ x ∧ x < n) (hk : xs.length ≤ k) : allIn n xs = true := by
  unfold allIn
  rw [List.all_eq_true]
  intro x hx
  obtain ⟨i, hi, rfl⟩ := List.mem_iff_getElem.1 hx
  have := h i (by omega) _ (List.getElem?_eq_getElem hi)
  simp [this.1, this.2]

theorem allIn_not {n : Nat} {xs : List Int} {k : Nat} {x : Int} (hx : xs[k]? = some x) (hn : ¬ (0 ≤ x ∧ x < n)) : allIn n xs = false := by
  unfold allIn
  rw [Bool.eq_false_iff]
  intro h
  rw [List.all_eq_true] at h
  have := h x (List.mem_of_getElem? hx)
  simp at this
  exact hn this

set_option maxHeartbeats 400000 in
theorem has_any {n : Nat} (h : Mem w L p DW DE E) (hLn : L.n = n) (b : Nat) (xs : List Int) (hb : ∀ i x, xs[i]? = some x → w.cell? ⟨b, i, none⟩ = some (.int .i64 x)) (hm : xs.length < 1000) (c : Nat) :
    Calls Tryz.prog 57 #[.pointer (some ⟨L.g, 0, none⟩), .slice (some ⟨b, 0, none⟩) xs.length c] w fun e w' => e = .returned (.bool (allIn n xs)) ∧ w' = w := by
  have c0 := h.c0
  have hn := h.n60
  rw [hLn] at c0 hn
  have HB : Hid (∀ i x, xs[i]? = some x → w.cell? ⟨b, i, none⟩ = some (.int .i64 x)) := hb
  generalize L.hb = ba at c0
  generalize L.g = g at c0 ⊢
  clear h hb hLn
  go_enter Tryz.func57, Tryz.ntmps57
  go_wp2_with fail
  go_loopw [6, 9] (fun _ i wr => ∃ j : Nat, j ≤ xs.length ∧ i = .int .i64 (j : Nat) ∧ (∀ i, i < j → ∀ x, xs[i]? = some x → 0 ≤ x ∧ x < n) ∧ wr = w) (fun _ i _ => xs.length - (intOf i).toNat)
  case atStart => exact ⟨0, Nat.zero_le _, rfl, fun i hi => absurd hi (Nat.not_lt_zero _), rfl⟩
  case round =>
    obtain ⟨j, hj, rfl, hall, rfl⟩ := hrel
    by_cases hlt : j < xs.length
    · obtain ⟨x, hx⟩ : ∃ x, xs[j]? = some x := ⟨_, List.getElem?_eq_getElem hlt⟩
      have hc := HB.out j x hx
      have HA : Hid (∀ i, i < j → ∀ x, xs[i]? = some x → 0 ≤ x ∧ x < n) := hall
      clear hall
      have i0 : (0 : Int) ≤ (j : Int) := by omega
      have i1 : (j : Int) < (xs.length : Int) := by omega
      by_cases hin : 0 ≤ x ∧ x < n
      · obtain ⟨h1, h2⟩ := hin
        have HX : Hid (xs[j]? = some x) := hx
        clear hx
        go_wp2_with fail
        go_roundw
        case rel =>
          refine ⟨j + 1, by omega, by go_num, fun i hi y hy => ?_, by first | rfl | exact trivial⟩
          rcases Nat.lt_or_ge i j with h3 | h3
          · exact HA.out i h3 y hy
          · obtain rfl : i = j := by omega
            rw [HX.out] at hy
            cases hy
            exact ⟨h1, h2⟩
        case measure => simp [intOf]; omega
      · have HN : Hid (allIn n xs = false) := allIn_not hx hin
        clear hx
        by_cases h1 : 0 ≤ x
        · have h2 : (n : Int) ≤ x := by
            rcases Int.lt_or_le x n with h3 | h3
            · exact absurd ⟨h1, h3⟩ hin
            · exact h3
          clear hin
          go_wp2_with fail
          go_ret
          exact ⟨by rw [HN.out]; rfl, rfl⟩
        · have h2 : x < 0 := by omega
          clear hin
          go_wp2_with fail
          go_ret
          exact ⟨by rw [HN.out]; rfl, rfl⟩
    · have HN : Hid (allIn n xs = true) := allIn_take hall (by omega)
      clear hall
      go_wp2_with fail
      go_ret
      exact ⟨by rw [HN.out]; rfl, rfl⟩

set_option maxHeartbeats 400000 in
theorem step_any (h : Mem w L p DW DE E) (a b : Nat) (ha : a < L.n) (hb : b < L.n) :
    Calls Tryz.prog 60 #[.pointer (some ⟨L.g, 0, none⟩), .int .i64 (a : Int), .int .i64 (b : Int)] w fun e w' => e = .returned (.int .i64 (((a + 1) * L.n + b : Nat) : Int)) ∧ w' = w := by
  have c0 := h.c0
  have hn := h.n60
  have hE : Hid (((a : Int) + 1) * (L.n : Int) + (b : Int) = (((a + 1) * L.n + b : Nat) : Int)) := show _ = _ by push_cast; rfl
  have h0 : 0 ≤ ((a : Int) + 1) * (L.n : Int) := Int.mul_nonneg (by omega) (by omega)
  have h1 : ((a : Int) + 1) * (L.n : Int) ≤ 61 * 60 := Int.mul_le_mul (by omega) (by omega) (by omega) (by omega)
  generalize L.n = n at *
  generalize L.hb = ba at *
  generalize L.g = g at *
  clear h
  go_enter Tryz.func60, Tryz.ntmps60
  go_wp2_with fail
  go_ret
  exact ⟨by rw [← hE.out]; rfl, rfl⟩

set_option maxHeartbeats 400000 in
theorem only_any (x : Int) {w : World} (hz : Zok w) :
    Calls Tryz.prog 54 #[.int .i64 x] w fun e w' => ∃ v T, e = .returned (.pointer v) ∧ Below w.heap.size w w' ∧ RowAt w' v T ∧ Bal T ∧ items T = [x] := by
  go_enter Tryz.func54, Tryz.ntmps54
  go_wp2_with fail
  refine (of_any (xs := [x]) ⟨rfl, Nat.le_refl _, fun i hi => ⟨_, 0, rfl, ?_⟩⟩ ?_ (by simp) (by unfold maxLen; simp)).mono ?_
  · obtain rfl : i = 0 := by simpa using hi
    simp
  · exact hz.below ((Below.refl _ _).alloc (Nat.le_refl _) _)
  rintro e w1 ⟨v, T, rfl, hb, hr, hB, hi⟩
  go_wp2_with fail
  go_ret
  exact ⟨v, T, rfl, below_step ((Below.refl _ _).alloc (Nat.le_refl _) _) hb, hr, hB, hi⟩

set_option maxHeartbeats 400000 in
theorem piece_any {v : Option Addr} {T : BT Int} {w : World} (h : RowAt w v T) (hb : Bal T) (hs : sz T ≤ 400) (i j : Nat) (hi : i ≤ j) (hj : j ≤ sz T) :
    Calls Tryz.prog 100 #[.pointer v, .int .i64 (i : Int), .int .i64 (j : Int)] w fun e w' => ∃ v1 T1, e = .returned (.pointer v1) ∧ Below w.heap.size w w' ∧ RowAt w' v1 T1 ∧ Bal T1 ∧ items T1 = ((items T).take j).drop i := by
  go_enter Tryz.func100, Tryz.ntmps100
  go_wp2_with fail
  refine (split_any h hb hs j hj).mono ?_
  rintro e w1 ⟨v1, v2, A, B, rfl, hb1, hr1, hr2, hq⟩
  have hz := hq.sizes hj
  go_wp2_with fail
  refine (split_any hr1 hq.bl (by omega) i (by omega)).mono ?_
  rintro e w2 ⟨v3, v4, C, D, rfl, hb2, hr3, hr4, hq2⟩
  go_wp2_with fail
  go_ret
  refine ⟨_, D, rfl, below_step hb1 hb2, hr4, hq2.bh, ?_⟩
  rw [hq2.high, hq.low]

set_option maxRecDepth 1000000 in
theorem Tryz.sizeEdge : (Tryz.prog.info? 44).map (·.size) = some 2 := by kernel_rfl

set_option maxRecDepth 100000 in
set_option maxHeartbeats 400000 in
theorem edgeOf_any (a b : Nat) (ha : a < 1000000) (hb : b < 1000000) {w : World} :
    Calls Tryz.prog 61 #[.int .i64 (a : Int), .int .i64 (b : Int)] w fun e w' => e = .returned (ev (min a b : Nat) (max a b : Nat)) ∧ w' = w.alloc (.cells #[.int .i64 (min a b : Nat), .int .i64 (max a b : Nat)] 44) := by
  obtain ⟨x, hx⟩ : ∃ x, x = min a b := ⟨_, rfl⟩
  obtain ⟨y, hy⟩ : ∃ y, y = max a b := ⟨_, rfl⟩
  have HX : Hid (x = min a b ∧ y = max a b) := ⟨hx, hy⟩
  rw [← hx, ← hy]
  clear hx hy
  go_enter Tryz.func61, Tryz.ntmps61
  go_wp2_with fail
  all_goals
    refine bodyPost_ret (results_cell_row rfl _ _ w.heap.size 44 _ (0, 0) _ rfl (heap_alloc_new _ _) Tryz.underlying44 rfl Tryz.sizeEdge) rfl ?_
    obtain ⟨hx, hy⟩ := HX.out
  · rw [show x = b by omega, show y = a by omega]; exact ⟨rfl, rfl⟩
  · rw [show x = a by omega, show y = b by omega]; exact ⟨rfl, rfl⟩
  · rw [show x = a by omega, show y = a by omega]; exact ⟨rfl, rfl⟩

end Go.Proofs.YtcfemppdeidjmacGreat
