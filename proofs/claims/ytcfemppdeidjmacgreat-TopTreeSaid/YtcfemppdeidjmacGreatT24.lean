/-
  Um Uw1 Uw2 Uw3 Uw5 Uk
-/
import Derived.WalkKit
import Derived.WalkSpells
import Derived.WalkLawsBesides
import Derived.Deep.RegionHeld3
import Derived.Deep.OwnRows
import Derived.OneCell
import Derived.BigQuiet
import Derived.BigRegion
import Derived.Below
import Derived.Maps.AppendAt
import Derived.Deep.AppendLies
import Derived.Test.YtcfemppdeidjmacGreatT4
import Derived.Test.YtcfemppdeidjmacGreatChecked
import Derived.Deep.LoopGhost
namespace Go.Proofs.YtcfemppdeidjmacGreat.Un
open Go.RowKit Go.Deep
set_option linter.unusedVariables false

theorem Tryz.infoInt : (Tryz.prog.info? 3).map (fun i => (i.zero, i.size, i.bytes)) = some (some (.int .i64 0), 1, 8) := by kernel_rfl

theorem cell_keep {W w' : World} {p : Addr} {v : Value} (hb : Below W.heap.size W w') (h : W.cell? p = some v) : w'.cell? p = some v :=
  (hb.cell (World.block_lt_of_cell? _ _ h)).trans h
theorem below_step {w a b : World} (h1 : Below w.heap.size w a) (h2 : Below a.heap.size a b) : Below w.heap.size w b := h1.trans (h2.mono h1.size)
theorem below_drewN {w a : World} {n : Nat} (h : a = w.drewN n) : Below w.heap.size w a := by
  subst h
  induction n with
  | zero => exact Below.refl _ _
  | succ n ih => exact ih.drew

def fell (L : List (Nat × Nat)) : List Value := (L.map fun x => Value.int .i64 (x.1 : Nat)).reverse

theorem fell_cons (l g : Nat) (L : List (Nat × Nat)) : fell ((l, g) :: L) = fell L ++ [Value.int .i64 (l : Nat)] := by simp [fell]

def parts3 (n ba bs : Nat) (vj : Value) : Nat → Value := fun i => if i = 0 then .slice (some ⟨ba, 0, none⟩) n n else if i = 1 then .slice (some ⟨bs, 0, none⟩) n n else vj

structure Lays (base n : Nat) (w : World) (g ba bs : Nat) (vj : Value) (L : List (Nat × Nat)) : Prop where
  st : w.rowIs g 104 3 (parts3 n ba bs vj)
  above : w.rowIs ba 3 n (fun i => .int .i64 (ab L i : Nat))
  size : w.rowIs bs 3 n (fun i => .int .i64 (cz L i : Nat))
  joined : w.ownsRow base 3 1 vj L.length (fell L)
  linked : Lnkd n L
  n1 : 1 ≤ n
  n60 : n ≤ 60
  ne1 : g ≠ ba
  ne2 : g ≠ bs
  ne3 : ba ≠ bs
  apart : ∀ k, vj.ownBlock = some k → k ≠ g ∧ k ≠ ba ∧ k ≠ bs
  bg : base ≤ g
  bb : base ≤ ba
  bz : base ≤ bs

def Foot (g ba bs : Nat) (vj : Value) (k : Nat) : Prop := k = g ∨ k = ba ∨ k = bs ∨ vj.ownBlock = some k

theorem own_heap {w : World} {base : Nat} {e : TypeId} {v : Value} {n : Nat} {xs : List Value} (h : w.ownsRow base e 1 v n xs) {k : Nat} (hk : v.ownBlock = some k) : base ≤ k ∧ k < w.heap.size := by
  rcases h.2 with ⟨h0, _⟩ | ⟨g', cap, cur, hv, h1, h2, h3⟩
  · rw [h0] at hk; cases hk
  · rw [hv] at hk
    cases hk
    exact ⟨h1, (Array.getElem?_eq_some_iff.1 h2).1⟩

theorem ownsRow_keep {w w' : World} {base : Nat} {e : TypeId} {v : Value} {n : Nat} {xs : List Value} (h : w.ownsRow base e 1 v n xs) (hb : ∀ g, v.ownBlock = some g → w'.heap[g]? = w.heap[g]?) : w'.ownsRow base e 1 v n xs := by
  refine ⟨h.1, ?_⟩
  rcases h.2 with h0 | ⟨g, cap, cur, hv, h1, h2, h3⟩
  · exact Or.inl h0
  · refine Or.inr ⟨g, cap, cur, hv, h1, ?_, h3⟩
    rw [hb g (by rw [hv]; rfl)]; exact h2

theorem Lays.lt {base n : Nat} {w : World} {g ba bs : Nat} {vj : Value} {L : List (Nat × Nat)} (h : Lays base n w g ba bs vj L) {k : Nat} (hk : Foot g ba bs vj k) : k < w.heap.size ∧ base ≤ k := by
  rcases hk with rfl | rfl | rfl | hk
  · exact ⟨h.st.lt, h.bg⟩
  · exact ⟨h.above.lt, h.bb⟩
  · exact ⟨h.size.lt, h.bz⟩
  · exact ⟨(own_heap h.joined hk).2, (own_heap h.joined hk).1⟩

theorem Lays.keep {base n : Nat} {w w' : World} {g ba bs : Nat} {vj : Value} {L : List (Nat × Nat)} (h : Lays base n w g ba bs vj L) (hk : ∀ k, Foot g ba bs vj k → w'.heap[k]? = w.heap[k]?) : Lays base n w' g ba bs vj L :=
  ⟨h.st.of_block (hk _ (Or.inl rfl)), h.above.of_block (hk _ (Or.inr (Or.inl rfl))), h.size.of_block (hk _ (Or.inr (Or.inr (Or.inl rfl)))), ownsRow_keep h.joined (fun k e => hk k (Or.inr (Or.inr (Or.inr e)))),
    h.linked, h.n1, h.n60, h.ne1, h.ne2, h.ne3, h.apart, h.bg, h.bb, h.bz⟩

theorem Lays.below {base n : Nat} {w w' : World} {g ba bs : Nat} {vj : Value} {L : List (Nat × Nat)} (h : Lays base n w g ba bs vj L) (hb : Below w.heap.size w w') : Lays base n w' g ba bs vj L :=
  h.keep fun k hk => hb.block k (h.lt hk).1

def UAt (base n : Nat) (w : World) (g : Nat) (F : Nat → Prop) (L : List (Nat × Nat)) : Prop := ∃ ba bs vj, Lays base n w g ba bs vj L ∧ ∀ k, F k ↔ Foot g ba bs vj k

structure Moves (F : Nat → Prop) (w w' : World) (F' : Nat → Prop) : Prop where
  os : w'.os = w.os
  tape : w'.tape = w.tape
  output : w'.output = w.output
  size : w.heap.size ≤ w'.heap.size
  block : ∀ k, k < w.heap.size → ¬ F k → w'.heap[k]? = w.heap[k]?
  foot : ∀ k, F' k → F k ∨ w.heap.size ≤ k

theorem Moves.of_below {F : Nat → Prop} {w w' : World} (h : Below w.heap.size w w') : Moves F w w' F := ⟨h.os, h.tape, h.output, h.size, fun k hk _ => h.block k hk, fun _ h => Or.inl h⟩

theorem Moves.trans {F F' F'' : Nat → Prop} {w w' w'' : World} (h : Moves F w w' F') (h' : Moves F' w' w'' F'') : Moves F w w'' F'' :=
  ⟨h'.os.trans h.os, h'.tape.trans h.tape, h'.output.trans h.output, Nat.le_trans h.size h'.size, fun k hk hn => (h'.block k (Nat.lt_of_lt_of_le hk h.size) (fun hf => by
      rcases h.foot k hf with h1 | h1
      · exact hn h1
      · omega)).trans (h.block k hk hn), fun k hk => by
      rcases h'.foot k hk with h1 | h1
      · exact h.foot k h1
      · exact Or.inr (Nat.le_trans h.size h1)⟩

theorem Moves.below {F F' : Nat → Prop} {base : Nat} {w0 w w' : World} (hb : Below base w0 w) (hs : base ≤ w.heap.size) (hF : ∀ k, F k → base ≤ k) (h : Moves F w w' F') : Below base w0 w' :=
  hb.trans ⟨h.os, h.tape, h.output, h.size, fun k hk => h.block k (by omega) (fun e => by have := hF k e; omega)⟩

theorem UAt.lt {base n : Nat} {w : World} {g : Nat} {F : Nat → Prop} {L : List (Nat × Nat)} (h : UAt base n w g F L) {k : Nat} (hk : F k) : k < w.heap.size ∧ base ≤ k := by
  obtain ⟨ba, bs, vj, h, hF⟩ := h
  exact h.lt ((hF k).1 hk)

theorem UAt.below {base n : Nat} {w w' : World} {g : Nat} {F : Nat → Prop} {L : List (Nat × Nat)} (h : UAt base n w g F L) (hb : Below w.heap.size w w') : UAt base n w' g F L := by
  obtain ⟨ba, bs, vj, h, hF⟩ := h
  exact ⟨ba, bs, vj, h.below hb, hF⟩

theorem UAt.apart {base n : Nat} {w w' : World} {g : Nat} {F G F' : Nat → Prop} {L : List (Nat × Nat)} (h : UAt base n w g G L) (hm : Moves F w w' F') (ha : ∀ k, F k → ¬ G k) : UAt base n w' g G L ∧ ∀ k, F' k → ¬ G k := by
  refine ⟨?_, fun k hk hG => ?_⟩
  · obtain ⟨ba, bs, vj, h, hF⟩ := h
    exact ⟨ba, bs, vj, h.keep (fun k hk => hm.block k (h.lt hk).1 (fun hf => ha k hf ((hF k).2 hk))), hF⟩
  · rcases hm.foot k hk with h1 | h1
    · exact ha k h1 hG
    · have := (h.lt hG).1; omega

end Go.Proofs.YtcfemppdeidjmacGreat.Un

namespace Go.Proofs.YtcfemppdeidjmacGreat.Un
open Go.RowKit Go.Deep
set_option linter.unusedVariables false

theorem Lays.c0 {base n : Nat} {w : World} {g ba bs : Nat} {vj : Value} {L : List (Nat × Nat)} (h : Lays base n w g ba bs vj L) : w.cell? ⟨g, 0, none⟩ = some (.slice (some ⟨ba, 0, none⟩) n n) := h.st.cell (i := 0) (by omega)
theorem Lays.c1 {base n : Nat} {w : World} {g ba bs : Nat} {vj : Value} {L : List (Nat × Nat)} (h : Lays base n w g ba bs vj L) : w.cell? ⟨g, 1, none⟩ = some (.slice (some ⟨bs, 0, none⟩) n n) := h.st.cell (i := 1) (by omega)
set_option maxHeartbeats 400000 in
theorem root_any {base n : Nat} {w : World} {g ba bs : Nat} {vj : Value} {L : List (Nat × Nat)} (h : Lays base n w g ba bs vj L) (k : Nat) (hk : k < n) :
    Calls Tryz.prog 56 #[.pointer (some ⟨g, 0, none⟩), .int .i64 (k : Nat)] w fun e w' => e = .returned (.int .i64 (rt L k : Nat)) ∧ w' = w := by
  have c0 := h.c0
  have hn := h.n60
  have hl := h.linked
  have hab : ∀ i, i < n → w.cell? ⟨ba, i, none⟩ = some (.int .i64 (ab L i : Nat)) := fun i hi => h.above.cell hi
  clear h
  go_enter Tryz.func56, Tryz.ntmps56
  go_wp2_with fail
  go_loopw [1] (fun a wr => ∃ j : Nat, j < n ∧ a = .int .i64 (j : Nat) ∧ rt L j = rt L k ∧ wr = w) (fun a _ => ht L (intOf a).toNat)
  case atStart => exact ⟨k, hk, rfl, rfl, rfl⟩
  case round =>
    obtain ⟨j, hj, rfl, hr, rfl⟩ := hrel
    have hc := hab j hj
    have i0 : (0 : Int) ≤ (j : Int) := by omega
    have i1 : (j : Int) < (n : Int) := by omega
    have HR : Hid (rt L j = rt L k) := hr
    clear hr
    by_cases hroot : rt L j = j
    · have e : (((ab L j : Nat) : Int) != (j : Int)) = false := by rw [bne_eq_false_iff_eq, ab_root hl j hroot]
      have HJ : Hid (rt L j = j) := hroot
      clear hroot
      go_wp2_with fail
      go_ret
      exact ⟨by rw [← HR.out, HJ.out]; rfl, rfl⟩
    · obtain ⟨s1, s2, s3, s4⟩ := ab_step hl j hroot
      have e : (((ab L j : Nat) : Int) != (j : Int)) = true := by rw [bne_iff_ne]; omega
      have S2 : Hid (rt L (ab L j) = rt L j) := s2
      have S3 : Hid (ht L (ab L j) < ht L j) := s3
      have S4 : Hid (ab L j < n) := s4 hj
      clear s1 s2 s3 s4 hroot
      go_wp2_with fail
      go_roundw
      case rel => exact ⟨ab L j, S4.out, rfl, S2.out.trans HR.out, by first | rfl | exact trivial⟩
      case measure => simp [intOf]; exact S3.out

def allIn (n : Nat) (xs : List Int) : Bool := xs.all fun x => decide (0 ≤ x) && decide (x < n)

theorem allIn_take {n : Nat} {xs : List Int} {k : Nat} (h : ∀ i, i < k → ∀ x, xs[i]? = some x → 0 ≤ x ∧ x < n) (hk : xs.length ≤ k) : allIn n xs = true := by
  unfold allIn
  rw [List.all_eq_true]
  intro x hx
  obtain ⟨i, hi, rfl⟩ := List.mem_iff_getElem.1 hx
  have := h i (by omega) _ (List.getElem?_eq_getElem hi)
  simp [this.1, this.2]

theorem allIn_not {n : Nat} {xs : List Int} {k : Nat} {x : Int} (hx : xs[k]? = some x) (hn : ¬ (0 ≤ x ∧ x < n)) : allIn n xs = false := by
  unfold allIn
  rw [Bool.eq_false_iff]
  intro h
  rw [List.all_eq_true] at h
  have := h x (List.mem_of_getElem? hx)
  simp at this
  exact hn this

set_option maxHeartbeats 400000 in
theorem has_any {base n : Nat} {w : World} {g ba bs : Nat} {vj : Value} {L : List (Nat × Nat)} (h : Lays base n w g ba bs vj L) (b : Nat) (xs : List Int) (hb : ∀ i x, xs[i]? = some x → w.cell? ⟨b, i, none⟩ = some (.int .i64 x)) (hm : xs.length < 1000) (c : Nat) :
    Calls Tryz.prog 55 #[.pointer (some ⟨g, 0, none⟩), .slice (some ⟨b, 0, none⟩) xs.length c] w fun e w' => e = .returned (.bool (allIn n xs)) ∧ w' = w := by
  have c0 := h.c0
  have hn := h.n60
  have HB : Hid (∀ i x, xs[i]? = some x → w.cell? ⟨b, i, none⟩ = some (.int .i64 x)) := hb
  clear h hb
  go_enter Tryz.func55, Tryz.ntmps55
  go_wp2_with fail
  go_loopw [6, 9] (fun _ i wr => ∃ j : Nat, j ≤ xs.length ∧ i = .int .i64 (j : Nat) ∧ (∀ i, i < j → ∀ x, xs[i]? = some x → 0 ≤ x ∧ x < n) ∧ wr = w) (fun _ i _ => xs.length - (intOf i).toNat)
  case atStart => exact ⟨0, Nat.zero_le _, rfl, fun i hi => absurd hi (Nat.not_lt_zero _), rfl⟩
  case round =>
    obtain ⟨j, hj, rfl, hall, rfl⟩ := hrel
    by_cases hlt : j < xs.length
    · obtain ⟨x, hx⟩ : ∃ x, xs[j]? = some x := ⟨_, List.getElem?_eq_getElem hlt⟩
      have hc := HB.out j x hx
      have HA : Hid (∀ i, i < j → ∀ x, xs[i]? = some x → 0 ≤ x ∧ x < n) := hall
      clear hall
      have i0 : (0 : Int) ≤ (j : Int) := by omega
      have i1 : (j : Int) < (xs.length : Int) := by omega
      by_cases hin : 0 ≤ x ∧ x < n
      · obtain ⟨h1, h2⟩ := hin
        have HX : Hid (xs[j]? = some x) := hx
        clear hx
        go_wp2_with fail
        go_roundw
        case rel =>
          refine ⟨j + 1, by omega, by go_num, fun i hi y hy => ?_, by first | rfl | exact trivial⟩
          rcases Nat.lt_or_ge i j with h3 | h3
          · exact HA.out i h3 y hy
          · obtain rfl : i = j := by omega
            rw [HX.out] at hy
            cases hy
            exact ⟨h1, h2⟩
        case measure => simp [intOf]; omega
      · have HN : Hid (allIn n xs = false) := allIn_not hx hin
        clear hx
        by_cases h1 : 0 ≤ x
        · have h2 : (n : Int) ≤ x := by
            rcases Int.lt_or_le x n with h3 | h3
            · exact absurd ⟨h1, h3⟩ hin
            · exact h3
          clear hin
          go_wp2_with fail
          go_ret
          exact ⟨by rw [HN.out]; rfl, rfl⟩
        · have h2 : x < 0 := by omega
          clear hin
          go_wp2_with fail
          go_ret
          exact ⟨by rw [HN.out]; rfl, rfl⟩
    · have HN : Hid (allIn n xs = true) := allIn_take hall (by omega)
      clear hall
      go_wp2_with fail
      go_ret
      exact ⟨by rw [HN.out]; rfl, rfl⟩

end Go.Proofs.YtcfemppdeidjmacGreat.Un

namespace Go.Proofs.YtcfemppdeidjmacGreat.Un
open Go.RowKit Go.Deep
set_option linter.unusedVariables false

theorem nodes_two {n : Nat} {a b : Int} : allIn n [a, b] = true ↔ Nodes n a b := by
  simp [allIn, Nodes, and_assoc]
theorem nodes_not {n : Nat} {a b : Int} (h : ¬ Nodes n a b) : allIn n [a, b] = false := by
  rw [Bool.eq_false_iff]; exact fun e => h (nodes_two.1 e)

theorem two_cells (w : World) (a b : Int) : ∀ i x, [a, b][i]? = some x → (w.alloc (.cells #[.int .i64 a, .int .i64 b] 3)).cell? ⟨w.heap.size, i, none⟩ = some (.int .i64 x)
  | 0, x, h => by simp at h; subst h; simp
  | 1, x, h => by simp at h; subst h; simp
  | i + 2, x, h => by simp at h
theorem below_one (w : World) (o : Obj) : Below w.heap.size w (w.alloc o) := (Below.refl _ _).alloc (Nat.le_refl _) _

end Go.Proofs.YtcfemppdeidjmacGreat.Un

namespace Go.Proofs.YtcfemppdeidjmacGreat.Un
open Go.RowKit Go.Deep
set_option linter.unusedVariables false

set_option maxHeartbeats 400000 in
theorem new_no {w : World} (n : Int) (hn : n < 1 ∨ 60 < n) :
    Calls Tryz.prog 15 #[.int .i64 n] w fun e w' => e = .returned (.tuple #[.pointer none, .iface 102 (.int .i64 1)]) ∧ w' = w := by
  rcases hn with hn | hn
  · go_enter Tryz.func15, Tryz.ntmps15
    go_wp2_with fail
    go_ret2
    exact ⟨rfl, rfl⟩
  · have h1 : ¬ n < 1 := by omega
    go_enter Tryz.func15, Tryz.ntmps15
    go_wp2_with fail
    go_ret2
    exact ⟨rfl, rfl⟩

structure Made (base n : Nat) (w0 w : World) (g ba bs k : Nat) : Prop where
  below : Below base w0 w
  st : w.rowIs g 104 3 (parts3 n ba bs (.slice none 0 0))
  above : w.rowIs ba 3 n (fun i => if i < k then .int .i64 (i : Nat) else .int .i64 0)
  size : w.rowIs bs 3 n (fun i => if i < k then .int .i64 1 else .int .i64 0)
  ne1 : g ≠ ba
  ne2 : g ≠ bs
  ne3 : ba ≠ bs
  bg : base ≤ g
  bb : base ≤ ba
  bz : base ≤ bs

theorem Made.step {base n : Nat} {w0 w : World} {g ba bs k : Nat} (h : Made base n w0 w g ba bs k) : Made base n w0 ((w.setCell ⟨ba, k, none⟩ (.int .i64 (k : Nat))).setCell ⟨bs, k, none⟩ (.int .i64 1)) g ba bs (k + 1) := by
  refine ⟨(h.below.setCell h.bb _).setCell h.bz _, (h.st.setOther (by exact h.ne1) _).setOther (by exact h.ne2) _, ?_, ?_, h.ne1, h.ne2, h.ne3, h.bg, h.bb, h.bz⟩
  · refine ((h.above.set k _).setOther (by exact h.ne3) _).congr fun i hi => ?_
    by_cases e : i = k
    · subst e; simp
    · by_cases e2 : i < k
      · simp [e, e2, Nat.lt_succ_of_lt e2]
      · have : ¬ i < k + 1 := by omega
        simp [e, e2, this]
  · refine ((h.size.setOther (a := ⟨ba, k, none⟩) (fun e => h.ne3 e.symm) _).set k _).congr fun i hi => ?_
    by_cases e : i = k
    · subst e; simp
    · by_cases e2 : i < k
      · simp [e, e2, Nat.lt_succ_of_lt e2]
      · have : ¬ i < k + 1 := by omega
        simp [e, e2, this]

theorem Made.drew {base n : Nat} {w0 w : World} {g ba bs k : Nat} (h : Made base n w0 w g ba bs k) : Made base n w0 w.drew g ba bs k :=
  ⟨h.below.drew, h.st, h.above, h.size, h.ne1, h.ne2, h.ne3, h.bg, h.bb, h.bz⟩

theorem made_one {base : Nat} {w : World} (hb : base ≤ w.heap.size) (n : Nat) : Made base n w (((w.alloc (.cells (madeCells #[.int .i64 0] n) 3)).alloc (.cells (madeCells #[.int .i64 0] n) 3)).alloc
    (.cells #[.slice (some ⟨w.heap.size, 0, none⟩) n n, .slice (some ⟨w.heap.size + 1, 0, none⟩) n n, .slice none 0 0] 104)).drew (w.heap.size + 1 + 1) w.heap.size (w.heap.size + 1) 0 := by
  have e1 : (w.alloc (.cells (madeCells #[.int .i64 0] n) 3)).heap.size = w.heap.size + 1 := by simp
  have e2 : ((w.alloc (.cells (madeCells #[.int .i64 0] n) 3)).alloc (.cells (madeCells #[.int .i64 0] n) 3)).heap.size = w.heap.size + 1 + 1 := by simp
  refine Made.drew ⟨(((Below.refl base w).alloc hb _).alloc (by rw [e1]; omega) _).alloc (by rw [e2]; omega) _, ?_, ?_, ?_, by omega, by omega, by omega, by omega, by omega, by omega⟩
  · have := World.rowIs_alloc ((w.alloc (.cells (madeCells #[.int .i64 0] n) 3)).alloc (.cells (madeCells #[.int .i64 0] n) 3)) #[.slice (some ⟨w.heap.size, 0, none⟩) n n, .slice (some ⟨w.heap.size + 1, 0, none⟩) n n, .slice none 0 0] 104 (parts3 n w.heap.size (w.heap.size + 1) (.slice none 0 0)) (fun i hi => by
      rcases i with _ | _ | _ | i
      · rfl
      · rfl
      · rfl
      · simp at hi; omega)
    rwa [e2] at this
  · exact (((World.rowIs_made w (.int .i64 0) n 3).alloc _).alloc _).congr fun i _ => by simp
  · have := (World.rowIs_made (w.alloc (.cells (madeCells #[.int .i64 0] n) 3)) (.int .i64 0) n 3)
    rw [e1] at this
    exact (this.alloc _).congr fun i _ => by simp

theorem made_two {base : Nat} {w : World} (hb : base ≤ w.heap.size) (n : Nat) : Made base n w (((w.alloc (.cells (madeCells #[.int .i64 0] n) 3)).alloc (.cells (madeCells #[.int .i64 0] n) 3)).alloc
    (.cells #[.slice (some ⟨w.heap.size + 1, 0, none⟩) n n, .slice (some ⟨w.heap.size, 0, none⟩) n n, .slice none 0 0] 104)).drew (w.heap.size + 1 + 1) (w.heap.size + 1) w.heap.size 0 := by
  have e1 : (w.alloc (.cells (madeCells #[.int .i64 0] n) 3)).heap.size = w.heap.size + 1 := by simp
  have e2 : ((w.alloc (.cells (madeCells #[.int .i64 0] n) 3)).alloc (.cells (madeCells #[.int .i64 0] n) 3)).heap.size = w.heap.size + 1 + 1 := by simp
  refine Made.drew ⟨(((Below.refl base w).alloc hb _).alloc (by rw [e1]; omega) _).alloc (by rw [e2]; omega) _, ?_, ?_, ?_, by omega, by omega, by omega, by omega, by omega, by omega⟩
  · have := World.rowIs_alloc ((w.alloc (.cells (madeCells #[.int .i64 0] n) 3)).alloc (.cells (madeCells #[.int .i64 0] n) 3)) #[.slice (some ⟨w.heap.size + 1, 0, none⟩) n n, .slice (some ⟨w.heap.size, 0, none⟩) n n, .slice none 0 0] 104 (parts3 n (w.heap.size + 1) w.heap.size (.slice none 0 0)) (fun i hi => by
      rcases i with _ | _ | _ | i
      · rfl
      · rfl
      · rfl
      · simp at hi; omega)
    rwa [e2] at this
  · have := (World.rowIs_made (w.alloc (.cells (madeCells #[.int .i64 0] n) 3)) (.int .i64 0) n 3)
    rw [e1] at this
    exact (this.alloc _).congr fun i _ => by simp
  · exact (((World.rowIs_made w (.int .i64 0) n 3).alloc _).alloc _).congr fun i _ => by simp

theorem Lays.mono {base base' n : Nat} {w : World} {g ba bs : Nat} {vj : Value} {L : List (Nat × Nat)} (h : Lays base n w g ba bs vj L) (hb : base' ≤ base) : Lays base' n w g ba bs vj L := by
  refine ⟨h.st, h.above, h.size, ⟨h.joined.1, ?_⟩, h.linked, h.n1, h.n60, h.ne1, h.ne2, h.ne3, h.apart, Nat.le_trans hb h.bg, Nat.le_trans hb h.bb, Nat.le_trans hb h.bz⟩
  rcases h.joined.2 with h0 | ⟨g, cap, cur, hv, h1, h2⟩
  · exact Or.inl h0
  · exact Or.inr ⟨g, cap, cur, hv, Nat.le_trans hb h1, h2⟩

theorem Made.done {base n : Nat} {w0 w : World} {g ba bs : Nat} (h : Made base n w0 w g ba bs n) (h1 : 1 ≤ n) (h2 : n ≤ 60) : Lays base n w g ba bs (.slice none 0 0) [] :=
  ⟨h.st, h.above.congr fun i hi => by simp [hi, ab], h.size.congr fun i hi => by simp [hi, cz], ⟨rfl, Or.inl ⟨rfl, rfl⟩⟩, trivial, h1, h2, h.ne1, h.ne2, h.ne3, (fun k e => by cases e), h.bg, h.bb, h.bz⟩

set_option maxHeartbeats 1000000 in
theorem new_any {base : Nat} {w : World} (hb : base ≤ w.heap.size) (n : Nat) (h1 : 1 ≤ n) (h2 : n ≤ 60) :
    Calls Tryz.prog 15 #[.int .i64 (n : Nat)] w fun e w' => ∃ g ba bs, e = .returned (.tuple #[.pointer (some ⟨g, 0, none⟩), .nilIface]) ∧ Below w.heap.size w w' ∧ Lays base n w' g ba bs (.slice none 0 0) [] ∧ w.heap.size ≤ g ∧ w.heap.size ≤ ba ∧ w.heap.size ≤ bs := by
  have hmk := run_make_row' (P := Tryz.prog) 33 3 (.int .i64 0) 8 Tryz.underlying33 Tryz.infoInt rfl .i64 .i64 n (by omega) (by omega)
  go_enter Tryz.func15, Tryz.ntmps15
  go_wp2_with fail
  go_region
  · go_wp2_with fail
    go_loopw [5, 20] (fun _ i wr => ∃ k : Nat, k ≤ n ∧ i = .int .i64 (k : Nat) ∧ Made w.heap.size n w wr (w.heap.size + 1 + 1) w.heap.size (w.heap.size + 1) k) (fun _ i _ => n - (intOf i).toNat)
    case atStart => exact ⟨0, Nat.zero_le _, rfl, made_one (Nat.le_refl _) n⟩
    case round =>
      obtain ⟨k, hk, rfl, hM⟩ := hrel
      clear hmk
      by_cases hlt : k < n
      · have c0 : wr.cell? ⟨w.heap.size + 1 + 1, 0, none⟩ = some (.slice (some ⟨w.heap.size, 0, none⟩) n n) := hM.st.cell (i := 0) (by omega)
        have c1 : wr.cell? ⟨w.heap.size + 1 + 1, 1, none⟩ = some (.slice (some ⟨w.heap.size + 1, 0, none⟩) n n) := hM.st.cell (i := 1) (by omega)
        have d1 : wr.cell? ⟨w.heap.size, k, none⟩ = some (.int .i64 0) := by rw [hM.above.cell hlt]; simp
        have d2 : wr.cell? ⟨w.heap.size + 1, k, none⟩ = some (.int .i64 0) := by rw [hM.size.cell hlt]; simp
        have f1 := hM.above.frozen k
        have f2 := hM.size.frozen k
        have i0 : (0 : Int) ≤ (k : Int) := by omega
        have i1 : (k : Int) < (n : Int) := by omega
        go_wp2_with fail
        go_region
        all_goals go_wp2_with fail
        all_goals exact ⟨⟨k + 1, by omega, by go_num, hM.step.drew⟩, by simp [intOf]; omega⟩
      · go_wp2_with fail
        go_ret2
        obtain rfl : k = n := by omega
        exact ⟨_, _, _, rfl, hM.below, (hM.done h1 h2).mono hb, hM.bg, hM.bb, hM.bz⟩
  · go_wp2_with fail
    go_loopw [5, 20] (fun _ i wr => ∃ k : Nat, k ≤ n ∧ i = .int .i64 (k : Nat) ∧ Made w.heap.size n w wr (w.heap.size + 1 + 1) (w.heap.size + 1) w.heap.size k) (fun _ i _ => n - (intOf i).toNat)
    case atStart => exact ⟨0, Nat.zero_le _, rfl, made_two (Nat.le_refl _) n⟩
    case round =>
      obtain ⟨k, hk, rfl, hM⟩ := hrel
      clear hmk
      by_cases hlt : k < n
      · have c0 : wr.cell? ⟨w.heap.size + 1 + 1, 0, none⟩ = some (.slice (some ⟨w.heap.size + 1, 0, none⟩) n n) := hM.st.cell (i := 0) (by omega)
        have c1 : wr.cell? ⟨w.heap.size + 1 + 1, 1, none⟩ = some (.slice (some ⟨w.heap.size, 0, none⟩) n n) := hM.st.cell (i := 1) (by omega)
        have d1 : wr.cell? ⟨w.heap.size + 1, k, none⟩ = some (.int .i64 0) := by rw [hM.above.cell hlt]; simp
        have d2 : wr.cell? ⟨w.heap.size, k, none⟩ = some (.int .i64 0) := by rw [hM.size.cell hlt]; simp
        have f1 := hM.above.frozen k
        have f2 := hM.size.frozen k
        have i0 : (0 : Int) ≤ (k : Int) := by omega
        have i1 : (k : Int) < (n : Int) := by omega
        go_wp2_with fail
        go_region
        all_goals go_wp2_with fail
        all_goals exact ⟨⟨k + 1, by omega, by go_num, hM.step.drew⟩, by simp [intOf]; omega⟩
      · go_wp2_with fail
        go_ret2
        obtain rfl : k = n := by omega
        exact ⟨_, _, _, rfl, hM.below, (hM.done h1 h2).mono hb, hM.bg, hM.bb, hM.bz⟩

end Go.Proofs.YtcfemppdeidjmacGreat.Un

namespace Go.Proofs.YtcfemppdeidjmacGreat.Un
open Go.RowKit Go.Deep
set_option linter.unusedVariables false

structure Half (base n : Nat) (w : World) (g ba bs : Nat) (vj : Value) (l q : Nat) (L : List (Nat × Nat)) : Prop where
  st : w.rowIs g 104 3 (parts3 n ba bs vj)
  above : w.rowIs ba 3 n (fun i => .int .i64 (ab ((l, q) :: L) i : Nat))
  size : w.rowIs bs 3 n (fun i => .int .i64 (cz ((l, q) :: L) i : Nat))
  joined : w.ownsRow base 3 1 vj L.length (fell L)
  linked : Lnkd n ((l, q) :: L)
  n1 : 1 ≤ n
  n60 : n ≤ 60
  ne1 : g ≠ ba
  ne2 : g ≠ bs
  ne3 : ba ≠ bs
  apart : ∀ k, vj.ownBlock = some k → k ≠ g ∧ k ≠ ba ∧ k ≠ bs
  bg : base ≤ g
  bb : base ≤ ba
  bz : base ≤ bs

theorem Lays.half {base n : Nat} {w : World} {g ba bs : Nat} {vj : Value} {L : List (Nat × Nat)} (h : Lays base n w g ba bs vj L) {l q : Nat} (hl : Lnkd n ((l, q) :: L)) :
    Half base n ((w.setCell ⟨ba, l, none⟩ (.int .i64 (q : Nat))).setCell ⟨bs, q, none⟩ (.int .i64 (((cz L q : Nat) : Int) + ((cz L l : Nat) : Int)))) g ba bs vj l q L := by
  refine ⟨(h.st.setOther (a := ⟨ba, l, none⟩) (by exact h.ne1) _).setOther (a := ⟨bs, q, none⟩) (by exact h.ne2) _, ?_, ?_, ?_, hl, h.n1, h.n60, h.ne1, h.ne2, h.ne3, h.apart, h.bg, h.bb, h.bz⟩
  · refine ((h.above.set l _).setOther (a := ⟨bs, q, none⟩) (by exact h.ne3) _).congr fun i hi => ?_
    by_cases e : i = l
    · subst e; simp [ab]
    · simp [e, ab]
  · refine ((h.size.setOther (a := ⟨ba, l, none⟩) (fun e => h.ne3 e.symm) _).set q _).congr fun i hi => ?_
    by_cases e : i = q
    · subst e; simp [cz]
    · simp [e, cz]
  · exact ownsRow_setCell_other (ownsRow_setCell_other h.joined (a := ⟨ba, l, none⟩) (fun e => (h.apart ba e).2.1 rfl) _) (a := ⟨bs, q, none⟩) (fun e => (h.apart bs e).2.2 rfl) _

theorem Half.keep {base n : Nat} {w w' : World} {g ba bs : Nat} {vj : Value} {l q : Nat} {L : List (Nat × Nat)} (h : Half base n w g ba bs vj l q L) (hk : ∀ k, Foot g ba bs vj k → w'.heap[k]? = w.heap[k]?) : Half base n w' g ba bs vj l q L :=
  ⟨h.st.of_block (hk _ (Or.inl rfl)), h.above.of_block (hk _ (Or.inr (Or.inl rfl))), h.size.of_block (hk _ (Or.inr (Or.inr (Or.inl rfl)))), ownsRow_keep h.joined (fun k e => hk k (Or.inr (Or.inr (Or.inr e)))),
    h.linked, h.n1, h.n60, h.ne1, h.ne2, h.ne3, h.apart, h.bg, h.bb, h.bz⟩

theorem Half.lt {base n : Nat} {w : World} {g ba bs : Nat} {vj : Value} {l q : Nat} {L : List (Nat × Nat)} (h : Half base n w g ba bs vj l q L) {k : Nat} (hk : Foot g ba bs vj k) : k < w.heap.size := by
  rcases hk with rfl | rfl | rfl | hk
  · exact h.st.lt
  · exact h.above.lt
  · exact h.size.lt
  · exact (own_heap h.joined hk).2

theorem Half.below {base n : Nat} {w w' : World} {g ba bs : Nat} {vj : Value} {l q : Nat} {L : List (Nat × Nat)} (h : Half base n w g ba bs vj l q L) (hb : Below w.heap.size w w') : Half base n w' g ba bs vj l q L :=
  h.keep fun k hk => hb.block k (h.lt hk)

theorem Half.done {base n : Nat} {w w' : World} {g ba bs : Nat} {vj : Value} {l q : Nat} {L : List (Nat × Nat)} (h : Half base n w g ba bs vj l q L) {gj cap : Nat}
    (ho : w'.ownsRow base 3 1 (.slice (some ⟨gj, 0, none⟩) (L.length + 1) cap) (L.length + 1) (fell L ++ [.int .i64 (l : Nat)])) (hg : w.grownBy w' vj.ownBlock) (hj : vj.ownBlock = some gj ∨ gj = w.heap.size) :
    Lays base n (w'.setCell ⟨g, 2, none⟩ (.slice (some ⟨gj, 0, none⟩) (L.length + 1) cap)) g ba bs (.slice (some ⟨gj, 0, none⟩) (L.length + 1) cap) ((l, q) :: L) := by
  have e1 : w'.heap[g]? = w.heap[g]? := hg.block g h.st.lt (fun e => (h.apart g e.symm).1 rfl)
  have e2 : w'.heap[ba]? = w.heap[ba]? := hg.block ba h.above.lt (fun e => (h.apart ba e.symm).2.1 rfl)
  have e3 : w'.heap[bs]? = w.heap[bs]? := hg.block bs h.size.lt (fun e => (h.apart bs e.symm).2.2 rfl)
  have ap : gj ≠ g ∧ gj ≠ ba ∧ gj ≠ bs := by
    rcases hj with hj | rfl
    · exact h.apart gj hj
    · have q1 := h.st.lt
      have q2 := h.above.lt
      have q3 := h.size.lt
      refine ⟨?_, ?_, ?_⟩ <;> omega
  refine ⟨?_, (h.above.of_block e2).setOther (a := ⟨g, 2, none⟩) (fun e => h.ne1 e.symm) _, (h.size.of_block e3).setOther (a := ⟨g, 2, none⟩) (fun e => h.ne2 e.symm) _, ?_, h.linked, h.n1, h.n60, h.ne1, h.ne2, h.ne3, (fun k e => by cases e; exact ap), h.bg, h.bb, h.bz⟩
  · refine ((h.st.of_block e1).set 2 _).congr fun i hi => ?_
    by_cases e : i = 2
    · subst e; rfl
    · simp only [if_neg e]
      unfold parts3
      have : i = 0 ∨ i = 1 := by omega
      rcases this with rfl | rfl <;> rfl
  · rw [fell_cons]
    exact ownsRow_setCell_other ho (a := ⟨g, 2, none⟩) (by simp [Value.ownBlock]; exact ap.1) _

theorem Moves.set {F : Nat → Prop} (w : World) {a : Addr} (hF : F a.block) (v : Value) : Moves F w (w.setCell a v) F :=
  ⟨rfl, rfl, rfl, by simp [World.setCell], fun k _ hn => Below.heap_setCell _ _ _ _ (fun e => hn (by rw [e]; exact hF)), fun _ h => Or.inl h⟩

theorem Moves.grown {F : Nat → Prop} {w w' : World} {row : Option Nat} (hg : w.grownBy w' row) (hF : ∀ k, row = some k → F k) : Moves F w w' F :=
  ⟨hg.os, hg.tape, hg.output, hg.size, fun k hk hn => hg.block k hk (fun e => hn (hF k e.symm)), fun _ h => Or.inl h⟩

theorem Moves.refoot {F F' F'' : Nat → Prop} {w w' : World} (h : Moves F w w' F') (hk : ∀ k, F'' k → F k ∨ w.heap.size ≤ k) : Moves F w w' F'' := ⟨h.os, h.tape, h.output, h.size, h.block, hk⟩

def JoinOut (base n : Nat) (w : World) (g ba bs : Nat) (vj : Value) (L : List (Nat × Nat)) (a b : Int) (e : Ending) (w' : World) : Prop :=
  ∃ x err vj' L', e = .returned (.tuple #[.bool x, err]) ∧ Lays base n w' g ba bs vj' L' ∧ Moves (Foot g ba bs vj) w w' (Foot g ba bs vj') ∧ Joins n a b L L' ∧ (Nodes n a b → err = .nilIface ∧ (x = true ↔ rt L a.toNat ≠ rt L b.toNat))

set_option maxHeartbeats 1000000 in
theorem join_bad {base n : Nat} {w : World} {g ba bs : Nat} {vj : Value} {L : List (Nat × Nat)} (h : Lays base n w g ba bs vj L) (a b : Int) (hab : ¬ Nodes n a b) :
    Calls Tryz.prog 17 #[.pointer (some ⟨g, 0, none⟩), .int .i64 a, .int .i64 b] w (JoinOut base n w g ba bs vj L a b) := by
  have h1 := h.below (below_one w (.cells #[.int .i64 a, .int .i64 b] 3))
  have HT : Hid (allIn n [a, b] = false) := nodes_not hab
  go_enter Tryz.func17, Tryz.ntmps17
  go_wp2_with fail
  refine (has_any h1 w.heap.size [a, b] (two_cells w a b) (by simp) 2).mono ?_
  rintro e w' ⟨rfl, rfl⟩
  rw [HT.out]
  go_wp2_with fail
  go_ret2
  exact ⟨_, _, vj, L, rfl, h1, Moves.of_below (below_one _ _), Or.inl ⟨hab, rfl⟩, fun h => absurd h hab⟩

set_option maxHeartbeats 1000000 in
theorem join_one {base n : Nat} {w : World} {g ba bs : Nat} {vj : Value} {L : List (Nat × Nat)} (h : Lays base n w g ba bs vj L) (i j : Nat) (hi : i < n) (hj : j < n) (he : rt L i = rt L j) :
    Calls Tryz.prog 17 #[.pointer (some ⟨g, 0, none⟩), .int .i64 (i : Nat), .int .i64 (j : Nat)] w (JoinOut base n w g ba bs vj L i j) := by
  have h1 := h.below (below_one w (.cells #[.int .i64 (i : Nat), .int .i64 (j : Nat)] 3))
  have hab : Nodes n (i : Int) (j : Int) := ⟨by omega, by omega, by omega, by omega⟩
  have HT : Hid (allIn n [(i : Int), (j : Int)] = true) := nodes_two.2 hab
  have HE : Hid (rt L i = rt L j) := he
  have t : (((rt L i : Nat) : Int) == ((rt L j : Nat) : Int)) = true := by rw [he]; simp
  clear he
  go_enter Tryz.func17, Tryz.ntmps17
  go_wp2_with fail
  refine (has_any h1 w.heap.size [(i : Int), (j : Int)] (two_cells w i j) (by simp) 2).mono ?_
  rintro e w' ⟨rfl, rfl⟩
  rw [HT.out]
  go_wp2_with fail
  refine (root_any h1 i hi).mono ?_
  rintro e w' ⟨rfl, rfl⟩
  go_wp2_with fail
  refine (root_any h1 j hj).mono ?_
  rintro e w' ⟨rfl, rfl⟩
  go_wp2_with fail
  go_ret2
  exact ⟨_, _, vj, L, rfl, h1, Moves.of_below (below_one _ _), Or.inr (Or.inl ⟨hab, HE.out, rfl⟩), fun _ => ⟨rfl, by simp [HE.out]⟩⟩

theorem cell_one_new (w : World) (v : Value) (t : TypeId) : ∀ k u, [v][k]? = some u → (w.alloc (.cells #[v] t)).cell? (Addr.add ⟨w.heap.size, 0, none⟩ k) = some u
  | 0, u, h => by simp at h; subst h; simp [Addr.add]
  | k + 1, u, h => by simp at h

set_option maxHeartbeats 2000000 in
theorem join_keep {base n : Nat} {w : World} {g ba bs : Nat} {vj : Value} {L : List (Nat × Nat)} (h : Lays base n w g ba bs vj L) (i j : Nat) (hi : i < n) (hj : j < n) (he : rt L i ≠ rt L j) (hs : cz L (rt L j) ≤ cz L (rt L i)) (hbs : base ≤ w.heap.size) :
    Calls Tryz.prog 17 #[.pointer (some ⟨g, 0, none⟩), .int .i64 (i : Nat), .int .i64 (j : Nat)] w (JoinOut base n w g ba bs vj L i j) := by
  have h1 := h.below (below_one w (.cells #[.int .i64 (i : Nat), .int .i64 (j : Nat)] 3))
  have hab : Nodes n (i : Int) (j : Int) := ⟨by omega, by omega, by omega, by omega⟩
  have HT : Hid (allIn n [(i : Int), (j : Int)] = true) := nodes_two.2 hab
  have HJ : Hid (Joins n i j L ((rt L j, rt L i) :: L)) := Or.inr (Or.inr ⟨hab, he, Or.inr rfl⟩)
  have HE : Hid (rt L i ≠ rt L j) := he
  have t : (((rt L i : Nat) : Int) == ((rt L j : Nat) : Int)) = false := by rw [beq_eq_false_iff_ne]; omega
  have ri := rt_lt h.linked i hi
  have rj := rt_lt h.linked j hj
  have b1 := cz_two h.linked ri rj (rt_rt h.linked i) (rt_rt h.linked j) he
  have hn := h.n60
  have hlk : Lnkd n ((rt L j, rt L i) :: L) := HJ.out.linked h.linked
  have hlen : L.length < 60 := by have := links_lt h.linked h.n1; omega
  obtain ⟨i0, hi0, hz0, hz1, hz2⟩ := info_parts Tryz.infoInt
  go_enter Tryz.func17, Tryz.ntmps17
  go_wp2_with fail
  refine (has_any h1 w.heap.size [(i : Int), (j : Int)] (two_cells w i j) (by simp) 2).mono ?_
  rintro e w' ⟨rfl, rfl⟩
  rw [HT.out]
  go_wp2_with fail
  refine (root_any h1 i hi).mono ?_
  rintro e w' ⟨rfl, rfl⟩
  go_wp2_with fail
  refine (root_any h1 j hj).mono ?_
  rintro e w' ⟨rfl, rfl⟩
  have hB : Below w.heap.size w (w.alloc (.cells #[.int .i64 (i : Nat), .int .i64 (j : Nat)] 3)) := below_one _ _
  have hb1 : base ≤ (w.alloc (.cells #[.int .i64 (i : Nat), .int .i64 (j : Nat)] 3)).heap.size := by simp; omega
  clear h he
  generalize w.alloc (.cells #[.int .i64 (i : Nat), .int .i64 (j : Nat)] 3) = w1 at *
  have c1 := h1.c1
  have z1 := h1.size.cell (i := rt L i) (by omega)
  have z2 := h1.size.cell (i := rt L j) (by omega)
  have p0 : (0 : Int) ≤ ((rt L i : Nat) : Int) := by omega
  have p1 : ((rt L i : Nat) : Int) < (n : Int) := by omega
  have p2 : (0 : Int) ≤ ((rt L j : Nat) : Int) := by omega
  have p3 : ((rt L j : Nat) : Int) < (n : Int) := by omega
  have tt : (((cz L (rt L i) : Nat) : Int) < ((cz L (rt L j) : Nat) : Int)) = False := by simp; omega
  go_wp2_with fail
  go_quiet (fail)
  replace h1 : Lays base n (w1.drewN nq) g ba bs vj L := h1.below (below_drewN rfl)
  replace hB : Below w.heap.size w (w1.drewN nq) := below_step hB (below_drewN rfl)
  replace hb1 : base ≤ (w1.drewN nq).heap.size := hb1
  clear c1 z1 z2
  generalize w1.drewN nq = w2 at *
  have c0 := h1.c0
  have a1 := h1.above.cell (i := rt L j) (by omega)
  have f1 := h1.above.frozen (rt L j)
  have HH := h1.half hlk
  have M1 : Moves (Foot g ba bs vj) w ((w2.setCell ⟨ba, rt L j, none⟩ (.int .i64 (rt L i : Nat))).setCell ⟨bs, rt L i, none⟩ (.int .i64 (((cz L (rt L i) : Nat) : Int) + ((cz L (rt L j) : Nat) : Int)))) (Foot g ba bs vj) :=
    (Moves.of_below hB).trans ((Moves.set w2 (F := Foot g ba bs vj) (a := ⟨ba, rt L j, none⟩) (Or.inr (Or.inl rfl)) _).trans (Moves.set _ (F := Foot g ba bs vj) (a := ⟨bs, rt L i, none⟩) (Or.inr (Or.inr (Or.inl rfl))) _))
  have hb3 : base ≤ ((w2.setCell ⟨ba, rt L j, none⟩ (.int .i64 (rt L i : Nat))).setCell ⟨bs, rt L i, none⟩ (.int .i64 (((cz L (rt L i) : Nat) : Int) + ((cz L (rt L j) : Nat) : Int)))).heap.size := by simp [World.setCell]; exact hb1
  have rs := h1.st.setOther (a := ⟨ba, rt L j, none⟩) (by exact h1.ne1) (.int .i64 (rt L i : Nat))
  have rz := h1.size.setOther (a := ⟨ba, rt L j, none⟩) (fun e => h1.ne3 e.symm) (.int .i64 (rt L i : Nat))
  have d1 : (w2.setCell ⟨ba, rt L j, none⟩ (.int .i64 (rt L i : Nat))).cell? ⟨g, 1, none⟩ = some (.slice (some ⟨bs, 0, none⟩) n n) := rs.cell (i := 1) (by omega)
  have y1 := rz.cell (i := rt L i) (by omega)
  have y2 := rz.cell (i := rt L j) (by omega)
  have f2 := rz.frozen (rt L i)
  clear rs rz h1
  go_wp2_with fail
  generalize w2.setCell ⟨ba, rt L j, none⟩ (.int .i64 (rt L i : Nat)) = w3 at *
  go_region
  all_goals
    clear d1 y1 y2 f2 c0 a1 f1
    generalize w3.setCell ⟨bs, rt L i, none⟩ (.int .i64 (((cz L (rt L i) : Nat) : Int) + ((cz L (rt L j) : Nat) : Int))) = w4 at *
    replace HH := HH.below (Below.refl _ _).drew
    replace M1 := M1.trans (Moves.of_below (F := Foot g ba bs vj) (w' := w4.drew) (Below.refl _ _).drew)
    replace hb3 : base ≤ w4.drew.heap.size := hb3
    generalize w4.drew = w5 at *
    have c2 : w5.cell? ⟨g, 2, none⟩ = some vj := HH.st.cell (i := 2) (by omega)
    replace HH := HH.below (below_one w5 (.cells #[.int .i64 (rt L j : Nat)] 3))
    replace M1 := M1.trans (Moves.of_below (F := Foot g ba bs vj) (below_one w5 (.cells #[.int .i64 (rt L j : Nat)] 3)))
    go_wp2_with (first
      | (at_builtin; refine wpList_append_lies _ rfl (.tmp 70) (.tmp 72) 33 rfl base 3 i0 (.int .i64 0) 1 8 Tryz.underlying33 hi0 hz0 hz1 hz2 rfl (by decide) vj L.length (fell L) rfl HH.joined ⟨w5.heap.size, 0, none⟩ 1 1 [.int .i64 (rt L j : Nat)] rfl rfl ?c1 ?c2 (by decide) ?c3 ?c4 ?c5 _ rfl ?_))
    case c1 => exact cell_one_new _ _ _
    case c2 => intro u hu; simp at hu; subst hu; rfl
    case c3 => unfold maxLen; omega
    case c4 => omega
    case c5 => simp; omega
    intro gj cap w6 hown hgrow hat hlt
    have HD := HH.done hown hgrow (by simpa using hat)
    have M2 := M1.trans (Moves.grown (F := Foot g ba bs vj) hgrow (fun k e => Or.inr (Or.inr (Or.inr e))))
    have M3 := M2.trans (Moves.set w6 (F := Foot g ba bs vj) (a := ⟨g, 2, none⟩) (Or.inl rfl) (.slice (some ⟨gj, 0, none⟩) (L.length + 1) cap))
    have M4 := M3.refoot (F'' := Foot g ba bs (.slice (some ⟨gj, 0, none⟩) (L.length + 1) cap)) (fun k hk => by
      rcases hk with hk | hk | hk | hk
      · exact Or.inl (Or.inl hk)
      · exact Or.inl (Or.inr (Or.inl hk))
      · exact Or.inl (Or.inr (Or.inr (Or.inl hk)))
      · obtain rfl : gj = k := by simpa [Value.ownBlock] using hk
        rcases hat with hat | rfl
        · exact Or.inl (Or.inr (Or.inr (Or.inr hat)))
        · exact Or.inr (by have := M1.size; simpa using this))
    have fz : w6.frozen? ⟨g, 2, none⟩ = false := (World.frozen?_of_block (w := w5.alloc (.cells #[.int .i64 (rt L j : Nat)] 3)) (a := ⟨g, 2, none⟩) (hgrow.block g HH.st.lt (fun e => (HH.apart g e.symm).1 rfl))).trans (HH.st.frozen 2)
    have c3 : w6.cell? ⟨g, 2, none⟩ = some vj := (World.cell?_of_block (w := w5.alloc (.cells #[.int .i64 (rt L j : Nat)] 3)) (a := ⟨g, 2, none⟩) (hgrow.block g HH.st.lt (fun e => (HH.apart g e.symm).1 rfl))).trans (HH.st.cell (i := 2) (by omega))
    clear hown hgrow hat hlt HH M1 M2 M3 c2
    go_wp2_with fail
    go_ret2
    exact ⟨_, _, _, _, rfl, HD, M4, HJ.out, fun _ => ⟨rfl, by simpa using HE.out⟩⟩

set_option maxHeartbeats 2000000 in
theorem join_turn {base n : Nat} {w : World} {g ba bs : Nat} {vj : Value} {L : List (Nat × Nat)} (h : Lays base n w g ba bs vj L) (i j : Nat) (hi : i < n) (hj : j < n) (he : rt L i ≠ rt L j) (hs : cz L (rt L i) < cz L (rt L j)) (hbs : base ≤ w.heap.size) :
    Calls Tryz.prog 17 #[.pointer (some ⟨g, 0, none⟩), .int .i64 (i : Nat), .int .i64 (j : Nat)] w (JoinOut base n w g ba bs vj L i j) := by
  have h1 := h.below (below_one w (.cells #[.int .i64 (i : Nat), .int .i64 (j : Nat)] 3))
  have hab : Nodes n (i : Int) (j : Int) := ⟨by omega, by omega, by omega, by omega⟩
  have HT : Hid (allIn n [(i : Int), (j : Int)] = true) := nodes_two.2 hab
  have HJ : Hid (Joins n i j L ((rt L i, rt L j) :: L)) := Or.inr (Or.inr ⟨hab, he, Or.inl rfl⟩)
  have HE : Hid (rt L i ≠ rt L j) := he
  have t : (((rt L i : Nat) : Int) == ((rt L j : Nat) : Int)) = false := by rw [beq_eq_false_iff_ne]; omega
  have ri := rt_lt h.linked i hi
  have rj := rt_lt h.linked j hj
  have b1 := cz_two h.linked ri rj (rt_rt h.linked i) (rt_rt h.linked j) he
  have hn := h.n60
  have hlk : Lnkd n ((rt L i, rt L j) :: L) := HJ.out.linked h.linked
  have hlen : L.length < 60 := by have := links_lt h.linked h.n1; omega
  obtain ⟨i0, hi0, hz0, hz1, hz2⟩ := info_parts Tryz.infoInt
  go_enter Tryz.func17, Tryz.ntmps17
  go_wp2_with fail
  refine (has_any h1 w.heap.size [(i : Int), (j : Int)] (two_cells w i j) (by simp) 2).mono ?_
  rintro e w' ⟨rfl, rfl⟩
  rw [HT.out]
  go_wp2_with fail
  refine (root_any h1 i hi).mono ?_
  rintro e w' ⟨rfl, rfl⟩
  go_wp2_with fail
  refine (root_any h1 j hj).mono ?_
  rintro e w' ⟨rfl, rfl⟩
  have hB : Below w.heap.size w (w.alloc (.cells #[.int .i64 (i : Nat), .int .i64 (j : Nat)] 3)) := below_one _ _
  have hb1 : base ≤ (w.alloc (.cells #[.int .i64 (i : Nat), .int .i64 (j : Nat)] 3)).heap.size := by simp; omega
  clear h he
  generalize w.alloc (.cells #[.int .i64 (i : Nat), .int .i64 (j : Nat)] 3) = w1 at *
  have c1 := h1.c1
  have z1 := h1.size.cell (i := rt L i) (by omega)
  have z2 := h1.size.cell (i := rt L j) (by omega)
  have p0 : (0 : Int) ≤ ((rt L i : Nat) : Int) := by omega
  have p1 : ((rt L i : Nat) : Int) < (n : Int) := by omega
  have p2 : (0 : Int) ≤ ((rt L j : Nat) : Int) := by omega
  have p3 : ((rt L j : Nat) : Int) < (n : Int) := by omega
  have tt : (((cz L (rt L i) : Nat) : Int) < ((cz L (rt L j) : Nat) : Int)) = True := by simp; omega
  go_wp2_with fail
  go_quiet (fail)
  replace h1 : Lays base n (w1.drewN nq) g ba bs vj L := h1.below (below_drewN rfl)
  replace hB : Below w.heap.size w (w1.drewN nq) := below_step hB (below_drewN rfl)
  replace hb1 : base ≤ (w1.drewN nq).heap.size := hb1
  clear c1 z1 z2
  generalize w1.drewN nq = w2 at *
  have c0 := h1.c0
  have a1 := h1.above.cell (i := rt L i) (by omega)
  have f1 := h1.above.frozen (rt L i)
  have HH := h1.half hlk
  have M1 : Moves (Foot g ba bs vj) w ((w2.setCell ⟨ba, rt L i, none⟩ (.int .i64 (rt L j : Nat))).setCell ⟨bs, rt L j, none⟩ (.int .i64 (((cz L (rt L j) : Nat) : Int) + ((cz L (rt L i) : Nat) : Int)))) (Foot g ba bs vj) :=
    (Moves.of_below hB).trans ((Moves.set w2 (F := Foot g ba bs vj) (a := ⟨ba, rt L i, none⟩) (Or.inr (Or.inl rfl)) _).trans (Moves.set _ (F := Foot g ba bs vj) (a := ⟨bs, rt L j, none⟩) (Or.inr (Or.inr (Or.inl rfl))) _))
  have hb3 : base ≤ ((w2.setCell ⟨ba, rt L i, none⟩ (.int .i64 (rt L j : Nat))).setCell ⟨bs, rt L j, none⟩ (.int .i64 (((cz L (rt L j) : Nat) : Int) + ((cz L (rt L i) : Nat) : Int)))).heap.size := by simp [World.setCell]; exact hb1
  have rs := h1.st.setOther (a := ⟨ba, rt L i, none⟩) (by exact h1.ne1) (.int .i64 (rt L j : Nat))
  have rz := h1.size.setOther (a := ⟨ba, rt L i, none⟩) (fun e => h1.ne3 e.symm) (.int .i64 (rt L j : Nat))
  have d1 : (w2.setCell ⟨ba, rt L i, none⟩ (.int .i64 (rt L j : Nat))).cell? ⟨g, 1, none⟩ = some (.slice (some ⟨bs, 0, none⟩) n n) := rs.cell (i := 1) (by omega)
  have y1 := rz.cell (i := rt L i) (by omega)
  have y2 := rz.cell (i := rt L j) (by omega)
  have f2 := rz.frozen (rt L j)
  clear rs rz h1
  go_wp2_with fail
  generalize w2.setCell ⟨ba, rt L i, none⟩ (.int .i64 (rt L j : Nat)) = w3 at *
  go_region
  all_goals
    clear d1 y1 y2 f2 c0 a1 f1
    generalize w3.setCell ⟨bs, rt L j, none⟩ (.int .i64 (((cz L (rt L j) : Nat) : Int) + ((cz L (rt L i) : Nat) : Int))) = w4 at *
    replace HH := HH.below (Below.refl _ _).drew
    replace M1 := M1.trans (Moves.of_below (F := Foot g ba bs vj) (w' := w4.drew) (Below.refl _ _).drew)
    replace hb3 : base ≤ w4.drew.heap.size := hb3
    generalize w4.drew = w5 at *
    have c2 : w5.cell? ⟨g, 2, none⟩ = some vj := HH.st.cell (i := 2) (by omega)
    replace HH := HH.below (below_one w5 (.cells #[.int .i64 (rt L i : Nat)] 3))
    replace M1 := M1.trans (Moves.of_below (F := Foot g ba bs vj) (below_one w5 (.cells #[.int .i64 (rt L i : Nat)] 3)))
    go_wp2_with (first
      | (at_builtin; refine wpList_append_lies _ rfl (.tmp 70) (.tmp 72) 33 rfl base 3 i0 (.int .i64 0) 1 8 Tryz.underlying33 hi0 hz0 hz1 hz2 rfl (by decide) vj L.length (fell L) rfl HH.joined ⟨w5.heap.size, 0, none⟩ 1 1 [.int .i64 (rt L i : Nat)] rfl rfl ?c1 ?c2 (by decide) ?c3 ?c4 ?c5 _ rfl ?_))
    case c1 => exact cell_one_new _ _ _
    case c2 => intro u hu; simp at hu; subst hu; rfl
    case c3 => unfold maxLen; omega
    case c4 => omega
    case c5 => simp; omega
    intro gj cap w6 hown hgrow hat hlt
    have HD := HH.done hown hgrow (by simpa using hat)
    have M2 := M1.trans (Moves.grown (F := Foot g ba bs vj) hgrow (fun k e => Or.inr (Or.inr (Or.inr e))))
    have M3 := M2.trans (Moves.set w6 (F := Foot g ba bs vj) (a := ⟨g, 2, none⟩) (Or.inl rfl) (.slice (some ⟨gj, 0, none⟩) (L.length + 1) cap))
    have M4 := M3.refoot (F'' := Foot g ba bs (.slice (some ⟨gj, 0, none⟩) (L.length + 1) cap)) (fun k hk => by
      rcases hk with hk | hk | hk | hk
      · exact Or.inl (Or.inl hk)
      · exact Or.inl (Or.inr (Or.inl hk))
      · exact Or.inl (Or.inr (Or.inr (Or.inl hk)))
      · obtain rfl : gj = k := by simpa [Value.ownBlock] using hk
        rcases hat with hat | rfl
        · exact Or.inl (Or.inr (Or.inr (Or.inr hat)))
        · exact Or.inr (by have := M1.size; simpa using this))
    have fz : w6.frozen? ⟨g, 2, none⟩ = false := (World.frozen?_of_block (w := w5.alloc (.cells #[.int .i64 (rt L i : Nat)] 3)) (a := ⟨g, 2, none⟩) (hgrow.block g HH.st.lt (fun e => (HH.apart g e.symm).1 rfl))).trans (HH.st.frozen 2)
    have c3 : w6.cell? ⟨g, 2, none⟩ = some vj := (World.cell?_of_block (w := w5.alloc (.cells #[.int .i64 (rt L i : Nat)] 3)) (a := ⟨g, 2, none⟩) (hgrow.block g HH.st.lt (fun e => (HH.apart g e.symm).1 rfl))).trans (HH.st.cell (i := 2) (by omega))
    clear hown hgrow hat hlt HH M1 M2 M3 c2
    go_wp2_with fail
    go_ret2
    exact ⟨_, _, _, _, rfl, HD, M4, HJ.out, fun _ => ⟨rfl, by simpa using HE.out⟩⟩

theorem join_any {base n : Nat} {w : World} {g ba bs : Nat} {vj : Value} {L : List (Nat × Nat)} (h : Lays base n w g ba bs vj L) (hbs : base ≤ w.heap.size) (a b : Int) :
    Calls Tryz.prog 17 #[.pointer (some ⟨g, 0, none⟩), .int .i64 a, .int .i64 b] w (JoinOut base n w g ba bs vj L a b) := by
  rcases Classical.em (Nodes n a b) with hab | hab
  · obtain ⟨i, rfl⟩ := Int.eq_ofNat_of_zero_le hab.1
    obtain ⟨j, rfl⟩ := Int.eq_ofNat_of_zero_le hab.2.2.1
    have hi : i < n := by have := hab.2.1; omega
    have hj : j < n := by have := hab.2.2.2; omega
    by_cases he : rt L i = rt L j
    · exact join_one h i j hi hj he
    · by_cases hs : cz L (rt L j) ≤ cz L (rt L i)
      · exact join_keep h i j hi hj he hs hbs
      · exact join_turn h i j hi hj he (by omega) hbs
  · exact join_bad h a b hab

end Go.Proofs.YtcfemppdeidjmacGreat.Un

namespace Go.Proofs.YtcfemppdeidjmacGreat.Un
open Go.RowKit Go.Deep
set_option linter.unusedVariables false

theorem new_u {base : Nat} {w : World} (hb : base ≤ w.heap.size) (n : Nat) (h1 : 1 ≤ n) (h2 : n ≤ 60) :
    Calls Tryz.prog 15 #[.int .i64 (n : Nat)] w fun e w' => ∃ g F, e = .returned (.tuple #[.pointer (some ⟨g, 0, none⟩), .nilIface]) ∧ Below w.heap.size w w' ∧ UAt base n w' g F [] ∧ ∀ k, F k → w.heap.size ≤ k := by
  refine (new_any hb n h1 h2).mono ?_
  rintro e w' ⟨g, ba, bs, rfl, hB, hL, q1, q2, q3⟩
  refine ⟨g, Foot g ba bs (.slice none 0 0), rfl, hB, ⟨ba, bs, _, hL, fun _ => Iff.rfl⟩, fun k hk => ?_⟩
  rcases hk with rfl | rfl | rfl | hk
  · exact q1
  · exact q2
  · exact q3
  · cases hk

theorem Moves.iff {F G : Nat → Prop} {w w' : World} {F' : Nat → Prop} (h : Moves G w w' F') (hF : ∀ k, F k ↔ G k) : Moves F w w' F' :=
  ⟨h.os, h.tape, h.output, h.size, fun k hk hn => h.block k hk (fun e => hn ((hF k).2 e)), fun k hk => (h.foot k hk).imp (fun e => (hF k).2 e) id⟩

def JoinU (base n : Nat) (w : World) (g : Nat) (F : Nat → Prop) (L : List (Nat × Nat)) (a b : Int) (e : Ending) (w' : World) : Prop :=
  ∃ x err F' L', e = .returned (.tuple #[.bool x, err]) ∧ UAt base n w' g F' L' ∧ Moves F w w' F' ∧ Joins n a b L L' ∧ (Nodes n a b → err = .nilIface ∧ (x = true ↔ rt L a.toNat ≠ rt L b.toNat))

theorem join_u {base n : Nat} {w : World} {g : Nat} {F : Nat → Prop} {L : List (Nat × Nat)} (h : UAt base n w g F L) (hbs : base ≤ w.heap.size) (a b : Int) :
    Calls Tryz.prog 17 #[.pointer (some ⟨g, 0, none⟩), .int .i64 a, .int .i64 b] w (JoinU base n w g F L a b) := by
  obtain ⟨ba, bs, vj, h, hF⟩ := h
  refine (join_any h hbs a b).mono ?_
  rintro e w' ⟨x, err, vj', L', rfl, hL, hM, hJ, hx⟩
  exact ⟨x, err, _, L', rfl, ⟨ba, bs, vj', hL, fun _ => Iff.rfl⟩, hM.iff hF, hJ, hx⟩

end Go.Proofs.YtcfemppdeidjmacGreat.Un
