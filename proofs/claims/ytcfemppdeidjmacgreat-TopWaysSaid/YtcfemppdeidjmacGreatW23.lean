/-
  Um Uw1 Uw2 Uw3
-/
import Derived.WalkKit
import Derived.WalkSpells
import Derived.WalkLawsBesides
import Derived.Deep.RegionHeld3
import Derived.Deep.OwnRows
import Derived.OneCell
import Derived.BigQuiet
import Derived.BigRegion
import Derived.Below
import Derived.Maps.AppendAt
import Derived.Deep.AppendLies
import Derived.Test.YtcfemppdeidjmacGreatW4
import Derived.Test.YtcfemppdeidjmacGreatChecked
import Derived.Deep.LoopGhost
namespace Go.Proofs.YtcfemppdeidjmacGreat.Un
open Go.RowKit Go.Deep
set_option linter.unusedVariables false

theorem Tryz.infoInt : (Tryz.prog.info? 3).map (fun i => (i.zero, i.size, i.bytes)) = some (some (.int .i64 0), 1, 8) := by kernel_rfl

theorem below_step {w a b : World} (h1 : Below w.heap.size w a) (h2 : Below a.heap.size a b) : Below w.heap.size w b := h1.trans (h2.mono h1.size)
theorem below_drewN {w a : World} {n : Nat} (h : a = w.drewN n) : Below w.heap.size w a := by
  subst h
  induction n with
  | zero => exact Below.refl _ _
  | succ n ih => exact ih.drew

def fell (L : List (Nat × Nat)) : List Value := (L.map fun x => Value.int .i64 (x.1 : Nat)).reverse

theorem fell_cons (l g : Nat) (L : List (Nat × Nat)) : fell ((l, g) :: L) = fell L ++ [Value.int .i64 (l : Nat)] := by simp [fell]

def parts3 (n ba bs : Nat) (vj : Value) : Nat → Value := fun i => if i = 0 then .slice (some ⟨ba, 0, none⟩) n n else if i = 1 then .slice (some ⟨bs, 0, none⟩) n n else vj

structure Lays (base n : Nat) (w : World) (g ba bs : Nat) (vj : Value) (L : List (Nat × Nat)) : Prop where
  st : w.rowIs g 104 3 (parts3 n ba bs vj)
  above : w.rowIs ba 3 n (fun i => .int .i64 (ab L i : Nat))
  size : w.rowIs bs 3 n (fun i => .int .i64 (cz L i : Nat))
  joined : w.ownsRow base 3 1 vj L.length (fell L)
  linked : Lnkd n L
  n1 : 1 ≤ n
  n60 : n ≤ 60
  ne1 : g ≠ ba
  ne2 : g ≠ bs
  ne3 : ba ≠ bs
  apart : ∀ k, vj.ownBlock = some k → k ≠ g ∧ k ≠ ba ∧ k ≠ bs
  bg : base ≤ g
  bb : base ≤ ba
  bz : base ≤ bs

def Foot (g ba bs : Nat) (vj : Value) (k : Nat) : Prop := k = g ∨ k = ba ∨ k = bs ∨ vj.ownBlock = some k

theorem own_heap {w : World} {base : Nat} {e : TypeId} {v : Value} {n : Nat} {xs : List Value} (h : w.ownsRow base e 1 v n xs) {k : Nat} (hk : v.ownBlock = some k) : base ≤ k ∧ k < w.heap.size := by
  rcases h.2 with ⟨h0, _⟩ | ⟨g', cap, cur, hv, h1, h2, h3⟩
  · rw [h0] at hk; cases hk
  · rw [hv] at hk
    cases hk
    exact ⟨h1, (Array.getElem?_eq_some_iff.1 h2).1⟩

theorem ownsRow_keep {w w' : World} {base : Nat} {e : TypeId} {v : Value} {n : Nat} {xs : List Value} (h : w.ownsRow base e 1 v n xs) (hb : ∀ g, v.ownBlock = some g → w'.heap[g]? = w.heap[g]?) : w'.ownsRow base e 1 v n xs := by
  refine ⟨h.1, ?_⟩
  rcases h.2 with h0 | ⟨g, cap, cur, hv, h1, h2, h3⟩
  · exact Or.inl h0
  · refine Or.inr ⟨g, cap, cur, hv, h1, ?_, h3⟩
    rw [hb g (by rw [hv]; rfl)]; exact h2

theorem own_form {w : World} {base : Nat} {e : TypeId} {v : Value} {n : Nat} {xs : List Value} (h : w.ownsRow base e 1 v n xs) : ∃ a c, v = .slice a n c := by
  rcases h.2 with ⟨rfl, rfl⟩ | ⟨g, cap, cur, rfl, _⟩
  · exact ⟨none, 0, rfl⟩
  · exact ⟨_, cap, rfl⟩

theorem Lays.lt {base n : Nat} {w : World} {g ba bs : Nat} {vj : Value} {L : List (Nat × Nat)} (h : Lays base n w g ba bs vj L) {k : Nat} (hk : Foot g ba bs vj k) : k < w.heap.size ∧ base ≤ k := by
  rcases hk with rfl | rfl | rfl | hk
  · exact ⟨h.st.lt, h.bg⟩
  · exact ⟨h.above.lt, h.bb⟩
  · exact ⟨h.size.lt, h.bz⟩
  · exact ⟨(own_heap h.joined hk).2, (own_heap h.joined hk).1⟩

theorem Lays.keep {base n : Nat} {w w' : World} {g ba bs : Nat} {vj : Value} {L : List (Nat × Nat)} (h : Lays base n w g ba bs vj L) (hk : ∀ k, Foot g ba bs vj k → w'.heap[k]? = w.heap[k]?) : Lays base n w' g ba bs vj L :=
  ⟨h.st.of_block (hk _ (Or.inl rfl)), h.above.of_block (hk _ (Or.inr (Or.inl rfl))), h.size.of_block (hk _ (Or.inr (Or.inr (Or.inl rfl)))), ownsRow_keep h.joined (fun k e => hk k (Or.inr (Or.inr (Or.inr e)))),
    h.linked, h.n1, h.n60, h.ne1, h.ne2, h.ne3, h.apart, h.bg, h.bb, h.bz⟩

theorem Lays.below {base n : Nat} {w w' : World} {g ba bs : Nat} {vj : Value} {L : List (Nat × Nat)} (h : Lays base n w g ba bs vj L) (hb : Below w.heap.size w w') : Lays base n w' g ba bs vj L :=
  h.keep fun k hk => hb.block k (h.lt hk).1

def UAt (base n : Nat) (w : World) (g : Nat) (F : Nat → Prop) (L : List (Nat × Nat)) : Prop := ∃ ba bs vj, Lays base n w g ba bs vj L ∧ ∀ k, F k ↔ Foot g ba bs vj k

structure Moves (F : Nat → Prop) (w w' : World) (F' : Nat → Prop) : Prop where
  os : w'.os = w.os
  tape : w'.tape = w.tape
  output : w'.output = w.output
  size : w.heap.size ≤ w'.heap.size
  block : ∀ k, k < w.heap.size → ¬ F k → w'.heap[k]? = w.heap[k]?
  foot : ∀ k, F' k → F k ∨ w.heap.size ≤ k

theorem Moves.of_below {F : Nat → Prop} {w w' : World} (h : Below w.heap.size w w') : Moves F w w' F := ⟨h.os, h.tape, h.output, h.size, fun k hk _ => h.block k hk, fun _ h => Or.inl h⟩

theorem Moves.trans {F F' F'' : Nat → Prop} {w w' w'' : World} (h : Moves F w w' F') (h' : Moves F' w' w'' F'') : Moves F w w'' F'' :=
  ⟨h'.os.trans h.os, h'.tape.trans h.tape, h'.output.trans h.output, Nat.le_trans h.size h'.size, fun k hk hn => (h'.block k (Nat.lt_of_lt_of_le hk h.size) (fun hf => by
      rcases h.foot k hf with h1 | h1
      · exact hn h1
      · omega)).trans (h.block k hk hn), fun k hk => by
      rcases h'.foot k hk with h1 | h1
      · exact h.foot k h1
      · exact Or.inr (Nat.le_trans h.size h1)⟩

theorem Moves.below {F F' : Nat → Prop} {base : Nat} {w0 w w' : World} (hb : Below base w0 w) (hs : base ≤ w.heap.size) (hF : ∀ k, F k → base ≤ k) (h : Moves F w w' F') : Below base w0 w' :=
  hb.trans ⟨h.os, h.tape, h.output, h.size, fun k hk => h.block k (by omega) (fun e => by have := hF k e; omega)⟩

theorem UAt.lt {base n : Nat} {w : World} {g : Nat} {F : Nat → Prop} {L : List (Nat × Nat)} (h : UAt base n w g F L) {k : Nat} (hk : F k) : k < w.heap.size ∧ base ≤ k := by
  obtain ⟨ba, bs, vj, h, hF⟩ := h
  exact h.lt ((hF k).1 hk)

theorem UAt.below {base n : Nat} {w w' : World} {g : Nat} {F : Nat → Prop} {L : List (Nat × Nat)} (h : UAt base n w g F L) (hb : Below w.heap.size w w') : UAt base n w' g F L := by
  obtain ⟨ba, bs, vj, h, hF⟩ := h
  exact ⟨ba, bs, vj, h.below hb, hF⟩

theorem UAt.linked {base n : Nat} {w : World} {g : Nat} {F : Nat → Prop} {L : List (Nat × Nat)} (h : UAt base n w g F L) : Lnkd n L ∧ 1 ≤ n ∧ n ≤ 60 := by
  obtain ⟨ba, bs, vj, h, hF⟩ := h
  exact ⟨h.linked, h.n1, h.n60⟩

theorem UAt.apart {base n : Nat} {w w' : World} {g : Nat} {F G F' : Nat → Prop} {L : List (Nat × Nat)} (h : UAt base n w g G L) (hm : Moves F w w' F') (ha : ∀ k, F k → ¬ G k) : UAt base n w' g G L ∧ ∀ k, F' k → ¬ G k := by
  refine ⟨?_, fun k hk hG => ?_⟩
  · obtain ⟨ba, bs, vj, h, hF⟩ := h
    exact ⟨ba, bs, vj, h.keep (fun k hk => hm.block k (h.lt hk).1 (fun hf => ha k hf ((hF k).2 hk))), hF⟩
  · rcases hm.foot k hk with h1 | h1
    · exact ha k h1 hG
    · have := (h.lt hG).1; omega

end Go.Proofs.YtcfemppdeidjmacGreat.Un

namespace Go.Proofs.YtcfemppdeidjmacGreat.Un
open Go.RowKit Go.Deep
set_option linter.unusedVariables false

theorem Lays.c0 {base n : Nat} {w : World} {g ba bs : Nat} {vj : Value} {L : List (Nat × Nat)} (h : Lays base n w g ba bs vj L) : w.cell? ⟨g, 0, none⟩ = some (.slice (some ⟨ba, 0, none⟩) n n) := h.st.cell (i := 0) (by omega)
theorem Lays.c1 {base n : Nat} {w : World} {g ba bs : Nat} {vj : Value} {L : List (Nat × Nat)} (h : Lays base n w g ba bs vj L) : w.cell? ⟨g, 1, none⟩ = some (.slice (some ⟨bs, 0, none⟩) n n) := h.st.cell (i := 1) (by omega)
theorem Lays.c2 {base n : Nat} {w : World} {g ba bs : Nat} {vj : Value} {L : List (Nat × Nat)} (h : Lays base n w g ba bs vj L) : w.cell? ⟨g, 2, none⟩ = some vj := h.st.cell (i := 2) (by omega)

set_option maxHeartbeats 400000 in
theorem parts_any {base n : Nat} {w : World} {g ba bs : Nat} {vj : Value} {L : List (Nat × Nat)} (h : Lays base n w g ba bs vj L) :
    Calls Tryz.prog 24 #[.pointer (some ⟨g, 0, none⟩)] w fun e w' => e = .returned (.int .i64 ((n - L.length : Nat))) ∧ ∃ k, w' = w.drewN k := by
  obtain ⟨a, c, rfl⟩ := own_form h.joined
  have c0 := h.c0
  have c2 := h.c2
  have hl := links_lt h.linked h.n1
  have hn := h.n60
  have E : Hid ((n : Int) - (L.length : Nat) = ((n - L.length : Nat) : Int)) := show _ = _ by omega
  clear h
  go_enter Tryz.func24, Tryz.ntmps24
  go_wp2_with fail
  go_quiet (fail)
  go_wp2_with fail
  go_ret
  exact ⟨by rw [E.out]; rfl, _, rfl⟩

set_option maxHeartbeats 400000 in
theorem root_any {base n : Nat} {w : World} {g ba bs : Nat} {vj : Value} {L : List (Nat × Nat)} (h : Lays base n w g ba bs vj L) (k : Nat) (hk : k < n) :
    Calls Tryz.prog 56 #[.pointer (some ⟨g, 0, none⟩), .int .i64 (k : Nat)] w fun e w' => e = .returned (.int .i64 (rt L k : Nat)) ∧ w' = w := by
  have c0 := h.c0
  have hn := h.n60
  have hl := h.linked
  have hab : ∀ i, i < n → w.cell? ⟨ba, i, none⟩ = some (.int .i64 (ab L i : Nat)) := fun i hi => h.above.cell hi
  clear h
  go_enter Tryz.func56, Tryz.ntmps56
  go_wp2_with fail
  go_loopw [1] (fun a wr => ∃ j : Nat, j < n ∧ a = .int .i64 (j : Nat) ∧ rt L j = rt L k ∧ wr = w) (fun a _ => ht L (intOf a).toNat)
  case atStart => exact ⟨k, hk, rfl, rfl, rfl⟩
  case round =>
    obtain ⟨j, hj, rfl, hr, rfl⟩ := hrel
    have hc := hab j hj
    have i0 : (0 : Int) ≤ (j : Int) := by omega
    have i1 : (j : Int) < (n : Int) := by omega
    have HR : Hid (rt L j = rt L k) := hr
    clear hr
    by_cases hroot : rt L j = j
    · have e : (((ab L j : Nat) : Int) != (j : Int)) = false := by rw [bne_eq_false_iff_eq, ab_root hl j hroot]
      have HJ : Hid (rt L j = j) := hroot
      clear hroot
      go_wp2_with fail
      go_ret
      exact ⟨by rw [← HR.out, HJ.out]; rfl, rfl⟩
    · obtain ⟨s1, s2, s3, s4⟩ := ab_step hl j hroot
      have e : (((ab L j : Nat) : Int) != (j : Int)) = true := by rw [bne_iff_ne]; omega
      have S2 : Hid (rt L (ab L j) = rt L j) := s2
      have S3 : Hid (ht L (ab L j) < ht L j) := s3
      have S4 : Hid (ab L j < n) := s4 hj
      clear s1 s2 s3 s4 hroot
      go_wp2_with fail
      go_roundw
      case rel => exact ⟨ab L j, S4.out, rfl, S2.out.trans HR.out, by first | rfl | exact trivial⟩
      case measure => simp [intOf]; exact S3.out

def allIn (n : Nat) (xs : List Int) : Bool := xs.all fun x => decide (0 ≤ x) && decide (x < n)

theorem allIn_take {n : Nat} {xs : List Int} {k : Nat} (h : ∀ i, i < k → ∀ x, xs[i]? = some x → 0 ≤ x ∧ x < n) (hk : xs.length ≤ k) : allIn n xs = true := by
  unfold allIn
  rw [List.all_eq_true]
  intro x hx
  obtain ⟨i, hi, rfl⟩ := List.mem_iff_getElem.1 hx
  have := h i (by omega) _ (List.getElem?_eq_getElem hi)
  simp [this.1, this.2]

theorem allIn_not {n : Nat} {xs : List Int} {k : Nat} {x : Int} (hx : xs[k]? = some x) (hn : ¬ (0 ≤ x ∧ x < n)) : allIn n xs = false := by
  unfold allIn
  rw [Bool.eq_false_iff]
  intro h
  rw [List.all_eq_true] at h
  have := h x (List.mem_of_getElem? hx)
  simp at this
  exact hn this

set_option maxHeartbeats 400000 in
theorem has_any {base n : Nat} {w : World} {g ba bs : Nat} {vj : Value} {L : List (Nat × Nat)} (h : Lays base n w g ba bs vj L) (b : Nat) (xs : List Int) (hb : ∀ i x, xs[i]? = some x → w.cell? ⟨b, i, none⟩ = some (.int .i64 x)) (hm : xs.length < 1000) (c : Nat) :
    Calls Tryz.prog 55 #[.pointer (some ⟨g, 0, none⟩), .slice (some ⟨b, 0, none⟩) xs.length c] w fun e w' => e = .returned (.bool (allIn n xs)) ∧ w' = w := by
  have c0 := h.c0
  have hn := h.n60
  have HB : Hid (∀ i x, xs[i]? = some x → w.cell? ⟨b, i, none⟩ = some (.int .i64 x)) := hb
  clear h hb
  go_enter Tryz.func55, Tryz.ntmps55
  go_wp2_with fail
  go_loopw [6, 9] (fun _ i wr => ∃ j : Nat, j ≤ xs.length ∧ i = .int .i64 (j : Nat) ∧ (∀ i, i < j → ∀ x, xs[i]? = some x → 0 ≤ x ∧ x < n) ∧ wr = w) (fun _ i _ => xs.length - (intOf i).toNat)
  case atStart => exact ⟨0, Nat.zero_le _, rfl, fun i hi => absurd hi (Nat.not_lt_zero _), rfl⟩
  case round =>
    obtain ⟨j, hj, rfl, hall, rfl⟩ := hrel
    by_cases hlt : j < xs.length
    · obtain ⟨x, hx⟩ : ∃ x, xs[j]? = some x := ⟨_, List.getElem?_eq_getElem hlt⟩
      have hc := HB.out j x hx
      have HA : Hid (∀ i, i < j → ∀ x, xs[i]? = some x → 0 ≤ x ∧ x < n) := hall
      clear hall
      have i0 : (0 : Int) ≤ (j : Int) := by omega
      have i1 : (j : Int) < (xs.length : Int) := by omega
      by_cases hin : 0 ≤ x ∧ x < n
      · obtain ⟨h1, h2⟩ := hin
        have HX : Hid (xs[j]? = some x) := hx
        clear hx
        go_wp2_with fail
        go_roundw
        case rel =>
          refine ⟨j + 1, by omega, by go_num, fun i hi y hy => ?_, by first | rfl | exact trivial⟩
          rcases Nat.lt_or_ge i j with h3 | h3
          · exact HA.out i h3 y hy
          · obtain rfl : i = j := by omega
            rw [HX.out] at hy
            cases hy
            exact ⟨h1, h2⟩
        case measure => simp [intOf]; omega
      · have HN : Hid (allIn n xs = false) := allIn_not hx hin
        clear hx
        by_cases h1 : 0 ≤ x
        · have h2 : (n : Int) ≤ x := by
            rcases Int.lt_or_le x n with h3 | h3
            · exact absurd ⟨h1, h3⟩ hin
            · exact h3
          clear hin
          go_wp2_with fail
          go_ret
          exact ⟨by rw [HN.out]; rfl, rfl⟩
        · have h2 : x < 0 := by omega
          clear hin
          go_wp2_with fail
          go_ret
          exact ⟨by rw [HN.out]; rfl, rfl⟩
    · have HN : Hid (allIn n xs = true) := allIn_take hall (by omega)
      clear hall
      go_wp2_with fail
      go_ret
      exact ⟨by rw [HN.out]; rfl, rfl⟩

end Go.Proofs.YtcfemppdeidjmacGreat.Un

namespace Go.Proofs.YtcfemppdeidjmacGreat.Un
open Go.RowKit Go.Deep
set_option linter.unusedVariables false

theorem nodes_two {n : Nat} {a b : Int} : allIn n [a, b] = true ↔ Nodes n a b := by
  simp [allIn, Nodes, and_assoc]
theorem nodes_not {n : Nat} {a b : Int} (h : ¬ Nodes n a b) : allIn n [a, b] = false := by
  rw [Bool.eq_false_iff]; exact fun e => h (nodes_two.1 e)

theorem two_cells (w : World) (a b : Int) : ∀ i x, [a, b][i]? = some x → (w.alloc (.cells #[.int .i64 a, .int .i64 b] 3)).cell? ⟨w.heap.size, i, none⟩ = some (.int .i64 x)
  | 0, x, h => by simp at h; subst h; simp
  | 1, x, h => by simp at h; subst h; simp
  | i + 2, x, h => by simp at h
theorem one_cell (w : World) (a : Int) : ∀ i x, [a][i]? = some x → (w.alloc (.cells #[.int .i64 a] 3)).cell? ⟨w.heap.size, i, none⟩ = some (.int .i64 x)
  | 0, x, h => by simp at h; subst h; simp
  | i + 1, x, h => by simp at h

theorem below_one (w : World) (o : Obj) : Below w.heap.size w (w.alloc o) := (Below.refl _ _).alloc (Nat.le_refl _) _

set_option maxHeartbeats 1000000 in
theorem same_any {base n : Nat} {w : World} {g ba bs : Nat} {vj : Value} {L : List (Nat × Nat)} (h : Lays base n w g ba bs vj L) (i j : Nat) (hi : i < n) (hj : j < n) :
    Calls Tryz.prog 19 #[.pointer (some ⟨g, 0, none⟩), .int .i64 (i : Nat), .int .i64 (j : Nat)] w fun e w' => e = .returned (.tuple #[.bool (decide (rt L i = rt L j)), .nilIface]) ∧ Below w.heap.size w w' := by
  have hn := h.n60
  have HT : Hid (allIn n [(i : Int), (j : Int)] = true) := nodes_two.2 ⟨by omega, by omega, by omega, by omega⟩
  have HR : Hid ((((rt L i : Nat) : Int) == ((rt L j : Nat) : Int)) = decide (rt L i = rt L j)) := by
    show (((rt L i : Nat) : Int) == ((rt L j : Nat) : Int)) = _
    by_cases e : rt L i = rt L j
    · simp [e]
    · have : ¬ ((rt L i : Nat) : Int) = ((rt L j : Nat) : Int) := by omega
      simp [e, this]
  have h1 := h.below (below_one w (.cells #[.int .i64 (i : Nat), .int .i64 (j : Nat)] 3))
  go_enter Tryz.func19, Tryz.ntmps19
  go_wp2_with fail
  refine (has_any h1 w.heap.size [(i : Int), (j : Int)] (two_cells w i j) (by simp) 2).mono ?_
  rintro e w' ⟨rfl, rfl⟩
  rw [HT.out]
  go_wp2_with fail
  refine (root_any h1 i hi).mono ?_
  rintro e w' ⟨rfl, rfl⟩
  go_wp2_with fail
  refine (root_any h1 j hj).mono ?_
  rintro e w' ⟨rfl, rfl⟩
  go_wp2_with fail
  go_ret2
  exact ⟨by rw [← HR.out]; rfl, below_one _ _⟩

set_option maxHeartbeats 1000000 in
theorem size_any {base n : Nat} {w : World} {g ba bs : Nat} {vj : Value} {L : List (Nat × Nat)} (h : Lays base n w g ba bs vj L) (i : Nat) (hi : i < n) :
    Calls Tryz.prog 21 #[.pointer (some ⟨g, 0, none⟩), .int .i64 (i : Nat)] w fun e w' => e = .returned (.tuple #[.int .i64 (cz L (rt L i) : Nat), .nilIface]) ∧ Below w.heap.size w w' := by
  have hn := h.n60
  have HT : Hid (allIn n [(i : Int)] = true) := show _ = _ by simp [allIn]; omega
  have h1 := h.below (below_one w (.cells #[.int .i64 (i : Nat)] 3))
  have hr : rt L i < n := rt_lt h.linked i hi
  have c1 := h1.c1
  have cs := h1.size.cell hr
  have i0 : (0 : Int) ≤ ((rt L i : Nat) : Int) := by omega
  have i1 : ((rt L i : Nat) : Int) < (n : Int) := by omega
  go_enter Tryz.func21, Tryz.ntmps21
  go_wp2_with fail
  refine (has_any h1 w.heap.size [(i : Int)] (one_cell w i) (by simp) 1).mono ?_
  rintro e w' ⟨rfl, rfl⟩
  rw [HT.out]
  go_wp2_with fail
  go_quiet (first
    | (go_at_call 56; exact Calls.quiet_of_same (root_any (h1.below (below_drewN rfl)) i hi)))
  go_wp2_with fail
  go_ret2
  exact ⟨rfl, below_step (below_one _ _) (below_drewN rfl)⟩

end Go.Proofs.YtcfemppdeidjmacGreat.Un

namespace Go.Proofs.YtcfemppdeidjmacGreat.Un
open Go.RowKit Go.Deep
set_option linter.unusedVariables false

set_option maxHeartbeats 400000 in
theorem new_no {w : World} (n : Int) (hn : n < 1 ∨ 60 < n) :
    Calls Tryz.prog 15 #[.int .i64 n] w fun e w' => e = .returned (.tuple #[.pointer none, .iface 102 (.int .i64 1)]) ∧ w' = w := by
  rcases hn with hn | hn
  · go_enter Tryz.func15, Tryz.ntmps15
    go_wp2_with fail
    go_ret2
    exact ⟨rfl, rfl⟩
  · have h1 : ¬ n < 1 := by omega
    go_enter Tryz.func15, Tryz.ntmps15
    go_wp2_with fail
    go_ret2
    exact ⟨rfl, rfl⟩

structure Made (base n : Nat) (w0 w : World) (g ba bs k : Nat) : Prop where
  below : Below base w0 w
  st : w.rowIs g 104 3 (parts3 n ba bs (.slice none 0 0))
  above : w.rowIs ba 3 n (fun i => if i < k then .int .i64 (i : Nat) else .int .i64 0)
  size : w.rowIs bs 3 n (fun i => if i < k then .int .i64 1 else .int .i64 0)
  ne1 : g ≠ ba
  ne2 : g ≠ bs
  ne3 : ba ≠ bs
  bg : base ≤ g
  bb : base ≤ ba
  bz : base ≤ bs

theorem Made.step {base n : Nat} {w0 w : World} {g ba bs k : Nat} (h : Made base n w0 w g ba bs k) : Made base n w0 ((w.setCell ⟨ba, k, none⟩ (.int .i64 (k : Nat))).setCell ⟨bs, k, none⟩ (.int .i64 1)) g ba bs (k + 1) := by
  refine ⟨(h.below.setCell h.bb _).setCell h.bz _, (h.st.setOther (by exact h.ne1) _).setOther (by exact h.ne2) _, ?_, ?_, h.ne1, h.ne2, h.ne3, h.bg, h.bb, h.bz⟩
  · refine ((h.above.set k _).setOther (by exact h.ne3) _).congr fun i hi => ?_
    by_cases e : i = k
    · subst e; simp
    · by_cases e2 : i < k
      · simp [e, e2, Nat.lt_succ_of_lt e2]
      · have : ¬ i < k + 1 := by omega
        simp [e, e2, this]
  · refine ((h.size.setOther (a := ⟨ba, k, none⟩) (fun e => h.ne3 e.symm) _).set k _).congr fun i hi => ?_
    by_cases e : i = k
    · subst e; simp
    · by_cases e2 : i < k
      · simp [e, e2, Nat.lt_succ_of_lt e2]
      · have : ¬ i < k + 1 := by omega
        simp [e, e2, this]

theorem Made.drew {base n : Nat} {w0 w : World} {g ba bs k : Nat} (h : Made base n w0 w g ba bs k) : Made base n w0 w.drew g ba bs k :=
  ⟨h.below.drew, h.st, h.above, h.size, h.ne1, h.ne2, h.ne3, h.bg, h.bb, h.bz⟩

theorem made_one {base : Nat} {w : World} (hb : base ≤ w.heap.size) (n : Nat) : Made base n w (((w.alloc (.cells (madeCells #[.int .i64 0] n) 3)).alloc (.cells (madeCells #[.int .i64 0] n) 3)).alloc
    (.cells #[.slice (some ⟨w.heap.size, 0, none⟩) n n, .slice (some ⟨w.heap.size + 1, 0, none⟩) n n, .slice none 0 0] 104)).drew (w.heap.size + 1 + 1) w.heap.size (w.heap.size + 1) 0 := by
  have e1 : (w.alloc (.cells (madeCells #[.int .i64 0] n) 3)).heap.size = w.heap.size + 1 := by simp
  have e2 : ((w.alloc (.cells (madeCells #[.int .i64 0] n) 3)).alloc (.cells (madeCells #[.int .i64 0] n) 3)).heap.size = w.heap.size + 1 + 1 := by simp
  refine Made.drew ⟨(((Below.refl base w).alloc hb _).alloc (by rw [e1]; omega) _).alloc (by rw [e2]; omega) _, ?_, ?_, ?_, by omega, by omega, by omega, by omega, by omega, by omega⟩
  · have := World.rowIs_alloc ((w.alloc (.cells (madeCells #[.int .i64 0] n) 3)).alloc (.cells (madeCells #[.int .i64 0] n) 3)) #[.slice (some ⟨w.heap.size, 0, none⟩) n n, .slice (some ⟨w.heap.size + 1, 0, none⟩) n n, .slice none 0 0] 104 (parts3 n w.heap.size (w.heap.size + 1) (.slice none 0 0)) (fun i hi => by
      rcases i with _ | _ | _ | i
      · rfl
      · rfl
      · rfl
      · simp at hi; omega)
    rwa [e2] at this
  · exact (((World.rowIs_made w (.int .i64 0) n 3).alloc _).alloc _).congr fun i _ => by simp
  · have := (World.rowIs_made (w.alloc (.cells (madeCells #[.int .i64 0] n) 3)) (.int .i64 0) n 3)
    rw [e1] at this
    exact (this.alloc _).congr fun i _ => by simp

theorem made_two {base : Nat} {w : World} (hb : base ≤ w.heap.size) (n : Nat) : Made base n w (((w.alloc (.cells (madeCells #[.int .i64 0] n) 3)).alloc (.cells (madeCells #[.int .i64 0] n) 3)).alloc
    (.cells #[.slice (some ⟨w.heap.size + 1, 0, none⟩) n n, .slice (some ⟨w.heap.size, 0, none⟩) n n, .slice none 0 0] 104)).drew (w.heap.size + 1 + 1) (w.heap.size + 1) w.heap.size 0 := by
  have e1 : (w.alloc (.cells (madeCells #[.int .i64 0] n) 3)).heap.size = w.heap.size + 1 := by simp
  have e2 : ((w.alloc (.cells (madeCells #[.int .i64 0] n) 3)).alloc (.cells (madeCells #[.int .i64 0] n) 3)).heap.size = w.heap.size + 1 + 1 := by simp
  refine Made.drew ⟨(((Below.refl base w).alloc hb _).alloc (by rw [e1]; omega) _).alloc (by rw [e2]; omega) _, ?_, ?_, ?_, by omega, by omega, by omega, by omega, by omega, by omega⟩
  · have := World.rowIs_alloc ((w.alloc (.cells (madeCells #[.int .i64 0] n) 3)).alloc (.cells (madeCells #[.int .i64 0] n) 3)) #[.slice (some ⟨w.heap.size + 1, 0, none⟩) n n, .slice (some ⟨w.heap.size, 0, none⟩) n n, .slice none 0 0] 104 (parts3 n (w.heap.size + 1) w.heap.size (.slice none 0 0)) (fun i hi => by
      rcases i with _ | _ | _ | i
      · rfl
      · rfl
      · rfl
      · simp at hi; omega)
    rwa [e2] at this
  · have := (World.rowIs_made (w.alloc (.cells (madeCells #[.int .i64 0] n) 3)) (.int .i64 0) n 3)
    rw [e1] at this
    exact (this.alloc _).congr fun i _ => by simp
  · exact (((World.rowIs_made w (.int .i64 0) n 3).alloc _).alloc _).congr fun i _ => by simp

theorem Lays.mono {base base' n : Nat} {w : World} {g ba bs : Nat} {vj : Value} {L : List (Nat × Nat)} (h : Lays base n w g ba bs vj L) (hb : base' ≤ base) : Lays base' n w g ba bs vj L := by
  refine ⟨h.st, h.above, h.size, ⟨h.joined.1, ?_⟩, h.linked, h.n1, h.n60, h.ne1, h.ne2, h.ne3, h.apart, Nat.le_trans hb h.bg, Nat.le_trans hb h.bb, Nat.le_trans hb h.bz⟩
  rcases h.joined.2 with h0 | ⟨g, cap, cur, hv, h1, h2⟩
  · exact Or.inl h0
  · exact Or.inr ⟨g, cap, cur, hv, Nat.le_trans hb h1, h2⟩

theorem Made.done {base n : Nat} {w0 w : World} {g ba bs : Nat} (h : Made base n w0 w g ba bs n) (h1 : 1 ≤ n) (h2 : n ≤ 60) : Lays base n w g ba bs (.slice none 0 0) [] :=
  ⟨h.st, h.above.congr fun i hi => by simp [hi, ab], h.size.congr fun i hi => by simp [hi, cz], ⟨rfl, Or.inl ⟨rfl, rfl⟩⟩, trivial, h1, h2, h.ne1, h.ne2, h.ne3, (fun k e => by cases e), h.bg, h.bb, h.bz⟩

set_option maxHeartbeats 1000000 in
theorem new_any {base : Nat} {w : World} (hb : base ≤ w.heap.size) (n : Nat) (h1 : 1 ≤ n) (h2 : n ≤ 60) :
    Calls Tryz.prog 15 #[.int .i64 (n : Nat)] w fun e w' => ∃ g ba bs, e = .returned (.tuple #[.pointer (some ⟨g, 0, none⟩), .nilIface]) ∧ Below w.heap.size w w' ∧ Lays base n w' g ba bs (.slice none 0 0) [] ∧ w.heap.size ≤ g ∧ w.heap.size ≤ ba ∧ w.heap.size ≤ bs := by
  have hmk := run_make_row' (P := Tryz.prog) 33 3 (.int .i64 0) 8 Tryz.underlying33 Tryz.infoInt rfl .i64 .i64 n (by omega) (by omega)
  go_enter Tryz.func15, Tryz.ntmps15
  go_wp2_with fail
  go_region
  · go_wp2_with fail
    go_loopw [5, 20] (fun _ i wr => ∃ k : Nat, k ≤ n ∧ i = .int .i64 (k : Nat) ∧ Made w.heap.size n w wr (w.heap.size + 1 + 1) w.heap.size (w.heap.size + 1) k) (fun _ i _ => n - (intOf i).toNat)
    case atStart => exact ⟨0, Nat.zero_le _, rfl, made_one (Nat.le_refl _) n⟩
    case round =>
      obtain ⟨k, hk, rfl, hM⟩ := hrel
      clear hmk
      by_cases hlt : k < n
      · have c0 : wr.cell? ⟨w.heap.size + 1 + 1, 0, none⟩ = some (.slice (some ⟨w.heap.size, 0, none⟩) n n) := hM.st.cell (i := 0) (by omega)
        have c1 : wr.cell? ⟨w.heap.size + 1 + 1, 1, none⟩ = some (.slice (some ⟨w.heap.size + 1, 0, none⟩) n n) := hM.st.cell (i := 1) (by omega)
        have d1 : wr.cell? ⟨w.heap.size, k, none⟩ = some (.int .i64 0) := by rw [hM.above.cell hlt]; simp
        have d2 : wr.cell? ⟨w.heap.size + 1, k, none⟩ = some (.int .i64 0) := by rw [hM.size.cell hlt]; simp
        have f1 := hM.above.frozen k
        have f2 := hM.size.frozen k
        have i0 : (0 : Int) ≤ (k : Int) := by omega
        have i1 : (k : Int) < (n : Int) := by omega
        go_wp2_with fail
        go_region
        all_goals go_wp2_with fail
        all_goals exact ⟨⟨k + 1, by omega, by go_num, hM.step.drew⟩, by simp [intOf]; omega⟩
      · go_wp2_with fail
        go_ret2
        obtain rfl : k = n := by omega
        exact ⟨_, _, _, rfl, hM.below, (hM.done h1 h2).mono hb, hM.bg, hM.bb, hM.bz⟩
  · go_wp2_with fail
    go_loopw [5, 20] (fun _ i wr => ∃ k : Nat, k ≤ n ∧ i = .int .i64 (k : Nat) ∧ Made w.heap.size n w wr (w.heap.size + 1 + 1) (w.heap.size + 1) w.heap.size k) (fun _ i _ => n - (intOf i).toNat)
    case atStart => exact ⟨0, Nat.zero_le _, rfl, made_two (Nat.le_refl _) n⟩
    case round =>
      obtain ⟨k, hk, rfl, hM⟩ := hrel
      clear hmk
      by_cases hlt : k < n
      · have c0 : wr.cell? ⟨w.heap.size + 1 + 1, 0, none⟩ = some (.slice (some ⟨w.heap.size + 1, 0, none⟩) n n) := hM.st.cell (i := 0) (by omega)
        have c1 : wr.cell? ⟨w.heap.size + 1 + 1, 1, none⟩ = some (.slice (some ⟨w.heap.size, 0, none⟩) n n) := hM.st.cell (i := 1) (by omega)
        have d1 : wr.cell? ⟨w.heap.size + 1, k, none⟩ = some (.int .i64 0) := by rw [hM.above.cell hlt]; simp
        have d2 : wr.cell? ⟨w.heap.size, k, none⟩ = some (.int .i64 0) := by rw [hM.size.cell hlt]; simp
        have f1 := hM.above.frozen k
        have f2 := hM.size.frozen k
        have i0 : (0 : Int) ≤ (k : Int) := by omega
        have i1 : (k : Int) < (n : Int) := by omega
        go_wp2_with fail
        go_region
        all_goals go_wp2_with fail
        all_goals exact ⟨⟨k + 1, by omega, by go_num, hM.step.drew⟩, by simp [intOf]; omega⟩
      · go_wp2_with fail
        go_ret2
        obtain rfl : k = n := by omega
        exact ⟨_, _, _, rfl, hM.below, (hM.done h1 h2).mono hb, hM.bg, hM.bb, hM.bz⟩

end Go.Proofs.YtcfemppdeidjmacGreat.Un
