/-
  AsksBegin, out of what Answers is to answer.
-/
import Derived.Test.YtcfemppdeidjmacGreatF19
import Derived.Test.YtcfemppdeidjmacGreatOn
namespace Go.Proofs.YtcfemppdeidjmacGreat.As
open Go.RowKit Go.Deep
open Go.RowKit (Below)
set_option linter.unusedVariables false

variable {w w' : World} {f : Nat → Int × Int × Int}

/-- All that is handed in may be. -/
def Valid (n : Int) (m : Nat) (f : Nat → Int × Int × Int) : Prop := (1 ≤ n ∧ n ≤ 60) ∧ m ≤ 120 ∧ ∀ j, j < m → May n.toNat f j

/-- What Answers is to answer. -/
structure AnsOk : Prop where
  no : ∀ {w : World} {a : Option Addr} {m c : Nat} {f : Nat → Int × Int × Int} (n : Int), EvAt w a m f → Fits f m → ¬ Valid n m f → Calls Tryz.prog 33 #[.int .i64 n, .slice a m c] w fun e w' => ∃ (v : Value) (t : TypeId) (y : Value), e = .returned (.tuple #[v, .iface t y]) ∧ Below w.heap.size w w'
  ok : ∀ {w : World} {a : Option Addr} {m c : Nat} {f : Nat → Int × Int × Int} (n : Int), EvAt w a m f → Valid n m f → Calls Tryz.prog 33 #[.int .i64 n, .slice a m c] w fun e w' => ∃ (v : Value) (l : List Bool), e = .returned (.tuple #[v, .nilIface]) ∧ Ans f m l ∧ w'.ownsRow w.heap.size 4 1 v l.length (bools l) ∧ Below w.heap.size w w'

theorem BoolsAt.take {a : Option Addr} {N N1 : Nat} {l1 l2 : List Bool} (h : BoolsAt w a N (l1 ++ l2)) (h1 : l1.length = N1) : BoolsAt w a N1 l1 := ⟨h1, fun i hi => by
  have hN := h.len
  rw [List.length_append] at hN
  obtain ⟨b, o, e, q⟩ := h.cell i (by omega)
  refine ⟨b, o, e, ?_⟩
  rw [q, List.getD_eq_getElem?_getD, List.getD_eq_getElem?_getD, List.getElem?_append_left (by omega)]⟩

theorem BoolsAt.dropped {a : Option Addr} {N N1 N2 c : Nat} {l1 l2 : List Bool} (h : BoolsAt w a N (l1 ++ l2)) (hc : N ≤ c) (h1 : l1.length = N1) (h2 : l2.length = N2) : BoolsAt w (if c = N1 then a else a.map (fun x => x.add N1)) N2 l2 := ⟨h2, fun i hi => by
  have hN := h.len
  rw [List.length_append, h1, h2] at hN
  obtain ⟨b, o, e, q⟩ := h.cell (N1 + i) (by omega)
  subst e
  rw [if_neg (by omega)]
  refine ⟨b, o + N1, by simp [add_at], ?_⟩
  rw [show o + N1 + i = o + (N1 + i) by omega, q, List.getD_eq_getElem?_getD, List.getD_eq_getElem?_getD, List.getElem?_append_right (by omega), h1, Nat.add_sub_cancel_left]⟩

theorem BoolsAt.cast {a : Option Addr} {N n : Nat} {l : List Bool} (h : BoolsAt w a N l) (e : n = N) : BoolsAt w a n l := by rw [e]; exact h

/-- An event's three cells. -/
def three (x : Int × Int × Int) : List Value := [.int .i64 x.1, .int .i64 x.2.1, .int .i64 x.2.2]
def threes : List (Int × Int × Int) → List Value
  | [] => []
  | x :: l => three x ++ threes l

theorem threes_len : ∀ l, (threes l).length = l.length * 3
  | [] => rfl
  | x :: l => by simp only [threes, List.length_append, threes_len l, List.length_cons]; simp [three]; omega

theorem threes_app : ∀ a b, threes (a ++ b) = threes a ++ threes b
  | [], b => rfl
  | x :: a, b => by simp [threes, threes_app a b, List.append_assoc]

theorem threes_get : ∀ (l : List (Int × Int × Int)) (i : Nat) (x : Int × Int × Int), l[i]? = some x → (threes l)[i * 3]? = some (.int .i64 x.1) ∧ (threes l)[i * 3 + 1]? = some (.int .i64 x.2.1) ∧ (threes l)[i * 3 + 2]? = some (.int .i64 x.2.2)
  | [], i, x, h => by simp at h
  | y :: l, 0, x, h => by
    simp only [List.getElem?_cons_zero, Option.some.injEq] at h
    subst h
    exact ⟨rfl, rfl, rfl⟩
  | y :: l, i + 1, x, h => by
    rw [List.getElem?_cons_succ] at h
    obtain ⟨h1, h2, h3⟩ := threes_get l i x h
    have e : ∀ d, (threes (y :: l))[(i + 1) * 3 + d]? = (threes l)[i * 3 + d]? := fun d => by
      show (three y ++ threes l)[(i + 1) * 3 + d]? = _
      rw [List.getElem?_append_right (by simp [three]; omega)]
      congr 1
      simp [three]
      omega
    exact ⟨by have := e 0; simp only [Nat.add_zero] at this; rw [this]; exact h1, by rw [e 1]; exact h2, by rw [e 2]; exact h3⟩

theorem three_one (l : List (Int × Int × Int)) : ∀ u ∈ threes l, u.oneCell' = true := by
  induction l with
  | nil => intro u hu; cases hu
  | cons x l ih =>
    intro u hu
    rcases List.mem_append.1 hu with q | q
    · simp only [three, List.mem_cons, List.not_mem_nil, or_false] at q
      rcases q with rfl | rfl | rfl <;> rfl
    · exact ih u q

/-- Some of the events, as a list. -/
def evs (f : Nat → Int × Int × Int) (s n : Nat) : List (Int × Int × Int) := (List.range n).map fun i => f (s + i)

theorem evs_len (s n : Nat) : (evs f s n).length = n := by simp [evs]
theorem evs_get {s n i : Nat} (h : i < n) : (evs f s n)[i]? = some (f (s + i)) := by simp [evs, h]

theorem evs_ins {k m : Nat} {x : Int × Int × Int} (hk : k ≤ m) : evs (ins f k x) 0 (m + 1) = evs f 0 k ++ [x] ++ evs f k (m - k) := by
  refine List.ext_getElem? fun i => ?_
  rcases Nat.lt_or_ge i (m + 1) with h | h
  · rw [evs_get h, Nat.zero_add]
    rcases Nat.lt_trichotomy i k with q | q | q
    · rw [List.getElem?_append_left (by simp [evs_len]; omega), List.getElem?_append_left (by rw [evs_len]; exact q), evs_get q, Nat.zero_add, ins_lt q]
    · subst q
      rw [List.getElem?_append_left (by simp [evs_len]), List.getElem?_append_right (by rw [evs_len]; exact Nat.le_refl _), evs_len, Nat.sub_self, ins_at]
      rfl
    · obtain ⟨j, rfl⟩ : ∃ j, i = j + 1 := ⟨i - 1, by omega⟩
      rw [List.getElem?_append_right (by simp [evs_len]; omega), ins_gt (by omega)]
      have e : j + 1 - (evs f 0 k ++ [x]).length = j - k := by simp [evs_len]
      rw [e, evs_get (by omega), show k + (j - k) = j by omega]
  · rw [List.getElem?_eq_none (by rw [evs_len]; exact h), List.getElem?_eq_none (by simp [evs_len]; omega)]

/-- Events that lie there, as cells. -/
theorem EvAt.cells {b o m s n : Nat} (h : EvAt w (some ⟨b, o, none⟩) m f) (hs : s + n ≤ m) : ∀ j u, (threes (evs f s n))[j]? = some u → w.cell? ⟨b, o + s * 3 + j, none⟩ = some u := fun j u hu => by
  have hj : j < n * 3 := by
    have := (List.getElem?_eq_some_iff.1 hu).1
    rw [threes_len, evs_len] at this
    exact this
  obtain ⟨h1, h2, h3⟩ := threes_get (evs f s n) (j / 3) _ (evs_get (by omega))
  obtain ⟨b', o', e, q1, q2, q3⟩ := h (s + j / 3) (by omega)
  simp only [Option.some.injEq, Addr.mk.injEq, and_true] at e
  obtain ⟨rfl, rfl⟩ := e
  have hd : j = j / 3 * 3 + j % 3 := by omega
  have hm : j % 3 < 3 := Nat.mod_lt _ (by decide)
  rcases (by omega : j % 3 = 0 ∨ j % 3 = 1 ∨ j % 3 = 2) with r | r | r
  · rw [show j = j / 3 * 3 by omega, h1] at hu
    cases hu
    rw [show o + s * 3 + j = o + (s + j / 3) * 3 by omega]; exact q1
  · rw [show j = j / 3 * 3 + 1 by omega, h2] at hu
    cases hu
    rw [show o + s * 3 + j = o + (s + j / 3) * 3 + 1 by omega]; exact q2
  · rw [show j = j / 3 * 3 + 2 by omega, h3] at hu
    cases hu
    rw [show o + s * 3 + j = o + (s + j / 3) * 3 + 2 by omega]; exact q3

/-- A list of events of one's own. -/
theorem own_events {base m : Nat} {v : Value} (h : w.ownsRow base 80 3 v m (threes (evs f 0 m))) : ∃ a c, v = .slice a m c ∧ EvAt w a m f := by
  rcases h.2 with ⟨hv, h0⟩ | ⟨g', cap', cur, hv, hb, hg, h1, h2, h3, h4⟩
  · subst h0
    exact ⟨none, 0, hv, fun i hi => by omega⟩
  · subst hv
    refine ⟨_, _, rfl, fun i hi => ⟨g', 0, rfl, ?_⟩⟩
    obtain ⟨e1, e2, e3⟩ := threes_get (evs f 0 m) i _ (evs_get hi)
    rw [← h4, List.getElem?_take, if_pos (by omega), Nat.zero_add] at e1 e2 e3
    simp only [World.cell?, hg, Nat.zero_add]
    exact ⟨by simpa using e1, by simpa using e2, by simpa using e3⟩

set_option maxRecDepth 100000 in
theorem Tryz.infoEvent : (Tryz.prog.info? 80).map (fun i => (i.zero, i.size, i.bytes)) = some (some (.agg #[.int .i64 0, .int .i64 0, .int .i64 0]), 3, 24) := by kernel_rfl

/-- One event, an Ask of a node with itself: it is joined. -/
theorem ans_self {l : List Bool} (h : Ans (fun _ => ((3 : Int), (1 : Int), (1 : Int))) 1 l) : l = [true] := by
  refine h.one ?_
  have h0 := Ans.nil (fun _ => ((3 : Int), (1 : Int), (1 : Int)))
  exact h0.ask rfl ⟨fun _ => (conn_eqv _).refl _, fun _ => rfl⟩

theorem valid_self : Valid 2 1 (fun _ => ((3 : Int), (1 : Int), (1 : Int))) :=
  ⟨by decide, by decide, fun j _ => may_ask ⟨by show (1 : Int) ≤ 3 ∧ (3 : Int) ≤ 3; decide, by show (0 : Int) ≤ 1 ∧ (1 : Int) < 2; decide, by show (0 : Int) ≤ 1 ∧ (1 : Int) < 2; decide⟩ rfl⟩

end Go.Proofs.YtcfemppdeidjmacGreat.As
