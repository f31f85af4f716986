/-
  AsksGraph: a graph that has the edges that are there; what it answers; the four events of its fact.
-/
import Derived.Test.YthhojlbfnffdeabGreatGl
import Derived.Test.YthhojlbfnffdeabGreatSe
namespace Go.Proofs.YthhojlbfnffdeabGreat.As
open Go.RowKit Go.Deep
open Go.RowKit (Below)
set_option linter.unusedVariables false

variable {w w' w0 : World} {G : Gr.GPl} {f : Nat → Int × Int × Int} {t m n : Nat} {l : List Bool}

/-- A graph that has just the edges that are there ahead of an event. -/
def EW (w0 : World) (G : Gr.GPl) (f : Nat → Int × Int × Int) (t : Nat) (w : World) : Prop := ∃ A lv tr, Gr.GW w0 G A lv tr w ∧ ∀ e, e ∈ A ↔ e ∈ here f t

theorem EW.step (h : EW w0 G f t w) (hb : Below w.heap.size w w') : EW w0 G f t w' := by
  obtain ⟨A, lv, tr, h, hA⟩ := h
  exact ⟨A, lv, tr, h.step hb, hA⟩

theorem EW.below (h : EW w0 G f t w) : Below w0.heap.size w0 w := by
  obtain ⟨A, lv, tr, h, hA⟩ := h
  exact h.below

theorem few {A B : List (Nat × Nat)} (hA : A.Nodup) (h : ∀ e, e ∈ A ↔ e ∈ B) : A.length ≤ B.length := hA.length_le_of_subset fun e he => (h e).1 he

theorem conn_sets {A B : List (Nat × Nat)} (h : ∀ e, e ∈ A ↔ e ∈ B) (i j : Nat) : Conn A i j ↔ Conn B i j := ⟨conn_mono fun e he => (h e).1 he, conn_mono fun e he => (h e).2 he⟩

theorem eOf_nats {x y : Nat} (hx : (f t).2.1 = (x : Nat)) (hy : (f t).2.2 = (y : Nat)) : eOf f t = (min x y, max x y) := by
  unfold eOf
  rw [hx, hy]
  exact Prod.ext (by show (min (x : Int) y).toNat = min x y; omega) (by show (max (x : Int) y).toNat = max x y; omega)

theorem ew_add (h : EW w0 G f t w) (hmay : ∀ k, k < t + 1 → May G.n f k) (ht : t < 120) (hw : (f t).1 = 1) :
    Calls Tryz.prog 7 #[.pointer (some ⟨G.g, 0, none⟩), .int .i64 (f t).2.1, .int .i64 (f t).2.2] w fun e w' => e = .returned .nilIface ∧ EW w0 G f (t + 1) w' := by
  obtain ⟨A, lv, tr, h, hA⟩ := h
  have hm := hmay t (by omega)
  obtain ⟨x, hx⟩ := Int.eq_ofNat_of_zero_le hm.a.1
  obtain ⟨y, hy⟩ := Int.eq_ofNat_of_zero_le hm.b.1
  have he := eOf_nats hx hy
  have hxn := hm.a.2
  have hyn := hm.b.2
  have hne := hm.ne (by omega)
  have hin := hm.add hw
  rw [hx] at hxn hne
  rw [hy] at hyn hne
  rw [hx, hy]
  have hl := few (rises_nodup h.ok.mem.rises) hA
  have hl2 := here_len f t
  refine (Gr.add_any h.ok x y (by omega) (by omega) (by omega) (fun q => hin (by rw [he]; exact (hA _).1 q)) (by omega)).mono ?_
  rintro e w1 ⟨rfl, t1, P, Q, tr', rfl, h1⟩
  refine ⟨rfl, _, _, tr', h.turn t1 h1, fun e => ?_⟩
  have hA' := hA e
  rw [here_add hw, he]
  simp only [List.mem_append, List.mem_cons, List.not_mem_nil, or_false] at hA' ⊢
  rw [← hA']
  constructor
  · rintro (q | q | q)
    · exact Or.inl (Or.inl q)
    · exact Or.inr q
    · exact Or.inl (Or.inr q)
  · rintro ((q | q) | q)
    · exact Or.inl q
    · exact Or.inr (Or.inr q)
    · exact Or.inr (Or.inl q)

theorem ew_drop (h : EW w0 G f t w) (hmay : ∀ k, k < t + 1 → May G.n f k) (hw : (f t).1 = 2) :
    Calls Tryz.prog 8 #[.pointer (some ⟨G.g, 0, none⟩), .int .i64 (f t).2.1, .int .i64 (f t).2.2] w fun e w' => e = .returned .nilIface ∧ EW w0 G f (t + 1) w' := by
  obtain ⟨A, lv, tr, h, hA⟩ := h
  have hm := hmay t (by omega)
  obtain ⟨x, hx⟩ := Int.eq_ofNat_of_zero_le hm.a.1
  obtain ⟨y, hy⟩ := Int.eq_ofNat_of_zero_le hm.b.1
  have he := eOf_nats hx hy
  have hxn := hm.a.2
  have hyn := hm.b.2
  have hin := hm.drop hw
  rw [hx] at hxn
  rw [hy] at hyn
  rw [hx, hy]
  have hnd := rises_nodup h.ok.mem.rises
  have hnh := here_nodup (n := G.n) (t := t) fun k hk => hmay k (by omega)
  refine (Gr.drop_any h.ok x y (by omega) (by omega) ((hA _).2 (by rw [← he]; exact hin))).mono ?_
  rintro e w1 ⟨rfl, t1, P, Q, lv', tr', rfl, h1, h2⟩
  refine ⟨rfl, _, _, tr', h.turn t1 h1, fun e => ?_⟩
  rw [here_drop hw, hnh.mem_erase_iff, ← hA e, he]
  have hmid : (min x y, max x y) ∉ P ++ Q := fun q => by
    have h3 := (List.perm_middle (a := (min x y, max x y)) (l₁ := P) (l₂ := Q)).nodup_iff.1 hnd
    exact (List.nodup_cons.1 h3).1 q
  rw [List.mem_append, List.mem_append, List.mem_cons]
  constructor
  · intro q
    exact ⟨fun r => hmid (by rw [← r, List.mem_append]; exact q), q.imp id Or.inr⟩
  · rintro ⟨q, r | r | r⟩
    · exact Or.inl r
    · exact absurd r q
    · exact Or.inr r

theorem ew_same (h : EW w0 G f t w) (h1 : (f t).1 ≠ 1) (h2 : (f t).1 ≠ 2) : EW w0 G f (t + 1) w := by
  obtain ⟨A, lv, tr, h, hA⟩ := h
  exact ⟨A, lv, tr, h, fun e => by rw [here_ask h1 h2]; exact hA e⟩

theorem ew_joined (h : EW w0 G f t w) (hm : May G.n f t) (q : Bool) (hq : q = true ↔ Conn (here f t) (f t).2.1.toNat (f t).2.2.toNat) :
    Calls Tryz.prog 9 #[.pointer (some ⟨G.g, 0, none⟩), .int .i64 (f t).2.1, .int .i64 (f t).2.2] w fun e w' => e = .returned (.tuple #[.bool q, .nilIface]) ∧ EW w0 G f t w' := by
  have H := h
  obtain ⟨A, lv, tr, h, hA⟩ := h
  obtain ⟨x, hx⟩ := Int.eq_ofNat_of_zero_le hm.a.1
  obtain ⟨y, hy⟩ := Int.eq_ofNat_of_zero_le hm.b.1
  have hxn := hm.a.2
  have hyn := hm.b.2
  rw [hx] at hxn
  rw [hy] at hyn
  rw [hx, hy] at hq
  rw [hx, hy]
  obtain ⟨p, g⟩ := h.ok.mem.zero
  have hj := Gr.joined_any h.ok.mem g x y (by omega) (by omega)
  have hd : decide (p x = p y) = q := by
    rw [Bool.eq_iff_iff, decide_eq_true_iff, hq, g.grown.rest.same x y, h.ok.lev.tree x y, conn_sets hA]
    simp
  rw [hd] at hj
  refine hj.mono ?_
  rintro e w1 ⟨rfl, hb⟩
  exact ⟨rfl, H.step hb⟩

/-- The next answer is that to the event, if it asks. -/
theorem Ans.next (h : Ans f m l) (ht : t < m) (hw : (f t).1 = 3) : ∃ q : Bool, l[(places f 3 t).length]? = some q ∧ (q = true ↔ Conn (here f t) (f t).2.1.toNat (f t).2.2.toNat) := by
  have e : places f 3 (t + 1) = places f 3 t ++ [t] := by rw [places_succ, if_pos hw]
  obtain ⟨r, hr⟩ := places_more f 3 (t + 1) m ht
  have hat : (places f 3 m)[(places f 3 t).length]? = some t := by
    rw [hr, e, List.append_assoc, List.getElem?_append_right (Nat.le_refl _), Nat.sub_self]
    rfl
  have hlt : (places f 3 t).length < l.length := by rw [h.len]; exact (List.getElem?_eq_some_iff.1 hat).1
  have h1 := h.at_ _ _ hat
  rw [List.getElem?_eq_getElem hlt] at h1 ⊢
  exact ⟨_, rfl, by simpa using h1⟩

/-- The four events of the fact. -/
def four : Nat → Int × Int × Int := fun i => if i = 0 then (1, 0, 1) else if i = 1 then (3, 1, 0) else if i = 2 then (2, 1, 0) else (3, 0, 1)

theorem four_here : here four 1 = [(0, 1)] ∧ here four 2 = [(0, 1)] ∧ here four 3 = [] := by decide

theorem four_valid : Valid 3 4 four := by
  refine ⟨by decide, by decide, fun j hj => ?_⟩
  show May 3 four j
  match j, hj with
  | 0, _ => exact ⟨by decide, by decide, by decide, by decide, by decide, by decide⟩
  | 1, _ => exact ⟨by decide, by decide, by decide, by decide, by decide, by decide⟩
  | 2, _ => exact ⟨by decide, by decide, by decide, by decide, by decide, by decide⟩
  | 3, _ => exact ⟨by decide, by decide, by decide, by decide, by decide, by decide⟩

theorem conn_none {i j : Nat} (h : Conn [] i j) : i = j := h (fun i j => i = j) ⟨⟨fun _ => rfl, fun e => e.symm, fun e e' => e.trans e'⟩, fun e he => absurd he (by simp)⟩

theorem four_ans (h : Ans four 4 l) : l = [true, false] := by
  refine h.one ?_
  have h1 : Ans four 1 [] := (Ans.nil four).other (by decide)
  have h2 : Ans four 2 [true] := h1.ask (b := true) (by decide) ⟨fun _ => by rw [four_here.1]; exact (conn_eqv _).symm (conn_edge (List.mem_singleton.2 rfl)), fun _ => rfl⟩
  have h3 : Ans four 3 [true] := h2.other (by decide)
  exact h3.ask (b := false) (by decide) ⟨fun q => absurd q (by decide), fun q => by rw [four_here.2.2] at q; exact absurd (conn_none q) (by decide)⟩

theorem four_at (w : World) : EvAt (w.alloc (.cells #[.int .i64 1, .int .i64 0, .int .i64 1, .int .i64 3, .int .i64 1, .int .i64 0, .int .i64 2, .int .i64 1, .int .i64 0, .int .i64 3, .int .i64 0, .int .i64 1] 55)) (some ⟨w.heap.size, 0, none⟩) 4 four := fun i hi => by
  refine ⟨w.heap.size, 0, rfl, ?_⟩
  match i, hi with
  | 0, _ => exact ⟨by simp [four], by simp [four], by simp [four]⟩
  | 1, _ => exact ⟨by simp [four], by simp [four], by simp [four]⟩
  | 2, _ => exact ⟨by simp [four], by simp [four], by simp [four]⟩
  | 3, _ => exact ⟨by simp [four], by simp [four], by simp [four]⟩

theorem bools_two (w : World) (b c : Bool) : BoolsAt (w.alloc (.cells #[.bool b, .bool c] 4)) (some ⟨w.heap.size, 0, none⟩) 2 [b, c] := ⟨rfl, fun i hi => by
  match i, hi with
  | 0, _ => exact ⟨_, 0, rfl, by simp⟩
  | 1, _ => exact ⟨_, 0, rfl, by simp⟩⟩

end Go.Proofs.YthhojlbfnffdeabGreat.As
