/-
  What SpanLeast asks: lists that are the same; the statement's own three edges; edges that are linked one by one into a forest, each that joins something new.
-/
import Derived.Test.YtffpkclefgidhaaKj
import Derived.Test.YtffpkclefgidhaaKh
import Derived.Test.YtffpkclefgidhaaTn
namespace Go.Proofs.Ytffpkclefgidhaa.Sp
open Go.RowKit Go.Deep
open Go.RowKit (Below)
set_option linter.unusedVariables false

variable {w w' : World} {m n : Nat} {ed : Nat → Nat × Nat} {wt : Nat → Nat} {t : Nat → Bool}

set_option maxHeartbeats 1000000 in
theorem places_same {v v' : Value} {l : List Nat} (h : PlacesAt w v l) (h' : PlacesAt w v' l) (hn : l.length < 1000000) :
    Calls Try.prog 15 #[v, v'] w fun e w' => e = .returned (.bool true) ∧ Below w.heap.size w w' := by
  obtain ⟨a, c, rfl, -, h⟩ := h
  obtain ⟨a', c', rfl, -, h'⟩ := h'
  generalize l.length = n at *
  go_enter Try.func15, Try.ntmps15
  go_wp2_with fail
  go_loopw [5] (fun i wr => ∃ k : Nat, k ≤ n ∧ i = .int .i64 k ∧ Below w.heap.size w wr) (fun i _ => n - (intOf i).toNat)
  case atStart => exact ⟨0, Nat.zero_le _, rfl, Below.refl _ _⟩
  case round =>
    obtain ⟨k, hk, rfl, hb⟩ := hrel
    by_cases hlt : k < n
    · obtain ⟨b, rfl, hc⟩ := h k hlt
      obtain ⟨b', rfl, hc'⟩ := h' k hlt
      have q1 := Un.cell_keep hb hc
      have q2 := Un.cell_keep hb hc'
      generalize l.getD k 0 = x at *
      have i0 : (0 : Int) ≤ (k : Int) := by omega
      have i1 : (k : Int) < (n : Int) := by omega
      clear h h' hc hc'
      go_wp2_with fail
      go_region_held3 (fun W => W.cell? ⟨b, k, none⟩ = some (.int .i64 (x : Nat)) ∧ W.cell? ⟨b', k, none⟩ = some (.int .i64 (x : Nat))) (exact ⟨q1, q2⟩) (fail)
      go_wp2_with fail
      go_roundw
      case rel => exact ⟨k + 1, by omega, by go_num, hb.drew⟩
      case measure => simp [intOf]; omega
    · go_wp2_with fail
      go_ret
      exact ⟨rfl, hb⟩

/-- The statement's own three edges. -/
def hvThree : Nat → Int × Int × Int := fun i => if i = 0 then (0, 1, 5) else if i = 1 then (0, 2, 1) else (1, 2, 2)

theorem fault_three : Fault 3 3 hvThree 0 0 := .right (by decide) (by decide) (by decide) fun i hi => by
  match i, hi with
  | 0, _ => exact ⟨by decide, by decide, by decide, by decide, by decide⟩
  | 1, _ => exact ⟨by decide, by decide, by decide, by decide, by decide⟩
  | 2, _ => exact ⟨by decide, by decide, by decide, by decide, by decide⟩

theorem heavy_three (w : World) : HeavyAt (w.alloc (.cells #[.int .i64 0, .int .i64 1, .int .i64 5, .int .i64 0, .int .i64 2, .int .i64 1, .int .i64 1, .int .i64 2, .int .i64 2] 66)) (some ⟨w.heap.size, 0, none⟩) 3 hvThree := fun i hi => by
  match i, hi with
  | 0, _ => exact ⟨w.heap.size, 0, rfl, by simp [hvThree], by simp [hvThree], by simp [hvThree]⟩
  | 1, _ => exact ⟨w.heap.size, 0, rfl, by simp [hvThree], by simp [hvThree], by simp [hvThree]⟩
  | 2, _ => exact ⟨w.heap.size, 0, rfl, by simp [hvThree], by simp [hvThree], by simp [hvThree]⟩

theorem span_three (ht : Tells 3 (edOf hvThree) (wtOf hvThree) t) : (List.range 3).filter t = [1, 2] := by
  have t0 : ¬ t 0 = true := fun h => (ht 0).1 h ((conn_eqv _).trans (j := 2) (conn_edge (mem_picked.2 ⟨1, by decide, by decide, rfl⟩)) ((conn_eqv _).symm (conn_edge (mem_picked.2 ⟨2, by decide, by decide, rfl⟩))))
  have t1 : t 1 = true := (ht 1).2 fun hc => by
    have := hc (fun i j => i = j) ⟨⟨fun _ => rfl, fun h => h.symm, fun h k => h.trans k⟩, fun e he => ?_⟩
    · exact absurd this (by decide)
    · obtain ⟨k, h1, h2, _⟩ := mem_picked.1 he
      match k, h1 with
      | 0, _ => exact absurd h2 (by decide)
      | 1, _ => exact absurd h2 (by decide)
      | 2, _ => exact absurd h2 (by decide)
  have t2 : t 2 = true := (ht 2).2 fun hc => by
    have := hc (fun i j => i = 1 ↔ j = 1) ⟨⟨fun _ => Iff.rfl, fun h => h.symm, fun h k => h.trans k⟩, fun e he => ?_⟩
    · exact absurd this (by decide)
    · obtain ⟨k, h1, h2, rfl⟩ := mem_picked.1 he
      match k, h1 with
      | 0, _ => exact absurd h2 (by decide)
      | 1, _ => show (0 = 1 ↔ 2 = 1); simp
      | 2, _ => exact absurd h2 (by decide)
  have e : List.range 3 = [0, 1, 2] := rfl
  rw [e, List.filter_cons_of_neg t0, List.filter_cons_of_pos t1, List.filter_cons_of_pos t2, List.filter_nil]

theorem places_two (w : World) : PlacesAt (w.alloc (.cells #[.int .i64 1, .int .i64 2] 3)) (.slice (some ⟨w.heap.size, 0, none⟩) 2 2) [1, 2] :=
  ⟨some ⟨w.heap.size, 0, none⟩, 2, rfl, Nat.le_refl _, fun j hj => ⟨w.heap.size, rfl, by
    match j, hj with
    | 0, _ => simp
    | 1, _ => simp⟩⟩

theorem forest_len {E : List (Nat × Nat)} (ha : Among n E) (hf : Forest E) : E.length ≤ n := by
  obtain ⟨p, hp⟩ := rest_of E
  have := ((forest_parts ha hp).2).1 hf
  omega

/-- Where the links stand: T are the places that were linked, the last one first. -/
structure Linked (w0 w : World) (L : Pl) (m : Nat) (ed : Nat → Nat × Nat) (E : List (Nat × Nat)) (p : Nat → Nat) (T : List Nat) (q : Nat) : Prop where
  f : FAt w L E p
  below : Below w0.heap.size w0 w
  new : ∀ k, Foot L k → w0.heap.size ≤ k
  lt : ∀ k ∈ T, k < m
  forest : Forest (T.map ed)
  conn : ∀ i j, Conn (T.map ed) i j ↔ Conn E i j
  done : ∀ k, k < q → Conn (T.map ed) (ed k).1 (ed k).2

variable {w0 : World} {L : Pl} {E E' : List (Nat × Nat)} {p p' : Nat → Nat} {T : List Nat} {q k : Nat}

theorem Linked.start (f : FAt w L [] p) (hb : Below w0.heap.size w0 w) (hn : ∀ k, Foot L k → w0.heap.size ≤ k) : Linked w0 w L m ed [] p [] 0 :=
  ⟨f, hb, hn, fun k h => absurd h (by simp), trivial, fun _ _ => Iff.rfl, fun k h => absurd h (Nat.not_lt_zero _)⟩

theorem Linked.keep (h : Linked w0 w L m ed E p T q) (hb : Below w.heap.size w w') : Linked w0 w' L m ed E p T q :=
  ⟨h.f.below hb, h.below.trans (hb.mono h.below.size), h.new, h.lt, h.forest, h.conn, h.done⟩

theorem Linked.same (h : Linked w0 w L m ed E p T q) (i j : Nat) : p i = p j ↔ Conn (T.map ed) i j := (h.f.grown.rest.same i j).trans (h.conn i j).symm

theorem Linked.link (h : Linked w0 w L m ed E p T q) (hk : k < m) (ht : Turn L w w') (hm : More E (ed k).1 (ed k).2 E') (hf : FAt w' L E' p') : Linked w0 w' L m ed E' p' (k :: T) q := by
  have hc : ∀ i j, Conn ((k :: T).map ed) i j ↔ Conn E' i j := fun i j => by
    rw [List.map_cons, hm.conn i j]
    have e : ed k = ((ed k).1, (ed k).2) := rfl
    rw [e, conn_cons]
    simp only [h.conn]
  refine ⟨hf, ht.below h.below h.below.size h.new, h.new, fun x hx => ?_, ⟨fun hcn => hm.out ((h.conn _ _).1 hcn), h.forest⟩, hc, fun x hx => ?_⟩
  · rcases List.mem_cons.1 hx with rfl | hx
    · exact hk
    · exact h.lt x hx
  · exact conn_mono (fun e he => List.mem_cons_of_mem _ he) (h.done x hx)

theorem Linked.more (h : Linked w0 w L m ed E p T q) (hc : Conn (T.map ed) (ed q).1 (ed q).2) : Linked w0 w L m ed E p T (q + 1) :=
  ⟨h.f, h.below, h.new, h.lt, h.forest, h.conn, fun k hk => by
    rcases Nat.lt_or_ge k q with h1 | h1
    · exact h.done k h1
    · obtain rfl : k = q := by omega
      exact hc⟩

theorem Linked.len (h : Linked w0 w L m ed E p T q) (ha : ∀ k, k < m → (ed k).1 < n ∧ (ed k).2 < n) : T.length ≤ n := by
  have ham : Among n (T.map ed) := fun e he => by
    obtain ⟨k, hk, rfl⟩ := List.mem_map.1 he
    exact ha k (h.lt k hk)
  have := forest_len ham h.forest
  simpa using this

theorem Linked.joined (k : Nat) (T : List Nat) : Conn ((k :: T).map ed) (ed k).1 (ed k).2 := conn_edge (List.mem_cons_self ..)

/-- The places that came in, whatever they are. -/
def Picks (w : World) (a : Option Addr) (len : Nat) : Prop := ∀ i, i < len → ∃ b o, a = some ⟨b, o, none⟩ ∧ ∃ z : Int, w.cell? ⟨b, o + i, none⟩ = some (.int .i64 z)

theorem Picks.below {a : Option Addr} {len : Nat} (h : Picks w a len) (hb : Below w.heap.size w w') : Picks w' a len := fun i hi => by
  obtain ⟨b, o, e, z, h1⟩ := h i hi
  exact ⟨b, o, e, z, Un.cell_keep hb h1⟩

end Go.Proofs.Ytffpkclefgidhaa.Sp
