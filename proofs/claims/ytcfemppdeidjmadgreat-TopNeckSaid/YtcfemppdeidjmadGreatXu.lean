/-
  A union of edges, one behind the other.
-/
import Derived.Test.YtcfemppdeidjmadGreatXo
import Derived.Test.YtcfemppdeidjmadGreatUk
namespace Go.Proofs.YtcfemppdeidjmadGreat.To
open Go.RowKit Go.Deep
open Go.RowKit (Below)
set_option linter.unusedVariables false

variable {w w' wr w0 : World} {n m i j k g : Nat} {ed : Nat → Nat × Nat} {P Q : List Nat} {F G F' : Nat → Prop}

def edI (ed : Nat → Nat × Nat) (k : Nat) : Int × Int := (((ed k).1 : Nat), ((ed k).2 : Nat))

/-- Parts that edges make, told by links. -/
theorem gen_conn (ha : ∀ k ∈ P, (ed k).1 < n ∧ (ed k).2 < n) {L : List (Nat × Nat)} (h : Gen n (P.map (edI ed)).reverse L) (i j : Nat) : rt L i = rt L j ↔ Conn (P.map ed) i j := by
  refine h.conn (fun a b => ?_) i j
  have key : ∀ a b : Nat, ((a : Int), (b : Int)) ∈ (P.map (edI ed)).reverse ↔ (a, b) ∈ P.map ed := fun a b => by
    rw [List.mem_reverse, List.mem_map, List.mem_map]
    constructor
    · rintro ⟨k, hk, e⟩
      simp only [edI, Prod.mk.injEq, Int.natCast_inj] at e
      exact ⟨k, hk, Prod.ext e.1 e.2⟩
    · rintro ⟨k, hk, e⟩
      exact ⟨k, hk, by rw [edI, e]⟩
  rw [key, key]
  constructor
  · exact fun h => h.2.2
  · intro h
    have hn : a < n ∧ b < n := by
      rcases h with h | h
      · obtain ⟨k, hk, e⟩ := List.mem_map.1 h
        have := ha k hk
        rw [e] at this
        exact this
      · obtain ⟨k, hk, e⟩ := List.mem_map.1 h
        have := ha k hk
        rw [e] at this
        exact ⟨this.2, this.1⟩
    exact ⟨hn.1, hn.2, h⟩

/-- A union of these edges, one behind the other. -/
def UG (w0 : World) (n : Nat) (ed : Nat → Nat × Nat) (P : List Nat) (w : World) (g : Nat) (F : Nat → Prop) : Prop := ∃ L, Un.UAt w0.heap.size n w g F L ∧ Gen n ((P.map (edI ed)).reverse) L

theorem UG.below (h : UG w0 n ed P w g F) (hb : Below w.heap.size w w') : UG w0 n ed P w' g F := by
  obtain ⟨L, h1, h2⟩ := h
  exact ⟨L, h1.below hb, h2⟩
theorem UG.lt (h : UG w0 n ed P w g F) (hk : F k) : k < w.heap.size ∧ w0.heap.size ≤ k := by
  obtain ⟨L, h1, h2⟩ := h
  exact h1.lt hk
theorem UG.apart (h : UG w0 n ed P w g G) (hm : Un.Moves F w w' F') (ha : ∀ k, F k → ¬ G k) : UG w0 n ed P w' g G ∧ ∀ k, F' k → ¬ G k := by
  obtain ⟨L, h1, h2⟩ := h
  exact ⟨⟨L, (h1.apart hm ha).1, h2⟩, (h1.apart hm ha).2⟩

theorem UG.join (h : UG w0 n ed P w g F) (hs : w0.heap.size ≤ w.heap.size) (k : Nat) :
    Calls Tryz.prog 8 #[.pointer (some ⟨g, 0, none⟩), .int .i64 ((ed k).1 : Nat), .int .i64 ((ed k).2 : Nat)] w fun e w' => ∃ v, e = .returned v ∧ ∃ F', UG w0 n ed (P ++ [k]) w' g F' ∧ Un.Moves F w w' F' := by
  obtain ⟨L, h1, h2⟩ := h
  refine (Un.join_u h1 hs _ _).mono ?_
  rintro e w' ⟨x, err, F', L', rfl, h3, h4, h5, -⟩
  refine ⟨_, rfl, F', ⟨L', h3, ?_⟩, h4⟩
  rw [List.map_append, List.reverse_append]
  exact h2.step h5

theorem UG.same (h : UG w0 n ed P w g F) (ha : ∀ k ∈ P, (ed k).1 < n ∧ (ed k).2 < n) {a b : Nat} (h1 : a < n) (h2 : b < n) (q : Bool) (hq : q = true ↔ Conn (P.map ed) a b) :
    Calls Tryz.prog 9 #[.pointer (some ⟨g, 0, none⟩), .int .i64 (a : Nat), .int .i64 (b : Nat)] w fun e w' => e = .returned (.tuple #[.bool q, .nilIface]) ∧ Below w.heap.size w w' := by
  obtain ⟨L, h3, h4⟩ := h
  have : decide (rt L a = rt L b) = q := by
    rw [Bool.eq_iff_iff, decide_eq_true_iff, hq]
    exact gen_conn ha h4 a b
  rw [← this]
  exact Un.same_u h3 a b h1 h2

theorem new_two (hb : Below w0.heap.size w0 w) (n : Nat) (h1 : 1 ≤ n) (h2 : n ≤ 60) (ed : Nat → Nat × Nat) :
    Calls Tryz.prog 7 #[.int .i64 (n : Nat)] w fun e w' => ∃ g F, e = .returned (.tuple #[.pointer (some ⟨g, 0, none⟩), .nilIface]) ∧ Below w.heap.size w w' ∧ UG w0 n ed [] w' g F ∧ ∀ k, F k → w.heap.size ≤ k := by
  refine (Un.new_u hb.size n h1 h2).mono ?_
  rintro e w' ⟨g, F, rfl, h3, h4, h5⟩
  exact ⟨g, F, rfl, h3, ⟨[], h4, Gen.start n⟩, h5⟩

end Go.Proofs.YtcfemppdeidjmadGreat.To
