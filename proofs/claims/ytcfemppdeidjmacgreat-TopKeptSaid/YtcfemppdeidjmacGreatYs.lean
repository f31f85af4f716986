/-
  What TopKept asks besides of packages graph and note, and of a graph that is drawn; a list's edges put one by one.
-/
import Derived.Test.YtcfemppdeidjmacGreatF20
import Derived.Test.YtcfemppdeidjmacGreatF17
namespace Go.Proofs.YtcfemppdeidjmacGreat.Ds
open Go.RowKit Go.Deep Go.Proofs.YtcfemppdeidjmacGreat.Br
open Go.Proofs.YtcfemppdeidjmacGreat.Dk (EvAt NumAt Er Same)
open Go.RowKit (Below)
set_option linter.unusedVariables false

variable {n i : Nat} {A : List (Nat × Nat)}

structure KeptOk (D : DFace) : Prop where
  drawn_no : ∀ {w : World} {a : Option Addr} {m c : Nat} (p : Int), p < 1 ∨ 60 < p → Calls Tryz.prog 9 #[.int .i64 p, .slice a m c] w fun e w' => e = .returned (.tuple #[.pointer none, .bool false]) ∧ Below w.heap.size w w'
  drawn : ∀ {w : World} {a : Option Addr} {m c n : Nat} {f : Nat → Ev}, EvAt w a m f → 1 ≤ n → n ≤ 60 → Calls Tryz.prog 9 #[.int .i64 (n : Nat), .slice a m c] w fun e w' => ∃ v A, e = .returned (.tuple #[v, .bool true]) ∧ D.gr w' v n A ∧ Fine n A ∧ (∀ e ∈ A, e.1 < e.2) ∧ Below w.heap.size w w'
  joined : ∀ {w : World} {n : Nat} {v : Value} {A : List (Nat × Nat)} {x y : Int}, D.gr w v n A → IsN n x → IsN n y → Calls Tryz.prog 10 #[v, .int .i64 x, .int .i64 y] w fun e w' => ∃ q : Bool, e = .returned (.tuple #[.bool q, .nilIface]) ∧ (q = true ↔ Jn A x y) ∧ Below w.heap.size w w'
  joined_no : ∀ {w : World} {n : Nat} {v : Value} {A : List (Nat × Nat)} {x y : Int}, D.gr w v n A → ¬ (IsN n x ∧ IsN n y) → Calls Tryz.prog 10 #[v, .int .i64 x, .int .i64 y] w fun e w' => e = .returned (.tuple #[.bool false, .iface 102 (.int .i64 1)]) ∧ Below w.heap.size w w'
  parts : ∀ {w : World} {n : Nat} {v : Value} {A : List (Nat × Nat)} {p : Nat → Nat}, D.gr w v n A → Rest A p → Calls Tryz.prog 23 #[v] w fun e w' => e = .returned (.int .i64 (partsOf n p : Nat)) ∧ Below w.heap.size w w'
  code : ∀ {w : World} {a : Option Addr} {c n N : Nat} {A : List (Nat × Nat)}, EdgesAt w a A → A.length = N → Fine n A → (∀ e ∈ A, e.1 < e.2) → Calls Tryz.prog 41 #[.int .i64 (n : Nat), .slice a N c] w fun e w' => ∃ a' L c', e = .returned (.tuple #[.slice a' L c', .nilIface]) ∧ Below w.heap.size w w' ∧ Calls Tryz.prog 42 #[.slice a' L c'] w' fun e w'' => ∃ a'' c'', e = .returned (.tuple #[.int .i64 (n : Nat), .slice a'' N c'', .nilIface]) ∧ EdgesAt w'' a'' A ∧ Below w'.heap.size w' w''

theorem Fine.part (h : Fine n A) (i : Nat) : Fine n (A.take i) := ⟨h.up.sublist (List.take_sublist _ _), Nat.le_trans (List.length_take_le' _ _) h.len, fun e he => h.among e (List.mem_of_mem_take he), h.n1, h.n60⟩

/-- One edge more of the list. -/
theorem put_one (h : Fine n A) (hlt : ∀ e ∈ A, e.1 < e.2) (hi : i < A.length) : One n (A.take i) (1, ((A.getD i (0, 0)).1 : Nat), ((A.getD i (0, 0)).2 : Nat)) 0 (A.take (i + 1)) [] := by
  have e0 : A.getD i (0, 0) = A[i] := by rw [List.getD_eq_getElem?_getD, List.getElem?_eq_getElem hi]; rfl
  have e1 : A.take (i + 1) = A.take i ++ [A[i]] := by rw [List.take_add_one, List.getElem?_eq_getElem hi]; rfl
  have hm := List.getElem_mem hi
  have h1 := hlt _ hm
  have h2 := h.among _ hm
  have hp : pr ((A[i].1 : Nat) : Int) ((A[i].2 : Nat) : Int) = A[i] := Prod.ext (by show min (Int.toNat _) (Int.toNat _) = _; rw [Int.toNat_natCast, Int.toNat_natCast]; omega) (by show max (Int.toNat _) (Int.toNat _) = _; rw [Int.toNat_natCast, Int.toNat_natCast]; omega)
  have n1 : IsN n ((A[i].1 : Nat) : Int) := ⟨by omega, by omega⟩
  have n2 : IsN n ((A[i].2 : Nat) : Int) := ⟨by omega, by omega⟩
  have hu := (h.part (i + 1)).up
  rw [e1] at hu
  rw [e0, e1]
  refine Or.inr (Or.inr (Or.inr (Or.inr (Or.inl ⟨⟨rfl, n1, n2⟩, fun q => by have q : ((A[i].1 : Nat) : Int) = ((A[i].2 : Nat) : Int) := q; omega, ?_, ?_, rfl, hu, ?_, rfl⟩))))
  · show pr ((A[i].1 : Nat) : Int) ((A[i].2 : Nat) : Int) ∉ A.take i
    rw [hp]
    intro q
    have := (List.pairwise_append.1 hu).2.2 _ q _ List.mem_cons_self
    omega
  · have := h.len
    rw [List.length_take]
    omega
  · show (A.take i ++ [A[i]]).Perm (pr ((A[i].1 : Nat) : Int) ((A[i].2 : Nat) : Int) :: A.take i)
    rw [hp]
    exact List.perm_append_comm

theorem put_does (h : Fine n A) (hlt : ∀ e ∈ A, e.1 < e.2) (hi : i < A.length) {x : Int} {A' : List (Nat × Nat)} {out : List Bool} (hd : Does n (A.take i) [(1, ((A.getD i (0, 0)).1 : Nat), ((A.getD i (0, 0)).2 : Nat))] x A' out) : x = 0 ∧ A' = A.take (i + 1) ∧ out = [] :=
  hd.one (Or.inr ⟨by show 1 ≤ 120; decide, Or.inr ⟨rfl, Or.inr ⟨_, [], [], put_one h hlt hi, ⟨rfl, rfl, rfl⟩, rfl⟩⟩⟩) (h.part i).up

theorem event_at (w : World) (x y z : Int) : EvAt (w.alloc (.cells #[.int .i64 x, .int .i64 y, .int .i64 z] 80)) (some ⟨w.heap.size, 0, none⟩) 1 (fun _ => (x, y, z)) := fun i hi => by
  obtain rfl : i = 0 := by omega
  exact ⟨_, 0, rfl, by simp, by simp, by simp⟩

theorem edges_n {D : DFace} (O : DeskOk D) {w : World} {v : Value} {N : Nat} (h : D.gr w v n A) (hN : A.length = N) : Calls Tryz.prog 11 #[v] w fun e w' => ∃ a c, e = .returned (.slice a N c) ∧ EdgesAt w' a A ∧ Below w.heap.size w w' := by
  subst hN
  exact (O.edges h).mono fun e w' ⟨a, c, e1, e2, _, _, _, e6⟩ => ⟨a, c, e1, e2, e6⟩

end Go.Proofs.YtcfemppdeidjmacGreat.Ds
