/-
  PathRings, out of what packages path and bridge are to answer.
-/
import Derived.Test.YtinflbkmemjgbabDoorPf
import Derived.Test.YtinflbkmemjgbabDoorPg
namespace Go.Proofs.YtinflbkmemjgbabDoor.Pt
open Go.RowKit Go.Deep Go.Proofs.YtinflbkmemjgbabDoor.Br
open Go.RowKit (Below)
set_option linter.unusedVariables false

variable {w w' : World} {f : Nat → Int × Int} {E : List (Nat × Nat)}

set_option maxRecDepth 100000 in
set_option maxHeartbeats 1000000 in
/-- A number that is not in a list. -/
theorem has_no {a : Option Addr} {n c : Nat} {g : Nat → Int} (h : NumsAt w a n g) (x : Int) (hn : n < 1000000) (hx : ∀ i, i < n → g i ≠ x) :
    Calls Tryd.prog 31 #[.slice a n c, .int .i64 x] w fun e w' => e = .returned (.bool false) ∧ Below w.heap.size w w' := by
  have HC : Hid (∀ i, i < n → ∃ b o y, a = some ⟨b, o, none⟩ ∧ w.cell? ⟨b, o + i, none⟩ = some (.int .i64 y) ∧ y ≠ x) := fun i hi => by
    obtain ⟨b, o, e, q⟩ := h i hi
    exact ⟨b, o, _, e, q, hx i hi⟩
  clear h hx
  go_enter Tryd.func31, Tryd.ntmps31
  go_wp2_with fail
  go_loopw [5] (fun i wr => ∃ j : Nat, j ≤ n ∧ i = .int .i64 (j : Nat) ∧ Below w.heap.size w wr) (fun i _ => n - (intOf i).toNat)
  case atStart => exact ⟨0, Nat.zero_le _, rfl, Below.refl _ _⟩
  case round =>
    obtain ⟨j, hj, rfl, hb⟩ := hrel
    by_cases hlt : j < n
    · obtain ⟨b, o, y, rfl, q1, hne⟩ := HC.out j hlt
      replace q1 := cell_keep hb q1
      have HB : Hid (Below w.heap.size w wr) := hb
      have t1 : (y == x) = false := by rw [beq_eq_false_iff_ne]; exact hne
      have i0 : (0 : Int) ≤ (j : Int) := by omega
      have i1 : (j : Int) < (n : Int) := by omega
      clear hb hne
      go_wp2_with fail
      go_roundw
      case rel => exact ⟨j + 1, by omega, by go_num, HB.out⟩
      case measure => simp [intOf]; omega
    · obtain rfl : j = n := by omega
      go_wp2_with fail
      go_ret
      exact ⟨rfl, hb⟩

/-- What packages path and bridge are to answer to PathRings. -/
structure RingOk : Prop where
  ring_no : ∀ {w : World} {ad : Option Addr} {m c : Nat} {f : Nat → Int × Int} (n : Int), EgAt w ad m f → ¬ Valid n m f → Calls Tryd.prog 36 #[.int .i64 n, .slice ad m c] w fun e w' => ∃ (v : Value) (t : TypeId) (y : Value), e = .returned (.tuple #[v, .iface t y]) ∧ Below w.heap.size w w'
  ring_none : ∀ {w : World} {ad : Option Addr} {m c n : Nat} {f : Nat → Int × Int}, EgAt w ad m f → m ≤ c → c ≤ maxLen → Valid (n : Nat) m f → (∀ e ∈ edges f m, Bridge (edges f m) e) → Calls Tryd.prog 36 #[.int .i64 (n : Nat), .slice ad m c] w fun e w' => ∃ v, e = .returned (.tuple #[v, .iface 23 (.int .i64 4)]) ∧ Below w.heap.size w w'
  ring_some : ∀ {w : World} {ad : Option Addr} {m c n : Nat} {f : Nat → Int × Int}, EgAt w ad m f → m ≤ c → c ≤ maxLen → Valid (n : Nat) m f → ¬ (∀ e ∈ edges f m, Bridge (edges f m) e) → Calls Tryd.prog 36 #[.int .i64 (n : Nat), .slice ad m c] w fun e w' => ∃ (a' : Option Addr) (c' N : Nat) (r : Nat → Nat), e = .returned (.tuple #[.slice a' N c', .nilIface]) ∧ Ring (edges f m) N r ∧ NumsAt w' a' N (fun i => ((r i : Nat) : Int)) ∧ N ≤ c' ∧ c' ≤ maxLen ∧ Below w.heap.size w w'
  bridges_no : ∀ {w : World} {a : Option Addr} {m c : Nat} {f : Nat → Int × Int} (n : Int), EgAt w a m f → ¬ Valid n m f → Calls Tryd.prog 23 #[.int .i64 n, .slice a m c] w fun e w' => ∃ (v : Value) (t : TypeId) (y : Value), e = .returned (.tuple #[v, .iface t y]) ∧ Below w.heap.size w w'
  bridges_ok : ∀ {w : World} {a : Option Addr} {m c n : Nat} {f : Nat → Int × Int}, EgAt w a m f → m ≤ c → c ≤ maxLen → Valid (n : Nat) m f → Calls Tryd.prog 23 #[.int .i64 (n : Nat), .slice a m c] w fun e w' => ∃ (a' : Option Addr) (c' N : Nat) (L : List (Nat × Nat)), e = .returned (.tuple #[.slice a' N c', .nilIface]) ∧ Brs (edges f m) L ∧ L.length = N ∧ EdgesAt w' a' L ∧ Below w.heap.size w w'

/-- A ring has at most as many nodes as there are. -/
theorem Ring.le {N n : Nat} {r : Nat → Nat} (h : Ring E N r) (hE : Among n E) : N ≤ n := by
  have := pigeon (f := r) (List.range N) (List.range n) List.nodup_range (fun x hx y hy e => h.inj x y (List.mem_range.1 hx) (List.mem_range.1 hy) e) (fun x hx => by
    rcases h.next x (List.mem_range.1 hx) with q | q
    · exact List.mem_range.2 (hE _ q).1
    · exact List.mem_range.2 (hE _ q).2)
  simpa using this

/-- The fact's edges. -/
def tri : List (Nat × Nat) := [(0, 1), (0, 2), (1, 2)]

theorem tri_valid : Valid 3 3 (fn tri) := ⟨by decide, by decide, fn_may (F := tri) (by unfold Up tri; decide) (by decide)⟩

theorem tri_not : ¬ (∀ e ∈ edges (fn tri) 3, Bridge (edges (fn tri) 3) e) := fun h => by
  have e1 : edges (fn tri) 3 = tri := fn_edges tri
  rw [e1] at h
  have h1 := h (0, 1) (by decide)
  have e2 : tri.erase (0, 1) = [(0, 2), (1, 2)] := by decide
  unfold Bridge at h1
  rw [e2] at h1
  exact h1 ((conn_eqv _).trans (conn_edge (a := 0) (b := 2) (by decide)) ((conn_eqv _).symm (conn_edge (a := 1) (b := 2) (by decide))))

theorem tri_at (w : World) : EgAt (w.alloc (.cells #[.int .i64 0, .int .i64 1, .int .i64 0, .int .i64 2, .int .i64 1, .int .i64 2] 56)) (some ⟨w.heap.size, 0, none⟩) 3 (fn tri) := fun i hi => by
  match i, hi with
  | 0, _ => exact ⟨_, 0, rfl, by simp [fn, tri], by simp [fn, tri]⟩
  | 1, _ => exact ⟨_, 0, rfl, by simp [fn, tri], by simp [fn, tri]⟩
  | 2, _ => exact ⟨_, 0, rfl, by simp [fn, tri], by simp [fn, tri]⟩

theorem tri_three {N : Nat} {r : Nat → Nat} (h : Ring (edges (fn tri) 3) N r) : N = 3 := by
  have h1 := h.three
  have h2 := h.le (n := 3) (by rw [show edges (fn tri) 3 = tri from fn_edges tri]; unfold Among tri; decide)
  omega

theorem brs_all {L : List (Nat × Nat)} (h : Brs E L) : L.length = E.length ↔ ∀ e ∈ E, Bridge E e := by
  obtain ⟨t, ht, rfl⟩ := h
  rw [List.length_filter_eq_length_iff]
  exact ⟨fun q e he => (ht e he).1 (q e he), fun q e he => (ht e he).2 (q e he)⟩

end Go.Proofs.YtinflbkmemjgbabDoor.Pt
