/-
  The statements' own compare of two lists of edges, whatever lists.
-/
import Derived.Test.YtcfemppdeidjmacGreatDoorF17
namespace Go.Proofs.YtcfemppdeidjmacGreatDoor.Ds
open Go.RowKit Go.Deep Go.Proofs.YtcfemppdeidjmacGreatDoor.Br
open Go.RowKit (Below)
set_option linter.unusedVariables false

variable {w w' : World} {E E' : List (Nat × Nat)}

theorem get_ne {E E' : List (Nat × Nat)} {j : Nat} (h : E.getD j (0, 0) ≠ E'.getD j (0, 0)) : E ≠ E' := fun e => h (by rw [e])
theorem lists_eq : ∀ {E E' : List (Nat × Nat)}, E.length = E'.length → (∀ j, j < E.length → E.getD j (0, 0) = E'.getD j (0, 0)) → E = E' := fun {E E'} hl h =>
  List.ext_getElem hl fun i h1 h2 => by
    have := h i h1
    rwa [List.getD_eq_getElem?_getD, List.getD_eq_getElem?_getD, List.getElem?_eq_getElem h1, List.getElem?_eq_getElem h2] at this

set_option maxRecDepth 100000 in
set_option maxHeartbeats 2000000 in
theorem edges_any {a a' : Option Addr} {n n' c c' : Nat} (hE : E.length = n) (hE' : E'.length = n') (h : EdgesAt w a E) (h' : EdgesAt w a' E') (hn : n < 1000000) :
    Calls Tryz.prog 18 #[.slice a n c, .slice a' n' c'] w fun e w' => ∃ q : Bool, e = .returned (.bool q) ∧ (q = true ↔ E = E') ∧ Below w.heap.size w w' := by
  by_cases hnn : n = n'
  · subst hnn
    have HC : Hid (∀ i, i < n → ∃ b o b' o' x y x' y', a = some ⟨b, o, none⟩ ∧ a' = some ⟨b', o', none⟩ ∧ w.cell? ⟨b, o + i * 2, none⟩ = some (.int .i64 x) ∧ w.cell? ⟨b, o + i * 2 + 1, none⟩ = some (.int .i64 y) ∧ w.cell? ⟨b', o' + i * 2, none⟩ = some (.int .i64 x') ∧ w.cell? ⟨b', o' + i * 2 + 1, none⟩ = some (.int .i64 y') ∧ ((x = x' ∧ y = y') ↔ E.getD i (0, 0) = E'.getD i (0, 0))) := fun i hi => by
      obtain ⟨b, o, e1, q1, q2⟩ := h.cell i (by omega)
      obtain ⟨b', o', e2, q3, q4⟩ := h'.cell i (by omega)
      refine ⟨b, o, b', o', _, _, _, _, e1, e2, q1, q2, q3, q4, fun ⟨z1, z2⟩ => ?_, fun z => by rw [z]; exact ⟨rfl, rfl⟩⟩
      exact Prod.ext (by omega) (by omega)
    have HL : Hid (E.length = n ∧ E.length = E'.length) := ⟨hE, hE.trans hE'.symm⟩
    clear h h' hE hE'
    go_enter Tryz.func18, Tryz.ntmps18
    go_wp2_with fail
    go_loopw [5] (fun i wr => ∃ j : Nat, j ≤ n ∧ i = .int .i64 (j : Nat) ∧ Below w.heap.size w wr ∧ ∀ z, z < j → E.getD z (0, 0) = E'.getD z (0, 0)) (fun i _ => n - (intOf i).toNat)
    case atStart => exact ⟨0, Nat.zero_le _, rfl, Below.refl _ _, fun z hz => absurd hz (Nat.not_lt_zero _)⟩
    case round =>
      obtain ⟨j, hj, rfl, hb, hs⟩ := hrel
      have HS : Hid (∀ z, z < j → E.getD z (0, 0) = E'.getD z (0, 0)) := hs
      clear hs
      by_cases hlt : j < n
      · obtain ⟨b, o, b', o', x, y, x', y', rfl, rfl, q1, q2, q3, q4, hxy⟩ := HC.out j hlt
        have HX : Hid ((x = x' ∧ y = y') ↔ E.getD j (0, 0) = E'.getD j (0, 0)) := hxy
        replace q1 := cell_keep hb q1
        replace q2 := cell_keep hb q2
        replace q3 := cell_keep hb q3
        replace q4 := cell_keep hb q4
        have HB : Hid (Below w.heap.size w wr) := hb
        have i0 : (0 : Int) ≤ (j : Int) := by omega
        have i1 : (j : Int) < (n : Int) := by omega
        clear hb hxy
        by_cases hx : x = x'
        · by_cases hy : y = y'
          · subst hx
            subst hy
            have HE : Hid (E.getD j (0, 0) = E'.getD j (0, 0)) := HX.out.1 ⟨rfl, rfl⟩
            go_wp2_with fail
            go_quiet (fail)
            go_wp2_with fail
            go_roundw
            case rel => exact ⟨j + 1, by omega, by go_num, below_step HB.out (Br.below_drewN rfl), fun z hz => by
              by_cases e : z = j
              · rw [e]; exact HE.out
              · exact HS.out z (by omega)⟩
            case measure => simp [intOf]; omega
          · have HE : Hid (E ≠ E') := get_ne fun z => hy (HX.out.2 z).2
            go_wp2_with fail
            go_quiet (fail)
            go_wp2_with fail
            go_ret
            exact ⟨false, rfl, ⟨fun q => (by cases q), fun q => absurd q HE.out⟩, below_step HB.out (Br.below_drewN rfl)⟩
        · have HE : Hid (E ≠ E') := get_ne fun z => hx (HX.out.2 z).1
          go_wp2_with fail
          go_quiet (fail)
          go_wp2_with fail
          go_ret
          exact ⟨false, rfl, ⟨fun q => (by cases q), fun q => absurd q HE.out⟩, below_step HB.out (Br.below_drewN rfl)⟩
      · obtain rfl : j = n := by omega
        have HE : Hid (E = E') := lists_eq HL.out.2 fun z hz => HS.out z (by have := HL.out.1; omega)
        go_wp2_with fail
        go_ret
        exact ⟨true, rfl, ⟨fun _ => HE.out, fun _ => rfl⟩, hb⟩
  · have i0 : ((n : Int) != (n' : Int)) = true := by rw [bne_iff_ne]; omega
    have HE : Hid (E ≠ E') := fun q => hnn (by rw [← hE, ← hE', q])
    clear h h' hE hE'
    go_enter Tryz.func18, Tryz.ntmps18
    go_wp2_with fail
    go_ret
    exact ⟨false, rfl, ⟨fun q => (by cases q), fun q => absurd q HE.out⟩, Below.refl _ _⟩

end Go.Proofs.YtcfemppdeidjmacGreatDoor.Ds
