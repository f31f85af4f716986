/-
  The fact that the statements over all packages begin with, whatever packages desk and disk that answer as they are to.
-/
import Derived.Test.YtcfemppdeidjmadGreatYk
import Derived.Test.YtcfemppdeidjmadGreatXo
namespace Go.Proofs.YtcfemppdeidjmadGreat.Ds
open Go.RowKit Go.Deep Go.Proofs.YtcfemppdeidjmadGreat.Br
open Go.Proofs.YtcfemppdeidjmadGreat.Dk (EvAt NumAt Er Same)
open Go.Proofs.YtcfemppdeidjmadGreat.Sk (SW Apart)
open Go.RowKit (Below)
set_option linter.unusedVariables false

variable {w w' wr : World} {D : DFace}

set_option maxRecDepth 100000 in
set_option maxHeartbeats 4000000 in
theorem one_ok (O : DeskOk D) : To.OneOk := by
  intro w
  have HO : Hid (DeskOk D) := O
  clear O
  go_enter Tryz.func5, Tryz.ntmps5
  go_wp2_with fail
  refine (dw_new HO.out (Below.refl _ w)).mono ?_
  rintro e w1 ⟨d, rfl, hz, -⟩
  have HZ1 : Hid (SW (raw D d) w w.heap.size (fun _ => False) w1) := hz
  clear hz
  go_wp2_with fail
  refine (dw_format (n := 3) HO.out HZ1.out (by decide) (by decide)).mono ?_
  rintro e w2 ⟨rfl, hz, -⟩
  have HZ2 : Hid (SW (kept D d 3 [] 1) w w.heap.size (fun _ => False) w2) := hz
  clear hz HZ1
  go_wp2_with fail
  refine (dw_open HO.out HZ2.out (by decide)).mono ?_
  rintro e w3 ⟨k, rfl, hz, -⟩
  have hbl : Below w3.heap.size w3 (w3.alloc (.cells #[.int .i64 1, .int .i64 0, .int .i64 1, .int .i64 3, .int .i64 1, .int .i64 0] 62)) := (Below.refl _ _).alloc (Nat.le_refl _) _
  have hap := sw_since (P := on D d 3 k [] [] 1 none) HO.out.on_k HO.out.on_o hz hbl
  have hev := fact_at w3
  have hX : (fun b => False ∨ (w3.heap.size ≤ b ∧ b < (w3.alloc (.cells #[.int .i64 1, .int .i64 0, .int .i64 1, .int .i64 3, .int .i64 1, .int .i64 0] 62)).heap.size)) w3.heap.size := Or.inr ⟨Nat.le_refl _, by simp⟩
  obtain ⟨W4, hW4⟩ : ∃ W4, w3.alloc (.cells #[.int .i64 1, .int .i64 0, .int .i64 1, .int .i64 3, .int .i64 1, .int .i64 0] 62) = W4 := ⟨_, rfl⟩
  obtain ⟨E4, hE4⟩ : ∃ E4, w3.heap.size = E4 := ⟨_, rfl⟩
  rw [hW4] at hbl hap hev hX
  rw [hE4] at hap hev hX
  obtain ⟨X4, hX4⟩ : ∃ X4 : Nat → Prop, (fun b => False ∨ (E4 ≤ b ∧ b < W4.heap.size)) = X4 := ⟨_, rfl⟩
  have hX2 : X4 E4 := by rw [← hX4]; exact hX
  rw [hX4] at hap
  have HZ4 : Hid (SW (on D d 3 k [] [] 1 none) w w.heap.size X4 W4 ∧ EvAt W4 (some ⟨E4, 0, none⟩) 2 fact2 ∧ X4 E4) := ⟨hap, hev, hX2⟩
  clear hz hbl hap hev hX hX2 hX4 HZ2
  go_wp2_with (first | rw [hW4, hE4] | rw [hW4])
  refine (dw_do HO.out HZ4.out.1 HZ4.out.2.1 (Nat.le_refl 2) (by decide) (fun _ b o e => Or.inr (by simp at e; rw [← e.1]; exact HZ4.out.2.2))).mono ?_
  rintro e w5 ⟨v, x, A1, out, oa, oc, rfl, her, hdo, hbl, -, -, hz, -⟩
  obtain ⟨rfl, rfl, rfl⟩ := fact_only hdo
  obtain rfl := Dk.Er.nil her
  obtain ⟨b5, o5, rfl, hc5⟩ := hbl 0 (by decide)
  replace hc5 : w5.cell? ⟨b5, o5, none⟩ = some (.bool true) := hc5
  have HZ6 : Hid (SW (on D d 3 k [(0, 1)] [] 1 none) w w.heap.size X4 w5) := hz
  clear her hdo hbl hz HZ4 hW4 hE4
  go_wp2_with fail
  refine (dw_save HO.out HZ6.out (by decide)).mono ?_
  rintro e w9 ⟨hor, -⟩
  replace hor := hor.resolve_right fun q => q.2.1 rfl
  obtain ⟨g', rfl, hz, hg⟩ := hor
  obtain rfl := hg rfl
  have HZ9 : Hid (SW (on D d 3 k [(0, 1)] [(0, 1)] 2 none) w w.heap.size X4 w9) := hz
  clear hz hg HZ6 hc5
  go_wp2_with fail
  refine (dw_turn HO.out HZ9.out).mono ?_
  rintro e w10 ⟨rfl, hz, -⟩
  have HB : Hid (Below w.heap.size w w10) := hz.below
  clear hz HZ9
  go_wp2_with fail
  go_ret
  exact ⟨rfl, HB.out⟩

end Go.Proofs.YtcfemppdeidjmadGreat.Ds
