/-
  A text's event: guess and Parse of package note.
-/
import Derived.Test.YtgmadfiibaeleacDoorNo
namespace Go.Proofs.YtgmadfiibaeleacDoor.Nt
open Go.RowKit Go.Deep Go.Proofs.YtgmadfiibaeleacDoor.Br
open Go.RowKit (Below)
set_option linter.unusedVariables false

variable {w w' : World}

/-- What is guessed of a text that has parts. -/
theorem guess_is {c : UInt8} {r p q : List UInt8} {k : Nat} {va vb : Int}
    (hcut : ∀ a d, (∀ e ∈ a, e ≠ 32) → r = a ++ 32 :: d → p = a ∧ q = d) (hk : ∀ j, 1 ≤ j ∧ j ≤ 3 → c = mark j → k = j)
    (ha : ∀ n : Nat, n ≤ 59 → p = dgt n → va = (n : Int)) (hb : ∀ n : Nat, n ≤ 59 → q = dgt n → vb = (n : Int)) :
    ∀ x, TextIs (c :: r) x → x = ((k : Int), va, vb) := fun x hx => by
  obtain ⟨p', q', e, k', a', b', h1, h2, h3, h4, h5, h6, rfl⟩ := text_cons hx
  obtain ⟨e1, e2⟩ := hcut p' q' (by rw [h5]; exact dgt_blank h2) (pieces_two e)
  rw [hk k' h1 h4, ha a' h2 (by rw [e1, h5]), hb b' h3 (by rw [e2, h6])]

set_option maxRecDepth 100000 in
set_option maxHeartbeats 1000000 in
theorem guess_nil : Calls Tryd.prog 13 #[.string (ByteArray.mk #[])] w fun e w' => e = .returned (evv 0 0 0) ∧ Below w.heap.size w w' := by
  have HB : Hid (Below w.heap.size w (w.alloc (.cells #[.int .i64 0, .int .i64 0, .int .i64 0] 24))) := (Below.refl _ _).alloc (Nat.le_refl _) _
  go_enter Tryd.func13, Tryd.ntmps13
  go_wp2_with fail
  refine bodyPost_ret (results_cell_row rfl _ _ w.heap.size 24 _ (0, 0) _ rfl (heap_alloc_new _ _) Tryd.underlying24 rfl Tryd.sizeEvent) rfl ?_
  exact ⟨rfl, HB.out⟩

set_option maxRecDepth 100000 in
set_option maxHeartbeats 1000000 in
theorem guess_cons (c : UInt8) (r : List UInt8) (hl : r.length ≤ 281474976710656) (hs : Senti w) : Calls Tryd.prog 13 #[.string (str (c :: r))] w fun e w' => ∃ k a b : Int, e = .returned (evv k a b) ∧ (∀ x, TextIs (c :: r) x → x = (k, a, b)) ∧ Below w.heap.size w w' := by
  obtain ⟨N, hN⟩ : ∃ N, r.length = N := ⟨_, rfl⟩
  obtain ⟨s, hse⟩ : ∃ s, str (c :: r) = s := ⟨_, rfl⟩
  obtain ⟨N1, hN1⟩ : ∃ N1, N + 1 = N1 := ⟨_, rfl⟩
  have hsz : s.size = N1 := by rw [← hse, str_size, ← hN1, ← hN]; rfl
  have hex : s.extract 1 N1 = str r := by rw [← hse]; exact str_tail c r N1 (by omega)
  have g0 : ∀ h : 0 < s.size, s[0]'h = c := fun h => by subst hse; exact str_get (c :: r) 0 h
  have hem : s.toList.isEmpty = false := by rw [Lib.toList_data, ← hse]; rfl
  have hcut := fun W => cut_any (w := W) r hl
  obtain ⟨k, hk3, hki, hkm⟩ := mark_index c
  have hix := fun W => index_any (w := W) c
  rw [hki] at hix
  have hw1 : IntKind.i64.wrap (1 + ((k : Int) - 1)) = (k : Int) := by rw [IntKind.wrap_i64]; omega
  have j2 : (1 : Int) ≤ (N1 : Int) := by omega
  have j3 : (0 : Int) < (N1 : Int) := by omega
  have HK : Hid (r.length ≤ 281474976710656 ∧ ∀ j, 1 ≤ j ∧ j ≤ 3 → c = mark j → k = j) := ⟨hl, hkm⟩
  have HS : Hid (Senti w) := hs
  rw [hse]
  generalize (k : Int) - 1 = Z at hix hw1
  have hR0 := row3_new w 0 0 0
  have hB0 : Below w.heap.size w (w.alloc (.cells #[.int .i64 0, .int .i64 0, .int .i64 0] 24)) := (Below.refl _ _).alloc (Nat.le_refl _) _
  clear hse hN hk3 hki hkm hs hl
  go_enter Tryd.func13, Tryd.ntmps13
  go_wp2_with fail
  refine (hcut _).mono ?_
  rintro e w1 ⟨p, q, bb, rfl, h1, h2, h3, hb1⟩
  have HB1 : Hid (Below w.heap.size w w1 ∧ w1.rowIs w.heap.size 24 3 (cells3 0 0 0)) := ⟨below_step hB0 hb1, hR0.of_block (hb1.block _ hR0.lt)⟩
  have HC : Hid (∀ a d, (∀ e ∈ a, e ≠ 32) → r = a ++ 32 :: d → p = a ∧ q = d) := h1
  have ha := atoi_any (w := w1) p (Nat.le_trans h2 HK.out.1) (HS.out.below HB1.out.1)
  have HQ : Hid (q.length ≤ 281474976710656) := show _ ≤ _ from Nat.le_trans h3 HK.out.1
  clear hcut h1 h2 h3 hb1 hR0 hB0
  go_wp2_with fail
  refine ha.mono ?_
  rintro e w2 ⟨va, xa, rfl, h1, hb2⟩
  have HB2 : Hid (Below w.heap.size w w2 ∧ w2.rowIs w.heap.size 24 3 (cells3 0 0 0)) := ⟨below_step HB1.out.1 hb2, HB1.out.2.of_block (hb2.block _ HB1.out.2.lt)⟩
  have HA : Hid (∀ n : Nat, n ≤ 59 → p = dgt n → va = (n : Int)) := h1
  have hb := atoi_any (w := w2) q HQ.out (HS.out.below HB2.out.1)
  clear ha h1 hb2
  go_wp2_with fail
  refine hb.mono ?_
  rintro e w3 ⟨vb, xb, rfl, h1, hb3⟩
  have hR3 : w3.rowIs w.heap.size 24 3 (cells3 0 0 0) := HB2.out.2.of_block (hb3.block _ HB2.out.2.lt)
  have HX : Hid ((∀ x, TextIs (c :: r) x → x = ((k : Int), va, vb)) ∧ Below w.heap.size w w3) := ⟨guess_is HC.out HK.out.2 HA.out h1, below_step HB2.out.1 hb3⟩
  have e0 : w3.cell? ⟨w.heap.size, 0, none⟩ = some (.int .i64 0) := hR3.cell (i := 0) (by omega)
  have e1 : w3.cell? ⟨w.heap.size, 1, none⟩ = some (.int .i64 0) := hR3.cell (i := 1) (by omega)
  have e2 : w3.cell? ⟨w.heap.size, 2, none⟩ = some (.int .i64 0) := hR3.cell (i := 2) (by omega)
  have z0 := hR3.frozen
  have HR : Hid ((((w3.setCell ⟨w.heap.size, 0, none⟩ (.int .i64 (k : Int))).setCell ⟨w.heap.size, 1, none⟩ (.int .i64 va)).setCell ⟨w.heap.size, 2, none⟩ (.int .i64 vb)).rowIs w.heap.size 24 3 (cells3 (k : Int) va vb)) := row3_set hR3
  have HBF : Hid (Below w.heap.size w (((w3.setCell ⟨w.heap.size, 0, none⟩ (.int .i64 (k : Int))).setCell ⟨w.heap.size, 1, none⟩ (.int .i64 va)).setCell ⟨w.heap.size, 2, none⟩ (.int .i64 vb))) := ((HX.out.2.setCell (Nat.le_refl _) _).setCell (Nat.le_refl _) _).setCell (Nat.le_refl _) _
  clear hb h1 hb3 hR3
  go_wp2_with fail
  refine (hix _).mono ?_
  rintro e w4 ⟨rfl, rfl⟩
  clear hix
  go_wp2_with fail
  refine bodyPost_ret (results_cell_row rfl _ _ w.heap.size 24 _ (0, 0) _ rfl (row3_block HR.out) Tryd.underlying24 rfl Tryd.sizeEvent) rfl ?_
  exact ⟨_, _, _, rfl, HX.out.1, HBF.out⟩

end Go.Proofs.YtgmadfiibaeleacDoor.Nt
