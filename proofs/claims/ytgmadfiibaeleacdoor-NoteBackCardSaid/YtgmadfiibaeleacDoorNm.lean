/-
  Bytes as edges: Decode.
-/
import Derived.Test.YtgmadfiibaeleacDoorNl
namespace Go.Proofs.YtgmadfiibaeleacDoor.Nt
open Go.RowKit Go.Deep Go.Proofs.YtgmadfiibaeleacDoor.Br
open Go.RowKit (Below)
set_option linter.unusedVariables false

variable {w w' : World} {g : Nat → Nat} {N : Nat}

theorem bt_tail {b o : Nat} (h : BtAt w (some ⟨b, o, none⟩) N g) : BtAt w (some ⟨b, o + 2, none⟩) (N - 2) (fun i => g (i + 2)) := ⟨fun i hi => ⟨b, o + 2, rfl, by
  have := h.at (i := i + 2) (by omega)
  rw [show o + 2 + i = o + (i + 2) by omega]
  exact this⟩, fun i hi => h.byte (i + 2) (by omega)⟩

set_option maxRecDepth 100000 in
set_option maxHeartbeats 4000000 in
theorem decode_short {a : Option Addr} {c : Nat} (h : BtAt w a N g) (hno : N < 2 ∨ N ≠ 2 + 2 * g 1) :
    Calls Tryd.prog 7 #[.slice a N c] w fun e w' => e = .returned (.tuple #[.int .i64 0, .slice none 0 0, .iface 39 (.int .i64 5)]) ∧ Below w.heap.size w w' := by
  by_cases h1 : N < 2
  · have h1' : (N : Int) < 2 := by omega
    clear h hno
    go_enter Tryd.func7, Tryd.ntmps7
    go_wp2_with fail
    go_ret3
    exact ⟨rfl, Below.refl _ _⟩
  · have h2 : N ≠ 2 + 2 * g 1 := by rcases hno with q | q; exact absurd q h1; exact q
    have hb1 := h.byte 1 (by omega)
    obtain ⟨b, o, rfl, q1⟩ := h.cell 1 (by omega)
    generalize g 1 = M at *
    have h1' : ¬ (N : Int) < 2 := by omega
    have i1 : (1 : Int) < (N : Int) := by omega
    have w1 : IntKind.i64.wrap (M : Int) = (M : Int) := by rw [IntKind.wrap_i64]; omega
    have w2 : IntKind.i64.wrap (2 * (M : Int)) = 2 * (M : Int) := by rw [IntKind.wrap_i64]; omega
    obtain ⟨Z, hZ⟩ : ∃ Z, 2 + 2 * M = Z := ⟨_, rfl⟩
    have w3 : IntKind.i64.wrap (2 + 2 * (M : Int)) = (Z : Int) := by rw [IntKind.wrap_i64]; omega
    rw [hZ] at h2
    have t1 : ((N : Int) != (Z : Int)) = true := by rw [bne_iff_ne]; omega
    have t2 : (N != Z) = true := by rw [bne_iff_ne]; exact h2
    clear h hno hZ h2
    go_enter Tryd.func7, Tryd.ntmps7
    go_wp2_with fail
    go_ret3
    exact ⟨rfl, Below.refl _ _⟩

set_option maxRecDepth 100000 in
set_option maxHeartbeats 4000000 in
theorem decode_long {a : Option Addr} {c : Nat} (h : BtAt w a N g) (hc : N ≤ c) (hc2 : c ≤ maxLen) (hN : N = 2 + 2 * g 1) :
    Calls Tryd.prog 7 #[.slice a N c] w fun e w' => ((Valid (g 0 : Nat) (g 1) (de g) ∧ ∃ a' c', e = .returned (.tuple #[.int .i64 (g 0 : Nat), .slice a' (g 1) c', .nilIface]) ∧ EdgesAt w' a' (edges (de g) (g 1)) ∧ g 1 ≤ c' ∧ c' ≤ maxLen) ∨ (¬ Valid (g 0 : Nat) (g 1) (de g) ∧ e = .returned (.tuple #[.int .i64 0, .slice none 0 0, .iface 39 (.int .i64 5)]))) ∧ Below w.heap.size w w' := by
  have hb0 := h.byte 0 (by omega)
  have hb1 := h.byte 1 (by omega)
  obtain ⟨b, o, rfl, q0⟩ := h.cell 0 (by omega)
  have q1 := h.at (i := 1) (by omega)
  rw [Nat.add_zero] at q0
  have HH : Hid (BtAt w (some ⟨b, o, none⟩) N g) := h
  clear h
  obtain ⟨n, hn⟩ : ∃ n, g 0 = n := ⟨_, rfl⟩
  obtain ⟨M, hM⟩ : ∃ M, g 1 = M := ⟨_, rfl⟩
  rw [hn] at hb0 q0 ⊢
  rw [hM] at hb1 q1 hN ⊢
  clear hn hM
  have h1' : ¬ (N : Int) < 2 := by omega
  have i1 : (1 : Int) < (N : Int) := by omega
  have i0 : (0 : Int) < (N : Int) := by omega
  have j1 : (2 : Int) ≤ (N : Int) := by omega
  have j2 : (N : Int) ≤ (c : Int) := by omega
  have w0 : IntKind.i64.wrap (n : Int) = (n : Int) := by rw [IntKind.wrap_i64]; omega
  have w1 : IntKind.i64.wrap (M : Int) = (M : Int) := by rw [IntKind.wrap_i64]; omega
  have w2 : IntKind.i64.wrap (2 * (M : Int)) = 2 * (M : Int) := by rw [IntKind.wrap_i64]; omega
  have w3 : IntKind.i64.wrap (2 + 2 * (M : Int)) = (N : Int) := by rw [IntKind.wrap_i64]; omega
  have hbd : Below w.heap.size w w.drew := (Below.refl _ _).drew
  have HN : Hid (N = 2 + 2 * M ∧ M < 256) := ⟨hN, hb1⟩
  have hfin : ∀ (ad : Option Addr), BtAt w.drew ad (2 * M) (fun i => g (i + 2)) → Calls Tryd.prog 15 #[.slice ad (2 * M) (c - 2)] w.drew fun e w' => ∃ k, e = .returned (.slice (some ⟨k, 0, none⟩) M M) ∧ w'.cell? ⟨b, o, none⟩ = some (.int .u8 (n : Nat)) ∧ Hid (EdgesAt w' (some ⟨k, 0, none⟩) (edges (de g) M) ∧ Below w.heap.size w w') := fun ad hB =>
    (edges_any hB (by omega)).mono fun e w' ⟨k, e1, e2, e3⟩ => ⟨k, e1, (cell_keep e3 (cell_keep hbd q0)), e2, below_step hbd e3⟩
  by_cases hck : c = 2
  · have hM0 : M = 0 := by omega
    have hN2 : N = 2 := by omega
    subst hck hM0 hN2
    have hq := hfin (some ⟨b, o, none⟩) ⟨fun i hi => by omega, fun i hi => by omega⟩
    rw [Nat.mul_zero, Nat.sub_self] at hq
    clear hfin hN hb0 hb1 hbd hc hc2 h1' i1 i0 j1 j2 w1 w2 w3
    have w1 : IntKind.i64.wrap (0 : Int) = (0 : Int) := by decide
    go_enter Tryd.func7, Tryd.ntmps7
    go_wp2_with fail
    go_region_held3 (fun V => V.cell? ⟨b, o, none⟩ = some (.int .u8 (n : Nat))) (first | (go_keep; done))
      (first | (go_at_call 15; refine hq.mono ?_; rintro e w4 ⟨k, rfl, s4, HX⟩))
    have HCk : Hid (0 ≤ 0 ∧ 0 ≤ maxLen) := ⟨Nat.le_refl _, by have := HN.out.2; unfold maxLen; omega⟩
    have hch := check_any (c := 0) (eg_de HX.out.1) (n : Nat)
    clear hq
    go_wp2_with fail
    refine hch.mono ?_
    rintro e w5 ⟨k5, x5, rfl, hF, hb5⟩
    have HB5 : Hid (Below w.heap.size w w5) := below_step HX.out.2 hb5
    have HE5 : Hid (EdgesAt w5 (some ⟨k, 0, none⟩) (edges (de g) 0)) := HX.out.1.below hb5
    rcases fault_or (n : Nat) 0 (de g) with hv | ⟨k', x', hF', hx'⟩
    · obtain ⟨rfl, rfl⟩ := hF.one hv.fault
      have HV : Hid (Valid (n : Nat) 0 (de g)) := hv
      have he : errV 0 = .nilIface := rfl
      rw [he]
      clear hch hF hb5 hv he
      go_wp2_with fail
      go_ret3
      exact ⟨Or.inl ⟨HV.out, _, _, rfl, HE5.out, HCk.out⟩, HB5.out⟩
    · obtain ⟨rfl, rfl⟩ := hF.one hF'
      have HV : Hid (¬ Valid (n : Nat) 0 (de g)) := fun hv => hx' (hF.one hv.fault).2
      have he : errV x5 = .iface 39 (.int .i64 x5) := if_neg hx'
      rw [he]
      clear hch hF hb5 hF' hx' he
      go_wp2_with fail
      go_ret3
      exact ⟨Or.inr ⟨HV.out, rfl⟩, HB5.out⟩
  · have hq := hfin (some ⟨b, o + 2, none⟩) (by
      have := bt_tail (HH.out.below hbd)
      rw [show N - 2 = 2 * M by omega] at this
      exact this)
    rw [show 2 * M = N - 2 by omega] at hq
    have i0n : 0 < N := by omega
    clear hfin hN hb0 hb1 hbd
    go_enter Tryd.func7, Tryd.ntmps7
    go_wp2_with fail
    go_region_held3 (fun V => V.cell? ⟨b, o, none⟩ = some (.int .u8 (n : Nat))) (first | (go_keep; done))
      (first | (go_at_call 15; refine hq.mono ?_; rintro e w4 ⟨k, rfl, s4, HX⟩))
    have HCk : Hid (M ≤ M ∧ M ≤ maxLen) := ⟨Nat.le_refl _, by have := HN.out.2; unfold maxLen; omega⟩
    have hch := check_any (c := M) (eg_de HX.out.1) (n : Nat)
    clear hq
    go_wp2_with fail
    refine hch.mono ?_
    rintro e w5 ⟨k5, x5, rfl, hF, hb5⟩
    have HB5 : Hid (Below w.heap.size w w5) := below_step HX.out.2 hb5
    have HE5 : Hid (EdgesAt w5 (some ⟨k, 0, none⟩) (edges (de g) M)) := HX.out.1.below hb5
    rcases fault_or (n : Nat) M (de g) with hv | ⟨k', x', hF', hx'⟩
    · obtain ⟨rfl, rfl⟩ := hF.one hv.fault
      have HV : Hid (Valid (n : Nat) M (de g)) := hv
      have he : errV 0 = .nilIface := rfl
      rw [he]
      clear hch hF hb5 hv he
      go_wp2_with fail
      go_ret3
      exact ⟨Or.inl ⟨HV.out, _, _, rfl, HE5.out, HCk.out⟩, HB5.out⟩
    · obtain ⟨rfl, rfl⟩ := hF.one hF'
      have HV : Hid (¬ Valid (n : Nat) M (de g)) := fun hv => hx' (hF.one hv.fault).2
      have he : errV x5 = .iface 39 (.int .i64 x5) := if_neg hx'
      rw [he]
      clear hch hF hb5 hF' hx' he
      go_wp2_with fail
      go_ret3
      exact ⟨Or.inr ⟨HV.out, rfl⟩, HB5.out⟩

/-- Decode of any bytes. -/
theorem decode_any {a : Option Addr} {c : Nat} (h : BtAt w a N g) (hc : N ≤ c) (hc2 : c ≤ maxLen) :
    Calls Tryd.prog 7 #[.slice a N c] w fun e w' => ((Good N g ∧ ∃ a' c', e = .returned (.tuple #[.int .i64 (g 0 : Nat), .slice a' (g 1) c', .nilIface]) ∧ EdgesAt w' a' (edges (de g) (g 1)) ∧ g 1 ≤ c' ∧ c' ≤ maxLen) ∨ (¬ Good N g ∧ e = .returned (.tuple #[.int .i64 0, .slice none 0 0, .iface 39 (.int .i64 5)]))) ∧ Below w.heap.size w w' := by
  by_cases hno : N < 2 ∨ N ≠ 2 + 2 * g 1
  · exact (decode_short h hno).mono fun e w' ⟨h1, h2⟩ => ⟨Or.inr ⟨fun q => hno.elim (fun z => by have := q.1; omega) (fun z => z q.2.1), h1⟩, h2⟩
  · have hN : N = 2 + 2 * g 1 := Classical.byContradiction fun q => hno (Or.inr q)
    exact (decode_long h hc hc2 hN).mono fun e w' ⟨h1, h2⟩ => ⟨h1.imp (fun ⟨a, b⟩ => ⟨⟨by omega, hN, a⟩, b⟩) (fun ⟨a, b⟩ => ⟨fun q => a q.2.2, b⟩), h2⟩

end Go.Proofs.YtgmadfiibaeleacDoor.Nt
