/-
  Xa Mk
-/
import Derived.Test.YtcfemppdeidjmacGreatW15
import Derived.Test.YtcfemppdeidjmacGreatW16
import Derived.Test.YtcfemppdeidjmacGreatW13
namespace Go.Proofs.YtcfemppdeidjmacGreat.To
set_option linter.unusedSectionVars false
variable [Inhabited Zed] [Inhabited (PLift ((default : Zed).n ≤ 0))]
open Go.RowKit Go.Deep
open Go.RowKit (Below)
set_option linter.unusedVariables false

variable {w w' wr w0 : World} {G : Gr.GPl} {A : List (Nat × Nat)} {lv : Nat × Nat → Nat} {tr : Nat × Nat → Bool} {m n j : Nat} {f : Nat → Int × Int × Int}

def Dr (w0 : World) (G : Gr.GPl) (A : List (Nat × Nat)) (w : World) : Prop := ∃ lv tr, Gr.GW w0 G A lv tr w

theorem Dr.step (h : Dr w0 G A w) (hb : Below w.heap.size w w') : Dr w0 G A w' := by
  obtain ⟨lv, tr, h⟩ := h
  exact ⟨lv, tr, h.step hb⟩
theorem Dr.old (h : Dr w0 G A w) : Below w0.heap.size w0 w := by
  obtain ⟨lv, tr, h⟩ := h
  exact h.below

set_option maxRecDepth 100000 in
set_option maxHeartbeats 4000000 in
theorem drawn_no {ad : Option Addr} {c : Nat} (n : Int) (hn : n < 1 ∨ 60 < n) :
    Calls Tryz.prog 9 #[.int .i64 n, .slice ad m c] w fun e w' => e = .returned (.tuple #[.pointer none, .bool false]) ∧ w' = w := by
  go_enter Tryz.func9, Tryz.ntmps9
  go_wp2_with fail
  refine (Gr.gnew_no n hn).mono ?_
  rintro e w1 ⟨rfl, rfl⟩
  go_wp2_with fail
  go_ret2
  exact ⟨rfl, rfl⟩

set_option maxRecDepth 100000 in
set_option maxHeartbeats 8000000 in
theorem drawn_any {ad : Option Addr} {c : Nat} (h : As.EvAt w ad m f) (n : Nat) (h1 : 1 ≤ n) (h2 : n ≤ 60) :
    Calls Tryz.prog 9 #[.int .i64 (n : Nat), .slice ad m c] w fun e w' => ∃ G : Gr.GPl, e = .returned (.tuple #[.pointer (some ⟨G.g, 0, none⟩), .bool true]) ∧ G.n = n ∧ ∃ A, Dr w G A w' ∧ A.length ≤ 120 := by
  have HH : Hid (As.EvAt w ad m f) := h
  clear h
  go_enter Tryz.func9, Tryz.ntmps9
  go_wp2_with fail
  refine (Gr.gnew_any n h1 h2 zok0).mono ?_
  rintro e w1 ⟨G, rfl, hb, hok, hn, hF⟩
  have H0 : Hid (Dr w G [] w1 ∧ G.n = n) := ⟨⟨_, _, hok, hb, fun c q => hF c (Or.inl q)⟩, hn⟩
  clear hb hok hn hF h1 h2
  go_wp2_with fail
  go_loopw [8] (fun i wr => ∃ j : Nat, j ≤ m ∧ j ≤ 120 ∧ i = .int .i64 (j : Nat) ∧ ∃ A, Dr w G A wr ∧ A.length ≤ j) (fun i _ => 120 - (intOf i).toNat)
  case atStart => exact ⟨0, Nat.zero_le _, Nat.zero_le _, rfl, [], H0.out.1, Nat.le_refl _⟩
  case round =>
    obtain ⟨j, hj, hj2, rfl, A, hd, hl⟩ := hrel
    have HL : Hid (Dr w G A wr ∧ A.length ≤ j) := ⟨hd, hl⟩
    clear hd hl
    by_cases hlt : j < m ∧ j < 120
    · obtain ⟨hlm, hl120⟩ := hlt
      obtain ⟨bl, o, rfl, c0, c1, c2⟩ := HH.out j hlm
      obtain ⟨x, hx⟩ : ∃ x, (f j).1 = x := ⟨_, rfl⟩
      obtain ⟨a, ha⟩ : ∃ a, (f j).2.1 = a := ⟨_, rfl⟩
      obtain ⟨b, hb⟩ : ∃ b, (f j).2.2 = b := ⟨_, rfl⟩
      rw [hx] at c0
      rw [ha] at c1
      rw [hb] at c2
      have HC : Hid (∀ w', Below w.heap.size w w' → w'.cell? ⟨bl, o + j * 3, none⟩ = some (.int .i64 x) ∧ w'.cell? ⟨bl, o + j * 3 + 1, none⟩ = some (.int .i64 a) ∧ w'.cell? ⟨bl, o + j * 3 + 2, none⟩ = some (.int .i64 b)) := fun w' hb => ⟨cell_keep hb c0, cell_keep hb c1, cell_keep hb c2⟩
      obtain ⟨q0, q1, q2⟩ := HC.out wr HL.out.1.old
      have i0 : (0 : Int) ≤ (j : Int) := by omega
      have i1 : (j : Int) < (m : Int) := by omega
      have i2 : (j : Int) < 120 := by omega
      have j5 : IntKind.i64.wrap ((j : Int) + 1) = (j : Int) + 1 := by rw [IntKind.wrap_i64]; omega
      have hch : ∀ {e : Ending} {w' : World} {lv : Nat × Nat → Nat}, Gr.Changed w wr.drew G A lv e w' → ∃ v, e = .returned v ∧ (w'.cell? ⟨bl, o + j * 3 + 1, none⟩ = some (.int .i64 a) ∧ w'.cell? ⟨bl, o + j * 3 + 2, none⟩ = some (.int .i64 b)) ∧ Hid (∃ A', Dr w G A' w' ∧ A'.length ≤ j + 1) := by
        rintro e w' lv ⟨v, A', lv', tr', rfl, -, h3, h4⟩
        have := HL.out.2
        have := h4.len
        exact ⟨v, rfl, ⟨(HC.out w' h3.below).2.1, (HC.out w' h3.below).2.2⟩, A', ⟨lv', tr', h3⟩, by omega⟩
      obtain ⟨lv, tr, hgw⟩ := HL.out.1
      have hg2 := hgw.step ((Below.refl _ _).drew : Below wr.heap.size wr wr.drew)
      clear c0 c1 c2 hx ha hb
      by_cases hw : x = 2
      · have t0 : (x == (2 : Int)) = true := by rw [hw]; exact beq_self_eq_true _
        have HJ : Hid (Calls Tryz.prog 28 #[.pointer (some ⟨G.g, 0, none⟩), .int .i64 a, .int .i64 b] wr.drew fun e w' => ∃ v, e = .returned v ∧ (w'.cell? ⟨bl, o + j * 3 + 1, none⟩ = some (.int .i64 a) ∧ w'.cell? ⟨bl, o + j * 3 + 2, none⟩ = some (.int .i64 b)) ∧ Hid (∃ A', Dr w G A' w' ∧ A'.length ≤ j + 1)) := (Gr.drop_u hg2 a b).mono fun e w' h => hch h
        clear hch hgw hg2 hw
        go_wp2_with fail
        go_region_held3 (fun V => V.cell? ⟨bl, o + j * 3 + 1, none⟩ = some (.int .i64 a) ∧ V.cell? ⟨bl, o + j * 3 + 2, none⟩ = some (.int .i64 b)) (first | (go_keep; done) | exact ⟨q1, q2⟩)
          (first | (go_at_call 28; refine HJ.out.mono ?_; rintro e w5 ⟨v5, rfl, s5, H5⟩))
        go_wp2_with fail
        go_roundw
        case rel => exact ⟨j + 1, by omega, by omega, by go_num, H5.out⟩
        case measure => simp [intOf]; omega
      · have t0 : (x == (2 : Int)) = false := by rw [beq_eq_false_iff_ne]; exact hw
        have HJ : Hid (Calls Tryz.prog 29 #[.pointer (some ⟨G.g, 0, none⟩), .int .i64 a, .int .i64 b] wr.drew fun e w' => ∃ v, e = .returned v ∧ (w'.cell? ⟨bl, o + j * 3 + 1, none⟩ = some (.int .i64 a) ∧ w'.cell? ⟨bl, o + j * 3 + 2, none⟩ = some (.int .i64 b)) ∧ Hid (∃ A', Dr w G A' w' ∧ A'.length ≤ j + 1)) := (Gr.add_u hg2 a b (by have := HL.out.2; omega)).mono fun e w' h => hch h
        clear hch hgw hg2 hw
        go_wp2_with fail
        go_region_held3 (fun V => V.cell? ⟨bl, o + j * 3 + 1, none⟩ = some (.int .i64 a) ∧ V.cell? ⟨bl, o + j * 3 + 2, none⟩ = some (.int .i64 b)) (first | (go_keep; done) | exact ⟨q1, q2⟩)
          (first | (go_at_call 29; refine HJ.out.mono ?_; rintro e w5 ⟨v5, rfl, s5, H5⟩))
        go_wp2_with fail
        go_roundw
        case rel => exact ⟨j + 1, by omega, by omega, by go_num, H5.out⟩
        case measure => simp [intOf]; omega
    · have HL2 : Hid (∃ A, Dr w G A wr ∧ A.length ≤ 120) := ⟨A, HL.out.1, by have := HL.out.2; omega⟩
      by_cases hlm : j < m
      · have i1 : (j : Int) < (m : Int) := by omega
        have i2 : ¬ (j : Int) < 120 := by omega
        clear hlt
        go_wp2_with fail
        go_ret2
        exact ⟨G, rfl, H0.out.2, HL2.out⟩
      · have i1 : ¬ (j : Int) < (m : Int) := by omega
        clear hlt
        go_wp2_with fail
        go_ret2
        exact ⟨G, rfl, H0.out.2, HL2.out⟩

end Go.Proofs.YtcfemppdeidjmacGreat.To

namespace Go.Proofs.YtcfemppdeidjmacGreat
set_option linter.unusedSectionVars false
variable [Inhabited Zed]
open Go.RowKit Go.Deep
set_option linter.unusedVariables false

variable {w w' : World} {L : Pl} {p p' : Nat → Nat} {E E' : List (Nat × Nat)}

theorem FAt.foot_lt (f : FAt w L E p) {k : Nat} (hk : Foot L k) : k < w.heap.size := by
  obtain ⟨DW, DE, m, -⟩ := f.mem
  exact m.foot_lt hk

end Go.Proofs.YtcfemppdeidjmacGreat

namespace Go.Proofs.YtcfemppdeidjmacGreat
set_option linter.unusedSectionVars false
variable [Inhabited Zed]
open Go.RowKit Go.Deep
set_option linter.unusedVariables false

end Go.Proofs.YtcfemppdeidjmacGreat
