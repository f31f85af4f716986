/-
  A text's event: Parse of package note.
-/
import Derived.Test.YtgmadfiibaeleacDoorNp
namespace Go.Proofs.YtgmadfiibaeleacDoor.Nt
open Go.RowKit Go.Deep Go.Proofs.YtgmadfiibaeleacDoor.Br
open Go.RowKit (Below)
set_option linter.unusedVariables false

variable {w w' : World}

theorem guess_any (l : List UInt8) (hl : l.length ≤ 281474976710656) (hs : Senti w) : Calls Tryd.prog 13 #[.string (str l)] w fun e w' => ∃ k a b : Int, e = .returned (evv k a b) ∧ (∀ x, TextIs l x → x = (k, a, b)) ∧ Below w.heap.size w w' := by
  match l, hl with
  | [], _ =>
    exact guess_nil.mono fun e w' ⟨h1, h2⟩ => ⟨0, 0, 0, h1, fun x hx => (by obtain ⟨k, a, b, _, _, _, _, e⟩ := hx; cases e), h2⟩
  | c :: r, hl => exact guess_cons c r (by rw [List.length_cons] at hl; omega) hs

/-- What Parse tells. -/
def Reads (l : List UInt8) (e : Ending) : Prop := (∃ k a b : Int, TextIs l (k, a, b) ∧ e = .returned (.tuple #[evv k a b, .nilIface])) ∨ ((∀ x, ¬ TextIs l x) ∧ e = .returned (.tuple #[evv 0 0 0, .iface 39 (.int .i64 5)]))

theorem TextIs.ok {l : List UInt8} {k a b : Int} (h : TextIs l (k, a, b)) : EvOk k a b := by
  obtain ⟨k', a', b', h1, h2, h3, e, _⟩ := h
  injection e with e1 e2
  injection e2 with e2 e3
  subst e1 e2 e3
  refine ⟨by omega, by omega, by omega⟩

theorem str_inj {a b : List UInt8} (h : str a = str b) : a = b := by
  have := congrArg (fun s : ByteArray => s.data.toList) h
  exact this

set_option maxRecDepth 100000 in
set_option maxHeartbeats 1000000 in
theorem parse_any (l : List UInt8) (hl : l.length ≤ 281474976710656) (hs : Senti w) : Calls Tryd.prog 5 #[.string (str l)] w fun e w' => Reads l e ∧ Below w.heap.size w w' := by
  have hB0 : Below w.heap.size w (w.alloc (.cells #[.int .i64 0, .int .i64 0, .int .i64 0] 24)) := (Below.refl _ _).alloc (Nat.le_refl _) _
  have hg := guess_any (w := w.alloc (.cells #[.int .i64 0, .int .i64 0, .int .i64 0] 24)) l hl (hs.below hB0)
  have hR0 := row3_new w 0 0 0
  obtain ⟨s, hse⟩ : ∃ s, str l = s := ⟨_, rfl⟩
  have HSe : Hid (str l = s) := hse
  rw [hse] at hg ⊢
  clear hse hl hs
  go_enter Tryd.func5, Tryd.ntmps5
  go_wp2_with fail
  refine hg.mono ?_
  rintro e w1 ⟨k, a, b, rfl, hx, hb1⟩
  unfold evv
  have HX : Hid (∀ x, TextIs l x → x = (k, a, b)) := hx
  have HB1 : Hid (Below w.heap.size w (w1.alloc (.cells #[.int .i64 k, .int .i64 a, .int .i64 b] 24)) ∧ (w1.alloc (.cells #[.int .i64 k, .int .i64 a, .int .i64 b] 24)).rowIs w.heap.size 24 3 (cells3 0 0 0)) := ⟨(below_step hB0 hb1).alloc (below_step hB0 hb1).size _, (hR0.of_block (hb1.block _ hR0.lt)).alloc _⟩
  clear hg hx hb1 hB0 hR0
  by_cases hok : EvOk k a b
  · obtain ⟨k', a', b', e1, e2, e3, hk, ha, hb⟩ : ∃ k' a' b' : Nat, k = (k' : Nat) ∧ a = (a' : Nat) ∧ b = (b' : Nat) ∧ (1 ≤ k' ∧ k' ≤ 3) ∧ a' ≤ 59 ∧ b' ≤ 59 := by
      obtain ⟨h1, h2, h3⟩ := hok
      exact ⟨k.toNat, a.toNat, b.toNat, by omega, by omega, by omega, by omega, by omega, by omega⟩
    subst e1 e2 e3
    have ht := text_ok (w := w1.alloc (.cells #[.int .i64 (k' : Int), .int .i64 (a' : Int), .int .i64 (b' : Int)] 24)) hk ha hb
    unfold evv at ht
    obtain ⟨sa, hsa⟩ : ∃ sa, str (text k' a' b') = sa := ⟨_, rfl⟩
    have HSa : Hid (str (text k' a' b') = sa ∧ ((1 ≤ k' ∧ k' ≤ 3) ∧ a' ≤ 59 ∧ b' ≤ 59)) := ⟨hsa, hk, ha, hb⟩
    rw [hsa] at ht
    clear hok hsa hk ha hb
    go_wp2_with fail
    refine ht.mono ?_
    rintro e w2 ⟨rfl, hb2⟩
    clear ht
    have hbw : Below w.heap.size w w2 := below_step HB1.out.1 hb2
    have hr2 : w2.rowIs w.heap.size 24 3 (cells3 0 0 0) := HB1.out.2.of_block (hb2.block _ HB1.out.2.lt)
    have g0 : w2.cell? ⟨w.heap.size, 0, none⟩ = some (.int .i64 0) := hr2.cell (i := 0) (by omega)
    have g1 : w2.cell? ⟨w.heap.size, 1, none⟩ = some (.int .i64 0) := hr2.cell (i := 1) (by omega)
    have g2 : w2.cell? ⟨w.heap.size, 2, none⟩ = some (.int .i64 0) := hr2.cell (i := 2) (by omega)
    have z0 := hr2.frozen
    by_cases heq : sa = s
    · have HT : Hid (TextIs l ((k' : Int), (a' : Int), (b' : Int))) := ⟨k', a', b', HSa.out.2.1, HSa.out.2.2.1, HSa.out.2.2.2, rfl, str_inj (by rw [HSe.out, HSa.out.1, heq])⟩
      have hE := row3_new w1 (k' : Int) (a' : Int) (b' : Int)
      have hE2 := hE.of_block (hb2.block _ hE.lt)
      have f0 : w2.cell? ⟨w1.heap.size, 0, none⟩ = some (.int .i64 (k' : Int)) := hE2.cell (i := 0) (by omega)
      have f1 : w2.cell? ⟨w1.heap.size, 1, none⟩ = some (.int .i64 (a' : Int)) := hE2.cell (i := 1) (by omega)
      have f2 : w2.cell? ⟨w1.heap.size, 2, none⟩ = some (.int .i64 (b' : Int)) := hE2.cell (i := 2) (by omega)
      have HR : Hid ((((w2.setCell ⟨w.heap.size, 0, none⟩ (.int .i64 (k' : Int))).setCell ⟨w.heap.size, 1, none⟩ (.int .i64 (a' : Int))).setCell ⟨w.heap.size, 2, none⟩ (.int .i64 (b' : Int))).rowIs w.heap.size 24 3 (cells3 (k' : Int) (a' : Int) (b' : Int))) := row3_set hr2
      have HB2 : Hid (Below w.heap.size w (((w2.setCell ⟨w.heap.size, 0, none⟩ (.int .i64 (k' : Int))).setCell ⟨w.heap.size, 1, none⟩ (.int .i64 (a' : Int))).setCell ⟨w.heap.size, 2, none⟩ (.int .i64 (b' : Int)))) := ((hbw.setCell (Nat.le_refl _) _).setCell (Nat.le_refl _) _).setCell (Nat.le_refl _) _
      clear hE hE2 hb2 hr2 hbw
      subst heq
      go_wp2_with fail
      refine bodyPost_ret (results_row_tmp rfl _ _ w.heap.size 24 _ (0, 0) _ rfl (row3_block HR.out) Tryd.underlying24 rfl Tryd.sizeEvent) rfl ?_
      exact ⟨Or.inl ⟨_, _, _, HT.out, rfl⟩, HB2.out⟩
    · have HT : Hid (∀ x, ¬ TextIs l x) := fun x hx => by
        obtain rfl := HX.out x hx
        obtain ⟨k2, a2, b2, _, _, _, e, el⟩ := hx
        injection e with e1 e2
        injection e2 with e2 e3
        refine heq ?_
        rw [← HSa.out.1, ← HSe.out, el, Int.ofNat.inj e1, Int.ofNat.inj e2, Int.ofNat.inj e3]
      have hne : (sa.toList == s.toList) = false := by
        rw [beq_eq_false_iff_ne, Lib.toList_data, Lib.toList_data]
        exact fun q => heq (WideShapes.bytes_inj q)
      have HR : Hid ((((w2.setCell ⟨w.heap.size, 0, none⟩ (.int .i64 0)).setCell ⟨w.heap.size, 1, none⟩ (.int .i64 0)).setCell ⟨w.heap.size, 2, none⟩ (.int .i64 0)).rowIs w.heap.size 24 3 (cells3 0 0 0)) := row3_set hr2
      have HB2 : Hid (Below w.heap.size w (((w2.setCell ⟨w.heap.size, 0, none⟩ (.int .i64 0)).setCell ⟨w.heap.size, 1, none⟩ (.int .i64 0)).setCell ⟨w.heap.size, 2, none⟩ (.int .i64 0))) := ((hbw.setCell (Nat.le_refl _) _).setCell (Nat.le_refl _) _).setCell (Nat.le_refl _) _
      clear hb2 hr2 hbw heq
      go_wp2_with fail
      refine bodyPost_ret (results_row_tmp rfl _ _ w.heap.size 24 _ (0, 0) _ rfl (row3_block HR.out) Tryd.underlying24 rfl Tryd.sizeEvent) rfl ?_
      exact ⟨Or.inr ⟨HT.out, rfl⟩, HB2.out⟩
  · have HT : Hid (∀ x, ¬ TextIs l x) := fun x hx => by
      obtain rfl := HX.out x hx
      exact hok hx.ok
    have ht := text_no (w := w1.alloc (.cells #[.int .i64 k, .int .i64 a, .int .i64 b] 24)) k a b hok
    unfold evv at ht
    clear hok
    go_wp2_with fail
    refine ht.mono ?_
    rintro e w2 ⟨rfl, hb2⟩
    clear ht
    have hbw : Below w.heap.size w w2 := below_step HB1.out.1 hb2
    have hr2 : w2.rowIs w.heap.size 24 3 (cells3 0 0 0) := HB1.out.2.of_block (hb2.block _ HB1.out.2.lt)
    have g0 : w2.cell? ⟨w.heap.size, 0, none⟩ = some (.int .i64 0) := hr2.cell (i := 0) (by omega)
    have g1 : w2.cell? ⟨w.heap.size, 1, none⟩ = some (.int .i64 0) := hr2.cell (i := 1) (by omega)
    have g2 : w2.cell? ⟨w.heap.size, 2, none⟩ = some (.int .i64 0) := hr2.cell (i := 2) (by omega)
    have z0 := hr2.frozen
    have HR : Hid ((((w2.setCell ⟨w.heap.size, 0, none⟩ (.int .i64 0)).setCell ⟨w.heap.size, 1, none⟩ (.int .i64 0)).setCell ⟨w.heap.size, 2, none⟩ (.int .i64 0)).rowIs w.heap.size 24 3 (cells3 0 0 0)) := row3_set hr2
    have HB2 : Hid (Below w.heap.size w (((w2.setCell ⟨w.heap.size, 0, none⟩ (.int .i64 0)).setCell ⟨w.heap.size, 1, none⟩ (.int .i64 0)).setCell ⟨w.heap.size, 2, none⟩ (.int .i64 0))) := ((hbw.setCell (Nat.le_refl _) _).setCell (Nat.le_refl _) _).setCell (Nat.le_refl _) _
    clear hb2 hr2 hbw
    go_wp2_with fail
    refine bodyPost_ret (results_row_tmp rfl _ _ w.heap.size 24 _ (0, 0) _ rfl (row3_block HR.out) Tryd.underlying24 rfl Tryd.sizeEvent) rfl ?_
    exact ⟨Or.inr ⟨HT.out, rfl⟩, HB2.out⟩

end Go.Proofs.YtgmadfiibaeleacDoor.Nt
