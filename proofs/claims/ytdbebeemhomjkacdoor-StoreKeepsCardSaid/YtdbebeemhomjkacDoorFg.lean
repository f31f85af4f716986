/-
  The landed store: lay (bytes on pages).
-/
import Derived.Test.YtdbebeemhomjkacDoorFf
namespace Go.Proofs.YtdbebeemhomjkacDoor.Sk
open Go.RowKit Go.Deep Go.Proofs.YtdbebeemhomjkacDoor.Dk
open Go.RowKit (Below)
set_option linter.unusedVariables false

variable {w w' : World} {D : Dk.Face} {B n : Nat} {d : Value} {S S' : St} {F F' : Nat → Prop} {l : List UInt8}

/-- A disk behind j pages of these bytes, written from page o on. -/
def laid (S : St) (o : Nat) (l : List UInt8) : Nat → St
  | 0 => S
  | j + 1 => wrote (laid S o l j) (o + j) (pad (chunk l j))

theorem laid_len (S : St) (o : Nat) (l : List UInt8) : ∀ j, (laid S o l j).wr.length = S.wr.length + j
  | 0 => rfl
  | j + 1 => by
    show ((laid S o l j).wr ++ [_]).length = _
    rw [List.length_append, laid_len S o l j]
    rfl

/-- How lay ends, and what state it leaves. -/
def Laidp (S : St) (o : Nat) (l : List UInt8) (y : Int) (S' : St) : Prop :=
  (∃ j, 32 * j < l.length ∧ Off (laid S o l j) ∧ y = 8 ∧ S' = fall (laid S o l j)) ∨ (∃ j, l.length ≤ 32 * j ∧ 32 * j < l.length + 32 ∧ y = 0 ∧ S' = laid S o l j)

/-- A stretch of bytes. -/
theorem bt_cut {b o q m : Nat} (h : BtAt w (some ⟨b, o, none⟩) l) : BtAt w (some ⟨b, o + q, none⟩) ((l.drop q).take m) := fun i hi => by
  rw [List.length_take, List.length_drop] at hi
  obtain ⟨b', o', e, hc⟩ := h (q + i) (by omega)
  cases e
  refine ⟨b, o + q, rfl, ?_⟩
  rw [List.getD_eq_getElem?_getD, List.getElem?_take_of_lt (by omega), List.getElem?_drop, ← List.getD_eq_getElem?_getD, Nat.add_assoc]
  exact hc

set_option maxRecDepth 100000 in
set_option maxHeartbeats 4000000 in
theorem lay_any (O : DiskOk D) (h : D w B d n S F) (hB : B ≤ w.heap.size) (hw : S.wr.length ≤ 800) (hn : 62 ≤ n) {x : Nat} {L t : Int} (hx : x ≤ 1) {a : Option Addr} {c : Nat} (ha : BtAt w a l) (hc : l.length ≤ c) (hc2 : c ≤ maxLen)
    (hF : l ≠ [] → ∀ b o, a = some ⟨b, o, none⟩ → ¬ F b) (hl : l.length ≤ 960) :
    Calls Tryd.prog 54 #[d, .agg #[.int .i64 (x : Nat), .int .i64 L, .int .i64 t], .slice a l.length c] w fun e w' => ∃ v y S' F', e = .returned v ∧ Er v y ∧ Laidp S (at0 x) l y S' ∧ D w' B d n S' F' ∧ (∀ b, F' b → F b ∨ w.heap.size ≤ b) ∧ Turn F w w' := by
  have b1 : Below w.heap.size w (w.alloc (.cells #[.int .i64 (x : Nat), .int .i64 L, .int .i64 t] 93)) := (Below.refl _ _).alloc (Nat.le_refl _) _
  have HP : Hid (DiskOk D ∧ D w B d n S F ∧ B ≤ w.heap.size ∧ S.wr.length ≤ 800 ∧ 62 ≤ n ∧ x ≤ 1) := ⟨O, h, hB, hw, hn, hx⟩
  have HA : Hid (BtAt w a l ∧ l.length ≤ c ∧ c ≤ maxLen ∧ (l ≠ [] → ∀ b o, a = some ⟨b, o, none⟩ → ¬ F b) ∧ l.length ≤ 960) := ⟨ha, hc, hc2, hF, hl⟩
  obtain ⟨W1, hW1⟩ : ∃ W1, w.alloc (.cells #[.int .i64 (x : Nat), .int .i64 L, .int .i64 t] 93) = W1 := ⟨_, rfl⟩
  have r1 := row3_new w (x : Nat) L t
  rw [hW1] at b1 r1
  have e0 : W1.cell? ⟨w.heap.size, 0, none⟩ = some (.int .i64 (x : Nat)) := r1.cell (i := 0) (by omega)
  have H1 : Hid (Below w.heap.size w W1) := b1
  have HL : Hid (at0 x ≤ 31) := show _ ≤ _ by unfold at0; omega
  clear b1 r1 O h hB hw hn hx ha hc hc2 hF hl
  obtain ⟨N, hN⟩ : ∃ N, l.length = N := ⟨_, rfl⟩
  rw [hN]
  have HN : Hid (l.length = N) := hN
  clear hN
  go_enter Tryd.func54, Tryd.ntmps54
  go_wp2_with fail
  refine (start_any x HP.out.2.2.2.2.2).mono ?_
  rintro e w9 ⟨rfl, rfl⟩
  obtain ⟨o0, ho0⟩ : ∃ o0, at0 x = o0 := ⟨_, rfl⟩
  rw [ho0]
  have HO0 : Hid (at0 x = o0 ∧ o0 ≤ 31) := ⟨ho0, ho0 ▸ HL.out⟩
  clear ho0 e0 hW1 HL
  go_wp2_with fail
  go_loopw [7, 8] (fun at_ fr wr => ∃ (j : Nat) (Fj : Nat → Prop), 32 * j < N + 32 ∧ at_ = .int .i64 ((o0 + j : Nat) : Int) ∧ fr = .int .i64 ((32 * j : Nat) : Int) ∧ D wr B d n (laid S o0 l j) Fj ∧ (∀ b, Fj b → F b ∨ w.heap.size ≤ b) ∧ Turn F w wr) (fun _ fr _ => N + 32 - (intOf fr).toNat)
  case atStart => exact ⟨0, F, by omega, rfl, rfl, dk_below HP.out.1 HP.out.2.1 H1.out, fun b q => Or.inl q, Turn.of_below H1.out⟩
  case round =>
    obtain ⟨j, Fj, hj, rfl, rfl, hd, hf, ht⟩ := hrel
    have HJ : Hid (D wr B d n (laid S o0 l j) Fj ∧ (∀ b, Fj b → F b ∨ w.heap.size ≤ b) ∧ Turn F w wr) := ⟨hd, hf, ht⟩
    clear hd hf ht H1
    obtain ⟨q, hq⟩ : ∃ q, 32 * j = q := ⟨_, rfl⟩
    rw [hq]
    have HQ : Hid (32 * j = q ∧ 32 * j < N + 32 ∧ N ≤ 960 ∧ N ≤ c) := ⟨hq, hj, HN.out ▸ HA.out.2.2.2.2, HN.out ▸ HA.out.2.1⟩
    obtain ⟨p, hp⟩ : ∃ p, o0 + j = p := ⟨_, rfl⟩
    rw [hp]
    have HPp : Hid (o0 + j = p) := hp
    by_cases hlt : q < N
    · have i0 : (q : Int) < (N : Int) := by omega
      have i1 : IntKind.i64.wrap ((q : Int) + 32) = (q : Int) + 32 := by rw [IntKind.wrap_i64]; have := HQ.out; omega
      have i2 : IntKind.i64.wrap ((p : Int) + 1) = (p : Int) + 1 := by rw [IntKind.wrap_i64]; have := HQ.out; have := HO0.out; omega
      obtain ⟨H, hH⟩ : ∃ H, min (q + 32) N = H := ⟨_, rfl⟩
      have i3 : min ((q : Int) + 32) (N : Int) = (H : Int) := by omega
      have i4 : (0 : Int) ≤ (q : Int) := by omega
      have i5 : (q : Int) ≤ (H : Int) := by omega
      have i6 : (H : Int) ≤ (c : Int) := by have := HQ.out; omega
      have i7 : ¬ c = q := by have := HQ.out; omega
      obtain ⟨b, o, rfl⟩ : ∃ b o, a = some ⟨b, o, none⟩ := by
        obtain ⟨b, o, e, _⟩ := HA.out.1 0 (by have := HN.out; omega)
        exact ⟨b, o, e⟩
      clear hj hq hp
      go_wp2_with fail
      have hcl : (chunk l j).length = H - q := by
        unfold chunk
        rw [List.length_take, List.length_drop, HN.out]
        have := HQ.out
        omega
      have hbt : BtAt wr (some ⟨b, o + q, none⟩) (chunk l j) := by
        have h1 := Dk.L.bt_turn HA.out.1 HJ.out.2.2 HA.out.2.2.2.1
        have h2 := bt_cut (q := 32 * j) (m := 32) h1
        rw [HQ.out.1] at h2
        unfold chunk
        rw [HQ.out.1]
        exact h2
      have hne : l ≠ [] := fun e => by have := HN.out; rw [e] at this; simp at this; omega
      have hwr := HP.out.1.write (l := chunk l j) (a := some ⟨b, o + q, none⟩) (c := c - q) (p : Int) HJ.out.1 (Nat.le_trans HP.out.2.2.1 HJ.out.2.2.size) hbt (by rw [hcl]; have := HQ.out; omega) (by have := HA.out.2.2.1; omega)
        (fun _ b' o' e z => by
          cases e
          rcases HJ.out.2.1 b z with z | z
          · exact HA.out.2.2.2.1 hne b o rfl z
          · obtain ⟨b', o', e, hcell⟩ := HA.out.1 0 (by have := HN.out; omega)
            cases e
            have := World.block_lt_of_cell? _ _ hcell
            simp at this
            omega) (fun e => by cases e) (by rw [laid_len]; have := HP.out.2.2.2.1; have := HQ.out; omega)
      rw [hcl] at hwr
      refine hwr.mono ?_
      clear hwr hbt hcl
      rintro e W3 ⟨v, y, S3, F3, rfl, her, hwr, hd, hf, ht⟩
      have H3 : Hid (D W3 B d n S3 F3 ∧ (∀ b, F3 b → F b ∨ w.heap.size ≤ b) ∧ Turn F w W3) := ⟨hd, fun b z => (hf b z).elim (fun z => HJ.out.2.1 b z) fun z => Or.inr (Nat.le_trans HJ.out.2.2.size z), turn_step HJ.out.2.2 ht HJ.out.2.1⟩
      have hcase : (Off (laid S o0 l j) ∧ y = 8 ∧ S3 = fall (laid S o0 l j)) ∨ (y = 0 ∧ S3 = laid S o0 l (j + 1)) := by
        rcases hwr with ⟨h1, _⟩ | ⟨_, h1, _⟩ | ⟨_, _, h1, h2, h3⟩ | ⟨_, _, h1, h2, h3⟩
        · have := HP.out.2.2.2.2; have := HPp.out; have := HQ.out; have := HO0.out; omega
        · have := chunk_le l j; omega
        · exact Or.inl ⟨h1, h2, h3⟩
        · refine Or.inr ⟨h2, ?_⟩
          rw [h3]
          show _ = wrote (laid S o0 l j) (o0 + j) (pad (chunk l j))
          rw [HPp.out]
          rfl
      clear hwr hd hf ht HJ hH hne i3 i5 i6 i7
      rcases hcase with ⟨h1, rfl, rfl⟩ | ⟨rfl, rfl⟩
      · obtain rfl := Dk.Er.some her (by decide)
        have HO : Hid (Off (laid S o0 l j) ∧ 32 * j < l.length) := ⟨h1, by rw [HQ.out.1, HN.out]; exact hlt⟩
        clear h1
        go_wp2_with fail
        go_ret
        exact ⟨_, 8, _, _, rfl, her, Or.inl ⟨j, HO.out.2, by rw [HO0.out.1]; exact HO.out.1, rfl, by rw [HO0.out.1]⟩, H3.out⟩
      · obtain rfl := Dk.Er.nil her
        clear her
        go_wp2_with fail
        go_roundw
        case rel => exact ⟨j + 1, F3, by have := HQ.out; omega, by have := HPp.out; go_num, by have := HQ.out.1; go_num, H3.out⟩
        case measure => simp [intOf]; omega
    · have i0 : ¬ (q : Int) < (N : Int) := by omega
      clear hj hq hp
      go_wp2_with fail
      go_ret
      exact ⟨_, rfl, 0, Or.inl ⟨rfl, rfl⟩, _, Or.inr ⟨j, by have := HQ.out; have := HN.out; omega, by have := HQ.out; have := HN.out; omega, rfl, by rw [HO0.out.1]⟩, _, HJ.out⟩

end Go.Proofs.YtdbebeemhomjkacDoor.Sk
