/-
  The landed store: look, tell, start.
-/
import Derived.Test.YtdbebeemhomjkacDoorFd
import Derived.Test.YtdbebeemhomjkacDoorDd
namespace Go.Proofs.YtdbebeemhomjkacDoor.Sk
open Go.RowKit Go.Deep Go.Proofs.YtdbebeemhomjkacDoor.Dk
open Go.RowKit (Below)
set_option linter.unusedVariables false

variable {w w' : World} {D : Dk.Face} {B n : Nat} {d : Value} {S S' : St} {F F' : Nat → Prop}

theorem dk_below (O : DiskOk D) (h : D w B d n S F) (hb : Below w.heap.size w w') : D w' B d n S F := O.keep h hb.size fun b q => hb.block b (O.own h b q).2

theorem turn_step {W : World} {F3 : Nat → Prop} (h : Turn F w w') (h' : Turn F3 w' W) (hF : ∀ b, F3 b → F b ∨ w.heap.size ≤ b) : Turn F w W :=
  ⟨h'.os.trans h.os, h'.tape.trans h.tape, h'.output.trans h.output, Nat.le_trans h.size h'.size, fun k hk hn => (h'.block k (Nat.lt_of_lt_of_le hk h.size) fun q => (hF k q).elim hn fun q => by omega).trans (h.block k hk hn)⟩

/-- What stands on the first page. -/
structure Page0 (p : List UInt8) (x l t : Nat) : Prop where
  len : p.length = 32
  px : ∀ i, i < 1 → p.getD (16 + i) 0 = byt x i
  pl : ∀ i, i < 2 → p.getD (17 + i) 0 = byt l i
  pt : ∀ i, i < 8 → p.getD (19 + i) 0 = byt t i
  x1 : x ≤ 1
  l1 : l ≤ 960
  t1 : t ≤ 100000

theorem page0_head {x l t : Nat} (hx : x ≤ 1) (hl : l ≤ 960) (ht : t ≤ 100000) : Page0 (headP x l t) x l t :=
  ⟨headP_len x l t, fun i hi => by rw [headP_at _ _ _ _ (by omega), if_neg (by omega), if_pos (by omega), Nat.add_sub_cancel_left], fun i hi => by rw [headP_at _ _ _ _ (by omega), if_neg (by omega), if_neg (by omega), if_pos (by omega), Nat.add_sub_cancel_left],
   fun i hi => by rw [headP_at _ _ _ _ (by omega), if_neg (by omega), if_neg (by omega), if_neg (by omega), if_pos (by omega), Nat.add_sub_cancel_left], hx, hl, ht⟩
theorem blank_getD (i : Nat) : Dk.blank.getD i 0 = 0 := by
  unfold Dk.blank
  rw [List.getD_eq_getElem?_getD, List.getElem?_replicate]
  split <;> rfl
theorem page0_blank : Page0 Dk.blank 0 0 0 := ⟨blank_len, fun i _ => by rw [blank_getD, byt_zero], fun i _ => by rw [blank_getD, byt_zero], fun i _ => by rw [blank_getD, byt_zero], by omega, by omega, by omega⟩

set_option maxRecDepth 100000 in
set_option maxHeartbeats 2000000 in
theorem look_any (O : DiskOk D) (h : D w B d n S F) (hB : B ≤ w.heap.size) {x l t : Nat} (h0 : Page0 (S.now 0) x l t) (h1 : 1 ≤ n) :
    Calls Tryd.prog 40 #[d] w fun e w' => (∃ x' l' t' : Int, ∃ ok : Bool, e = .returned (.tuple #[.agg #[.int .i64 x', .int .i64 l', .int .i64 t'], .bool ok]) ∧ (62 ≤ n → S.now 0 = headP x l t → ok = true ∧ x' = (x : Nat) ∧ l' = (l : Nat) ∧ t' = (t : Nat)) ∧ (n < 62 ∨ S.now 0 ≠ headP x l t → ok = false)) ∧ Below w.heap.size w w' := by
  have b1 : Below w.heap.size w (w.alloc (.cells #[.int .i64 0, .int .i64 0, .int .i64 0] 93)) := (Below.refl _ _).alloc (Nat.le_refl _) _
  have r1 := row3_new w 0 0 0
  have k1 := dk_below O h b1
  obtain ⟨W1, hW1⟩ : ∃ W1, w.alloc (.cells #[.int .i64 0, .int .i64 0, .int .i64 0] 93) = W1 := ⟨_, rfl⟩
  rw [hW1] at b1 r1 k1
  have HP : Hid (DiskOk D ∧ Page0 (S.now 0) x l t ∧ B ≤ w.heap.size ∧ 1 ≤ n) := ⟨O, h0, hB, h1⟩
  have H1 : Hid (D W1 B d n S F ∧ Below w.heap.size w W1 ∧ W1.rowIs w.heap.size 93 3 (cells3 0 0 0)) := ⟨k1, b1, r1⟩
  clear b1 r1 k1 O h hB h0 h1
  go_enter Tryd.func40, Tryd.ntmps40
  go_wp2_with fail
  refine (HP.out.1.pages H1.out.1).mono ?_
  rintro e W2 ⟨rfl, hb⟩
  have H2 : Hid (D W2 B d n S F ∧ Below w.heap.size w W2 ∧ W2.rowIs w.heap.size 93 3 (cells3 0 0 0)) := ⟨dk_below HP.out.1 H1.out.1 hb, below_step H1.out.2.1 hb, H1.out.2.2.of_block (hb.block _ H1.out.2.2.lt)⟩
  clear hW1 hb H1
  by_cases hn : n < 62
  · have hn' : (n : Int) < 62 := by omega
    have HN : Hid (n < 62) := hn
    have e0 : W2.cell? ⟨w.heap.size, 0, none⟩ = some (.int .i64 0) := H2.out.2.2.cell (i := 0) (by omega)
    have e1 : W2.cell? ⟨w.heap.size, 1, none⟩ = some (.int .i64 0) := H2.out.2.2.cell (i := 1) (by omega)
    have e2 : W2.cell? ⟨w.heap.size, 2, none⟩ = some (.int .i64 0) := H2.out.2.2.cell (i := 2) (by omega)
    have z0 := H2.out.2.2.frozen
    have HS : Hid ((((W2.setCell ⟨w.heap.size, 0, none⟩ (.int .i64 0)).setCell ⟨w.heap.size, 1, none⟩ (.int .i64 0)).setCell ⟨w.heap.size, 2, none⟩ (.int .i64 0)).rowIs w.heap.size 93 3 (cells3 0 0 0) ∧ Below w.heap.size w (((W2.setCell ⟨w.heap.size, 0, none⟩ (.int .i64 0)).setCell ⟨w.heap.size, 1, none⟩ (.int .i64 0)).setCell ⟨w.heap.size, 2, none⟩ (.int .i64 0))) := ⟨row3_set H2.out.2.2, ((H2.out.2.1.setCell (Nat.le_refl _) _).setCell (Nat.le_refl _) _).setCell (Nat.le_refl _) _⟩
    clear hn
    go_wp2_with fail
    refine bodyPost_ret (results_row_tmp rfl _ _ w.heap.size 93 _ (0, 0) _ rfl (row3_block HS.out.1) Tryd.underlying93 rfl Tryd.sizeHead) rfl ?_
    exact ⟨⟨0, 0, 0, false, rfl, fun q => by have := HN.out; omega, fun _ => rfl⟩, HS.out.2⟩
  · have hn' : ¬ (n : Int) < 62 := by omega
    have HN : Hid (¬ n < 62) := hn
    clear hn
    go_wp2_with fail
    refine (HP.out.1.read_32 0 H2.out.1 (by have := HP.out.2.2.1; have := H2.out.2.1.size; omega) (by have := HN.out; omega)).mono ?_
    rintro e W3 ⟨k3, rfl, hlen, hbt, -, hb⟩
    have H3 : Hid (BtAt W3 (some ⟨k3, 0, none⟩) (S.now 0) ∧ Below w.heap.size w W3 ∧ W3.rowIs w.heap.size 93 3 (cells3 0 0 0)) := ⟨hbt, below_step H2.out.2.1 hb, H2.out.2.2.of_block (hb.block _ H2.out.2.2.lt)⟩
    clear hlen hbt hb H2
    go_wp2_with fail
    refine (headOf_any H3.out.1 HP.out.2.1.len HP.out.2.1.x1 HP.out.2.1.l1 HP.out.2.1.t1 HP.out.2.1.px HP.out.2.1.pl HP.out.2.1.pt).mono ?_
    rintro e W4 ⟨⟨x', l', t', rfl, hx⟩, hb⟩
    obtain ⟨ok, hok⟩ : ∃ ok, (S.now 0 == headP x l t) = ok := ⟨_, rfl⟩
    rw [hok]
    have HX : Hid ((S.now 0 = headP x l t → ok = true ∧ x' = (x : Nat) ∧ l' = (l : Nat) ∧ t' = (t : Nat)) ∧ (S.now 0 ≠ headP x l t → ok = false)) := ⟨fun q => ⟨hok ▸ beq_iff_eq.2 q, hx q⟩, fun q => hok ▸ beq_false_of_ne q⟩
    have hr4 : W4.rowIs w.heap.size 93 3 (cells3 0 0 0) := H3.out.2.2.of_block (hb.block _ H3.out.2.2.lt)
    have hb4 := below_step H3.out.2.1 hb
    have e0 : W4.cell? ⟨w.heap.size, 0, none⟩ = some (.int .i64 0) := hr4.cell (i := 0) (by omega)
    have e1 : W4.cell? ⟨w.heap.size, 1, none⟩ = some (.int .i64 0) := hr4.cell (i := 1) (by omega)
    have e2 : W4.cell? ⟨w.heap.size, 2, none⟩ = some (.int .i64 0) := hr4.cell (i := 2) (by omega)
    have z0 := hr4.frozen
    have HS : Hid ((((W4.setCell ⟨w.heap.size, 0, none⟩ (.int .i64 x')).setCell ⟨w.heap.size, 1, none⟩ (.int .i64 l')).setCell ⟨w.heap.size, 2, none⟩ (.int .i64 t')).rowIs w.heap.size 93 3 (cells3 x' l' t') ∧ Below w.heap.size w (((W4.setCell ⟨w.heap.size, 0, none⟩ (.int .i64 x')).setCell ⟨w.heap.size, 1, none⟩ (.int .i64 l')).setCell ⟨w.heap.size, 2, none⟩ (.int .i64 t'))) := ⟨row3_set hr4, ((hb4.setCell (Nat.le_refl _) _).setCell (Nat.le_refl _) _).setCell (Nat.le_refl _) _⟩
    clear hok hx hr4 hb hb4 H3
    go_wp2_with fail
    refine bodyPost_ret (results_row_tmp rfl _ _ w.heap.size 93 _ (0, 0) _ rfl (row3_block HS.out.1) Tryd.underlying93 rfl Tryd.sizeHead) rfl ?_
    exact ⟨⟨x', l', t', ok, rfl, fun _ q => HX.out.1 q, fun q => HX.out.2 (q.resolve_left HN.out)⟩, HS.out.2⟩

theorem start_any (h : Nat) (hh : h ≤ 1) : Calls Tryd.prog 53 #[.int .i64 (h : Nat)] w fun e w' => e = .returned (.int .i64 (at0 h : Nat)) ∧ w' = w := by
  have h1 : h = 0 ∨ h = 1 := by omega
  clear hh
  rcases h1 with rfl | rfl
  · go_enter Tryd.func53, Tryd.ntmps53
    go_wp2_with fail
    go_ret
    exact ⟨rfl, rfl⟩
  · go_enter Tryd.func53, Tryd.ntmps53
    go_wp2_with fail
    go_ret
    exact ⟨rfl, rfl⟩

/-- How tell ends, and what state it leaves. -/
def Tellp (S : St) (p : List UInt8) (x : Int) (S' : St) : Prop :=
  (Off S ∧ x = 8 ∧ S' = fall S) ∨ (¬ Off S ∧ Off (wrote S 0 p) ∧ x = 8 ∧ S' = fall (wrote S 0 p)) ∨ (¬ Off S ∧ ¬ Off (wrote S 0 p) ∧ x = 0 ∧ S' = synced (wrote S 0 p))

set_option maxRecDepth 100000 in
set_option maxHeartbeats 2000000 in
theorem tell_any (O : DiskOk D) (h : D w B d n S F) (hB : B ≤ w.heap.size) (hw : S.wr.length ≤ 900) (hn : 1 ≤ n) {x l t : Nat} (hx : x ≤ 1) (hl : l ≤ 960) (ht : t ≤ 100000) :
    Calls Tryd.prog 39 #[d, .agg #[.int .i64 (x : Nat), .int .i64 (l : Nat), .int .i64 (t : Nat)]] w fun e w' => ∃ v y S' F', e = .returned v ∧ Er v y ∧ Tellp S (headP x l t) y S' ∧ D w' B d n S' F' ∧ (∀ b, F' b → F b ∨ w.heap.size ≤ b) ∧ Turn F w w' := by
  have b1 : Below w.heap.size w (w.alloc (.cells #[.int .i64 (x : Nat), .int .i64 (l : Nat), .int .i64 (t : Nat)] 93)) := (Below.refl _ _).alloc (Nat.le_refl _) _
  have HP : Hid (DiskOk D ∧ D w B d n S F ∧ B ≤ w.heap.size ∧ S.wr.length ≤ 900 ∧ 1 ≤ n) := ⟨O, h, hB, hw, hn⟩
  have HPg : Hid (x ≤ 1 ∧ l ≤ 960 ∧ t ≤ 100000) := ⟨hx, hl, ht⟩
  obtain ⟨W1, hW1⟩ : ∃ W1, w.alloc (.cells #[.int .i64 (x : Nat), .int .i64 (l : Nat), .int .i64 (t : Nat)] 93) = W1 := ⟨_, rfl⟩
  have r1 := row3_new w (x : Nat) (l : Nat) (t : Nat)
  rw [hW1] at b1 r1
  have e0 : W1.cell? ⟨w.heap.size, 0, none⟩ = some (.int .i64 (x : Nat)) := r1.cell (i := 0) (by omega)
  have e1 : W1.cell? ⟨w.heap.size, 1, none⟩ = some (.int .i64 (l : Nat)) := r1.cell (i := 1) (by omega)
  have e2 : W1.cell? ⟨w.heap.size, 2, none⟩ = some (.int .i64 (t : Nat)) := r1.cell (i := 2) (by omega)
  have H1 : Hid (Below w.heap.size w W1) := b1
  clear b1 r1 O h hB hw hn hx hl ht
  go_enter Tryd.func39, Tryd.ntmps39
  go_wp2_with fail
  refine (page_any x l t HPg.out.1 HPg.out.2.1 HPg.out.2.2).mono ?_
  rintro e W2 ⟨k2, rfl, hbt, hk1, hk2, hb2⟩
  have H2 : Hid (Below w.heap.size w W2 ∧ BtAt W2 (some ⟨k2, 0, none⟩) (headP x l t) ∧ W1.heap.size ≤ k2) := ⟨below_step H1.out hb2, hbt, hk1⟩
  clear hW1 e0 e1 e2 hbt hk1 hk2 hb2
  go_wp2_with fail
  have hwr := HP.out.1.write (l := headP x l t) (c := 32) (a := some ⟨k2, 0, none⟩) 0 (dk_below HP.out.1 HP.out.2.1 H2.out.1) (Nat.le_trans HP.out.2.2.1 H2.out.1.size) H2.out.2.1 (by rw [headP_len]; exact Nat.le_refl _) (by decide)
    (fun _ b o e q => by cases e; have h1 := (HP.out.1.own HP.out.2.1 _ q).2; have h2 := H2.out.2.2; have h3 := H1.out.size; omega) (fun e => by cases e) (by have := HP.out.2.2.2.1; omega)
  rw [headP_len] at hwr
  refine hwr.mono ?_
  clear hwr
  rintro e W3 ⟨v, y, S3, F3, rfl, her, hwr, hd, hf, ht⟩
  have HPad : Hid (pad (headP x l t) = headP x l t) := headP_pad x l t
  have H3 : Hid (D W3 B d n S3 F3 ∧ (∀ b, F3 b → F b ∨ w.heap.size ≤ b) ∧ Turn F w W3) := ⟨hd, fun b q => (hf b q).imp id fun q => Nat.le_trans H2.out.1.size q, (Turn.of_below H2.out.1).trans ht⟩
  have hcase : (Off S ∧ y = 8 ∧ S3 = fall S) ∨ (¬ Off S ∧ y = 0 ∧ S3 = wrote S 0 (headP x l t)) := by
    rcases hwr with ⟨h1, _⟩ | ⟨_, h1, _⟩ | ⟨_, _, h1, h2, h3⟩ | ⟨_, _, h1, h2, h3⟩
    · have := HP.out.2.2.2.2; omega
    · rw [headP_len] at h1; omega
    · exact Or.inl ⟨h1, h2, h3⟩
    · rw [HPad.out] at h3; exact Or.inr ⟨h1, h2, h3⟩
  clear hwr hd hf ht H2 H1 HPad
  rcases hcase with ⟨h1, rfl, rfl⟩ | ⟨h1, rfl, rfl⟩
  · obtain rfl := her.some (by decide)
    have HO : Hid (Off S) := h1
    clear h1
    go_wp2_with fail
    go_ret
    exact ⟨_, 8, _, _, rfl, her, Or.inl ⟨HO.out, rfl, rfl⟩, H3.out⟩
  · obtain rfl := her.nil
    have HO : Hid (¬ Off S) := h1
    clear h1 her
    go_wp2_with fail
    refine (HP.out.1.sync H3.out.1 (Nat.le_trans HP.out.2.2.1 H3.out.2.2.size)).mono ?_
    rintro e W4 ⟨v, y, S4, F4, rfl, her, hsy, hd, hf, ht⟩
    have H4 : Hid (D W4 B d n S4 F4 ∧ (∀ b, F4 b → F b ∨ w.heap.size ≤ b) ∧ Turn F w W4) := ⟨hd, fun b q => (hf b q).elim (fun q => H3.out.2.1 b q) fun q => Or.inr (Nat.le_trans H3.out.2.2.size q), turn_step H3.out.2.2 ht H3.out.2.1⟩
    have HS : Hid (Er v y ∧ Syncs (wrote S 0 (headP x l t)) y S4) := ⟨her, hsy⟩
    clear her hsy hd hf ht
    go_wp2_with fail
    go_ret
    refine ⟨v, y, S4, F4, rfl, HS.out.1, ?_, H4.out⟩
    rcases HS.out.2 with ⟨h1, h2, h3⟩ | ⟨h1, h2, h3⟩
    · exact Or.inr (Or.inl ⟨HO.out, h1, h2, h3⟩)
    · exact Or.inr (Or.inr ⟨HO.out, h1, h2, h3⟩)

end Go.Proofs.YtdbebeemhomjkacDoor.Sk
