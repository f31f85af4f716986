/-
  The landed store: replace; what a crash may leave.
-/
import Derived.Test.YtdbebeemhomjkacDoorFh
namespace Go.Proofs.YtdbebeemhomjkacDoor.Sk
open Go.RowKit Go.Deep Go.Proofs.YtdbebeemhomjkacDoor.Dk
open Go.RowKit (Below)
set_option linter.unusedVariables false

variable {w w' : World} {D : Dk.Face} {B n : Nat} {d : Value} {S S' : St} {F F' : Nat → Prop} {l : List UInt8}

/-! ### states, plain -/

theorem laid_kept (S : St) (o : Nat) (l : List UInt8) : ∀ j, (laid S o l j).kept = S.kept
  | 0 => rfl
  | j + 1 => laid_kept S o l j
theorem laid_down (S : St) (o : Nat) (l : List UInt8) : ∀ j, (laid S o l j).down = S.down
  | 0 => rfl
  | j + 1 => laid_down S o l j
theorem less_left {s : St} (h : s.left = -1) : (less s).left = -1 := by
  show (if 0 < s.left then _ else _) = _
  rw [h]
  rfl
theorem laid_left {S : St} {o : Nat} {l : List UInt8} (h : S.left = -1) : ∀ j, (laid S o l j).left = -1
  | 0 => h
  | j + 1 => less_left (laid_left h j)
theorem less_ge {s : St} (h : -1 ≤ s.left) : -1 ≤ (less s).left := by
  show -1 ≤ (if 0 < s.left then _ else _)
  split <;> omega
theorem laid_ge {S : St} {o : Nat} {l : List UInt8} (h : -1 ≤ S.left) : ∀ j, -1 ≤ (laid S o l j).left
  | 0 => h
  | j + 1 => less_ge (laid_ge h j)
theorem laid_out (S : St) (o : Nat) (l : List UInt8) {a : Nat} : ∀ j, (∀ i, i < j → a ≠ o + i) → (laid S o l j).now a = S.now a
  | 0, _ => rfl
  | j + 1, h => by
    show upd (laid S o l j).now (o + j) (pad (chunk l j)) a = _
    rw [upd_other _ _ (h j (Nat.lt_succ_self j)), laid_out S o l j fun i hi => h i (Nat.lt_succ_of_lt hi)]
theorem laid_in (S : St) (o : Nat) (l : List UInt8) {i : Nat} : ∀ j, i < j → (laid S o l j).now (o + i) = pad (chunk l i)
  | j + 1, h => by
    show upd (laid S o l j).now (o + j) (pad (chunk l j)) (o + i) = _
    by_cases e : i = j
    · rw [e, upd_same]
    · rw [upd_other _ _ (by omega), laid_in S o l j (by omega)]
theorem laid_wr {S : St} {o : Nat} {l : List UInt8} (h : S.wr = []) : ∀ j, ∀ x ∈ (laid S o l j).wr, o ≤ x.1 ∧ x.1 < o + j
  | 0, x, hx => by rw [show (laid S o l 0).wr = [] from h] at hx; cases hx
  | j + 1, x, hx => by
    rcases List.mem_append.1 (show x ∈ (laid S o l j).wr ++ [(o + j, pad (chunk l j))] from hx) with q | q
    · have := laid_wr h j x q; omega
    · rw [List.mem_singleton.1 q]; exact ⟨Nat.le_add_right _ _, by show o + j < o + (j + 1); omega⟩
theorem not_off {s : St} (h1 : s.down = false) (h2 : s.left = -1) : ¬ Off s := fun q => by
  rcases q with q | q
  · rw [h1] at q; cases q
  · rw [h2] at q; cases q

/-- A disk at rest that tells of these bytes. -/
structure Rest (S : St) (h : Nat) (l : List UInt8) (t : Nat) : Prop where
  wr : S.wr = []
  kept : S.kept = S.now
  good : Good S.now h l t
  h1 : h ≤ 1
  down : S.down = false
  left : -1 ≤ S.left

/-- A disk without power, of which a crash leaves the one or the other. -/
structure Torn (S : St) (l : List UInt8) (t : Nat) (x : List UInt8) : Prop where
  down : S.down = true
  any : ∀ q, (∃ h, h ≤ 1 ∧ Good (play q 0 S.wr S.kept) h l t) ∨ (∃ h, h ≤ 1 ∧ Good (play q 0 S.wr S.kept) h x (t + 1))
  wr : S.wr.length ≤ 900

theorem at0_apart {h i j : Nat} (hh : h ≤ 1) (hi : i < 30) (hj : j < 30) : at0 h + i ≠ at0 (1 - h) + j := by
  have : h = 0 ∨ h = 1 := by omega
  unfold at0
  rcases this with rfl | rfl <;> omega
theorem at0_pos (h : Nat) : 1 ≤ at0 h := by unfold at0; omega

variable {h t : Nat} {x : List UInt8}

/-- While the other half is written, what was stands. -/
theorem torn_laid (R : Rest S h l t) (hl : l.length ≤ 960) {j : Nat} (hj : j ≤ 30) : Torn (fall (laid S (at0 (1 - h)) x j)) l t x := by
  refine ⟨rfl, fun q => Or.inl ⟨h, R.h1, ?_⟩, ?_⟩
  · show Good (play q 0 (laid S (at0 (1 - h)) x j).wr (laid S (at0 (1 - h)) x j).kept) h l t
    rw [laid_kept, R.kept]
    have hw := laid_wr (o := at0 (1 - h)) (l := x) R.wr j
    refine R.good.of_same (play_out _ _ _ fun y hy => ?_) fun i hi => play_out _ _ _ fun y hy => ?_
    · have := (hw y hy).1
      have := at0_pos (1 - h)
      omega
    · have h1 := hw y hy
      intro e
      exact at0_apart (i := i) (j := y.1 - at0 (1 - h)) R.h1 (by omega) (by omega) (by omega)
  · show (laid S (at0 (1 - h)) x j).wr.length ≤ 900
    rw [laid_len, R.wr]
    simp
    omega

/-- Both halves stand, the first page tells of the elder. -/
theorem both_laid (R : Rest S h l t) (hl : l.length ≤ 960) {j : Nat} (hj : j ≤ 30) (hx : x.length ≤ 32 * j) : Good (laid S (at0 (1 - h)) x j).now h l t ∧ Has (laid S (at0 (1 - h)) x j).now (1 - h) x := by
  refine ⟨R.good.of_same (laid_out _ _ _ _ fun i _ => ?_) fun i hi => laid_out _ _ _ _ fun k hk => at0_apart R.h1 (by omega) (by omega), fun i hi => laid_in _ _ _ _ (by omega)⟩
  have := at0_pos (1 - h)
  omega

theorem good_new {f : Nat → List UInt8} {k : Nat} (hf : Has f k x) : Good (upd f 0 (headP k x.length t)) k x t :=
  ⟨upd_same _ _ _, fun i hi => by rw [upd_other _ _ (by have := at0_pos k; omega)]; exact hf i hi⟩

/-- How replace ends, and what state it leaves. -/
def Replp (S : St) (h : Nat) (x : List UInt8) (t : Nat) (y : Int) (S' : St) : Prop :=
  (∃ j, j ≤ 30 ∧ Off (laid S (at0 h) x j) ∧ y = 8 ∧ S' = fall (laid S (at0 h) x j)) ∨
  (∃ j, j ≤ 30 ∧ x.length ≤ 32 * j ∧ ¬ Off (laid S (at0 h) x j) ∧ Tellp (synced (laid S (at0 h) x j)) (headP h x.length t) y S')

/-- The whole of a Save: the new bytes, or the power is off and a crash leaves the one or the other. -/
theorem repl_ends (R : Rest S h l t) (hl : l.length ≤ 960) {y : Int} (H : Replp S (1 - h) x (t + 1) y S') :
    (y = 0 ∧ Rest S' (1 - h) x (t + 1) ∧ (S.left = -1 → S'.left = -1)) ∨ (y = 8 ∧ S.left ≠ -1 ∧ Torn S' l t x) := by
  have hh : 1 - h ≤ 1 := by omega
  rcases H with ⟨j, hj, ho, rfl, rfl⟩ | ⟨j, hj, hx, ho, ht⟩
  · exact Or.inr ⟨rfl, fun q => not_off ((laid_down _ _ _ j).trans R.down) (laid_left q j) ho, torn_laid R hl hj⟩
  · obtain ⟨g1, g2⟩ := both_laid R hl hj hx
    have hd : (laid S (at0 (1 - h)) x j).down = false := (laid_down _ _ _ j).trans R.down
    have hge := laid_ge (o := at0 (1 - h)) (l := x) R.left j
    have hlf : S.left = -1 → (laid S (at0 (1 - h)) x j).left = -1 := fun q => laid_left q j
    revert ht g1 g2 hd hge hlf
    generalize laid S (at0 (1 - h)) x j = T
    intro ht g1 g2 hd hge hlf
    rcases ht with ⟨h1, rfl, rfl⟩ | ⟨_, h1, rfl, rfl⟩ | ⟨_, _, rfl, rfl⟩
    · refine Or.inr ⟨rfl, fun q => not_off (s := synced T) hd (less_left (hlf q)) h1, rfl, fun q => Or.inl ⟨h, R.h1, g1⟩, Nat.zero_le _⟩
    · refine Or.inr ⟨rfl, fun q => not_off (s := wrote (synced T) 0 (headP (1 - h) x.length (t + 1))) hd (less_left (s := synced T) (less_left (hlf q))) h1, rfl, fun q => ?_, by show ([] ++ [_] : List (Nat × List UInt8)).length ≤ 900; simp⟩
      show (∃ h, h ≤ 1 ∧ Good (if q 0 then upd T.now 0 _ else T.now) h l t) ∨ (∃ h, h ≤ 1 ∧ Good (if q 0 then upd T.now 0 _ else T.now) h x (t + 1))
      split
      · exact Or.inr ⟨1 - h, hh, good_new g2⟩
      · exact Or.inl ⟨h, R.h1, g1⟩
    · exact Or.inl ⟨rfl, ⟨rfl, rfl, good_new g2, hh, hd, less_ge (less_ge (less_ge hge))⟩, fun q => less_left (less_left (less_left (hlf q)))⟩

set_option maxRecDepth 100000 in
set_option maxHeartbeats 4000000 in
theorem replace_any (O : DiskOk D) (hD : D w B d n S F) (hB : B ≤ w.heap.size) (hw : S.wr = []) (hn : 62 ≤ n) {k : Nat} (hk : k ≤ 1) {u : Nat} (hu : u ≤ 100000) {a : Option Addr} {c : Nat} (ha : BtAt w a x) (hc : x.length ≤ c) (hc2 : c ≤ maxLen)
    (hF : x ≠ [] → ∀ b o, a = some ⟨b, o, none⟩ → ¬ F b) (hl : x.length ≤ 960) :
    Calls Tryd.prog 42 #[d, .agg #[.int .i64 (k : Nat), .int .i64 (x.length : Nat), .int .i64 (u : Nat)], .slice a x.length c] w fun e w' => ∃ v y S' F', e = .returned v ∧ Er v y ∧ Replp S k x u y S' ∧ D w' B d n S' F' ∧ (∀ b, F' b → F b ∨ w.heap.size ≤ b) ∧ Turn F w w' := by
  have b1 : Below w.heap.size w (w.alloc (.cells #[.int .i64 (k : Nat), .int .i64 (x.length : Nat), .int .i64 (u : Nat)] 93)) := (Below.refl _ _).alloc (Nat.le_refl _) _
  have r1 := row3_new w (k : Nat) (x.length : Nat) (u : Nat)
  have hl1 := fun (V : World) (hV : Below w.heap.size w V) => lay_any (w := V) (x := k) (L := (x.length : Nat)) (t := (u : Nat)) (l := x) (c := c) O (dk_below O hD hV) (Nat.le_trans hB hV.size) (by rw [hw]; simp) hn hk (ha.below hV) hc hc2 hF hl
  have HP : Hid (DiskOk D ∧ D w B d n S F ∧ B ≤ w.heap.size ∧ S.wr = [] ∧ 62 ≤ n ∧ k ≤ 1 ∧ u ≤ 100000 ∧ x.length ≤ 960) := ⟨O, hD, hB, hw, hn, hk, hu, hl⟩
  obtain ⟨N, hN⟩ : ∃ N, x.length = N := ⟨_, rfl⟩
  rw [hN] at b1 r1 hl1
  rw [hN]
  have HN : Hid (x.length = N) := hN
  obtain ⟨W1, hW1⟩ : ∃ W1, w.alloc (.cells #[.int .i64 (k : Nat), .int .i64 (N : Nat), .int .i64 (u : Nat)] 93) = W1 := ⟨_, rfl⟩
  rw [hW1] at b1 r1
  have HL := hl1 W1 b1
  have hE : ∀ V, Turn F W1 V → ∀ i v, W1.cell? ⟨w.heap.size, i, none⟩ = some v → V.cell? ⟨w.heap.size, i, none⟩ = some v := fun V hV i v hv => hV.cell (fun q => by have := (O.own hD _ q).2; omega) hv
  have e0 : W1.cell? ⟨w.heap.size, 0, none⟩ = some (.int .i64 (k : Nat)) := r1.cell (i := 0) (by omega)
  have e1 : W1.cell? ⟨w.heap.size, 1, none⟩ = some (.int .i64 (N : Nat)) := r1.cell (i := 1) (by omega)
  have e2 : W1.cell? ⟨w.heap.size, 2, none⟩ = some (.int .i64 (u : Nat)) := r1.cell (i := 2) (by omega)
  have H1 : Hid (Below w.heap.size w W1 ∧ (∀ V, Turn F W1 V → ∀ i v, W1.cell? ⟨w.heap.size, i, none⟩ = some v → V.cell? ⟨w.heap.size, i, none⟩ = some v) ∧ W1.cell? ⟨w.heap.size, 0, none⟩ = some (.int .i64 (k : Nat)) ∧ W1.cell? ⟨w.heap.size, 1, none⟩ = some (.int .i64 (N : Nat)) ∧ W1.cell? ⟨w.heap.size, 2, none⟩ = some (.int .i64 (u : Nat))) := ⟨b1, hE, e0, e1, e2⟩
  clear hl1 hE b1 r1 O hD hB hw hn hk hu ha hc hc2 hF hl hN
  go_enter Tryd.func42, Tryd.ntmps42
  go_wp2_with fail
  refine HL.mono ?_
  rintro e W3 ⟨v, y, S3, F3, rfl, her, hlp, hd, hf, ht⟩
  have H3 : Hid (D W3 B d n S3 F3 ∧ (∀ b, F3 b → F b ∨ W1.heap.size ≤ b) ∧ Turn F W1 W3) := ⟨hd, hf, ht⟩
  have HU : Hid (∀ (V : World) (F' : Nat → Prop), (∀ b, F' b → F b ∨ W1.heap.size ≤ b) ∧ Turn F W1 V → (∀ b, F' b → F b ∨ w.heap.size ≤ b) ∧ Turn F w V) := fun V F' q => ⟨fun b z => (q.1 b z).imp id fun z => Nat.le_trans H1.out.1.size z, (Turn.of_below H1.out.1).trans q.2⟩
  have hcase : (∃ j, j ≤ 30 ∧ Off (laid S (at0 k) x j) ∧ y = 8 ∧ S3 = fall (laid S (at0 k) x j)) ∨ (∃ j, j ≤ 30 ∧ x.length ≤ 32 * j ∧ y = 0 ∧ S3 = laid S (at0 k) x j) := by
    have := HP.out.2.2.2.2.2.2.2
    rcases hlp with ⟨j, h1, h2, h3, h4⟩ | ⟨j, h1, h2, h3, h4⟩
    · exact Or.inl ⟨j, by omega, h2, h3, h4⟩
    · exact Or.inr ⟨j, by omega, h1, h3, h4⟩
  clear hlp hd hf ht HL hW1 e0 e1 e2
  rcases hcase with ⟨j, hj, ho, rfl, rfl⟩ | ⟨j, hj, hx, rfl, rfl⟩
  · obtain rfl := Dk.Er.some her (by decide)
    have HO : Hid (j ≤ 30 ∧ Off (laid S (at0 k) x j)) := ⟨hj, ho⟩
    clear hj ho
    go_wp2_with fail
    go_ret
    exact ⟨_, 8, _, _, rfl, her, Or.inl ⟨j, HO.out.1, HO.out.2, rfl, rfl⟩, H3.out.1, HU.out _ _ H3.out.2⟩
  · obtain rfl := Dk.Er.nil her
    have HJ : Hid (j ≤ 30 ∧ x.length ≤ 32 * j) := ⟨hj, hx⟩
    clear hj hx her
    go_wp2_with fail
    refine (HP.out.1.sync H3.out.1 (by have := HP.out.2.2.1; have := H1.out.1.size; have := H3.out.2.2.size; omega)).mono ?_
    rintro e W4 ⟨v, y, S4, F4, rfl, her, hsy, hd, hf, ht⟩
    have H4 : Hid (D W4 B d n S4 F4 ∧ (∀ b, F4 b → F b ∨ W1.heap.size ≤ b) ∧ Turn F W1 W4) := ⟨hd, fun b q => (hf b q).elim (fun q => H3.out.2.1 b q) fun q => Or.inr (Nat.le_trans H3.out.2.2.size q), turn_step H3.out.2.2 ht H3.out.2.1⟩
    have hcase : (Off (laid S (at0 k) x j) ∧ y = 8 ∧ S4 = fall (laid S (at0 k) x j)) ∨ (¬ Off (laid S (at0 k) x j) ∧ y = 0 ∧ S4 = synced (laid S (at0 k) x j)) := hsy
    clear hsy hd hf ht H3
    rcases hcase with ⟨ho, rfl, rfl⟩ | ⟨ho, rfl, rfl⟩
    · obtain rfl := Dk.Er.some her (by decide)
      have HO : Hid (Off (laid S (at0 k) x j)) := ho
      clear ho
      go_wp2_with fail
      go_ret
      exact ⟨_, 8, _, _, rfl, her, Or.inl ⟨j, HJ.out.1, HO.out, rfl, rfl⟩, H4.out.1, HU.out _ _ H4.out.2⟩
    · obtain rfl := Dk.Er.nil her
      have HO : Hid (¬ Off (laid S (at0 k) x j)) := ho
      have e0 := H1.out.2.1 W4 H4.out.2.2 0 _ H1.out.2.2.1
      have e1 := H1.out.2.1 W4 H4.out.2.2 1 _ H1.out.2.2.2.1
      have e2 := H1.out.2.1 W4 H4.out.2.2 2 _ H1.out.2.2.2.2
      clear ho her
      go_wp2_with fail
      refine (tell_any HP.out.1 H4.out.1 (by have := HP.out.2.2.1; have := H1.out.1.size; have := H4.out.2.2.size; omega) (Nat.zero_le _) (by have := HP.out.2.2.2.2.1; omega) (x := k) (l := N) (t := u) HP.out.2.2.2.2.2.1 (HN.out ▸ HP.out.2.2.2.2.2.2.2) HP.out.2.2.2.2.2.2.1).mono ?_
      rintro e W5 ⟨v, y, S5, F5, rfl, her, htl, hd, hf, ht⟩
      have H5 : Hid (D W5 B d n S5 F5 ∧ (∀ b, F5 b → F b ∨ W1.heap.size ≤ b) ∧ Turn F W1 W5) := ⟨hd, fun b q => (hf b q).elim (fun q => H4.out.2.1 b q) fun q => Or.inr (Nat.le_trans H4.out.2.2.size q), turn_step H4.out.2.2 ht H4.out.2.1⟩
      have HT : Hid (Er v y ∧ Tellp (synced (laid S (at0 k) x j)) (headP k N u) y S5) := ⟨her, htl⟩
      clear e0 e1 e2 her htl hd hf ht H4
      go_wp2_with fail
      go_ret
      exact ⟨v, y, S5, F5, rfl, HT.out.1, Or.inr ⟨j, HJ.out.1, HJ.out.2, HO.out, by rw [HN.out]; exact HT.out.2⟩, H5.out.1, HU.out _ _ H5.out.2⟩

end Go.Proofs.YtdbebeemhomjkacDoor.Sk
