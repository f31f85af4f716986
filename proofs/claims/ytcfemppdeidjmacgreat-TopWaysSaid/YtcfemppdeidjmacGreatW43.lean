/-
  Fi Fj Fk
-/
import Derived.Test.YtcfemppdeidjmacGreatW42
namespace Go.Proofs.YtcfemppdeidjmacGreat.Sk
open Go.RowKit Go.Deep Go.Proofs.YtcfemppdeidjmacGreat.Dk
open Go.RowKit (Below)
set_option linter.unusedVariables false

variable {w w' : World} {D : Dk.Face} {B n : Nat} {d : Value} {S S' : St} {F F' : Nat → Prop} {l : List UInt8}

theorem laid_kept (S : St) (o : Nat) (l : List UInt8) : ∀ j, (laid S o l j).kept = S.kept
  | 0 => rfl
  | j + 1 => laid_kept S o l j
theorem laid_down (S : St) (o : Nat) (l : List UInt8) : ∀ j, (laid S o l j).down = S.down
  | 0 => rfl
  | j + 1 => laid_down S o l j
theorem less_left {s : St} (h : s.left = -1) : (less s).left = -1 := by
  show (if 0 < s.left then _ else _) = _
  rw [h]
  rfl
theorem laid_left {S : St} {o : Nat} {l : List UInt8} (h : S.left = -1) : ∀ j, (laid S o l j).left = -1
  | 0 => h
  | j + 1 => less_left (laid_left h j)
theorem less_ge {s : St} (h : -1 ≤ s.left) : -1 ≤ (less s).left := by
  show -1 ≤ (if 0 < s.left then _ else _)
  split <;> omega
theorem laid_ge {S : St} {o : Nat} {l : List UInt8} (h : -1 ≤ S.left) : ∀ j, -1 ≤ (laid S o l j).left
  | 0 => h
  | j + 1 => less_ge (laid_ge h j)
theorem laid_out (S : St) (o : Nat) (l : List UInt8) {a : Nat} : ∀ j, (∀ i, i < j → a ≠ o + i) → (laid S o l j).now a = S.now a
  | 0, _ => rfl
  | j + 1, h => by
    show upd (laid S o l j).now (o + j) (pad (chunk l j)) a = _
    rw [upd_other _ _ (h j (Nat.lt_succ_self j)), laid_out S o l j fun i hi => h i (Nat.lt_succ_of_lt hi)]
theorem laid_in (S : St) (o : Nat) (l : List UInt8) {i : Nat} : ∀ j, i < j → (laid S o l j).now (o + i) = pad (chunk l i)
  | j + 1, h => by
    show upd (laid S o l j).now (o + j) (pad (chunk l j)) (o + i) = _
    by_cases e : i = j
    · rw [e, upd_same]
    · rw [upd_other _ _ (by omega), laid_in S o l j (by omega)]
theorem laid_wr {S : St} {o : Nat} {l : List UInt8} (h : S.wr = []) : ∀ j, ∀ x ∈ (laid S o l j).wr, o ≤ x.1 ∧ x.1 < o + j
  | 0, x, hx => by rw [show (laid S o l 0).wr = [] from h] at hx; cases hx
  | j + 1, x, hx => by
    rcases List.mem_append.1 (show x ∈ (laid S o l j).wr ++ [(o + j, pad (chunk l j))] from hx) with q | q
    · have := laid_wr h j x q; omega
    · rw [List.mem_singleton.1 q]; exact ⟨Nat.le_add_right _ _, by show o + j < o + (j + 1); omega⟩
theorem not_off {s : St} (h1 : s.down = false) (h2 : s.left = -1) : ¬ Off s := fun q => by
  rcases q with q | q
  · rw [h1] at q; cases q
  · rw [h2] at q; cases q

structure Rest (S : St) (h : Nat) (l : List UInt8) (t : Nat) : Prop where
  wr : S.wr = []
  kept : S.kept = S.now
  good : Good S.now h l t
  h1 : h ≤ 1
  down : S.down = false
  left : -1 ≤ S.left

structure Torn (S : St) (l : List UInt8) (t : Nat) (x : List UInt8) : Prop where
  down : S.down = true
  any : ∀ q, (∃ h, h ≤ 1 ∧ Good (play q 0 S.wr S.kept) h l t) ∨ (∃ h, h ≤ 1 ∧ Good (play q 0 S.wr S.kept) h x (t + 1))
  wr : S.wr.length ≤ 900

theorem at0_apart {h i j : Nat} (hh : h ≤ 1) (hi : i < 30) (hj : j < 30) : at0 h + i ≠ at0 (1 - h) + j := by
  have : h = 0 ∨ h = 1 := by omega
  unfold at0
  rcases this with rfl | rfl <;> omega
theorem at0_pos (h : Nat) : 1 ≤ at0 h := by unfold at0; omega

variable {h t : Nat} {x : List UInt8}

theorem torn_laid (R : Rest S h l t) (hl : l.length ≤ 960) {j : Nat} (hj : j ≤ 30) : Torn (fall (laid S (at0 (1 - h)) x j)) l t x := by
  refine ⟨rfl, fun q => Or.inl ⟨h, R.h1, ?_⟩, ?_⟩
  · show Good (play q 0 (laid S (at0 (1 - h)) x j).wr (laid S (at0 (1 - h)) x j).kept) h l t
    rw [laid_kept, R.kept]
    have hw := laid_wr (o := at0 (1 - h)) (l := x) R.wr j
    refine R.good.of_same (play_out _ _ _ fun y hy => ?_) fun i hi => play_out _ _ _ fun y hy => ?_
    · have := (hw y hy).1
      have := at0_pos (1 - h)
      omega
    · have h1 := hw y hy
      intro e
      exact at0_apart (i := i) (j := y.1 - at0 (1 - h)) R.h1 (by omega) (by omega) (by omega)
  · show (laid S (at0 (1 - h)) x j).wr.length ≤ 900
    rw [laid_len, R.wr]
    simp
    omega

theorem both_laid (R : Rest S h l t) (hl : l.length ≤ 960) {j : Nat} (hj : j ≤ 30) (hx : x.length ≤ 32 * j) : Good (laid S (at0 (1 - h)) x j).now h l t ∧ Has (laid S (at0 (1 - h)) x j).now (1 - h) x := by
  refine ⟨R.good.of_same (laid_out _ _ _ _ fun i _ => ?_) fun i hi => laid_out _ _ _ _ fun k hk => at0_apart R.h1 (by omega) (by omega), fun i hi => laid_in _ _ _ _ (by omega)⟩
  have := at0_pos (1 - h)
  omega

theorem good_new {f : Nat → List UInt8} {k : Nat} (hf : Has f k x) : Good (upd f 0 (headP k x.length t)) k x t :=
  ⟨upd_same _ _ _, fun i hi => by rw [upd_other _ _ (by have := at0_pos k; omega)]; exact hf i hi⟩

def Replp (S : St) (h : Nat) (x : List UInt8) (t : Nat) (y : Int) (S' : St) : Prop :=
  (∃ j, j ≤ 30 ∧ Off (laid S (at0 h) x j) ∧ y = 8 ∧ S' = fall (laid S (at0 h) x j)) ∨
  (∃ j, j ≤ 30 ∧ x.length ≤ 32 * j ∧ ¬ Off (laid S (at0 h) x j) ∧ Tellp (synced (laid S (at0 h) x j)) (headP h x.length t) y S')

theorem repl_ends (R : Rest S h l t) (hl : l.length ≤ 960) {y : Int} (H : Replp S (1 - h) x (t + 1) y S') :
    (y = 0 ∧ Rest S' (1 - h) x (t + 1) ∧ (S.left = -1 → S'.left = -1)) ∨ (y = 8 ∧ S.left ≠ -1 ∧ Torn S' l t x) := by
  have hh : 1 - h ≤ 1 := by omega
  rcases H with ⟨j, hj, ho, rfl, rfl⟩ | ⟨j, hj, hx, ho, ht⟩
  · exact Or.inr ⟨rfl, fun q => not_off ((laid_down _ _ _ j).trans R.down) (laid_left q j) ho, torn_laid R hl hj⟩
  · obtain ⟨g1, g2⟩ := both_laid R hl hj hx
    have hd : (laid S (at0 (1 - h)) x j).down = false := (laid_down _ _ _ j).trans R.down
    have hge := laid_ge (o := at0 (1 - h)) (l := x) R.left j
    have hlf : S.left = -1 → (laid S (at0 (1 - h)) x j).left = -1 := fun q => laid_left q j
    revert ht g1 g2 hd hge hlf
    generalize laid S (at0 (1 - h)) x j = T
    intro ht g1 g2 hd hge hlf
    rcases ht with ⟨h1, rfl, rfl⟩ | ⟨_, h1, rfl, rfl⟩ | ⟨_, _, rfl, rfl⟩
    · refine Or.inr ⟨rfl, fun q => not_off (s := synced T) hd (less_left (hlf q)) h1, rfl, fun q => Or.inl ⟨h, R.h1, g1⟩, Nat.zero_le _⟩
    · refine Or.inr ⟨rfl, fun q => not_off (s := wrote (synced T) 0 (headP (1 - h) x.length (t + 1))) hd (less_left (s := synced T) (less_left (hlf q))) h1, rfl, fun q => ?_, by show ([] ++ [_] : List (Nat × List UInt8)).length ≤ 900; simp⟩
      show (∃ h, h ≤ 1 ∧ Good (if q 0 then upd T.now 0 _ else T.now) h l t) ∨ (∃ h, h ≤ 1 ∧ Good (if q 0 then upd T.now 0 _ else T.now) h x (t + 1))
      split
      · exact Or.inr ⟨1 - h, hh, good_new g2⟩
      · exact Or.inl ⟨h, R.h1, g1⟩
    · exact Or.inl ⟨rfl, ⟨rfl, rfl, good_new g2, hh, hd, less_ge (less_ge (less_ge hge))⟩, fun q => less_left (less_left (less_left (hlf q)))⟩

set_option maxRecDepth 100000 in
set_option maxHeartbeats 4000000 in
theorem replace_any (O : DiskOk D) (hD : D w B d n S F) (hB : B ≤ w.heap.size) (hw : S.wr = []) (hn : 62 ≤ n) {k : Nat} (hk : k ≤ 1) {u : Nat} (hu : u ≤ 100000) {a : Option Addr} {c : Nat} (ha : BtAt w a x) (hc : x.length ≤ c) (hc2 : c ≤ maxLen)
    (hF : x ≠ [] → ∀ b o, a = some ⟨b, o, none⟩ → ¬ F b) (hl : x.length ≤ 960) :
    Calls Tryz.prog 118 #[d, .agg #[.int .i64 (k : Nat), .int .i64 (x.length : Nat), .int .i64 (u : Nat)], .slice a x.length c] w fun e w' => ∃ v y S' F', e = .returned v ∧ Er v y ∧ Replp S k x u y S' ∧ D w' B d n S' F' ∧ (∀ b, F' b → F b ∨ w.heap.size ≤ b) ∧ Turn F w w' := by
  have b1 : Below w.heap.size w (w.alloc (.cells #[.int .i64 (k : Nat), .int .i64 (x.length : Nat), .int .i64 (u : Nat)] 189)) := (Below.refl _ _).alloc (Nat.le_refl _) _
  have r1 := row3_new w (k : Nat) (x.length : Nat) (u : Nat)
  have hl1 := fun (V : World) (hV : Below w.heap.size w V) => lay_any (w := V) (x := k) (L := (x.length : Nat)) (t := (u : Nat)) (l := x) (c := c) O (dk_below O hD hV) (Nat.le_trans hB hV.size) (by rw [hw]; simp) hn hk (ha.below hV) hc hc2 hF hl
  have HP : Hid (DiskOk D ∧ D w B d n S F ∧ B ≤ w.heap.size ∧ S.wr = [] ∧ 62 ≤ n ∧ k ≤ 1 ∧ u ≤ 100000 ∧ x.length ≤ 960) := ⟨O, hD, hB, hw, hn, hk, hu, hl⟩
  obtain ⟨N, hN⟩ : ∃ N, x.length = N := ⟨_, rfl⟩
  rw [hN] at b1 r1 hl1
  rw [hN]
  have HN : Hid (x.length = N) := hN
  obtain ⟨W1, hW1⟩ : ∃ W1, w.alloc (.cells #[.int .i64 (k : Nat), .int .i64 (N : Nat), .int .i64 (u : Nat)] 189) = W1 := ⟨_, rfl⟩
  rw [hW1] at b1 r1
  have HL := hl1 W1 b1
  have hE : ∀ V, Turn F W1 V → ∀ i v, W1.cell? ⟨w.heap.size, i, none⟩ = some v → V.cell? ⟨w.heap.size, i, none⟩ = some v := fun V hV i v hv => hV.cell (fun q => by have := (O.own hD _ q).2; omega) hv
  have e0 : W1.cell? ⟨w.heap.size, 0, none⟩ = some (.int .i64 (k : Nat)) := r1.cell (i := 0) (by omega)
  have e1 : W1.cell? ⟨w.heap.size, 1, none⟩ = some (.int .i64 (N : Nat)) := r1.cell (i := 1) (by omega)
  have e2 : W1.cell? ⟨w.heap.size, 2, none⟩ = some (.int .i64 (u : Nat)) := r1.cell (i := 2) (by omega)
  have H1 : Hid (Below w.heap.size w W1 ∧ (∀ V, Turn F W1 V → ∀ i v, W1.cell? ⟨w.heap.size, i, none⟩ = some v → V.cell? ⟨w.heap.size, i, none⟩ = some v) ∧ W1.cell? ⟨w.heap.size, 0, none⟩ = some (.int .i64 (k : Nat)) ∧ W1.cell? ⟨w.heap.size, 1, none⟩ = some (.int .i64 (N : Nat)) ∧ W1.cell? ⟨w.heap.size, 2, none⟩ = some (.int .i64 (u : Nat))) := ⟨b1, hE, e0, e1, e2⟩
  clear hl1 hE b1 r1 O hD hB hw hn hk hu ha hc hc2 hF hl hN
  go_enter Tryz.func118, Tryz.ntmps118
  go_wp2_with fail
  refine HL.mono ?_
  rintro e W3 ⟨v, y, S3, F3, rfl, her, hlp, hd, hf, ht⟩
  have H3 : Hid (D W3 B d n S3 F3 ∧ (∀ b, F3 b → F b ∨ W1.heap.size ≤ b) ∧ Turn F W1 W3) := ⟨hd, hf, ht⟩
  have HU : Hid (∀ (V : World) (F' : Nat → Prop), (∀ b, F' b → F b ∨ W1.heap.size ≤ b) ∧ Turn F W1 V → (∀ b, F' b → F b ∨ w.heap.size ≤ b) ∧ Turn F w V) := fun V F' q => ⟨fun b z => (q.1 b z).imp id fun z => Nat.le_trans H1.out.1.size z, (Turn.of_below H1.out.1).trans q.2⟩
  have hcase : (∃ j, j ≤ 30 ∧ Off (laid S (at0 k) x j) ∧ y = 8 ∧ S3 = fall (laid S (at0 k) x j)) ∨ (∃ j, j ≤ 30 ∧ x.length ≤ 32 * j ∧ y = 0 ∧ S3 = laid S (at0 k) x j) := by
    have := HP.out.2.2.2.2.2.2.2
    rcases hlp with ⟨j, h1, h2, h3, h4⟩ | ⟨j, h1, h2, h3, h4⟩
    · exact Or.inl ⟨j, by omega, h2, h3, h4⟩
    · exact Or.inr ⟨j, by omega, h1, h3, h4⟩
  clear hlp hd hf ht HL hW1 e0 e1 e2
  rcases hcase with ⟨j, hj, ho, rfl, rfl⟩ | ⟨j, hj, hx, rfl, rfl⟩
  · obtain rfl := Dk.Er.some her (by decide)
    have HO : Hid (j ≤ 30 ∧ Off (laid S (at0 k) x j)) := ⟨hj, ho⟩
    clear hj ho
    go_wp2_with fail
    go_ret
    exact ⟨_, 8, _, _, rfl, her, Or.inl ⟨j, HO.out.1, HO.out.2, rfl, rfl⟩, H3.out.1, HU.out _ _ H3.out.2⟩
  · obtain rfl := Dk.Er.nil her
    have HJ : Hid (j ≤ 30 ∧ x.length ≤ 32 * j) := ⟨hj, hx⟩
    clear hj hx her
    go_wp2_with fail
    refine (HP.out.1.sync H3.out.1 (by have := HP.out.2.2.1; have := H1.out.1.size; have := H3.out.2.2.size; omega)).mono ?_
    rintro e W4 ⟨v, y, S4, F4, rfl, her, hsy, hd, hf, ht⟩
    have H4 : Hid (D W4 B d n S4 F4 ∧ (∀ b, F4 b → F b ∨ W1.heap.size ≤ b) ∧ Turn F W1 W4) := ⟨hd, fun b q => (hf b q).elim (fun q => H3.out.2.1 b q) fun q => Or.inr (Nat.le_trans H3.out.2.2.size q), turn_step H3.out.2.2 ht H3.out.2.1⟩
    have hcase : (Off (laid S (at0 k) x j) ∧ y = 8 ∧ S4 = fall (laid S (at0 k) x j)) ∨ (¬ Off (laid S (at0 k) x j) ∧ y = 0 ∧ S4 = synced (laid S (at0 k) x j)) := hsy
    clear hsy hd hf ht H3
    rcases hcase with ⟨ho, rfl, rfl⟩ | ⟨ho, rfl, rfl⟩
    · obtain rfl := Dk.Er.some her (by decide)
      have HO : Hid (Off (laid S (at0 k) x j)) := ho
      clear ho
      go_wp2_with fail
      go_ret
      exact ⟨_, 8, _, _, rfl, her, Or.inl ⟨j, HJ.out.1, HO.out, rfl, rfl⟩, H4.out.1, HU.out _ _ H4.out.2⟩
    · obtain rfl := Dk.Er.nil her
      have HO : Hid (¬ Off (laid S (at0 k) x j)) := ho
      have e0 := H1.out.2.1 W4 H4.out.2.2 0 _ H1.out.2.2.1
      have e1 := H1.out.2.1 W4 H4.out.2.2 1 _ H1.out.2.2.2.1
      have e2 := H1.out.2.1 W4 H4.out.2.2 2 _ H1.out.2.2.2.2
      clear ho her
      go_wp2_with fail
      refine (tell_any HP.out.1 H4.out.1 (by have := HP.out.2.2.1; have := H1.out.1.size; have := H4.out.2.2.size; omega) (Nat.zero_le _) (by have := HP.out.2.2.2.2.1; omega) (x := k) (l := N) (t := u) HP.out.2.2.2.2.2.1 (HN.out ▸ HP.out.2.2.2.2.2.2.2) HP.out.2.2.2.2.2.2.1).mono ?_
      rintro e W5 ⟨v, y, S5, F5, rfl, her, htl, hd, hf, ht⟩
      have H5 : Hid (D W5 B d n S5 F5 ∧ (∀ b, F5 b → F b ∨ W1.heap.size ≤ b) ∧ Turn F W1 W5) := ⟨hd, fun b q => (hf b q).elim (fun q => H4.out.2.1 b q) fun q => Or.inr (Nat.le_trans H4.out.2.2.size q), turn_step H4.out.2.2 ht H4.out.2.1⟩
      have HT : Hid (Er v y ∧ Tellp (synced (laid S (at0 k) x j)) (headP k N u) y S5) := ⟨her, htl⟩
      clear e0 e1 e2 her htl hd hf ht H4
      go_wp2_with fail
      go_ret
      exact ⟨v, y, S5, F5, rfl, HT.out.1, Or.inr ⟨j, HJ.out.1, HJ.out.2, HO.out, by rw [HN.out]; exact HT.out.2⟩, H5.out.1, HU.out _ _ H5.out.2⟩

end Go.Proofs.YtcfemppdeidjmacGreat.Sk

namespace Go.Proofs.YtcfemppdeidjmacGreat.Sk
open Go.RowKit Go.Deep Go.Proofs.YtcfemppdeidjmacGreat.Dk
open Go.RowKit (Below)
set_option linter.unusedVariables false

variable {w w' : World} {D : Dk.Face} {B n ks bc t : Nat} {d : Value} {S S' : St} {F F' FD FD' : Nat → Prop} {l x : List UInt8} {ba : Option Addr} {dn : Bool}

def sc (d v : Value) (t : Nat) (dn : Bool) : Nat → Value := fun i => if i = 0 then d else if i = 1 then v else if i = 2 then .int .i64 (t : Nat) else .bool dn

structure SEx (D : Dk.Face) (w : World) (B : Nat) (d : Value) (n ks : Nat) (ba : Option Addr) (bc : Nat) (l : List UInt8) (t : Nat) (dn : Bool) (S : St) (FD F : Nat → Prop) : Prop where
  disk : D w B d n S FD
  row : w.rowIs ks 194 4 (sc d (.slice ba l.length bc) t dn)
  bt : BtAt w ba l
  cap : l.length ≤ bc
  len : l.length ≤ 960
  nil : ba = none → bc = 0
  own : ∀ b o, ba = some ⟨b, o, none⟩ → B ≤ b ∧ b < w.heap.size ∧ ¬ FD b ∧ b ≠ ks
  ks1 : B ≤ ks
  ks2 : ¬ FD ks
  f : ∀ b, F b ↔ FD b ∨ b = ks ∨ ∃ o, ba = some ⟨b, o, none⟩

theorem bt_keep (h : BtAt w ba l) (hs : ∀ b o, ba = some ⟨b, o, none⟩ → w'.heap[b]? = w.heap[b]?) : BtAt w' ba l := fun i hi => by
  obtain ⟨b, o, e, hc⟩ := h i hi
  exact ⟨b, o, e, (World.cell?_of_block (w := w) (a := ⟨b, o + i, none⟩) (hs b o e)).trans hc⟩

theorem SEx.keep (O : DiskOk D) (h : SEx D w B d n ks ba bc l t dn S FD F) (hs : w.heap.size ≤ w'.heap.size) (hb : ∀ b, F b → w'.heap[b]? = w.heap[b]?) : SEx D w' B d n ks ba bc l t dn S FD F :=
  { h with
    disk := O.keep h.disk hs fun b q => hb b ((h.f b).2 (Or.inl q))
    row := h.row.of_block (hb ks ((h.f ks).2 (Or.inr (Or.inl rfl))))
    bt := bt_keep h.bt fun b o e => hb b ((h.f b).2 (Or.inr (Or.inr ⟨o, e⟩)))
    own := fun b o e => ⟨(h.own b o e).1, Nat.lt_of_lt_of_le (h.own b o e).2.1 hs, (h.own b o e).2.2⟩ }

theorem SEx.owns (O : DiskOk D) (h : SEx D w B d n ks ba bc l t dn S FD F) : ∀ b, F b → B ≤ b ∧ b < w.heap.size := fun b q => by
  rcases (h.f b).1 q with q | rfl | ⟨o, e⟩
  · exact O.own h.disk b q
  · exact ⟨h.ks1, h.row.lt⟩
  · exact ⟨(h.own b o e).1, (h.own b o e).2.1⟩

theorem SEx.turn (O : DiskOk D) (h : SEx D w B d n ks ba bc l t dn S FD F) (hd : D w' B d n S' FD') (hf : ∀ b, FD' b → FD b ∨ w.heap.size ≤ b) (ht : Turn FD w w') :
    ∃ F', SEx D w' B d n ks ba bc l t dn S' FD' F' ∧ (∀ b, F' b → F b ∨ w.heap.size ≤ b) ∧ Turn F w w' := by
  have hk := h.row.lt
  refine ⟨fun b => FD' b ∨ b = ks ∨ ∃ o, ba = some ⟨b, o, none⟩, { h with disk := hd, row := h.row.of_block (ht.block ks hk h.ks2), bt := bt_keep h.bt fun b o e => ht.block b (h.own b o e).2.1 (h.own b o e).2.2.1, own := fun b o e => ?_, ks2 := fun q => ?_, f := fun b => Iff.rfl }, fun b q => ?_, ht.mono fun k _ q => (h.f k).2 (Or.inl q)⟩
  · have hb := h.own b o e
    exact ⟨hb.1, Nat.lt_of_lt_of_le hb.2.1 ht.size, fun q => (hf b q).elim hb.2.2.1 fun q => by omega, hb.2.2.2⟩
  · rcases hf ks q with q | q
    · exact h.ks2 q
    · omega
  · rcases q with q | q
    · exact (hf b q).imp (fun q => (h.f b).2 (Or.inl q)) id
    · exact Or.inl ((h.f b).2 (Or.inr q))

theorem SEx.setDown (O : DiskOk D) (h : SEx D w B d n ks ba bc l t dn S FD F) : SEx D (w.setCell ⟨ks, 3, none⟩ (.bool true)) B d n ks ba bc l t true S FD F ∧ Turn F w (w.setCell ⟨ks, 3, none⟩ (.bool true)) := by
  have hT : Turn (fun b => b = ks) w (w.setCell ⟨ks, 3, none⟩ (.bool true)) := set_turn (Turn.refl w)
  refine ⟨{ h with
    disk := O.keep h.disk hT.size fun b q => hT.block b (O.own h.disk b q).2 fun e => h.ks2 (e ▸ q)
    row := (h.row.set 3 _).congr fun i hi => ?_
    bt := bt_keep h.bt fun b o e => hT.block b (h.own b o e).2.1 (h.own b o e).2.2.2
    own := fun b o e => ⟨(h.own b o e).1, Nat.lt_of_lt_of_le (h.own b o e).2.1 hT.size, (h.own b o e).2.2⟩ }, hT.mono fun k _ e => (h.f k).2 (Or.inr (Or.inl e))⟩
  have : i = 0 ∨ i = 1 ∨ i = 2 ∨ i = 3 := by omega
  rcases this with rfl | rfl | rfl | rfl <;> rfl

theorem SEx.setBytes (O : DiskOk D) (h : SEx D w B d n ks ba bc l t dn S FD F) {a' : Option Addr} {c' : Nat} (hb : BtAt w a' x) (hc : x.length ≤ c') (hx : x.length ≤ 960) (hn : a' = none → c' = 0) (ho : ∀ b o, a' = some ⟨b, o, none⟩ → (B ≤ b ∧ b < w.heap.size) ∧ ¬ FD b ∧ b ≠ ks) (t' : Nat) :
    ∃ F', SEx D ((w.setCell ⟨ks, 1, none⟩ (.slice a' x.length c')).setCell ⟨ks, 2, none⟩ (.int .i64 (t' : Nat))) B d n ks a' c' x t' dn S FD F' ∧ (∀ b, F' b → F b ∨ ∃ o, a' = some ⟨b, o, none⟩) ∧ Turn F w ((w.setCell ⟨ks, 1, none⟩ (.slice a' x.length c')).setCell ⟨ks, 2, none⟩ (.int .i64 (t' : Nat))) := by
  have hT : Turn (fun b => b = ks) w ((w.setCell ⟨ks, 1, none⟩ (.slice a' x.length c')).setCell ⟨ks, 2, none⟩ (.int .i64 (t' : Nat))) := set_turn (set_turn (Turn.refl w))
  refine ⟨fun b => FD b ∨ b = ks ∨ ∃ o, a' = some ⟨b, o, none⟩, {
    disk := O.keep h.disk hT.size fun b q => hT.block b (O.own h.disk b q).2 fun e => h.ks2 (e ▸ q)
    row := ((h.row.set 1 _).set 2 _).congr fun i hi => ?_
    bt := bt_keep hb fun b o e => hT.block b (ho b o e).1.2 (ho b o e).2.2
    cap := hc, len := hx, nil := hn
    own := fun b o e => ⟨(ho b o e).1.1, Nat.lt_of_lt_of_le (ho b o e).1.2 hT.size, (ho b o e).2⟩
    ks1 := h.ks1, ks2 := h.ks2, f := fun b => Iff.rfl }, fun b q => ?_, hT.mono fun k _ e => (h.f k).2 (Or.inr (Or.inl e))⟩
  · have : i = 0 ∨ i = 1 ∨ i = 2 ∨ i = 3 := by omega
    rcases this with rfl | rfl | rfl | rfl <;> rfl
  · rcases q with q | q | q
    · exact Or.inl ((h.f b).2 (Or.inl q))
    · exact Or.inl ((h.f b).2 (Or.inr (Or.inl q)))
    · exact Or.inr q

set_option maxRecDepth 100000 in
set_option maxHeartbeats 2000000 in
theorem format_few (O : DiskOk D) (h : D w B d n S F) (hn : n < 62) : Calls Tryz.prog 81 #[d] w fun e w' => e = .returned (.iface 102 (.int .i64 3)) ∧ Below w.heap.size w w' := by
  have hp := O.pages h
  have i0 : (n : Int) < 62 := by omega
  clear h hn O
  go_enter Tryz.func81, Tryz.ntmps81
  go_wp2_with fail
  refine hp.mono ?_
  rintro e W ⟨rfl, hb⟩
  have HB : Hid (Below w.heap.size w W) := hb
  clear hp hb
  go_wp2_with fail
  go_ret
  exact ⟨rfl, HB.out⟩

set_option maxRecDepth 100000 in
set_option maxHeartbeats 2000000 in
theorem format_any (O : DiskOk D) (h : D w B d n S F) (hS : S.wr = [] ∧ S.down = false ∧ S.left = -1) (hB : B ≤ w.heap.size) (hn : 62 ≤ n) : Calls Tryz.prog 81 #[d] w fun e w' => ∃ S' F', e = .returned .nilIface ∧ D w' B d n S' F' ∧ (Rest S' 0 [] 0 ∧ S'.left = -1) ∧ (∀ b, F' b → F b ∨ w.heap.size ≤ b) ∧ Turn F w w' := by
  have hp := O.pages h
  have i0 : ¬ (n : Int) < 62 := by omega
  have HP : Hid (DiskOk D ∧ D w B d n S F ∧ B ≤ w.heap.size ∧ 62 ≤ n) := ⟨O, h, hB, hn⟩
  have HS : Hid (S.wr = [] ∧ S.down = false ∧ S.left = -1) := hS
  clear h hn O hB hS
  go_enter Tryz.func81, Tryz.ntmps81
  go_wp2_with fail
  refine hp.mono ?_
  rintro e W ⟨rfl, hb⟩
  have HB : Hid (Below w.heap.size w W) := hb
  clear hp hb
  go_wp2_with fail
  refine (tell_any HP.out.1 (dk_below HP.out.1 HP.out.2.1 HB.out) (Nat.le_trans HP.out.2.2.1 HB.out.size) (by rw [HS.out.1]; exact Nat.zero_le _) (by have := HP.out.2.2.2; omega) (x := 0) (l := 0) (t := 0) (by omega) (by omega) (by omega)).mono ?_
  rintro e W2 ⟨v, y, S', F', rfl, her, htl, hd, hf, ht⟩
  have hS : y = 0 ∧ S' = synced (wrote S 0 (headP 0 0 0)) := by
    rcases htl with ⟨h1, _⟩ | ⟨_, h1, _⟩ | ⟨_, _, h1, h2⟩
    · exact absurd h1 (not_off HS.out.2.1 HS.out.2.2)
    · exact absurd h1 (not_off (s := wrote S 0 (headP 0 0 0)) HS.out.2.1 (less_left HS.out.2.2))
    · exact ⟨h1, h2⟩
  obtain ⟨rfl, rfl⟩ := hS
  obtain rfl := Dk.Er.nil her
  have H2 : Hid (D W2 B d n (synced (wrote S 0 (headP 0 0 0))) F' ∧ (∀ b, F' b → F b ∨ w.heap.size ≤ b) ∧ Turn F w W2) := ⟨hd, fun b q => (hf b q).imp id fun q => Nat.le_trans HB.out.size q, (Turn.of_below HB.out).trans ht⟩
  clear her htl hd hf ht
  go_wp2_with fail
  go_ret
  exact ⟨_, _, rfl, H2.out.1, ⟨⟨rfl, rfl, show Good (upd S.now 0 (headP 0 ([] : List UInt8).length 0)) 0 [] 0 from ⟨upd_same _ _ _, fun i hi => absurd hi (by simp)⟩, by omega, HS.out.2.1, by rw [show (synced (wrote S 0 (headP 0 0 0))).left = -1 from less_left (s := wrote S 0 (headP 0 0 0)) (less_left HS.out.2.2)]; decide⟩, less_left (s := wrote S 0 (headP 0 0 0)) (less_left HS.out.2.2)⟩, H2.out.2⟩

set_option maxRecDepth 100000 in
set_option maxHeartbeats 2000000 in
theorem load_any (h : SEx D w B d n ks ba bc l t dn S FD F) : Calls Tryz.prog 84 #[.pointer (some ⟨ks, 0, none⟩)] w fun e w' => ∃ a c, e = .returned (.slice a l.length c) ∧ BtAt w' a l ∧ (l.length ≤ c ∧ c ≤ maxLen) ∧ Below w.heap.size w w' := by
  have c1 : w.cell? ⟨ks, 1, none⟩ = some (.slice ba l.length bc) := h.row.cell (i := 1) (by omega)
  have hc := clone_any (c := bc) h.bt h.cap (by have := h.len; omega) h.nil
  obtain ⟨N, hN⟩ : ∃ N, l.length = N := ⟨_, rfl⟩
  rw [hN] at c1 hc
  rw [hN]
  clear h hN
  go_enter Tryz.func84, Tryz.ntmps84
  go_wp2_with fail
  refine hc.mono ?_
  rintro e W ⟨a', c', rfl, h1, h3, h4, -, -, h2⟩
  have H : Hid (BtAt W a' l ∧ (N ≤ c' ∧ c' ≤ maxLen) ∧ Below w.heap.size w W) := ⟨h1, ⟨by omega, h4⟩, h2⟩
  clear hc c1 h1 h2 h3 h4
  go_wp2_with fail
  go_ret
  exact ⟨a', c', rfl, H.out⟩

set_option maxRecDepth 100000 in
set_option maxHeartbeats 2000000 in
theorem turn_any (h : SEx D w B d n ks ba bc l t dn S FD F) : Calls Tryz.prog 91 #[.pointer (some ⟨ks, 0, none⟩)] w fun e w' => e = .returned (.int .i64 (t : Nat)) ∧ w' = w := by
  have c1 : w.cell? ⟨ks, 2, none⟩ = some (.int .i64 (t : Nat)) := h.row.cell (i := 2) (by omega)
  clear h
  go_enter Tryz.func91, Tryz.ntmps91
  go_wp2_with fail
  go_ret
  exact ⟨rfl, rfl⟩

end Go.Proofs.YtcfemppdeidjmacGreat.Sk

namespace Go.Proofs.YtcfemppdeidjmacGreat.Sk
open Go.RowKit Go.Deep Go.Proofs.YtcfemppdeidjmacGreat.Dk
open Go.RowKit (Below)
set_option linter.unusedVariables false

variable {w w' : World} {D : Dk.Face} {B n ks bc t : Nat} {d : Value} {S S' : St} {F F' FD FD' : Nat → Prop} {l x : List UInt8} {ba : Option Addr} {dn : Bool}

set_option maxRecDepth 100000 in
set_option maxHeartbeats 4000000 in
theorem open_none (O : DiskOk D) (h : D w B d n fresh F) (hB : B ≤ w.heap.size) (hn : 1 ≤ n) : Calls Tryz.prog 82 #[d] w fun e w' => ∃ v, e = .returned (.tuple #[v, .iface 102 (.int .i64 5)]) ∧ Below w.heap.size w w' := by
  have hl := look_any O h hB page0_blank hn
  clear h hB hn
  go_enter Tryz.func82, Tryz.ntmps82
  go_wp2_with fail
  refine hl.mono ?_
  rintro e W1 ⟨⟨x', l', t', ok, rfl, -, hok⟩, hb⟩
  obtain rfl := hok (Or.inr (headP_not_blank 0 0 0))
  have HB : Hid (∀ o, Below w.heap.size w (W1.alloc o)) := fun o => hb.alloc hb.size o
  clear hl hok hb
  go_wp2_with fail
  go_ret2
  exact ⟨_, rfl, HB.out _⟩

set_option maxRecDepth 100000 in
set_option maxHeartbeats 4000000 in
theorem open_any {kd h : Nat} (O : DiskOk D) (hD : D w B (.pointer (some ⟨kd, 0, none⟩)) n S F) (hB : B ≤ w.heap.size) (hn : 62 ≤ n) (R : Rest S h l t) (hl : l.length ≤ 960) (ht : t ≤ 100000) :
    Calls Tryz.prog 82 #[.pointer (some ⟨kd, 0, none⟩)] w fun e w' => ∃ ks, e = .returned (.tuple #[.pointer (some ⟨ks, 0, none⟩), .nilIface]) ∧ ∃ ba bc F', SEx D w' B (.pointer (some ⟨kd, 0, none⟩)) n ks ba bc l t false S F F' ∧ (∀ b, F' b → F b ∨ w.heap.size ≤ b) ∧ Turn F w w' := by
  have hlk := look_any O hD hB (x := h) (l := l.length) (t := t) (by rw [R.good.1]; exact page0_head R.h1 hl ht) (by omega)
  have HP : Hid (DiskOk D ∧ D w B (.pointer (some ⟨kd, 0, none⟩)) n S F ∧ B ≤ w.heap.size ∧ 62 ≤ n ∧ Rest S h l t ∧ l.length ≤ 960) := ⟨O, hD, hB, hn, R, hl⟩
  obtain ⟨N, hN⟩ : ∃ N, l.length = N := ⟨_, rfl⟩
  have HN : Hid (l.length = N) := hN
  clear O hD hB hn R hl ht
  go_enter Tryz.func82, Tryz.ntmps82
  go_wp2_with fail
  refine hlk.mono ?_
  rintro e W1 ⟨⟨x', l', t', ok, rfl, hok, -⟩, hb⟩
  obtain ⟨rfl, rfl, rfl, rfl⟩ := hok HP.out.2.2.2.1 HP.out.2.2.2.2.1.good.1
  rw [hN]
  have hr := row3_new W1 (h : Nat) (N : Nat) (t : Nat)
  have hb2 : Below w.heap.size w (W1.alloc (.cells #[.int .i64 (h : Nat), .int .i64 (N : Nat), .int .i64 (t : Nat)] 189)) := hb.alloc hb.size _
  obtain ⟨W2, hW2⟩ : ∃ W2, W1.alloc (.cells #[.int .i64 (h : Nat), .int .i64 (N : Nat), .int .i64 (t : Nat)] 189) = W2 := ⟨_, rfl⟩
  rw [hW2] at hr hb2
  obtain ⟨E, hE⟩ : ∃ E, W1.heap.size = E := ⟨_, rfl⟩
  rw [hE] at hr
  have d0 : W2.cell? ⟨E, 0, none⟩ = some (.int .i64 (h : Nat)) := hr.cell (i := 0) (by omega)
  have d1 : W2.cell? ⟨E, 1, none⟩ = some (.int .i64 (N : Nat)) := hr.cell (i := 1) (by omega)
  have d2 : W2.cell? ⟨E, 2, none⟩ = some (.int .i64 (t : Nat)) := hr.cell (i := 2) (by omega)
  have HB : Hid (Below w.heap.size w W2.drew) := hb2.drew
  have HS0 : Hid (W2.drew.cell? ⟨E, 0, none⟩ = some (.int .i64 (h : Nat)) ∧ W2.drew.cell? ⟨E, 1, none⟩ = some (.int .i64 (N : Nat)) ∧ W2.drew.cell? ⟨E, 2, none⟩ = some (.int .i64 (t : Nat))) := ⟨d0, d1, d2⟩
  clear hlk hok hr hb hb2 hN
  go_wp2_with (first | rw [hW2, hE] | rw [hW2])
  refine wp_region_noPanic ?_
  refine wp_region_held_drew (S := fun V => V.cell? ⟨E, 0, none⟩ = some (.int .i64 (h : Nat)) ∧ V.cell? ⟨E, 1, none⟩ = some (.int .i64 (N : Nat)) ∧ V.cell? ⟨E, 2, none⟩ = some (.int .i64 (t : Nat))) (by kernel_rfl) HS0.out (fun hHeld => ?_)
  refine wpAnyH_take (i := 0) (oi := { dst := some 14, op := Go.Op.move (Go.Operand.tmp 0), type := 63, pos := _, after := #[], guard := none }) (v := ?va1) rfl (by kernel_rfl) (by kernel_rfl) (by kernel_rfl) (fun _ _ _ h => h) (Or.inl ⟨by rfl, ?ya1⟩) (by assumption) ?_
  case ya1 =>
    intro w hSw
    (try dsimp only at hSw)
    go_simp
    (try with_reducible rfl)
  simp only [Act.put, List.setIfInBounds_toArray, List.set_cons_zero, List.set_cons_succ]
  refine wpAnyH_take (i := 1) (oi := { dst := some 15, op := Go.Op.move (Go.Operand.tmp 0), type := 63, pos := _, after := #[], guard := none }) (v := ?va2) rfl (by kernel_rfl) (by kernel_rfl) (by kernel_rfl) (fun _ _ _ h => h) (Or.inl ⟨by rfl, ?ya2⟩) (by assumption) ?_
  case ya2 =>
    intro w hSw
    (try dsimp only at hSw)
    go_simp
    (try with_reducible rfl)
  simp only [Act.put, List.setIfInBounds_toArray, List.set_cons_zero, List.set_cons_succ]
  refine wpAnyH_take (i := 4) (oi := { dst := some 18, op := Go.Op.fieldAddr 189 (Go.Operand.tmp 4) 2, type := 0, pos := _, after := #[], guard := none }) (v := ?va3) rfl (by kernel_rfl) (by kernel_rfl) (by kernel_rfl) (fun _ _ _ h => h) (Or.inl ⟨by rfl, ?ya3⟩) (by assumption) ?_
  case ya3 =>
    intro w hSw
    (try dsimp only at hSw)
    go_simp
    (try with_reducible rfl)
  simp only [Act.put, List.setIfInBounds_toArray, List.set_cons_zero, List.set_cons_succ]
  refine wpAnyH_take (i := 2) (oi := { dst := some 16, op := Go.Op.load 189 (Go.Operand.tmp 4), type := 189, pos := _, after := #[], guard := none }) (v := ?va4) rfl (by kernel_rfl) (by kernel_rfl) (by kernel_rfl) (fun _ _ _ h => h) (Or.inl ⟨by rfl, ?ya4⟩) (by assumption) ?_
  case ya4 =>
    intro w hSw
    (try dsimp only at hSw)
    go_simp
    (try with_reducible rfl)
  simp only [Act.put, List.setIfInBounds_toArray, List.set_cons_zero, List.set_cons_succ]
  refine wpAnyH_take (i := 5) (oi := { dst := some 19, op := Go.Op.load 3 (Go.Operand.tmp 18), type := 3, pos := _, after := #[{ on := 4, ground := Go.Ground.data }], guard := none }) (v := ?va5) rfl (by kernel_rfl) (by kernel_rfl) (by kernel_rfl) (fun _ _ _ h => h) (Or.inl ⟨by rfl, ?ya5⟩) (by assumption) ?_
  case ya5 =>
    intro w hSw
    (try dsimp only at hSw)
    go_simp
    (try with_reducible rfl)
  simp only [Act.put, List.setIfInBounds_toArray, List.set_cons_zero, List.set_cons_succ]
  refine wpAnyH_ready (rs := [3]) (by kernel_rfl) (by simp) ?_
  refine (AllReadyH.cons rfl (fun K9 hK9 => ?ca10) AllReadyH.nil)
  case ca10 =>
    go_simp
    go_wp2_with (go_at_call 117; have hfe := fetch_any (w := W2.drew) (t := (t : Nat)) HP.out.1 (dk_below HP.out.1 HP.out.2.1 HB.out) (Nat.le_trans HP.out.2.2.1 HB.out.size) HP.out.2.2.2.1 HP.out.2.2.2.2.1.h1 HP.out.2.2.2.2.1.good.2 HP.out.2.2.2.2.2; rw [HN.out] at hfe; refine hfe.mono ?_; clear hfe; rintro e W3 ⟨a3, c3, rfl, f1, f2, f3, f4, f5, f6⟩)
    have HF : Hid (BtAt W3 a3 l ∧ N ≤ c3 ∧ (a3 = none → c3 = 0) ∧ (∀ b o, a3 = some ⟨b, o, none⟩ → W2.drew.heap.size ≤ b ∧ b < W3.heap.size) ∧ Below w.heap.size w W3) := ⟨f1, f2, f4, f5, below_step HB.out f6⟩
    have HS3 : Hid (W3.cell? ⟨E, 0, none⟩ = some (.int .i64 (h : Nat)) ∧ W3.cell? ⟨E, 1, none⟩ = some (.int .i64 (N : Nat)) ∧ W3.cell? ⟨E, 2, none⟩ = some (.int .i64 (t : Nat))) := ⟨cell_keep f6 HS0.out.1, cell_keep f6 HS0.out.2.1, cell_keep f6 HS0.out.2.2⟩
    clear f1 f2 f3 f4 f5 f6
    refine hK9.out _ _ HS3.out (fun hHeld => ?_)
    clear hK9
    (try simp only [Act.put, List.setIfInBounds_toArray, List.set_cons_zero, List.set_cons_succ])
    refine wpAnyH_take (i := 6) (oi := { dst := some 20, op := Go.Op.build 194 #[(0, Go.Operand.tmp 14), (1, Go.Operand.tmp 17), (2, Go.Operand.tmp 19)], type := 194, pos := _, after := #[{ on := 0, ground := Go.Ground.data }, { on := 3, ground := Go.Ground.data }, { on := 5, ground := Go.Ground.data }], guard := none }) (v := .agg #[.pointer (some ⟨kd, 0, none⟩), .slice a3 N c3, .int .i64 (t : Nat), .bool false]) rfl (by kernel_rfl) (by kernel_rfl) (by kernel_rfl) (fun _ _ _ h => h) ?ya6 (by assumption) ?_
    case ya6 => exact Or.inl ⟨by rfl, fun w _ => by simp only [execOp, List.map_toArray, List.map_cons, List.map_nil]; exact Dk.L.run_val (run_build w 194 _ _ (by kernel_rfl))⟩
    simp only [Act.put, List.setIfInBounds_toArray, List.set_cons_zero, List.set_cons_succ]
    refine wpAnyH_ready (rs := [7]) (by kernel_rfl) (by simp) ?_
    refine (AllReadyH.cons rfl (fun K9 hK9 => ?ca9) AllReadyH.nil)
    case ca9 =>
      go_simp
      refine hK9.out _ _ ⟨cell_keep ((Below.refl _ _).alloc (Nat.le_refl _) _) HS3.out.1, cell_keep ((Below.refl _ _).alloc (Nat.le_refl _) _) HS3.out.2.1, cell_keep ((Below.refl _ _).alloc (Nat.le_refl _) _) HS3.out.2.2⟩ (fun hHeld => ?_)
      clear hK9
      (try simp only [Act.put, List.setIfInBounds_toArray, List.set_cons_zero, List.set_cons_succ])
      refine wpAnyH_take (i := 8) (oi := { dst := some 2, op := Go.Op.assign (Go.Operand.tmp 21), type := 140, pos := _, after := #[{ on := 7, ground := Go.Ground.data }, { on := 3, ground := Go.Ground.chain }, { on := 0, ground := Go.Ground.phase }, { on := 1, ground := Go.Ground.phase }, { on := 2, ground := Go.Ground.phase }, { on := 3, ground := Go.Ground.phase }, { on := 4, ground := Go.Ground.phase }, { on := 5, ground := Go.Ground.phase }, { on := 6, ground := Go.Ground.phase }, { on := 7, ground := Go.Ground.phase }], guard := none }) (v := ?va7) rfl (by kernel_rfl) (by kernel_rfl) (by kernel_rfl) (fun _ _ _ h => h) (Or.inl ⟨by rfl, ?ya7⟩) (by assumption) ?_
      case ya7 =>
        intro w hSw
        (try dsimp only at hSw)
        go_simp
        (try with_reducible rfl)
      simp only [Act.put, List.setIfInBounds_toArray, List.set_cons_zero, List.set_cons_succ]
      refine wpAnyH_take (i := 9) (oi := { dst := some 3, op := Go.Op.assign (Go.Operand.const Go.Value.nilIface), type := 28, pos := _, after := #[{ on := 8, ground := Go.Ground.chain }, { on := 0, ground := Go.Ground.phase }, { on := 1, ground := Go.Ground.phase }, { on := 2, ground := Go.Ground.phase }, { on := 3, ground := Go.Ground.phase }, { on := 4, ground := Go.Ground.phase }, { on := 5, ground := Go.Ground.phase }, { on := 6, ground := Go.Ground.phase }, { on := 7, ground := Go.Ground.phase }, { on := 8, ground := Go.Ground.phase }], guard := none }) (v := ?va8) rfl (by kernel_rfl) (by kernel_rfl) (by kernel_rfl) (fun _ _ _ h => h) (Or.inl ⟨by rfl, ?ya8⟩) (by assumption) ?_
      case ya8 =>
        intro w hSw
        (try dsimp only at hSw)
        go_simp
        (try with_reducible rfl)
      simp only [Act.put, List.setIfInBounds_toArray, List.set_cons_zero, List.set_cons_succ]
      refine wpAnyH_done (by kernel_rfl) ?_ _
      refine NoPanic.normal ?_
      go_wp2_with fail
      go_ret2
      have hb4 : Below w.heap.size w (W3.alloc (.cells #[.pointer (some ⟨kd, 0, none⟩), .slice a3 N c3, .int .i64 (t : Nat), .bool false] 194)) := HF.out.2.2.2.2.alloc HF.out.2.2.2.2.size _
      refine ⟨W3.heap.size, rfl, a3, c3, (fun b => F b ∨ b = W3.heap.size ∨ ∃ o, a3 = some ⟨b, o, none⟩), {
        disk := dk_below HP.out.1 HP.out.2.1 hb4
        row := ?_
        bt := HF.out.1.below ((Below.refl _ _).alloc (Nat.le_refl _) _)
        cap := by rw [HN.out]; exact HF.out.2.1
        len := HP.out.2.2.2.2.2
        nil := HF.out.2.2.1
        own := fun b o e => ?_
        ks1 := Nat.le_trans HP.out.2.2.1 HF.out.2.2.2.2.size
        ks2 := fun q => ?_
        f := fun b => Iff.rfl }, fun b q => ?_, Turn.of_below hb4⟩
      · rw [HN.out]
        have := World.rowIs_alloc W3 #[.pointer (some ⟨kd, 0, none⟩), .slice a3 N c3, .int .i64 (t : Nat), .bool false] 194 (sc (.pointer (some ⟨kd, 0, none⟩)) (.slice a3 N c3) t false) (fun i hi => by
          have : i = 0 ∨ i = 1 ∨ i = 2 ∨ i = 3 := by simp at hi; omega
          rcases this with rfl | rfl | rfl | rfl <;> rfl)
        exact this
      · have h1 := HF.out.2.2.2.1 b o e
        have h2 := HB.out.size
        exact ⟨Nat.le_trans HP.out.2.2.1 (Nat.le_trans h2 h1.1), by simp; omega, fun q => by have := (HP.out.1.own HP.out.2.1 b q).2; omega, by omega⟩
      · have := (HP.out.1.own HP.out.2.1 _ q).2
        have := HF.out.2.2.2.2.size
        omega
      · rcases q with q | q | ⟨o, e⟩
        · exact Or.inl q
        · exact Or.inr (by rw [q]; exact HF.out.2.2.2.2.size)
        · exact Or.inr (Nat.le_trans HB.out.size (HF.out.2.2.2.1 b o e).1)

end Go.Proofs.YtcfemppdeidjmacGreat.Sk
