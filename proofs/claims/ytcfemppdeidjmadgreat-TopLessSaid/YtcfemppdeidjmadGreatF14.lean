/-
  The landed store: lay (bytes on pages).
  The landed store: fetch (bytes off pages).
  The landed store: replace; what a crash may leave.
-/
import Derived.Test.YtcfemppdeidjmadGreatF13
namespace Go.Proofs.YtcfemppdeidjmadGreat.Sk
open Go.RowKit Go.Deep Go.Proofs.YtcfemppdeidjmadGreat.Dk
open Go.RowKit (Below)
set_option linter.unusedVariables false

variable {w w' : World} {D : Dk.Face} {B n : Nat} {d : Value} {S S' : St} {F F' : Nat → Prop} {l : List UInt8}

/-- A disk behind j pages of these bytes, written from page o on. -/
def laid (S : St) (o : Nat) (l : List UInt8) : Nat → St
  | 0 => S
  | j + 1 => wrote (laid S o l j) (o + j) (pad (chunk l j))

theorem laid_len (S : St) (o : Nat) (l : List UInt8) : ∀ j, (laid S o l j).wr.length = S.wr.length + j
  | 0 => rfl
  | j + 1 => by
    show ((laid S o l j).wr ++ [_]).length = _
    rw [List.length_append, laid_len S o l j]
    rfl

/-- How lay ends, and what state it leaves. -/
def Laidp (S : St) (o : Nat) (l : List UInt8) (y : Int) (S' : St) : Prop :=
  (∃ j, 32 * j < l.length ∧ Off (laid S o l j) ∧ y = 8 ∧ S' = fall (laid S o l j)) ∨ (∃ j, l.length ≤ 32 * j ∧ 32 * j < l.length + 32 ∧ y = 0 ∧ S' = laid S o l j)

/-- A stretch of bytes. -/
theorem bt_cut {b o q m : Nat} (h : BtAt w (some ⟨b, o, none⟩) l) : BtAt w (some ⟨b, o + q, none⟩) ((l.drop q).take m) := fun i hi => by
  rw [List.length_take, List.length_drop] at hi
  obtain ⟨b', o', e, hc⟩ := h (q + i) (by omega)
  cases e
  refine ⟨b, o + q, rfl, ?_⟩
  rw [List.getD_eq_getElem?_getD, List.getElem?_take_of_lt (by omega), List.getElem?_drop, ← List.getD_eq_getElem?_getD, Nat.add_assoc]
  exact hc

set_option maxRecDepth 100000 in
set_option maxHeartbeats 4000000 in
theorem lay_any (O : DiskOk D) (h : D w B d n S F) (hB : B ≤ w.heap.size) (hw : S.wr.length ≤ 800) (hn : 62 ≤ n) {x : Nat} {L t : Int} (hx : x ≤ 1) {a : Option Addr} {c : Nat} (ha : BtAt w a l) (hc : l.length ≤ c) (hc2 : c ≤ maxLen)
    (hF : l ≠ [] → ∀ b o, a = some ⟨b, o, none⟩ → ¬ F b) (hl : l.length ≤ 960) :
    Calls Tryz.prog 108 #[d, .agg #[.int .i64 (x : Nat), .int .i64 L, .int .i64 t], .slice a l.length c] w fun e w' => ∃ v y S' F', e = .returned v ∧ Er v y ∧ Laidp S (at0 x) l y S' ∧ D w' B d n S' F' ∧ (∀ b, F' b → F b ∨ w.heap.size ≤ b) ∧ Turn F w w' := by
  have b1 : Below w.heap.size w (w.alloc (.cells #[.int .i64 (x : Nat), .int .i64 L, .int .i64 t] 137)) := (Below.refl _ _).alloc (Nat.le_refl _) _
  have HP : Hid (DiskOk D ∧ D w B d n S F ∧ B ≤ w.heap.size ∧ S.wr.length ≤ 800 ∧ 62 ≤ n ∧ x ≤ 1) := ⟨O, h, hB, hw, hn, hx⟩
  have HA : Hid (BtAt w a l ∧ l.length ≤ c ∧ c ≤ maxLen ∧ (l ≠ [] → ∀ b o, a = some ⟨b, o, none⟩ → ¬ F b) ∧ l.length ≤ 960) := ⟨ha, hc, hc2, hF, hl⟩
  obtain ⟨W1, hW1⟩ : ∃ W1, w.alloc (.cells #[.int .i64 (x : Nat), .int .i64 L, .int .i64 t] 137) = W1 := ⟨_, rfl⟩
  have r1 := row3_new w (x : Nat) L t
  rw [hW1] at b1 r1
  have e0 : W1.cell? ⟨w.heap.size, 0, none⟩ = some (.int .i64 (x : Nat)) := r1.cell (i := 0) (by omega)
  have H1 : Hid (Below w.heap.size w W1) := b1
  have HL : Hid (at0 x ≤ 31) := show _ ≤ _ by unfold at0; omega
  clear b1 r1 O h hB hw hn hx ha hc hc2 hF hl
  obtain ⟨N, hN⟩ : ∃ N, l.length = N := ⟨_, rfl⟩
  rw [hN]
  have HN : Hid (l.length = N) := hN
  clear hN
  go_enter Tryz.func108, Tryz.ntmps108
  go_wp2_with fail
  refine (start_any x HP.out.2.2.2.2.2).mono ?_
  rintro e w9 ⟨rfl, rfl⟩
  obtain ⟨o0, ho0⟩ : ∃ o0, at0 x = o0 := ⟨_, rfl⟩
  rw [ho0]
  have HO0 : Hid (at0 x = o0 ∧ o0 ≤ 31) := ⟨ho0, ho0 ▸ HL.out⟩
  clear ho0 e0 hW1 HL
  go_wp2_with fail
  go_loopw [7, 8] (fun at_ fr wr => ∃ (j : Nat) (Fj : Nat → Prop), 32 * j < N + 32 ∧ at_ = .int .i64 ((o0 + j : Nat) : Int) ∧ fr = .int .i64 ((32 * j : Nat) : Int) ∧ D wr B d n (laid S o0 l j) Fj ∧ (∀ b, Fj b → F b ∨ w.heap.size ≤ b) ∧ Turn F w wr) (fun _ fr _ => N + 32 - (intOf fr).toNat)
  case atStart => exact ⟨0, F, by omega, rfl, rfl, dk_below HP.out.1 HP.out.2.1 H1.out, fun b q => Or.inl q, Turn.of_below H1.out⟩
  case round =>
    obtain ⟨j, Fj, hj, rfl, rfl, hd, hf, ht⟩ := hrel
    have HJ : Hid (D wr B d n (laid S o0 l j) Fj ∧ (∀ b, Fj b → F b ∨ w.heap.size ≤ b) ∧ Turn F w wr) := ⟨hd, hf, ht⟩
    clear hd hf ht H1
    obtain ⟨q, hq⟩ : ∃ q, 32 * j = q := ⟨_, rfl⟩
    rw [hq]
    have HQ : Hid (32 * j = q ∧ 32 * j < N + 32 ∧ N ≤ 960 ∧ N ≤ c) := ⟨hq, hj, HN.out ▸ HA.out.2.2.2.2, HN.out ▸ HA.out.2.1⟩
    obtain ⟨p, hp⟩ : ∃ p, o0 + j = p := ⟨_, rfl⟩
    rw [hp]
    have HPp : Hid (o0 + j = p) := hp
    by_cases hlt : q < N
    · have i0 : (q : Int) < (N : Int) := by omega
      have i1 : IntKind.i64.wrap ((q : Int) + 32) = (q : Int) + 32 := by rw [IntKind.wrap_i64]; have := HQ.out; omega
      have i2 : IntKind.i64.wrap ((p : Int) + 1) = (p : Int) + 1 := by rw [IntKind.wrap_i64]; have := HQ.out; have := HO0.out; omega
      obtain ⟨H, hH⟩ : ∃ H, min (q + 32) N = H := ⟨_, rfl⟩
      have i3 : min ((q : Int) + 32) (N : Int) = (H : Int) := by omega
      have i4 : (0 : Int) ≤ (q : Int) := by omega
      have i5 : (q : Int) ≤ (H : Int) := by omega
      have i6 : (H : Int) ≤ (c : Int) := by have := HQ.out; omega
      have i7 : ¬ c = q := by have := HQ.out; omega
      obtain ⟨b, o, rfl⟩ : ∃ b o, a = some ⟨b, o, none⟩ := by
        obtain ⟨b, o, e, _⟩ := HA.out.1 0 (by have := HN.out; omega)
        exact ⟨b, o, e⟩
      clear hj hq hp
      go_wp2_with fail
      have hcl : (chunk l j).length = H - q := by
        unfold chunk
        rw [List.length_take, List.length_drop, HN.out]
        have := HQ.out
        omega
      have hbt : BtAt wr (some ⟨b, o + q, none⟩) (chunk l j) := by
        have h1 := Dk.L.bt_turn HA.out.1 HJ.out.2.2 HA.out.2.2.2.1
        have h2 := bt_cut (q := 32 * j) (m := 32) h1
        rw [HQ.out.1] at h2
        unfold chunk
        rw [HQ.out.1]
        exact h2
      have hne : l ≠ [] := fun e => by have := HN.out; rw [e] at this; simp at this; omega
      have hwr := HP.out.1.write (l := chunk l j) (a := some ⟨b, o + q, none⟩) (c := c - q) (p : Int) HJ.out.1 (Nat.le_trans HP.out.2.2.1 HJ.out.2.2.size) hbt (by rw [hcl]; have := HQ.out; omega) (by have := HA.out.2.2.1; omega)
        (fun _ b' o' e z => by
          cases e
          rcases HJ.out.2.1 b z with z | z
          · exact HA.out.2.2.2.1 hne b o rfl z
          · obtain ⟨b', o', e, hcell⟩ := HA.out.1 0 (by have := HN.out; omega)
            cases e
            have := World.block_lt_of_cell? _ _ hcell
            simp at this
            omega) (fun e => by cases e) (by rw [laid_len]; have := HP.out.2.2.2.1; have := HQ.out; omega)
      rw [hcl] at hwr
      refine hwr.mono ?_
      clear hwr hbt hcl
      rintro e W3 ⟨v, y, S3, F3, rfl, her, hwr, hd, hf, ht⟩
      have H3 : Hid (D W3 B d n S3 F3 ∧ (∀ b, F3 b → F b ∨ w.heap.size ≤ b) ∧ Turn F w W3) := ⟨hd, fun b z => (hf b z).elim (fun z => HJ.out.2.1 b z) fun z => Or.inr (Nat.le_trans HJ.out.2.2.size z), turn_step HJ.out.2.2 ht HJ.out.2.1⟩
      have hcase : (Off (laid S o0 l j) ∧ y = 8 ∧ S3 = fall (laid S o0 l j)) ∨ (y = 0 ∧ S3 = laid S o0 l (j + 1)) := by
        rcases hwr with ⟨h1, _⟩ | ⟨_, h1, _⟩ | ⟨_, _, h1, h2, h3⟩ | ⟨_, _, h1, h2, h3⟩
        · have := HP.out.2.2.2.2; have := HPp.out; have := HQ.out; have := HO0.out; omega
        · have := chunk_le l j; omega
        · exact Or.inl ⟨h1, h2, h3⟩
        · refine Or.inr ⟨h2, ?_⟩
          rw [h3]
          show _ = wrote (laid S o0 l j) (o0 + j) (pad (chunk l j))
          rw [HPp.out]
          rfl
      clear hwr hd hf ht HJ hH hne i3 i5 i6 i7
      rcases hcase with ⟨h1, rfl, rfl⟩ | ⟨rfl, rfl⟩
      · obtain rfl := Dk.Er.some her (by decide)
        have HO : Hid (Off (laid S o0 l j) ∧ 32 * j < l.length) := ⟨h1, by rw [HQ.out.1, HN.out]; exact hlt⟩
        clear h1
        go_wp2_with fail
        go_ret
        exact ⟨_, 8, _, _, rfl, her, Or.inl ⟨j, HO.out.2, by rw [HO0.out.1]; exact HO.out.1, rfl, by rw [HO0.out.1]⟩, H3.out⟩
      · obtain rfl := Dk.Er.nil her
        clear her
        go_wp2_with fail
        go_roundw
        case rel => exact ⟨j + 1, F3, by have := HQ.out; omega, by have := HPp.out; go_num, by have := HQ.out.1; go_num, H3.out⟩
        case measure => simp [intOf]; omega
    · have i0 : ¬ (q : Int) < (N : Int) := by omega
      clear hj hq hp
      go_wp2_with fail
      go_ret
      exact ⟨_, rfl, 0, Or.inl ⟨rfl, rfl⟩, _, Or.inr ⟨j, by have := HQ.out; have := HN.out; omega, by have := HQ.out; have := HN.out; omega, rfl, by rw [HO0.out.1]⟩, _, HJ.out⟩

end Go.Proofs.YtcfemppdeidjmadGreat.Sk

namespace Go.Proofs.YtcfemppdeidjmadGreat.Sk
open Go.RowKit Go.Deep Go.Proofs.YtcfemppdeidjmadGreat.Dk
open Go.RowKit (Below)
set_option linter.unusedVariables false

variable {w w' : World} {D : Dk.Face} {B n : Nat} {d : Value} {S S' : St} {F F' : Nat → Prop} {l : List UInt8}

theorem bt_cells {k : Nat} {p : List UInt8} (h : BtAt w (some ⟨k, 0, none⟩) p) : ∀ j u, (p.map by1)[j]? = some u → w.cell? (Addr.add ⟨k, 0, none⟩ j) = some u := fun j u hu => by
  rw [List.getElem?_map] at hu
  obtain ⟨c, hc, rfl⟩ := Option.map_eq_some_iff.1 hu
  obtain ⟨hj, _⟩ := List.getElem?_eq_some_iff.1 hc
  obtain ⟨b, o, e, hcell⟩ := h j hj
  cases e
  rw [Addr.add_lit, hcell, List.getD_eq_getElem?_getD, hc]
  rfl

set_option maxRecDepth 100000 in
set_option maxHeartbeats 4000000 in
theorem fetch_any (O : DiskOk D) (h : D w B d n S F) (hB : B ≤ w.heap.size) (hn : 62 ≤ n) {x : Nat} {t : Int} (hx : x ≤ 1) (hh : Has S.now x l) (hl : l.length ≤ 960) :
    Calls Tryz.prog 70 #[d, .agg #[.int .i64 (x : Nat), .int .i64 (l.length : Nat), .int .i64 t]] w fun e w' => ∃ a c, e = .returned (.slice a l.length c) ∧ BtAt w' a l ∧ l.length ≤ c ∧ c ≤ maxLen ∧ (a = none → c = 0) ∧ (∀ b o, a = some ⟨b, o, none⟩ → w.heap.size ≤ b ∧ b < w'.heap.size) ∧ Below w.heap.size w w' := by
  obtain ⟨N, hN⟩ : ∃ N, l.length = N := ⟨_, rfl⟩
  have b1 : Below w.heap.size w (w.alloc (.cells #[.int .i64 (x : Nat), .int .i64 (N : Nat), .int .i64 t] 137)) := (Below.refl _ _).alloc (Nat.le_refl _) _
  have HP : Hid (DiskOk D ∧ D w B d n S F ∧ B ≤ w.heap.size ∧ 62 ≤ n ∧ x ≤ 1 ∧ Has S.now x l ∧ l.length ≤ 960) := ⟨O, h, hB, hn, hx, hh, hl⟩
  obtain ⟨W1, hW1⟩ : ∃ W1, w.alloc (.cells #[.int .i64 (x : Nat), .int .i64 (N : Nat), .int .i64 t] 137) = W1 := ⟨_, rfl⟩
  have r1 := row3_new w (x : Nat) (N : Nat) t
  rw [hW1] at b1 r1
  have e0 : W1.cell? ⟨w.heap.size, 0, none⟩ = some (.int .i64 (x : Nat)) := r1.cell (i := 0) (by omega)
  have e1 : W1.cell? ⟨w.heap.size, 1, none⟩ = some (.int .i64 (N : Nat)) := r1.cell (i := 1) (by omega)
  have H1 : Hid (Below w.heap.size w W1 ∧ W1.cell? ⟨w.heap.size, 1, none⟩ = some (.int .i64 (N : Nat))) := ⟨b1, e1⟩
  have HL : Hid (at0 x ≤ 31) := show _ ≤ _ by unfold at0; omega
  obtain ⟨z0, hi0, hz0, hz1, hz2⟩ := info_parts Tryz.infoU8r
  have HN : Hid (l.length = N ∧ N ≤ 960) := ⟨hN, hN ▸ hl⟩
  clear b1 r1 O h hB hn hx hh hl e1
  rw [hN]
  clear hN
  go_enter Tryz.func70, Tryz.ntmps70
  go_wp2_with fail
  refine (start_any x HP.out.2.2.2.2.1).mono ?_
  rintro e w9 ⟨rfl, h9⟩
  rw [h9]
  clear h9
  obtain ⟨o0, ho0⟩ : ∃ o0, at0 x = o0 := ⟨_, rfl⟩
  rw [ho0]
  have HO0 : Hid (at0 x = o0 ∧ o0 ≤ 31) := ⟨ho0, ho0 ▸ HL.out⟩
  clear ho0 e0 hW1 HL
  go_wp2_with fail
  go_loopw [5, 6] (fun v at_ wr => ∃ (j M : Nat), 32 * j = M ∧ M < N + 32 ∧ at_ = .int .i64 ((o0 + j : Nat) : Int) ∧ Below W1.heap.size W1 wr ∧ wr.ownsRow W1.heap.size 5 1 v M (((long l).take M).map by1)) (fun _ at_ _ => N + 32 - 32 * ((intOf at_).toNat - o0))
  case atStart => exact ⟨0, 0, rfl, by omega, rfl, Below.refl _ _, World.ownsRow_nil ..⟩
  case round =>
    obtain ⟨j, M, hM, hj, rfl, hb, hown⟩ := hrel
    have HJ : Hid (Below W1.heap.size W1 wr ∧ wr.ownsRow W1.heap.size 5 1 u5 M (((long l).take M).map by1)) := ⟨hb, hown⟩
    have HQ : Hid (32 * j = M ∧ M < N + 32) := ⟨hM, hj⟩
    have c1 := cell_keep hb H1.out.2
    have hu5 : ∃ ao co, u5 = .slice ao M co ∧ M ≤ co ∧ (0 < M → ∃ g, ao = some ⟨g, 0, none⟩) ∧ (M = 0 → u5 = u5) := by
      rcases hown.2 with ⟨rfl, h0⟩ | ⟨g, cap, _, rfl, _, _, h1, _⟩
      · exact ⟨none, 0, by rw [h0], by omega, fun q => by omega, fun _ => rfl⟩
      · exact ⟨_, cap, rfl, h1, fun _ => ⟨g, rfl⟩, fun _ => rfl⟩
    obtain ⟨ao, co, rfl, hco, hg, -⟩ := hu5
    clear hb hown hM
    obtain ⟨p, hp⟩ : ∃ p, o0 + j = p := ⟨_, rfl⟩
    rw [hp]
    have HPp : Hid (o0 + j = p) := hp
    by_cases hlt : M < N
    · have i0 : (M : Int) < (N : Int) := by omega
      have i2 : IntKind.i64.wrap ((p : Int) + 1) = (p : Int) + 1 := by rw [IntKind.wrap_i64]; have := HQ.out; have := HO0.out; have := HN.out; omega
      clear hp hg hco
      go_wp2_with fail
      refine (HP.out.1.read_32 p (dk_below HP.out.1 HP.out.2.1 (below_step H1.out.1 HJ.out.1)) (by have := HP.out.2.2.1; have := H1.out.1.size; have := HJ.out.1.size; omega) (by have := HP.out.2.2.2.1; have := HPp.out; have := HQ.out; have := HO0.out; have := HN.out; omega)).mono ?_
      rintro e W3 ⟨k3, rfl, hlen, hbt, hk3, hb3⟩
      have hpg : S.now p = pad (chunk l j) := by
        rw [← HPp.out, ← HO0.out.1]
        exact HP.out.2.2.2.2.2.1 j (by rw [HQ.out.1, HN.out.1]; exact hlt)
      rw [hpg] at hlen hbt
      have HC : Hid (BtAt W3 (some ⟨k3, 0, none⟩) (pad (chunk l j)) ∧ (pad (chunk l j)).length = 32) := ⟨hbt, hlen⟩
      have HO3 : Hid (W3.ownsRow W1.heap.size 5 1 (.slice ao M co) M (((long l).take M).map by1)) := Dk.L.own_block HJ.out.2 fun k hk => hb3.block k (HJ.out.2.lt k hk).2
      have HB3 : Hid (Below W1.heap.size W1 W3) := below_step HJ.out.1 hb3
      have hc3 := bt_cells hbt
      have hl3 : ((pad (chunk l j)).map by1).length = 32 * 1 := by rw [List.length_map, hlen]
      obtain ⟨V, hV⟩ : ∃ V, (pad (chunk l j)).map by1 = V := ⟨_, rfl⟩
      rw [hV] at hc3 hl3
      have HV : Hid ((pad (chunk l j)).map by1 = V) := hV
      have ho3 : ∀ u ∈ V, u.oneCell' = true := fun u hu => by
        rw [← hV] at hu
        obtain ⟨y, _, rfl⟩ := List.mem_map.1 hu
        rfl
      obtain ⟨H, hH⟩ : ∃ H, W3.heap.size = H := ⟨_, rfl⟩
      clear hlen hbt hk3 hb3 hpg hV c1
      go_wp2_with (first
        | (at_builtin; refine wpList_append_lies _ rfl (.tmp 27) (.tmp 28) 97 rfl W1.heap.size 5 z0 (.int .u8 0) 1 1 Tryz.underlying97 hi0 hz0 hz1 hz2 rfl (by decide) (.slice ao M co) M (((long l).take M).map by1) rfl HO3.out ⟨k3, 0, none⟩ 32 32 V rfl hl3 hc3 ho3 (by decide) ?c3 ?c4 ?c5 H hH ?_))
      case c3 => unfold maxLen; have := HN.out; have := HQ.out; omega
      case c4 => have := HN.out; have := HQ.out; omega
      case c5 => exact HB3.out.size
      intro g1 cap1 w2 hown hgrow hat hlt2
      have hb2 : Below W1.heap.size W1 w2 := HB3.out.grown hgrow HB3.out.size (fun k e => (HO3.out.lt k e).1)
      have HN2 : Hid (Below W1.heap.size W1 w2 ∧ w2.ownsRow W1.heap.size 5 1 (.slice (some ⟨g1, 0, none⟩) (M + 32) cap1) (M + 32) (((long l).take (M + 32)).map by1)) := by
        refine ⟨hb2, ?_⟩
        have e1 : List.take M ((long l).map by1) ++ V = ((long l).take (M + 32)).map by1 := by
          rw [← HV.out, ← List.map_take, ← List.map_append, ← HQ.out.1, long_more (by rw [HQ.out.1, HN.out.1]; exact hlt)]
          rfl
        rw [← e1]
        exact hown
      clear hown hgrow hat hlt2 hb2 hc3 hl3 ho3 hH HO3
      go_wp2_with fail
      go_roundw
      case rel => exact ⟨j + 1, M + 32, by have := HQ.out; omega, by omega, by have := HPp.out; go_num, HN2.out⟩
      case measure => simp [intOf]; have := HPp.out; have := HQ.out; omega
    · have i0 : ¬ (M : Int) < (N : Int) := by omega
      have i1 : (N : Int) ≤ (M : Int) := by omega
      have i2 : (N : Int) ≤ (co : Int) := by omega
      have i3 : (0 : Int) ≤ (N : Int) := by omega
      have HR : Hid (∀ i, i < l.length → ∃ g, ao = some ⟨g, 0, none⟩ ∧ wr.cell? ⟨g, i, none⟩ = some (by1 (l.getD i 0))) := fun i hi => by
        obtain ⟨g, rfl⟩ := hg (by have := HN.out; omega)
        have := HJ.out.2.cellAt i (by have := HN.out; omega)
        refine ⟨g, rfl, ?_⟩
        rw [this, List.getElem?_map, List.getElem?_take_of_lt (by have := HN.out; omega)]
        unfold long
        rw [List.getElem?_append_left hi, List.getD_eq_getElem?_getD, List.getElem?_eq_getElem hi]
        rfl
      have HZ : Hid (N ≤ co ∧ co ≤ maxLen ∧ (ao = none → co = 0) ∧ (∀ b o, ao = some ⟨b, o, none⟩ → o = 0 ∧ w.heap.size ≤ b ∧ b < wr.heap.size) ∧ Below w.heap.size w wr) := by
        refine ⟨by omega, ?_, ?_, ?_, below_step H1.out.1 HJ.out.1⟩ <;> rcases HJ.out.2.2 with ⟨e, h0⟩ | ⟨g, cap, cur, e, hg1, hg2, h1, h2, _⟩ <;> cases e
        · exact Nat.zero_le _
        · exact h2
        · exact fun _ => rfl
        · exact fun q => (by cases q)
        · exact fun b o q => (by cases q)
        · exact fun b o q => by cases q; exact ⟨rfl, Nat.le_trans H1.out.1.size hg1, (Array.getElem?_eq_some_iff.1 hg2).1⟩
      clear hj hp hg hco
      go_wp2_with fail
      go_ret
      exact ⟨ao, co, rfl, fun i hi => by
        obtain ⟨g, e, hc⟩ := HR.out i hi
        exact ⟨g, 0, e, by rw [Nat.zero_add]; exact hc⟩, HZ.out.1, HZ.out.2.1, HZ.out.2.2.1, fun b o e => (HZ.out.2.2.2.1 b o e).2, HZ.out.2.2.2.2⟩

end Go.Proofs.YtcfemppdeidjmadGreat.Sk

namespace Go.Proofs.YtcfemppdeidjmadGreat.Sk
open Go.RowKit Go.Deep Go.Proofs.YtcfemppdeidjmadGreat.Dk
open Go.RowKit (Below)
set_option linter.unusedVariables false

variable {w w' : World} {D : Dk.Face} {B n : Nat} {d : Value} {S S' : St} {F F' : Nat → Prop} {l : List UInt8}

/-! ### states, plain -/

theorem laid_kept (S : St) (o : Nat) (l : List UInt8) : ∀ j, (laid S o l j).kept = S.kept
  | 0 => rfl
  | j + 1 => laid_kept S o l j
theorem laid_down (S : St) (o : Nat) (l : List UInt8) : ∀ j, (laid S o l j).down = S.down
  | 0 => rfl
  | j + 1 => laid_down S o l j
theorem less_left {s : St} (h : s.left = -1) : (less s).left = -1 := by
  show (if 0 < s.left then _ else _) = _
  rw [h]
  rfl
theorem laid_left {S : St} {o : Nat} {l : List UInt8} (h : S.left = -1) : ∀ j, (laid S o l j).left = -1
  | 0 => h
  | j + 1 => less_left (laid_left h j)
theorem less_ge {s : St} (h : -1 ≤ s.left) : -1 ≤ (less s).left := by
  show -1 ≤ (if 0 < s.left then _ else _)
  split <;> omega
theorem laid_ge {S : St} {o : Nat} {l : List UInt8} (h : -1 ≤ S.left) : ∀ j, -1 ≤ (laid S o l j).left
  | 0 => h
  | j + 1 => less_ge (laid_ge h j)
theorem laid_out (S : St) (o : Nat) (l : List UInt8) {a : Nat} : ∀ j, (∀ i, i < j → a ≠ o + i) → (laid S o l j).now a = S.now a
  | 0, _ => rfl
  | j + 1, h => by
    show upd (laid S o l j).now (o + j) (pad (chunk l j)) a = _
    rw [upd_other _ _ (h j (Nat.lt_succ_self j)), laid_out S o l j fun i hi => h i (Nat.lt_succ_of_lt hi)]
theorem laid_in (S : St) (o : Nat) (l : List UInt8) {i : Nat} : ∀ j, i < j → (laid S o l j).now (o + i) = pad (chunk l i)
  | j + 1, h => by
    show upd (laid S o l j).now (o + j) (pad (chunk l j)) (o + i) = _
    by_cases e : i = j
    · rw [e, upd_same]
    · rw [upd_other _ _ (by omega), laid_in S o l j (by omega)]
theorem laid_wr {S : St} {o : Nat} {l : List UInt8} (h : S.wr = []) : ∀ j, ∀ x ∈ (laid S o l j).wr, o ≤ x.1 ∧ x.1 < o + j
  | 0, x, hx => by rw [show (laid S o l 0).wr = [] from h] at hx; cases hx
  | j + 1, x, hx => by
    rcases List.mem_append.1 (show x ∈ (laid S o l j).wr ++ [(o + j, pad (chunk l j))] from hx) with q | q
    · have := laid_wr h j x q; omega
    · rw [List.mem_singleton.1 q]; exact ⟨Nat.le_add_right _ _, by show o + j < o + (j + 1); omega⟩
theorem not_off {s : St} (h1 : s.down = false) (h2 : s.left = -1) : ¬ Off s := fun q => by
  rcases q with q | q
  · rw [h1] at q; cases q
  · rw [h2] at q; cases q

/-- A disk at rest that tells of these bytes. -/
structure Rest (S : St) (h : Nat) (l : List UInt8) (t : Nat) : Prop where
  wr : S.wr = []
  kept : S.kept = S.now
  good : Good S.now h l t
  h1 : h ≤ 1
  down : S.down = false
  left : -1 ≤ S.left

/-- A disk without power, of which a crash leaves the one or the other. -/
structure Torn (S : St) (l : List UInt8) (t : Nat) (x : List UInt8) : Prop where
  down : S.down = true
  any : ∀ q, (∃ h, h ≤ 1 ∧ Good (play q 0 S.wr S.kept) h l t) ∨ (∃ h, h ≤ 1 ∧ Good (play q 0 S.wr S.kept) h x (t + 1))
  wr : S.wr.length ≤ 900

theorem at0_apart {h i j : Nat} (hh : h ≤ 1) (hi : i < 30) (hj : j < 30) : at0 h + i ≠ at0 (1 - h) + j := by
  have : h = 0 ∨ h = 1 := by omega
  unfold at0
  rcases this with rfl | rfl <;> omega
theorem at0_pos (h : Nat) : 1 ≤ at0 h := by unfold at0; omega

variable {h t : Nat} {x : List UInt8}

/-- While the other half is written, what was stands. -/
theorem torn_laid (R : Rest S h l t) (hl : l.length ≤ 960) {j : Nat} (hj : j ≤ 30) : Torn (fall (laid S (at0 (1 - h)) x j)) l t x := by
  refine ⟨rfl, fun q => Or.inl ⟨h, R.h1, ?_⟩, ?_⟩
  · show Good (play q 0 (laid S (at0 (1 - h)) x j).wr (laid S (at0 (1 - h)) x j).kept) h l t
    rw [laid_kept, R.kept]
    have hw := laid_wr (o := at0 (1 - h)) (l := x) R.wr j
    refine R.good.of_same (play_out _ _ _ fun y hy => ?_) fun i hi => play_out _ _ _ fun y hy => ?_
    · have := (hw y hy).1
      have := at0_pos (1 - h)
      omega
    · have h1 := hw y hy
      intro e
      exact at0_apart (i := i) (j := y.1 - at0 (1 - h)) R.h1 (by omega) (by omega) (by omega)
  · show (laid S (at0 (1 - h)) x j).wr.length ≤ 900
    rw [laid_len, R.wr]
    simp
    omega

/-- Both halves stand, the first page tells of the elder. -/
theorem both_laid (R : Rest S h l t) (hl : l.length ≤ 960) {j : Nat} (hj : j ≤ 30) (hx : x.length ≤ 32 * j) : Good (laid S (at0 (1 - h)) x j).now h l t ∧ Has (laid S (at0 (1 - h)) x j).now (1 - h) x := by
  refine ⟨R.good.of_same (laid_out _ _ _ _ fun i _ => ?_) fun i hi => laid_out _ _ _ _ fun k hk => at0_apart R.h1 (by omega) (by omega), fun i hi => laid_in _ _ _ _ (by omega)⟩
  have := at0_pos (1 - h)
  omega

theorem good_new {f : Nat → List UInt8} {k : Nat} (hf : Has f k x) : Good (upd f 0 (headP k x.length t)) k x t :=
  ⟨upd_same _ _ _, fun i hi => by rw [upd_other _ _ (by have := at0_pos k; omega)]; exact hf i hi⟩

/-- How replace ends, and what state it leaves. -/
def Replp (S : St) (h : Nat) (x : List UInt8) (t : Nat) (y : Int) (S' : St) : Prop :=
  (∃ j, j ≤ 30 ∧ Off (laid S (at0 h) x j) ∧ y = 8 ∧ S' = fall (laid S (at0 h) x j)) ∨
  (∃ j, j ≤ 30 ∧ x.length ≤ 32 * j ∧ ¬ Off (laid S (at0 h) x j) ∧ Tellp (synced (laid S (at0 h) x j)) (headP h x.length t) y S')

/-- The whole of a Save: the new bytes, or the power is off and a crash leaves the one or the other. -/
theorem repl_ends (R : Rest S h l t) (hl : l.length ≤ 960) {y : Int} (H : Replp S (1 - h) x (t + 1) y S') :
    (y = 0 ∧ Rest S' (1 - h) x (t + 1) ∧ (S.left = -1 → S'.left = -1)) ∨ (y = 8 ∧ S.left ≠ -1 ∧ Torn S' l t x) := by
  have hh : 1 - h ≤ 1 := by omega
  rcases H with ⟨j, hj, ho, rfl, rfl⟩ | ⟨j, hj, hx, ho, ht⟩
  · exact Or.inr ⟨rfl, fun q => not_off ((laid_down _ _ _ j).trans R.down) (laid_left q j) ho, torn_laid R hl hj⟩
  · obtain ⟨g1, g2⟩ := both_laid R hl hj hx
    have hd : (laid S (at0 (1 - h)) x j).down = false := (laid_down _ _ _ j).trans R.down
    have hge := laid_ge (o := at0 (1 - h)) (l := x) R.left j
    have hlf : S.left = -1 → (laid S (at0 (1 - h)) x j).left = -1 := fun q => laid_left q j
    revert ht g1 g2 hd hge hlf
    generalize laid S (at0 (1 - h)) x j = T
    intro ht g1 g2 hd hge hlf
    rcases ht with ⟨h1, rfl, rfl⟩ | ⟨_, h1, rfl, rfl⟩ | ⟨_, _, rfl, rfl⟩
    · refine Or.inr ⟨rfl, fun q => not_off (s := synced T) hd (less_left (hlf q)) h1, rfl, fun q => Or.inl ⟨h, R.h1, g1⟩, Nat.zero_le _⟩
    · refine Or.inr ⟨rfl, fun q => not_off (s := wrote (synced T) 0 (headP (1 - h) x.length (t + 1))) hd (less_left (s := synced T) (less_left (hlf q))) h1, rfl, fun q => ?_, by show ([] ++ [_] : List (Nat × List UInt8)).length ≤ 900; simp⟩
      show (∃ h, h ≤ 1 ∧ Good (if q 0 then upd T.now 0 _ else T.now) h l t) ∨ (∃ h, h ≤ 1 ∧ Good (if q 0 then upd T.now 0 _ else T.now) h x (t + 1))
      split
      · exact Or.inr ⟨1 - h, hh, good_new g2⟩
      · exact Or.inl ⟨h, R.h1, g1⟩
    · exact Or.inl ⟨rfl, ⟨rfl, rfl, good_new g2, hh, hd, less_ge (less_ge (less_ge hge))⟩, fun q => less_left (less_left (less_left (hlf q)))⟩

set_option maxRecDepth 100000 in
set_option maxHeartbeats 4000000 in
theorem replace_any (O : DiskOk D) (hD : D w B d n S F) (hB : B ≤ w.heap.size) (hw : S.wr = []) (hn : 62 ≤ n) {k : Nat} (hk : k ≤ 1) {u : Nat} (hu : u ≤ 100000) {a : Option Addr} {c : Nat} (ha : BtAt w a x) (hc : x.length ≤ c) (hc2 : c ≤ maxLen)
    (hF : x ≠ [] → ∀ b o, a = some ⟨b, o, none⟩ → ¬ F b) (hl : x.length ≤ 960) :
    Calls Tryz.prog 71 #[d, .agg #[.int .i64 (k : Nat), .int .i64 (x.length : Nat), .int .i64 (u : Nat)], .slice a x.length c] w fun e w' => ∃ v y S' F', e = .returned v ∧ Er v y ∧ Replp S k x u y S' ∧ D w' B d n S' F' ∧ (∀ b, F' b → F b ∨ w.heap.size ≤ b) ∧ Turn F w w' := by
  have b1 : Below w.heap.size w (w.alloc (.cells #[.int .i64 (k : Nat), .int .i64 (x.length : Nat), .int .i64 (u : Nat)] 137)) := (Below.refl _ _).alloc (Nat.le_refl _) _
  have r1 := row3_new w (k : Nat) (x.length : Nat) (u : Nat)
  have hl1 := fun (V : World) (hV : Below w.heap.size w V) => lay_any (w := V) (x := k) (L := (x.length : Nat)) (t := (u : Nat)) (l := x) (c := c) O (dk_below O hD hV) (Nat.le_trans hB hV.size) (by rw [hw]; simp) hn hk (ha.below hV) hc hc2 hF hl
  have HP : Hid (DiskOk D ∧ D w B d n S F ∧ B ≤ w.heap.size ∧ S.wr = [] ∧ 62 ≤ n ∧ k ≤ 1 ∧ u ≤ 100000 ∧ x.length ≤ 960) := ⟨O, hD, hB, hw, hn, hk, hu, hl⟩
  obtain ⟨N, hN⟩ : ∃ N, x.length = N := ⟨_, rfl⟩
  rw [hN] at b1 r1 hl1
  rw [hN]
  have HN : Hid (x.length = N) := hN
  obtain ⟨W1, hW1⟩ : ∃ W1, w.alloc (.cells #[.int .i64 (k : Nat), .int .i64 (N : Nat), .int .i64 (u : Nat)] 137) = W1 := ⟨_, rfl⟩
  rw [hW1] at b1 r1
  have HL := hl1 W1 b1
  have hE : ∀ V, Turn F W1 V → ∀ i v, W1.cell? ⟨w.heap.size, i, none⟩ = some v → V.cell? ⟨w.heap.size, i, none⟩ = some v := fun V hV i v hv => hV.cell (fun q => by have := (O.own hD _ q).2; omega) hv
  have e0 : W1.cell? ⟨w.heap.size, 0, none⟩ = some (.int .i64 (k : Nat)) := r1.cell (i := 0) (by omega)
  have e1 : W1.cell? ⟨w.heap.size, 1, none⟩ = some (.int .i64 (N : Nat)) := r1.cell (i := 1) (by omega)
  have e2 : W1.cell? ⟨w.heap.size, 2, none⟩ = some (.int .i64 (u : Nat)) := r1.cell (i := 2) (by omega)
  have H1 : Hid (Below w.heap.size w W1 ∧ (∀ V, Turn F W1 V → ∀ i v, W1.cell? ⟨w.heap.size, i, none⟩ = some v → V.cell? ⟨w.heap.size, i, none⟩ = some v) ∧ W1.cell? ⟨w.heap.size, 0, none⟩ = some (.int .i64 (k : Nat)) ∧ W1.cell? ⟨w.heap.size, 1, none⟩ = some (.int .i64 (N : Nat)) ∧ W1.cell? ⟨w.heap.size, 2, none⟩ = some (.int .i64 (u : Nat))) := ⟨b1, hE, e0, e1, e2⟩
  clear hl1 hE b1 r1 O hD hB hw hn hk hu ha hc hc2 hF hl hN
  go_enter Tryz.func71, Tryz.ntmps71
  go_wp2_with fail
  refine HL.mono ?_
  rintro e W3 ⟨v, y, S3, F3, rfl, her, hlp, hd, hf, ht⟩
  have H3 : Hid (D W3 B d n S3 F3 ∧ (∀ b, F3 b → F b ∨ W1.heap.size ≤ b) ∧ Turn F W1 W3) := ⟨hd, hf, ht⟩
  have HU : Hid (∀ (V : World) (F' : Nat → Prop), (∀ b, F' b → F b ∨ W1.heap.size ≤ b) ∧ Turn F W1 V → (∀ b, F' b → F b ∨ w.heap.size ≤ b) ∧ Turn F w V) := fun V F' q => ⟨fun b z => (q.1 b z).imp id fun z => Nat.le_trans H1.out.1.size z, (Turn.of_below H1.out.1).trans q.2⟩
  have hcase : (∃ j, j ≤ 30 ∧ Off (laid S (at0 k) x j) ∧ y = 8 ∧ S3 = fall (laid S (at0 k) x j)) ∨ (∃ j, j ≤ 30 ∧ x.length ≤ 32 * j ∧ y = 0 ∧ S3 = laid S (at0 k) x j) := by
    have := HP.out.2.2.2.2.2.2.2
    rcases hlp with ⟨j, h1, h2, h3, h4⟩ | ⟨j, h1, h2, h3, h4⟩
    · exact Or.inl ⟨j, by omega, h2, h3, h4⟩
    · exact Or.inr ⟨j, by omega, h1, h3, h4⟩
  clear hlp hd hf ht HL hW1 e0 e1 e2
  rcases hcase with ⟨j, hj, ho, rfl, rfl⟩ | ⟨j, hj, hx, rfl, rfl⟩
  · obtain rfl := Dk.Er.some her (by decide)
    have HO : Hid (j ≤ 30 ∧ Off (laid S (at0 k) x j)) := ⟨hj, ho⟩
    clear hj ho
    go_wp2_with fail
    go_ret
    exact ⟨_, 8, _, _, rfl, her, Or.inl ⟨j, HO.out.1, HO.out.2, rfl, rfl⟩, H3.out.1, HU.out _ _ H3.out.2⟩
  · obtain rfl := Dk.Er.nil her
    have HJ : Hid (j ≤ 30 ∧ x.length ≤ 32 * j) := ⟨hj, hx⟩
    clear hj hx her
    go_wp2_with fail
    refine (HP.out.1.sync H3.out.1 (by have := HP.out.2.2.1; have := H1.out.1.size; have := H3.out.2.2.size; omega)).mono ?_
    rintro e W4 ⟨v, y, S4, F4, rfl, her, hsy, hd, hf, ht⟩
    have H4 : Hid (D W4 B d n S4 F4 ∧ (∀ b, F4 b → F b ∨ W1.heap.size ≤ b) ∧ Turn F W1 W4) := ⟨hd, fun b q => (hf b q).elim (fun q => H3.out.2.1 b q) fun q => Or.inr (Nat.le_trans H3.out.2.2.size q), turn_step H3.out.2.2 ht H3.out.2.1⟩
    have hcase : (Off (laid S (at0 k) x j) ∧ y = 8 ∧ S4 = fall (laid S (at0 k) x j)) ∨ (¬ Off (laid S (at0 k) x j) ∧ y = 0 ∧ S4 = synced (laid S (at0 k) x j)) := hsy
    clear hsy hd hf ht H3
    rcases hcase with ⟨ho, rfl, rfl⟩ | ⟨ho, rfl, rfl⟩
    · obtain rfl := Dk.Er.some her (by decide)
      have HO : Hid (Off (laid S (at0 k) x j)) := ho
      clear ho
      go_wp2_with fail
      go_ret
      exact ⟨_, 8, _, _, rfl, her, Or.inl ⟨j, HJ.out.1, HO.out, rfl, rfl⟩, H4.out.1, HU.out _ _ H4.out.2⟩
    · obtain rfl := Dk.Er.nil her
      have HO : Hid (¬ Off (laid S (at0 k) x j)) := ho
      have e0 := H1.out.2.1 W4 H4.out.2.2 0 _ H1.out.2.2.1
      have e1 := H1.out.2.1 W4 H4.out.2.2 1 _ H1.out.2.2.2.1
      have e2 := H1.out.2.1 W4 H4.out.2.2 2 _ H1.out.2.2.2.2
      clear ho her
      go_wp2_with fail
      refine (tell_any HP.out.1 H4.out.1 (by have := HP.out.2.2.1; have := H1.out.1.size; have := H4.out.2.2.size; omega) (Nat.zero_le _) (by have := HP.out.2.2.2.2.1; omega) (x := k) (l := N) (t := u) HP.out.2.2.2.2.2.1 (HN.out ▸ HP.out.2.2.2.2.2.2.2) HP.out.2.2.2.2.2.2.1).mono ?_
      rintro e W5 ⟨v, y, S5, F5, rfl, her, htl, hd, hf, ht⟩
      have H5 : Hid (D W5 B d n S5 F5 ∧ (∀ b, F5 b → F b ∨ W1.heap.size ≤ b) ∧ Turn F W1 W5) := ⟨hd, fun b q => (hf b q).elim (fun q => H4.out.2.1 b q) fun q => Or.inr (Nat.le_trans H4.out.2.2.size q), turn_step H4.out.2.2 ht H4.out.2.1⟩
      have HT : Hid (Er v y ∧ Tellp (synced (laid S (at0 k) x j)) (headP k N u) y S5) := ⟨her, htl⟩
      clear e0 e1 e2 her htl hd hf ht H4
      go_wp2_with fail
      go_ret
      exact ⟨v, y, S5, F5, rfl, HT.out.1, Or.inr ⟨j, HJ.out.1, HJ.out.2, HO.out, by rw [HN.out]; exact HT.out.2⟩, H5.out.1, HU.out _ _ H5.out.2⟩

end Go.Proofs.YtcfemppdeidjmadGreat.Sk
