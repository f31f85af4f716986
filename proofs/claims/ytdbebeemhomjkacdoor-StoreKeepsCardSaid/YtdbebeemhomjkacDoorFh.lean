/-
  The landed store: fetch (bytes off pages).
-/
import Derived.Test.YtdbebeemhomjkacDoorFg
namespace Go.Proofs.YtdbebeemhomjkacDoor.Sk
open Go.RowKit Go.Deep Go.Proofs.YtdbebeemhomjkacDoor.Dk
open Go.RowKit (Below)
set_option linter.unusedVariables false

variable {w w' : World} {D : Dk.Face} {B n : Nat} {d : Value} {S S' : St} {F F' : Nat → Prop} {l : List UInt8}

theorem bt_cells {k : Nat} {p : List UInt8} (h : BtAt w (some ⟨k, 0, none⟩) p) : ∀ j u, (p.map by1)[j]? = some u → w.cell? (Addr.add ⟨k, 0, none⟩ j) = some u := fun j u hu => by
  rw [List.getElem?_map] at hu
  obtain ⟨c, hc, rfl⟩ := Option.map_eq_some_iff.1 hu
  obtain ⟨hj, _⟩ := List.getElem?_eq_some_iff.1 hc
  obtain ⟨b, o, e, hcell⟩ := h j hj
  cases e
  rw [Addr.add_lit, hcell, List.getD_eq_getElem?_getD, hc]
  rfl

set_option maxRecDepth 100000 in
set_option maxHeartbeats 4000000 in
theorem fetch_any (O : DiskOk D) (h : D w B d n S F) (hB : B ≤ w.heap.size) (hn : 62 ≤ n) {x : Nat} {t : Int} (hx : x ≤ 1) (hh : Has S.now x l) (hl : l.length ≤ 960) :
    Calls Tryd.prog 41 #[d, .agg #[.int .i64 (x : Nat), .int .i64 (l.length : Nat), .int .i64 t]] w fun e w' => ∃ a c, e = .returned (.slice a l.length c) ∧ BtAt w' a l ∧ l.length ≤ c ∧ c ≤ maxLen ∧ (a = none → c = 0) ∧ (∀ b o, a = some ⟨b, o, none⟩ → w.heap.size ≤ b ∧ b < w'.heap.size) ∧ Below w.heap.size w w' := by
  obtain ⟨N, hN⟩ : ∃ N, l.length = N := ⟨_, rfl⟩
  have b1 : Below w.heap.size w (w.alloc (.cells #[.int .i64 (x : Nat), .int .i64 (N : Nat), .int .i64 t] 93)) := (Below.refl _ _).alloc (Nat.le_refl _) _
  have HP : Hid (DiskOk D ∧ D w B d n S F ∧ B ≤ w.heap.size ∧ 62 ≤ n ∧ x ≤ 1 ∧ Has S.now x l ∧ l.length ≤ 960) := ⟨O, h, hB, hn, hx, hh, hl⟩
  obtain ⟨W1, hW1⟩ : ∃ W1, w.alloc (.cells #[.int .i64 (x : Nat), .int .i64 (N : Nat), .int .i64 t] 93) = W1 := ⟨_, rfl⟩
  have r1 := row3_new w (x : Nat) (N : Nat) t
  rw [hW1] at b1 r1
  have e0 : W1.cell? ⟨w.heap.size, 0, none⟩ = some (.int .i64 (x : Nat)) := r1.cell (i := 0) (by omega)
  have e1 : W1.cell? ⟨w.heap.size, 1, none⟩ = some (.int .i64 (N : Nat)) := r1.cell (i := 1) (by omega)
  have H1 : Hid (Below w.heap.size w W1 ∧ W1.cell? ⟨w.heap.size, 1, none⟩ = some (.int .i64 (N : Nat))) := ⟨b1, e1⟩
  have HL : Hid (at0 x ≤ 31) := show _ ≤ _ by unfold at0; omega
  obtain ⟨z0, hi0, hz0, hz1, hz2⟩ := info_parts Tryd.infoU8r
  have HN : Hid (l.length = N ∧ N ≤ 960) := ⟨hN, hN ▸ hl⟩
  clear b1 r1 O h hB hn hx hh hl e1
  rw [hN]
  clear hN
  go_enter Tryd.func41, Tryd.ntmps41
  go_wp2_with fail
  refine (start_any x HP.out.2.2.2.2.1).mono ?_
  rintro e w9 ⟨rfl, h9⟩
  rw [h9]
  clear h9
  obtain ⟨o0, ho0⟩ : ∃ o0, at0 x = o0 := ⟨_, rfl⟩
  rw [ho0]
  have HO0 : Hid (at0 x = o0 ∧ o0 ≤ 31) := ⟨ho0, ho0 ▸ HL.out⟩
  clear ho0 e0 hW1 HL
  go_wp2_with fail
  go_loopw [5, 6] (fun v at_ wr => ∃ (j M : Nat), 32 * j = M ∧ M < N + 32 ∧ at_ = .int .i64 ((o0 + j : Nat) : Int) ∧ Below W1.heap.size W1 wr ∧ wr.ownsRow W1.heap.size 5 1 v M (((long l).take M).map by1)) (fun _ at_ _ => N + 32 - 32 * ((intOf at_).toNat - o0))
  case atStart => exact ⟨0, 0, rfl, by omega, rfl, Below.refl _ _, World.ownsRow_nil ..⟩
  case round =>
    obtain ⟨j, M, hM, hj, rfl, hb, hown⟩ := hrel
    have HJ : Hid (Below W1.heap.size W1 wr ∧ wr.ownsRow W1.heap.size 5 1 u5 M (((long l).take M).map by1)) := ⟨hb, hown⟩
    have HQ : Hid (32 * j = M ∧ M < N + 32) := ⟨hM, hj⟩
    have c1 := cell_keep hb H1.out.2
    have hu5 : ∃ ao co, u5 = .slice ao M co ∧ M ≤ co ∧ (0 < M → ∃ g, ao = some ⟨g, 0, none⟩) ∧ (M = 0 → u5 = u5) := by
      rcases hown.2 with ⟨rfl, h0⟩ | ⟨g, cap, _, rfl, _, _, h1, _⟩
      · exact ⟨none, 0, by rw [h0], by omega, fun q => by omega, fun _ => rfl⟩
      · exact ⟨_, cap, rfl, h1, fun _ => ⟨g, rfl⟩, fun _ => rfl⟩
    obtain ⟨ao, co, rfl, hco, hg, -⟩ := hu5
    clear hb hown hM
    obtain ⟨p, hp⟩ : ∃ p, o0 + j = p := ⟨_, rfl⟩
    rw [hp]
    have HPp : Hid (o0 + j = p) := hp
    by_cases hlt : M < N
    · have i0 : (M : Int) < (N : Int) := by omega
      have i2 : IntKind.i64.wrap ((p : Int) + 1) = (p : Int) + 1 := by rw [IntKind.wrap_i64]; have := HQ.out; have := HO0.out; have := HN.out; omega
      clear hp hg hco
      go_wp2_with fail
      refine (HP.out.1.read_32 p (dk_below HP.out.1 HP.out.2.1 (below_step H1.out.1 HJ.out.1)) (by have := HP.out.2.2.1; have := H1.out.1.size; have := HJ.out.1.size; omega) (by have := HP.out.2.2.2.1; have := HPp.out; have := HQ.out; have := HO0.out; have := HN.out; omega)).mono ?_
      rintro e W3 ⟨k3, rfl, hlen, hbt, hk3, hb3⟩
      have hpg : S.now p = pad (chunk l j) := by
        rw [← HPp.out, ← HO0.out.1]
        exact HP.out.2.2.2.2.2.1 j (by rw [HQ.out.1, HN.out.1]; exact hlt)
      rw [hpg] at hlen hbt
      have HC : Hid (BtAt W3 (some ⟨k3, 0, none⟩) (pad (chunk l j)) ∧ (pad (chunk l j)).length = 32) := ⟨hbt, hlen⟩
      have HO3 : Hid (W3.ownsRow W1.heap.size 5 1 (.slice ao M co) M (((long l).take M).map by1)) := Dk.L.own_block HJ.out.2 fun k hk => hb3.block k (HJ.out.2.lt k hk).2
      have HB3 : Hid (Below W1.heap.size W1 W3) := below_step HJ.out.1 hb3
      have hc3 := bt_cells hbt
      have hl3 : ((pad (chunk l j)).map by1).length = 32 * 1 := by rw [List.length_map, hlen]
      obtain ⟨V, hV⟩ : ∃ V, (pad (chunk l j)).map by1 = V := ⟨_, rfl⟩
      rw [hV] at hc3 hl3
      have HV : Hid ((pad (chunk l j)).map by1 = V) := hV
      have ho3 : ∀ u ∈ V, u.oneCell' = true := fun u hu => by
        rw [← hV] at hu
        obtain ⟨y, _, rfl⟩ := List.mem_map.1 hu
        rfl
      obtain ⟨H, hH⟩ : ∃ H, W3.heap.size = H := ⟨_, rfl⟩
      clear hlen hbt hk3 hb3 hpg hV c1
      go_wp2_with (first
        | (at_builtin; refine wpList_append_lies _ rfl (.tmp 27) (.tmp 28) 31 rfl W1.heap.size 5 z0 (.int .u8 0) 1 1 Tryd.underlying31 hi0 hz0 hz1 hz2 rfl (by decide) (.slice ao M co) M (((long l).take M).map by1) rfl HO3.out ⟨k3, 0, none⟩ 32 32 V rfl hl3 hc3 ho3 (by decide) ?c3 ?c4 ?c5 H hH ?_))
      case c3 => unfold maxLen; have := HN.out; have := HQ.out; omega
      case c4 => have := HN.out; have := HQ.out; omega
      case c5 => exact HB3.out.size
      intro g1 cap1 w2 hown hgrow hat hlt2
      have hb2 : Below W1.heap.size W1 w2 := HB3.out.grown hgrow HB3.out.size (fun k e => (HO3.out.lt k e).1)
      have HN2 : Hid (Below W1.heap.size W1 w2 ∧ w2.ownsRow W1.heap.size 5 1 (.slice (some ⟨g1, 0, none⟩) (M + 32) cap1) (M + 32) (((long l).take (M + 32)).map by1)) := by
        refine ⟨hb2, ?_⟩
        have e1 : List.take M ((long l).map by1) ++ V = ((long l).take (M + 32)).map by1 := by
          rw [← HV.out, ← List.map_take, ← List.map_append, ← HQ.out.1, long_more (by rw [HQ.out.1, HN.out.1]; exact hlt)]
          rfl
        rw [← e1]
        exact hown
      clear hown hgrow hat hlt2 hb2 hc3 hl3 ho3 hH HO3
      go_wp2_with fail
      go_roundw
      case rel => exact ⟨j + 1, M + 32, by have := HQ.out; omega, by omega, by have := HPp.out; go_num, HN2.out⟩
      case measure => simp [intOf]; have := HPp.out; have := HQ.out; omega
    · have i0 : ¬ (M : Int) < (N : Int) := by omega
      have i1 : (N : Int) ≤ (M : Int) := by omega
      have i2 : (N : Int) ≤ (co : Int) := by omega
      have i3 : (0 : Int) ≤ (N : Int) := by omega
      have HR : Hid (∀ i, i < l.length → ∃ g, ao = some ⟨g, 0, none⟩ ∧ wr.cell? ⟨g, i, none⟩ = some (by1 (l.getD i 0))) := fun i hi => by
        obtain ⟨g, rfl⟩ := hg (by have := HN.out; omega)
        have := HJ.out.2.cellAt i (by have := HN.out; omega)
        refine ⟨g, rfl, ?_⟩
        rw [this, List.getElem?_map, List.getElem?_take_of_lt (by have := HN.out; omega)]
        unfold long
        rw [List.getElem?_append_left hi, List.getD_eq_getElem?_getD, List.getElem?_eq_getElem hi]
        rfl
      have HZ : Hid (N ≤ co ∧ co ≤ maxLen ∧ (ao = none → co = 0) ∧ (∀ b o, ao = some ⟨b, o, none⟩ → o = 0 ∧ w.heap.size ≤ b ∧ b < wr.heap.size) ∧ Below w.heap.size w wr) := by
        refine ⟨by omega, ?_, ?_, ?_, below_step H1.out.1 HJ.out.1⟩ <;> rcases HJ.out.2.2 with ⟨e, h0⟩ | ⟨g, cap, cur, e, hg1, hg2, h1, h2, _⟩ <;> cases e
        · exact Nat.zero_le _
        · exact h2
        · exact fun _ => rfl
        · exact fun q => (by cases q)
        · exact fun b o q => (by cases q)
        · exact fun b o q => by cases q; exact ⟨rfl, Nat.le_trans H1.out.1.size hg1, (Array.getElem?_eq_some_iff.1 hg2).1⟩
      clear hj hp hg hco
      go_wp2_with fail
      go_ret
      exact ⟨ao, co, rfl, fun i hi => by
        obtain ⟨g, e, hc⟩ := HR.out i hi
        exact ⟨g, 0, e, by rw [Nat.zero_add]; exact hc⟩, HZ.out.1, HZ.out.2.1, HZ.out.2.2.1, fun b o e => (HZ.out.2.2.2.1 b o e).2, HZ.out.2.2.2.2⟩

end Go.Proofs.YtdbebeemhomjkacDoor.Sk
