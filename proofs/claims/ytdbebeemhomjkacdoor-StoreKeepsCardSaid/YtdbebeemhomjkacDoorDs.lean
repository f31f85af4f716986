/-
  The landed disk: Crash.
-/
import Derived.Test.YtdbebeemhomjkacDoorDr
namespace Go.Proofs.YtdbebeemhomjkacDoor.Dk.L
open Go.RowKit Go.Deep
open Go.RowKit (Below)
set_option linter.unusedVariables false

variable {w w' : World} {B n kd g gn gk i j N : Nat} {F F' : Nat → Prop} {s : St} {v u R : Value} {l p : List UInt8} {x : Int}

theorem among_zero (f : Nat → Int) (i : Nat) : among 0 f i = false := rfl
theorem among_succ (m : Nat) (f : Nat → Int) (i : Nat) : among (m + 1) f i = (among m f i || decide (f m = (i : Int))) := by
  unfold among
  rw [List.range_succ, List.any_append]
  simp
theorem num_turn {a : Option Addr} {m : Nat} {f : Nat → Int} (h : NumAt w a m f) (t : Turn F w w') (ha : 0 < m → ∀ b o, a = some ⟨b, o, none⟩ → ¬ F b) : NumAt w' a m f := fun i hi => by
  obtain ⟨b, o, e, h1⟩ := h i hi
  exact ⟨b, o, e, t.cell (ha (by omega) b o e) h1⟩

/-- What of the writes ahead of i is kept. -/
def upto (s : St) (q : Nat → Bool) (i : Nat) : Nat → List UInt8 := play q 0 (s.wr.take i) s.kept
theorem upto_zero (s : St) (q : Nat → Bool) : upto s q 0 = s.kept := rfl
theorem upto_all (s : St) (q : Nat → Bool) : upto s q s.wr.length = play q 0 s.wr s.kept := by unfold upto; rw [List.take_length]
theorem upto_succ (s : St) (q : Nat → Bool) {i : Nat} (hi : i < s.wr.length) : upto s q (i + 1) = if q i then upd (upto s q i) (s.wr.getD i (0, [])).1 (s.wr.getD i (0, [])).2 else upto s q i := by
  unfold upto
  rw [List.take_add_one, List.getElem?_eq_getElem hi]
  have e : s.wr.getD i (0, []) = s.wr[i] := by rw [List.getD_eq_getElem?_getD, List.getElem?_eq_getElem hi]; rfl
  rw [e]
  obtain ⟨a, p⟩ := s.wr[i]
  show play q 0 (s.wr.take i ++ [(a, p)]) s.kept = _
  rw [play_snoc, List.length_take, Nat.min_eq_left (Nat.le_of_lt hi), Nat.zero_add]

theorem Tryd.infoBool : (Tryd.prog.info? 4).map (fun i => (i.zero, i.size, i.bytes)) = some (some (.bool false), 1, 1) := by kernel_rfl
theorem Tryd.infoDWs : (Tryd.prog.info? 89).map (·.size) = some 33 := by kernel_rfl

/-- A write of 0, as a variable. -/
abbrev nilDW : Obj := .cells #[.int .i64 0, .int .u8 0, .int .u8 0, .int .u8 0, .int .u8 0, .int .u8 0, .int .u8 0, .int .u8 0, .int .u8 0, .int .u8 0, .int .u8 0, .int .u8 0, .int .u8 0, .int .u8 0, .int .u8 0, .int .u8 0, .int .u8 0, .int .u8 0, .int .u8 0, .int .u8 0, .int .u8 0, .int .u8 0, .int .u8 0, .int .u8 0, .int .u8 0, .int .u8 0, .int .u8 0, .int .u8 0, .int .u8 0, .int .u8 0, .int .u8 0, .int .u8 0, .int .u8 0] 89

/-- Nothing else has turned but a block that the disk does not stand on. -/
theorem Ex.off (h : Ex w B kd n s F gn gk R x) {b i : Nat} (hb : ¬ F b) (v : Value) : Ex (w.setCell ⟨b, i, none⟩ v) B kd n s F gn gk R x :=
  h.keep (by simp) fun k hk => blk_setCell_other _ _ _ _ (show k ≠ b from fun e => hb (by rw [← e]; exact hk))
theorem Ex.offs (h : Ex w B kd n s F gn gk R x) {b : Nat} (hb : ¬ F b) (vs : List Value) (o : Nat) : Ex (w.setCells b o vs) B kd n s F gn gk R x :=
  h.keep (Nat.le_of_eq (size_sets vs o w).symm) fun k hk => blk_sets (fun e => hb (by rw [← e]; exact hk)) vs o w
theorem turn_off {b i : Nat} (t : Turn F w w') (hb : w.heap.size ≤ b) (v : Value) : Turn F w (w'.setCell ⟨b, i, none⟩ v) :=
  ⟨t.os, t.tape, t.output, by simpa using t.size, fun k hk hn => (blk_setCell_other _ _ _ _ (show k ≠ b by omega)).trans (t.block k hk hn)⟩
theorem turn_offs {b : Nat} (t : Turn F w w') (hb : w.heap.size ≤ b) (vs : List Value) (o : Nat) : Turn F w (w'.setCells b o vs) :=
  ⟨(os_sets vs o w').1.trans t.os, (os_sets vs o w').2.1.trans t.tape, (os_sets vs o w').2.2.trans t.output, by rw [size_sets]; exact t.size, fun k hk hn => (blk_sets (show k ≠ b by omega) vs o w').trans (t.block k hk hn)⟩

set_option maxRecDepth 100000 in
set_option maxHeartbeats 4000000 in
/-- The power goes off, and comes again. -/
theorem l_crash (h : Ex w B kd n s F gn gk R x) (hw : s.wr.length ≤ 1000) {a : Option Addr} {m c : Nat} {f : Nat → Int} (ha : NumAt w a m f) (hc : m ≤ c) (hc2 : c ≤ maxLen) (hF : 0 < m → ∀ b o, a = some ⟨b, o, none⟩ → ¬ F b) :
    Calls Tryd.prog 21 #[.pointer (some ⟨kd, 0, none⟩), .slice a m c] w fun e w' => e = .returned (.tuple #[]) ∧ (∃ R' y, Ex w' B kd n (crashed s (among m f)) F gn gk R' y) ∧ Turn F w w' := by
  obtain ⟨M, hM⟩ : ∃ M, s.wr.length = M := ⟨_, rfl⟩
  have HM : Hid (s.wr.length = M ∧ M ≤ 1000) := ⟨hM, hM ▸ hw⟩
  have HC : Hid (m ≤ maxLen) := show _ ≤ _ from Nat.le_trans hc hc2
  have HA : Hid (∀ w', Turn F w w' → NumAt w' a m f) := fun w' t => num_turn ha t hF
  have HS : Hid (∀ i, i < M → upto s (among m f) (i + 1) = if among m f i then upd (upto s (among m f) i) (s.wr.getD i (0, [])).1 (s.wr.getD i (0, [])).2 else upto s (among m f) i) := fun i hi => upto_succ s _ (by rw [hM]; exact hi)
  have HZ : Hid (upto s (among m f) M = play (among m f) 0 s.wr s.kept) := hM ▸ upto_all s _
  obtain ⟨U, hU⟩ : ∃ U, upto s (among m f) = U := ⟨_, rfl⟩
  have h0 : Ex w B kd n { s with kept := upto s (among m f) 0 } F gn gk R x := h
  rw [hU] at HS HZ h0
  obtain ⟨ao, cR, hRf, hEl⟩ := h.wr.form
  rw [hM] at hRf hEl
  subst hRf
  have HW : Hid (∀ w' k, Ex w' B kd n { s with kept := U k } F gn gk (.slice ao M cR) x → ∀ i, i < M → ∃ g, ao = some ⟨g, 0, none⟩ ∧ w'.rangeAt g (i * 33) (wc (s.wr.getD i (0, []))) ∧ (s.wr.getD i (0, [])).1 < n ∧ (s.wr.getD i (0, [])).2.length = 32) := fun w' k h' i hi => by
    obtain ⟨a', c', e1, e2⟩ := h'.wr.form
    obtain ⟨g, e3, e4⟩ := e2 i (by show i < s.wr.length; omega)
    cases e1
    exact ⟨g, e3, e4, h'.wr.at_ (by show i < s.wr.length; omega)⟩
  have hmk : ∀ W, (Instr.makeSlice 90 (.int .i64 (M : Nat)) (.int .i64 (M : Nat))).run Tryd.prog W = .ok (.slice (some ⟨W.heap.size, 0, none⟩) M M) (W.alloc (.cells (madeCells #[.bool false] M) 4)) := fun W => run_make_row' (P := Tryd.prog) 90 4 (.bool false) 1 Tryd.underlying90 Tryd.infoBool rfl .i64 .i64 M (by omega) (by omega) W
  obtain ⟨bb, hbb⟩ : ∃ bb, w.heap.size = bb := ⟨_, rfl⟩
  have hbl : Below w.heap.size w (w.alloc (.cells (madeCells #[.bool false] M) 4)) := (Below.refl _ _).alloc (Nat.le_refl _) _
  have h1 : Ex (w.alloc (.cells (madeCells #[.bool false] M) 4)) B kd n { s with kept := U 0 } F gn gk (.slice ao M cR) x := h0.below hbl
  have h2 : (w.alloc (.cells (madeCells #[.bool false] M) 4)).rowIs bb 4 M fun i => .bool (among 0 f i) := hbb ▸ World.rowIs_made w (.bool false) M 4
  have h3 : Turn F w (w.alloc (.cells (madeCells #[.bool false] M) 4)) := Turn.of_below hbl
  obtain ⟨W1, hW1⟩ : ∃ W1, w.alloc (.cells (madeCells #[.bool false] M) 4) = W1 := ⟨_, rfl⟩
  have hmk1 := hmk w
  rw [hW1] at h1 h2 h3 hmk1
  rw [hbb] at hmk1
  have H0 : Hid (Ex W1 B kd n { s with kept := U 0 } F gn gk (.slice ao M cR) x ∧ W1.rowIs bb 4 M (fun i => .bool (among 0 f i)) ∧ Turn F w W1) := ⟨h1, h2, h3⟩
  have HBB : Hid (w.heap.size = bb ∧ ∀ b, F b → b < bb) := ⟨hbb, fun b hb => hbb ▸ (h.own b hb).2⟩
  have c2 := h.cell2
  clear hM ha hF hw hc hc2 hU h0 hEl hmk hbb hbl h1 h2 h3 hW1 h
  go_enter Tryd.func21, Tryd.ntmps21
  go_wp2_with fail
  clear c2 hmk1
  go_loopw [17] (fun i wr => ∃ j : Nat, j ≤ m ∧ i = .int .i64 (j : Nat) ∧ Ex wr B kd n { s with kept := U 0 } F gn gk (.slice ao M cR) x ∧ wr.rowIs bb 4 M (fun i => .bool (among j f i)) ∧ Turn F w wr) (fun i _ => m - (intOf i).toNat)
  case atStart => exact ⟨0, Nat.zero_le _, rfl, H0.out⟩
  case round =>
    obtain ⟨j, hj, rfl, he, hrow, ht⟩ := hrel
    have HL : Hid (Ex wr B kd n { s with kept := U 0 } F gn gk (.slice ao M cR) x ∧ wr.rowIs bb 4 M (fun i => .bool (among j f i)) ∧ Turn F w wr) := ⟨he, hrow, ht⟩
    clear he hrow ht H0
    have Hm := HC.out
    unfold maxLen at Hm
    by_cases hlj : j < m
    · obtain ⟨b, o, rfl, q1⟩ := HA.out wr HL.out.2.2 j hlj
      have j0 : (0 : Int) ≤ (j : Int) := by omega
      have j1 : (j : Int) < (m : Int) := by omega
      have j5 : IntKind.i64.wrap ((j : Int) + 1) = (j : Int) + 1 := by rw [IntKind.wrap_i64]; omega
      obtain ⟨y, hy⟩ : ∃ y, f j = y := ⟨_, rfl⟩
      rw [hy] at q1
      have HY : Hid (f j = y) := hy
      clear hy Hm
      by_cases y0 : 0 ≤ y
      · by_cases y1 : y < (M : Int)
        · obtain ⟨i, rfl⟩ := Int.eq_ofNat_of_zero_le y0
          have hi : i < M := by omega
          have d0 := HL.out.2.1.cell hi
          have z0 := HL.out.2.1.frozen i
          have HN : Hid (Ex (wr.setCell ⟨bb, i, none⟩ (.bool true)) B kd n { s with kept := U 0 } F gn gk (.slice ao M cR) x ∧ (wr.setCell ⟨bb, i, none⟩ (.bool true)).rowIs bb 4 M (fun i => .bool (among (j + 1) f i)) ∧ Turn F w (wr.setCell ⟨bb, i, none⟩ (.bool true))) :=
            ⟨HL.out.1.off (fun q => by have := HBB.out.2 bb q; omega) _, (HL.out.2.1.set i _).congr fun k hk => by
              rw [among_succ, HY.out]
              by_cases e : k = i
              · subst e; simp
              · rw [if_neg e, decide_eq_false (by omega), Bool.or_false], turn_off HL.out.2.2 (Nat.le_of_eq HBB.out.1) _⟩
          go_wp2_with fail
          go_roundw
          case rel => exact ⟨j + 1, by omega, by go_num, HN.out⟩
          case measure => simp [intOf]; omega
        · have HN : Hid (wr.rowIs bb 4 M (fun i => .bool (among (j + 1) f i))) := HL.out.2.1.congr fun k hk => by
            rw [among_succ, HY.out, decide_eq_false (by omega), Bool.or_false]
          go_wp2_with fail
          go_roundw
          case rel => exact ⟨j + 1, by omega, by go_num, HL.out.1, HN.out, HL.out.2.2⟩
          case measure => simp [intOf]; omega
      · have HN : Hid (wr.rowIs bb 4 M (fun i => .bool (among (j + 1) f i))) := HL.out.2.1.congr fun k hk => by
          rw [among_succ, HY.out, decide_eq_false (by omega), Bool.or_false]
        go_wp2_with fail
        go_roundw
        case rel => exact ⟨j + 1, by omega, by go_num, HL.out.1, HN.out, HL.out.2.2⟩
        case measure => simp [intOf]; omega
    · have HJ : Hid (j = m) := show _ = _ by omega
      have j1 : ¬ (j : Int) < (m : Int) := by omega
      have HL2 : Hid (Ex wr B kd n { s with kept := U 0 } F gn gk (.slice ao M cR) x ∧ wr.rowIs bb 4 M (fun i => .bool (among m f i)) ∧ Turn F w wr) := by
        have h := HL.out
        rw [HJ.out] at h
        exact h
      have c2 := HL2.out.1.cell2
      clear HL HJ hlj Hm hj
      go_wp2_with fail
      clear c2 j1
      go_loopw [38] (fun i wr => ∃ k : Nat, k ≤ M ∧ i = .int .i64 (k : Nat) ∧ Ex wr B kd n { s with kept := U k } F gn gk (.slice ao M cR) x ∧ wr.rowIs bb 4 M (fun i => .bool (among m f i)) ∧ Turn F w wr) (fun i _ => M - (intOf i).toNat)
      case atStart => exact ⟨0, Nat.zero_le _, rfl, HL2.out⟩
      case round =>
        obtain ⟨k, hk, rfl, he, hrow, ht⟩ := hrel
        have HL : Hid (Ex wr B kd n { s with kept := U k } F gn gk (.slice ao M cR) x ∧ wr.rowIs bb 4 M (fun i => .bool (among m f i)) ∧ Turn F w wr) := ⟨he, hrow, ht⟩
        clear he hrow ht HL2
        have Hm := HM.out.2
        by_cases hlk : k < M
        · obtain ⟨g, rfl, hrg, hax, hpl⟩ := HW.out wr k HL.out.1 k hlk
          have hsu := HS.out k hlk
          obtain ⟨ax, hax2⟩ : ∃ ax, (s.wr.getD k (0, [])).1 = ax := ⟨_, rfl⟩
          obtain ⟨px, hpx⟩ : ∃ px, (s.wr.getD k (0, [])).2 = px := ⟨_, rfl⟩
          have hpr : s.wr.getD k (0, []) = (ax, px) := by rw [← hax2, ← hpx]
          rw [hpr] at hrg hax hpl hsu
          clear hax2 hpx hpr
          have HSU : Hid (U (k + 1) = if among m f k then upd (U k) ax px else U k) := hsu
          have HR : Hid (wr.rangeAt g (k * 33) (wc (ax, px))) := hrg
          have HP : Hid (ax < n ∧ px.length = 32) := ⟨hax, hpl⟩
          have k0 : (0 : Int) ≤ (k : Int) := by omega
          have k1 : (k : Int) < (M : Int) := by omega
          have k5 : IntKind.i64.wrap ((k : Int) + 1) = (k : Int) + 1 := by rw [IntKind.wrap_i64]; omega
          have hi1 : (Tryd.prog.info? 89).map (·.size) = some (wc (ax, px)).length := by rw [wc_len]; exact Tryd.infoDWs
          obtain ⟨vb, hvb⟩ : ∃ vb, wr.heap.size = vb := ⟨_, rfl⟩
          have hbl : Below wr.heap.size wr (wr.alloc nilDW) := (Below.refl _ _).alloc (Nat.le_refl _) _
          have hth : (wr.alloc nilDW).there vb 0 33 := fun j hj => by
            rw [← hvb, Nat.zero_add, cell_of_row _ _ _ _ _ _ (heap_alloc_last wr _)]
            refine ⟨?_, ?_⟩
            · simp [hj]
            · unfold World.frozen?
              rw [heap_alloc_last]
              simp
          have hst : (storeCells ⟨vb, 0, none⟩ (wc (ax, px))).run Tryd.prog (wr.alloc nilDW) = .ok () ((wr.alloc nilDW).setCells vb 0 (wc (ax, px))) := by
            have := run_storeCells_cells (P := Tryd.prog) vb 0 (wc (ax, px)) 0 (wr.alloc nilDW) (fun j hj => (hth j (by rwa [wc_len] at hj)).1) (fun j hj => (hth j (by rwa [wc_len] at hj)).2) wc_one
            simpa using this
          have hb1 : w.heap.size ≤ vb := by have := HL.out.2.2.size; omega
          have hnF : ¬ F vb := fun q => by have := HBB.out.2 vb q; have := HBB.out.1; omega
          have hbv : bb ≠ vb := by have := HL.out.2.1.lt; omega
          have e3 : Ex ((wr.alloc nilDW).setCells vb 0 (wc (ax, px))) B kd n { s with kept := U k } F gn gk (.slice (some ⟨g, 0, none⟩) M cR) x := (HL.out.1.below hbl).offs hnF _ _
          have r3 : ((wr.alloc nilDW).setCells vb 0 (wc (ax, px))).rowIs bb 4 M (fun i => .bool (among m f i)) := ((HL.out.2.1.alloc _).of_block (blk_sets hbv _ _ _))
          have t3 : Turn F w ((wr.alloc nilDW).setCells vb 0 (wc (ax, px))) := turn_offs (HL.out.2.2.trans (Turn.of_below hbl)) hb1 _ _
          have g3 : ((wr.alloc nilDW).setCells vb 0 (wc (ax, px))).rangeAt vb 0 (wc (ax, px)) := World.rangeAt_setCells_same _ _ _ _ (by rw [wc_len]; exact hth)
          obtain ⟨W2, hW2⟩ : ∃ W2, wr.alloc nilDW = W2 := ⟨_, rfl⟩
          rw [hW2] at hst e3 r3 t3 g3
          obtain ⟨W3, hW3⟩ : ∃ W3, W2.setCells vb 0 (wc (ax, px)) = W3 := ⟨_, rfl⟩
          rw [hW3] at hst e3 r3 t3 g3
          have H3 : Hid (Ex W3 B kd n { s with kept := U k } F gn gk (.slice (some ⟨g, 0, none⟩) M cR) x ∧ W3.rowIs bb 4 M (fun i => .bool (among m f i)) ∧ Turn F w W3 ∧ W3.rangeAt vb 0 (wc (ax, px))) := ⟨e3, r3, t3, g3⟩
          have HV : Hid (¬ F vb ∧ bb ≠ vb) := ⟨hnF, hbv⟩
          have b3 := r3.cell hlk
          clear hrg hax hpl hsu hbl hth hb1 hnF hbv e3 r3 t3 g3 hW3 Hm
          cases hmm : among m f k with
          | false =>
            rw [hmm] at b3
            have HN : Hid (U (k + 1) = U k) := show _ = _ by rw [HSU.out, hmm]; rfl
            clear hmm
            go_wp2_with (first
              | rw [hW2, hvb]
              | (refine wpList_load_mid rfl 89 (.tmp 41) rfl g (k * 33) rfl (wc (ax, px)) _ HR.out Tryd.underlying89 rfl hi1 ?_))
            go_roundw
            case rel => exact ⟨k + 1, by omega, by go_num, by rw [HN.out]; exact H3.out.1, H3.out.2.1, H3.out.2.2.1⟩
            case measure => simp [intOf]; omega
          | true =>
            rw [hmm] at b3
            have HN : Hid (U (k + 1) = upd (U k) ax px) := show _ = _ by rw [HSU.out, hmm]; rfl
            clear hmm
            have v0 : W3.cell? ⟨vb, 0, none⟩ = some (.int .i64 (ax : Nat)) := H3.out.2.2.2 0 _ rfl
            have v1 : W3.rangeAt vb 1 (pg px) := fun j u hu => by
              have := H3.out.2.2.2 (j + 1) u (by simpa [wc] using hu)
              rwa [show 0 + (j + 1) = 1 + j by omega] at this
            have c1 := H3.out.1.cell1
            have tk : W3.there gk (ax * 32) 32 := H3.out.1.kept.there HP.out.1
            have hkg : kd ≠ gk := H3.out.1.kn.2.1
            have hvg : vb ≠ gk := fun e => HV.out.1 (e ▸ H3.out.1.fk)
            have hbg : bb ≠ gk := fun e => by have := HBB.out.2 gk H3.out.1.fk; omega
            have hS0 : W3.drew.cell? ⟨kd, 1, none⟩ = some (.slice (some ⟨gk, 0, none⟩) n n) ∧ W3.drew.cell? ⟨vb, 0, none⟩ = some (.int .i64 (ax : Nat)) ∧ W3.drew.rangeAt vb 1 (pg px) ∧ W3.drew.there gk (ax * 32) 32 := ⟨c1, v0, v1, tk⟩
            have hS1 : (W3.drew.setCells gk (ax * 32) (pg px)).cell? ⟨kd, 1, none⟩ = some (.slice (some ⟨gk, 0, none⟩) n n) ∧ (W3.drew.setCells gk (ax * 32) (pg px)).cell? ⟨vb, 0, none⟩ = some (.int .i64 (ax : Nat)) ∧ (W3.drew.setCells gk (ax * 32) (pg px)).rangeAt vb 1 (pg px) ∧ (W3.drew.setCells gk (ax * 32) (pg px)).there gk (ax * 32) 32 :=
              ⟨(World.cell?_setCells_out gk _ _ _ _ (fun e _ => absurd e hkg)).trans c1, (World.cell?_setCells_out gk _ _ _ _ (fun e _ => absurd e hvg)).trans v0, World.rangeAt_setCells_apart hS0.2.2.1 _ _ _ (Or.inl hvg), World.there_setCells hS0.2.2.2 _ _ _⟩
            have H4 : Hid (Ex (W3.drew.setCells gk (ax * 32) (pg px)) B kd n { s with kept := U (k + 1) } F gn gk (.slice (some ⟨g, 0, none⟩) M cR) x ∧ (W3.drew.setCells gk (ax * 32) (pg px)).rowIs bb 4 M (fun i => .bool (among m f i)) ∧ Turn F w (W3.drew.setCells gk (ax * 32) (pg px))) := by
              refine ⟨?_, (H3.out.2.1.drew).of_block (blk_sets hbg _ _ _), H3.out.2.2.1.trans ((Turn.of_below (Below.refl _ _).drew).trans (turn_sets (w := W3.drew) H3.out.1.fk _ _))⟩
              rw [HN.out]
              exact (H3.out.1.below (Below.refl _ _).drew).setKept HP.out.1 HP.out.2
            have hi3 : (Tryd.prog.info? 87).map (·.size) = some (pg px).length := by rw [pg_len]; exact Tryd.infoPage
            have hi2 : (Tryd.prog.info? 87).map (·.size) = some (pg px).toArray.size := by simpa using hi3
            have hp2 : (pg px).toArray.all (·.oneCell') = true := all_oneCell_toArray pg_one
            have a0 : (0 : Int) ≤ (ax : Int) := by omega
            have a1 : (ax : Int) < (n : Int) := by have := HP.out.1; omega
            clear v0 v1 c1 tk hkg hvg hbg
            go_wp2_with (first
              | rw [hW2, hvb]
              | (refine wpList_load_mid rfl 89 (.tmp 41) rfl g (k * 33) rfl (wc (ax, px)) _ HR.out Tryd.underlying89 rfl hi1 ?_))
            clear b3 hst
            refine wp_region_noPanic ?_
            refine wp_region_held_drew (S := fun V => V.cell? ⟨kd, 1, none⟩ = some (.slice (some ⟨gk, 0, none⟩) n n) ∧ V.cell? ⟨vb, 0, none⟩ = some (.int .i64 (ax : Nat)) ∧ V.rangeAt vb 1 (pg px) ∧ V.there gk (ax * 32) 32) (by kernel_rfl) hS0 (fun hHeld => ?_)
            refine wpAnyH_take (i := 0) (oi := { dst := some 47, op := Go.Op.move (Go.Operand.tmp 0), type := 42, pos := _, after := #[], guard := none }) (v := ?va1) rfl (by kernel_rfl) (by kernel_rfl) (by kernel_rfl) (fun _ _ _ h => h) (Or.inl ⟨by rfl, ?ya1⟩) (by assumption) ?_
            case ya1 =>
              intro w hSw
              (try dsimp only at hSw)
              go_simp
              (try with_reducible rfl)
            simp only [Act.put, List.setIfInBounds_toArray, List.set_cons_zero, List.set_cons_succ]
            refine wpAnyH_take (i := 1) (oi := { dst := some 48, op := Go.Op.nilCheck (Go.Operand.tmp 47), type := 0, pos := _, after := #[{ on := 0, ground := Go.Ground.data }], guard := none }) (v := ?va2) rfl (by kernel_rfl) (by kernel_rfl) (by kernel_rfl) (fun _ _ _ h => h) (Or.inl ⟨by rfl, ?ya2⟩) (by assumption) ?_
            case ya2 =>
              intro w hSw
              (try dsimp only at hSw)
              go_simp
              (try with_reducible rfl)
            simp only [Act.put, List.setIfInBounds_toArray, List.set_cons_zero, List.set_cons_succ]
            refine wpAnyH_take (i := 2) (oi := { dst := some 49, op := Go.Op.fieldAddr 82 (Go.Operand.tmp 48) 1, type := 0, pos := _, after := #[{ on := 1, ground := Go.Ground.data }], guard := none }) (v := ?va3) rfl (by kernel_rfl) (by kernel_rfl) (by kernel_rfl) (fun _ _ _ h => h) (Or.inl ⟨by rfl, ?ya3⟩) (by assumption) ?_
            case ya3 =>
              intro w hSw
              (try dsimp only at hSw)
              go_simp
              (try with_reducible rfl)
            simp only [Act.put, List.setIfInBounds_toArray, List.set_cons_zero, List.set_cons_succ]
            refine wpAnyH_take (i := 3) (oi := { dst := some 50, op := Go.Op.load 79 (Go.Operand.tmp 49), type := 79, pos := _, after := #[{ on := 2, ground := Go.Ground.data }], guard := none }) (v := ?va4) rfl (by kernel_rfl) (by kernel_rfl) (by kernel_rfl) (fun _ _ _ h => h) (Or.inl ⟨by rfl, ?ya4⟩) (by assumption) ?_
            case ya4 =>
              intro w hSw
              (try dsimp only at hSw)
              go_simp
              (try with_reducible rfl)
            simp only [Act.put, List.setIfInBounds_toArray, List.set_cons_zero, List.set_cons_succ]
            refine wpAnyH_take (i := 4) (oi := { dst := some 51, op := Go.Op.fieldAddr 89 (Go.Operand.tmp 8) 0, type := 0, pos := _, after := #[], guard := none }) (v := ?va5) rfl (by kernel_rfl) (by kernel_rfl) (by kernel_rfl) (fun _ _ _ h => h) (Or.inl ⟨by rfl, ?ya5⟩) (by assumption) ?_
            case ya5 =>
              intro w hSw
              (try dsimp only at hSw)
              go_simp
              (try with_reducible rfl)
            simp only [Act.put, List.setIfInBounds_toArray, List.set_cons_zero, List.set_cons_succ]
            refine wpAnyH_take (i := 5) (oi := { dst := some 52, op := Go.Op.load 3 (Go.Operand.tmp 51), type := 3, pos := _, after := #[{ on := 4, ground := Go.Ground.data }], guard := none }) (v := ?va6) rfl (by kernel_rfl) (by kernel_rfl) (by kernel_rfl) (fun _ _ _ h => h) (Or.inl ⟨by rfl, ?ya6⟩) (by assumption) ?_
            case ya6 =>
              intro w hSw
              (try dsimp only at hSw)
              go_simp
              (try with_reducible rfl)
            simp only [Act.put, List.setIfInBounds_toArray, List.set_cons_zero, List.set_cons_succ]
            refine wpAnyH_take (i := 6) (oi := { dst := some 53, op := Go.Op.fieldAddr 89 (Go.Operand.tmp 8) 1, type := 0, pos := _, after := #[], guard := none }) (v := ?va7) rfl (by kernel_rfl) (by kernel_rfl) (by kernel_rfl) (fun _ _ _ h => h) (Or.inl ⟨by rfl, ?ya7⟩) (by assumption) ?_
            case ya7 =>
              intro w hSw
              (try dsimp only at hSw)
              go_simp
              (try with_reducible rfl)
            simp only [Act.put, List.setIfInBounds_toArray, List.set_cons_zero, List.set_cons_succ]
            refine wpAnyH_take (i := 7) (oi := { dst := some 54, op := Go.Op.load 87 (Go.Operand.tmp 53), type := 87, pos := _, after := #[{ on := 6, ground := Go.Ground.data }], guard := none }) (v := .agg (pg px).toArray) rfl (by kernel_rfl) (by kernel_rfl) (by kernel_rfl) (fun _ _ _ h => h) ?ya8 (by assumption) ?_
            case ya8 => exact yieldsIf_load_mid (by rfl) 87 (.tmp 53) (by rfl) vb 1 (by rfl) (pg px) _ (fun w h => h.2.2.1) Tryd.underlying87 rfl hi3
            simp only [Act.put, List.setIfInBounds_toArray, List.set_cons_zero, List.set_cons_succ]
            refine wpAnyH_take (i := 8) (oi := { dst := some 55, op := Go.Op.indexAddr 79 (Go.Operand.tmp 50) (Go.Operand.tmp 52), type := 0, pos := _, after := #[{ on := 3, ground := Go.Ground.data }, { on := 5, ground := Go.Ground.data }, { on := 0, ground := Go.Ground.phase }, { on := 1, ground := Go.Ground.phase }, { on := 2, ground := Go.Ground.phase }, { on := 3, ground := Go.Ground.phase }, { on := 4, ground := Go.Ground.phase }, { on := 5, ground := Go.Ground.phase }, { on := 6, ground := Go.Ground.phase }, { on := 7, ground := Go.Ground.phase }], guard := none }) (v := ?va9) rfl (by kernel_rfl) (by kernel_rfl) (by kernel_rfl) (fun _ _ _ h => h) (Or.inl ⟨by rfl, ?ya9⟩) (by assumption) ?_
            case ya9 =>
              intro w hSw
              (try dsimp only at hSw)
              go_simp
              (try with_reducible rfl)
            simp only [Act.put, List.setIfInBounds_toArray, List.set_cons_zero, List.set_cons_succ]
            refine wpAnyH_ready (rs := [9]) (by kernel_rfl) (by simp) ?_
            refine (AllReadyH.cons rfl (fun K9 hK9 => ?ca10) AllReadyH.nil)
            case ca10 =>
              refine step_unit rfl (run_unit (run_storeAt_mid _ gk (ax * 32) 87 (pg px).toArray hHeld.2.2.2 hi2 hp2)) ?_
              refine hK9.out _ _ hS1 (fun hHeld => ?_)
              clear hK9
              (try simp only [List.getElem_toArray, List.getElem_cons_succ, List.getElem_cons_zero])
              (try simp only [Act.put])
              refine wpAnyH_done (by kernel_rfl) ?_ _
              refine NoPanic.normal ?_
              go_wp2_with fail
              go_roundw
              case rel => exact ⟨k + 1, by omega, by go_num, H4.out⟩
              case measure => simp [intOf]; omega
        · have HK : Hid (k = M) := show _ = _ by omega
          have k1 : ¬ (k : Int) < (M : Int) := by omega
          have HE : Hid (Ex wr B kd n { s with kept := play (among m f) 0 s.wr s.kept } F gn gk (.slice ao M cR) x ∧ Turn F w wr) := ⟨by have h := HL.out.1; rw [HK.out, HZ.out] at h; exact h, HL.out.2.2⟩
          have c0 := HE.out.1.cell0
          have c1 := HE.out.1.cell1
          have hcp : (Builtin.copy_ #[79, 79] 3 #[.slice (some ⟨gn, 0, none⟩) n n, .slice (some ⟨gk, 0, none⟩) n n]).run Tryd.prog wr.drew = .ok (.int .i64 (n : Nat)) (wr.drew.setCells gn 0 (flat n (play (among m f) 0 s.wr s.kept))) := by
            have := run_copy_many wr.drew 79 79 3 87 32 gn 0 n n ⟨gk, 0, none⟩ n n (flat n (play (among m f) 0 s.wr s.kept)) Tryd.underlying79 Tryd.infoPage (by rw [flat_len]; simp) (fun j v hv => by rw [Addr.add_lit]; exact HE.out.1.kept.all j v hv) (by rw [flat_len]; exact HE.out.1.now.thereAll) flat_one
            rw [this]
            simp [goInt]
          have hE : Ex (wr.drew.setCells gn 0 (flat n (play (among m f) 0 s.wr s.kept))) B kd n { s with kept := play (among m f) 0 s.wr s.kept, now := play (among m f) 0 s.wr s.kept } F gn gk (.slice ao M cR) x := (HE.out.1.below (Below.refl _ _).drew).nowAll
          have hT : Turn F w (wr.drew.setCells gn 0 (flat n (play (among m f) 0 s.wr s.kept))) := HE.out.2.trans ((Turn.of_below (Below.refl _ _).drew).trans (turn_sets (w := wr.drew) HE.out.1.fn _ _))
          obtain ⟨W2, hW2⟩ : ∃ W2, wr.drew.setCells gn 0 (flat n (play (among m f) 0 s.wr s.kept)) = W2 := ⟨_, rfl⟩
          rw [hW2] at hcp hE hT
          have HX : Hid (Ex W2 B kd n { s with kept := play (among m f) 0 s.wr s.kept, now := play (among m f) 0 s.wr s.kept } F gn gk (.slice ao M cR) x ∧ Turn F w W2) := ⟨hE, hT⟩
          have d2 := hE.cell2
          have d3 := hE.cell3
          have d4 := hE.cell4
          have z2 := hE.free 2
          have z3 := hE.free 3
          have z4 := hE.free 4
          clear hE hT hW2 HL hlk Hm
          go_wp2_with fail
          go_region
          go_wp2_with fail
          go_end0
          exact ⟨rfl, ⟨_, _, (HX.out.1.setNone.setLeft (x' := -1) (y := -1) (Or.inl rfl) (by omega)).setDown false⟩, HX.out.2.trans ((turn_set HX.out.1.dk _).trans ((turn_set HX.out.1.dk _).trans (turn_set HX.out.1.dk _)))⟩

end Go.Proofs.YtdbebeemhomjkacDoor.Dk.L
