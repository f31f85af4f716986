/-
  Dr Ds Fb Fc
-/
import Derived.Test.YtcfemppdeidjmacGreatW40
import Derived.Lib.LazyBuf
import Derived.Test.YtcfemppdeidjmacGreatW39
namespace Go.Proofs.YtcfemppdeidjmacGreat.Dk.L
open Go.RowKit Go.Deep
open Go.RowKit (Below)
set_option linter.unusedVariables false

variable {w w' : World} {B n kd g gn gk i j N : Nat} {F F' : Nat → Prop} {s : St} {v u R : Value} {l p : List UInt8} {x : Int}

theorem bt_pg {k : Nat} (h : w.rangeAt k 0 (pg p)) (hp : p.length = 32) : BtAt w (some ⟨k, 0, none⟩) p := fun j hj => by
  refine ⟨k, 0, rfl, h j _ ?_⟩
  rw [pg_get (by omega)]

set_option maxRecDepth 100000 in
set_option maxHeartbeats 1000000 in
theorem l_read32 (h : Ex w B kd n s F gn gk R x) (hi : i < n) :
    Calls Tryz.prog 167 #[.pointer (some ⟨kd, 0, none⟩), .int .i64 (i : Nat)] w fun e w' => ∃ k, e = .returned (.tuple #[.slice (some ⟨k, 0, none⟩) 32 32, .nilIface]) ∧ (s.now i).length = 32 ∧ BtAt w' (some ⟨k, 0, none⟩) (s.now i) ∧ w.heap.size ≤ k ∧ Below w.heap.size w w' := by
  have hh := l_has h (i : Nat)
  rw [decide_eq_true (by omega)] at hh
  have hlen := h.now.1 i hi
  have hr := h.now.range hi
  have c0 := h.cell0
  obtain ⟨q, hq⟩ : ∃ q, s.now i = q := ⟨_, rfl⟩
  rw [hq] at hlen hr
  have HQ : Hid (s.now i = q ∧ q.length = 32) := ⟨hq, hlen⟩
  have hi1 : (Tryz.prog.info? 153).map (·.size) = some (pg q).length := by rw [pg_len]; exact Tryz.infoPage
  obtain ⟨k, hk⟩ : ∃ k, w.heap.size = k := ⟨_, rfl⟩
  have ht : (w.alloc nilPg).there k 0 32 := fun j hj => by
    rw [← hk, Nat.zero_add, cell_of_row _ _ _ _ _ _ (heap_alloc_last w _)]
    refine ⟨?_, ?_⟩
    · simp [hj]
    · unfold World.frozen?
      rw [heap_alloc_last]
      simp
  have HB : Hid (Below w.heap.size w (w.alloc nilPg) ∧ w.heap.size = k) := ⟨(Below.refl _ _).alloc (Nat.le_refl _) _, hk⟩
  obtain ⟨W1, hW1⟩ : ∃ W1, w.alloc nilPg = W1 := ⟨_, rfl⟩
  rw [hW1] at ht HB
  have HT : Hid (W1.there k 0 32) := ht
  have hst : (storeCells ⟨k, 0, none⟩ (pg q)).run Tryz.prog W1 = .ok () (W1.setCells k 0 (pg q)) := by
    have := run_storeCells_cells (P := Tryz.prog) k 0 (pg q) 0 W1 (fun j hj => (ht j (by rwa [pg_len] at hj)).1) (fun j hj => (ht j (by rwa [pg_len] at hj)).2) pg_one
    simpa using this
  obtain ⟨W2, hW2⟩ : ∃ W2, W1.setCells k 0 (pg q) = W2 := ⟨_, rfl⟩
  rw [hW2] at hst
  have HW : Hid (W1.setCells k 0 (pg q) = W2) := hW2
  have HR : Hid (w.rangeAt gn (i * 32) (pg q)) := hr
  have i0 : (0 : Int) ≤ (i : Int) := by omega
  have i1 : (i : Int) < (n : Int) := by omega
  clear hq hlen hi ht hr h hW2
  go_enter Tryz.func167, Tryz.ntmps167
  go_wp2_with fail
  refine hh.mono ?_
  rintro e w0 ⟨rfl, rfl⟩
  clear hh
  go_wp2_with (first
    | rw [hW1, hk]
    | (refine wpList_load_mid rfl 153 (.tmp 17) rfl gn (i * 32) rfl (pg q) _ HR.out Tryz.underlying153 rfl hi1 ?_))
  go_ret2
  refine ⟨k, rfl, by rw [HQ.out.1]; exact HQ.out.2, ?_, Nat.le_of_eq HB.out.2, ?_⟩ <;> rw [← HW.out]
  · rw [HQ.out.1]
    exact bt_pg (World.rangeAt_setCells_same _ _ _ _ (by simpa [pg_len] using HT.out)) HQ.out.2
  · have hb := HB.out.1
    exact (turn_sets (F := fun b => b = k) rfl _ _).below hb hb.size (fun b e => by rw [e]; exact Nat.le_of_eq HB.out.2)

theorem l_read (h : Ex w B kd n s F gn gk R x) (hi : i < n) :
    Calls Tryz.prog 167 #[.pointer (some ⟨kd, 0, none⟩), .int .i64 (i : Nat)] w fun e w' => ∃ k c, e = .returned (.tuple #[.slice (some ⟨k, 0, none⟩) 32 c, .nilIface]) ∧ (s.now i).length = 32 ∧ BtAt w' (some ⟨k, 0, none⟩) (s.now i) ∧ w.heap.size ≤ k ∧ Below w.heap.size w w' :=
  (l_read32 h hi).mono fun e w' ⟨k, h1⟩ => ⟨k, 32, h1⟩

set_option maxRecDepth 100000 in
set_option maxHeartbeats 1000000 in
theorem l_sync (h : Ex w B kd n s F gn gk R x) :
    Calls Tryz.prog 166 #[.pointer (some ⟨kd, 0, none⟩)] w fun e w' => ∃ v, e = .returned v ∧ ∃ x', Er v x' ∧ ∃ s', Syncs s x' s' ∧ (∃ R' y, Ex w' B kd n s' F gn gk R' y) ∧ Turn F w w' := by
  have HR : Hid (Ex w B kd n s F gn gk R x) := h
  clear h
  go_enter Tryz.func166, Tryz.ntmps166
  go_wp2_with fail
  refine (l_step HR.out).mono ?_
  rintro e w1 ⟨⟨rfl, hoff, hr⟩ | ⟨rfl, hon, x1, hr⟩, ht⟩
  · have HX : Hid (Off s ∧ Ex w1 B kd n (fall s) F gn gk R x ∧ Turn F w w1) := ⟨hoff, hr, ht⟩
    clear hoff hr ht
    go_wp2_with fail
    go_ret
    exact ⟨_, rfl, 8, Or.inr ⟨rfl, by decide⟩, _, Or.inl ⟨HX.out.1, rfl, rfl⟩, ⟨R, x, HX.out.2.1⟩, HX.out.2.2⟩
  have c0 := hr.cell0
  have c1 := hr.cell1
  have hcp : (Builtin.copy_ #[135, 135] 3 #[.slice (some ⟨gk, 0, none⟩) n n, .slice (some ⟨gn, 0, none⟩) n n]).run Tryz.prog w1.drew = .ok (.int .i64 (n : Nat)) (w1.drew.setCells gk 0 (flat n s.now)) := by
    have := run_copy_many w1.drew 135 135 3 153 32 gk 0 n n ⟨gn, 0, none⟩ n n (flat n s.now) Tryz.underlying135 Tryz.infoPage (by rw [flat_len]; simp) (fun j v hv => by rw [Addr.add_lit]; exact hr.now.all j v hv) (by rw [flat_len]; exact hr.kept.thereAll) flat_one
    rw [this]
    simp [goInt]
  have hE : Ex (w1.drew.setCells gk 0 (flat n s.now)) B kd n { less s with kept := s.now } F gn gk R x1 := (hr.below (Below.refl _ _).drew).keptAll
  have hT : Turn F w (w1.drew.setCells gk 0 (flat n s.now)) := ht.trans ((Turn.of_below (Below.refl _ _).drew).trans (turn_sets (w := w1.drew) hr.fk _ _))
  obtain ⟨W2, hW2⟩ : ∃ W2, w1.drew.setCells gk 0 (flat n s.now) = W2 := ⟨_, rfl⟩
  rw [hW2] at hcp hE hT
  have HX : Hid (¬ Off s ∧ Ex W2 B kd n { less s with kept := s.now } F gn gk R x1 ∧ Turn F w W2) := ⟨hon, hE, hT⟩
  have c2 := hE.cell2
  have z2 := hE.free 2
  clear hon hr ht hE hT hW2
  go_wp2_with fail
  go_region
  go_wp2_with fail
  go_ret
  exact ⟨_, rfl, 0, Or.inl ⟨rfl, rfl⟩, _, Or.inr ⟨HX.out.1, rfl, rfl⟩, ⟨_, _, HX.out.2.1.setNone⟩, HX.out.2.2.trans (turn_set HX.out.2.1.dk _)⟩

end Go.Proofs.YtcfemppdeidjmacGreat.Dk.L

namespace Go.Proofs.YtcfemppdeidjmacGreat.Dk.L
open Go.RowKit Go.Deep
open Go.RowKit (Below)
set_option linter.unusedVariables false

variable {w w' : World} {B n kd g gn gk i j N : Nat} {F F' : Nat → Prop} {s : St} {v u R : Value} {l p : List UInt8} {x : Int}

theorem among_succ (m : Nat) (f : Nat → Int) (i : Nat) : among (m + 1) f i = (among m f i || decide (f m = (i : Int))) := by
  unfold among
  rw [List.range_succ, List.any_append]
  simp
theorem num_turn {a : Option Addr} {m : Nat} {f : Nat → Int} (h : NumAt w a m f) (t : Turn F w w') (ha : 0 < m → ∀ b o, a = some ⟨b, o, none⟩ → ¬ F b) : NumAt w' a m f := fun i hi => by
  obtain ⟨b, o, e, h1⟩ := h i hi
  exact ⟨b, o, e, t.cell (ha (by omega) b o e) h1⟩

def upto (s : St) (q : Nat → Bool) (i : Nat) : Nat → List UInt8 := play q 0 (s.wr.take i) s.kept
theorem upto_all (s : St) (q : Nat → Bool) : upto s q s.wr.length = play q 0 s.wr s.kept := by unfold upto; rw [List.take_length]
theorem upto_succ (s : St) (q : Nat → Bool) {i : Nat} (hi : i < s.wr.length) : upto s q (i + 1) = if q i then upd (upto s q i) (s.wr.getD i (0, [])).1 (s.wr.getD i (0, [])).2 else upto s q i := by
  unfold upto
  rw [List.take_add_one, List.getElem?_eq_getElem hi]
  have e : s.wr.getD i (0, []) = s.wr[i] := by rw [List.getD_eq_getElem?_getD, List.getElem?_eq_getElem hi]; rfl
  rw [e]
  obtain ⟨a, p⟩ := s.wr[i]
  show play q 0 (s.wr.take i ++ [(a, p)]) s.kept = _
  rw [play_snoc, List.length_take, Nat.min_eq_left (Nat.le_of_lt hi), Nat.zero_add]

theorem Tryz.infoBool : (Tryz.prog.info? 4).map (fun i => (i.zero, i.size, i.bytes)) = some (some (.bool false), 1, 1) := by kernel_rfl
theorem Tryz.infoDWs : (Tryz.prog.info? 155).map (·.size) = some 33 := by kernel_rfl

abbrev nilDW : Obj := .cells #[.int .i64 0, .int .u8 0, .int .u8 0, .int .u8 0, .int .u8 0, .int .u8 0, .int .u8 0, .int .u8 0, .int .u8 0, .int .u8 0, .int .u8 0, .int .u8 0, .int .u8 0, .int .u8 0, .int .u8 0, .int .u8 0, .int .u8 0, .int .u8 0, .int .u8 0, .int .u8 0, .int .u8 0, .int .u8 0, .int .u8 0, .int .u8 0, .int .u8 0, .int .u8 0, .int .u8 0, .int .u8 0, .int .u8 0, .int .u8 0, .int .u8 0, .int .u8 0, .int .u8 0] 155

theorem Ex.off (h : Ex w B kd n s F gn gk R x) {b i : Nat} (hb : ¬ F b) (v : Value) : Ex (w.setCell ⟨b, i, none⟩ v) B kd n s F gn gk R x :=
  h.keep (by simp) fun k hk => blk_setCell_other _ _ _ _ (show k ≠ b from fun e => hb (by rw [← e]; exact hk))
theorem Ex.offs (h : Ex w B kd n s F gn gk R x) {b : Nat} (hb : ¬ F b) (vs : List Value) (o : Nat) : Ex (w.setCells b o vs) B kd n s F gn gk R x :=
  h.keep (Nat.le_of_eq (size_sets vs o w).symm) fun k hk => blk_sets (fun e => hb (by rw [← e]; exact hk)) vs o w
theorem turn_off {b i : Nat} (t : Turn F w w') (hb : w.heap.size ≤ b) (v : Value) : Turn F w (w'.setCell ⟨b, i, none⟩ v) :=
  ⟨t.os, t.tape, t.output, by simpa using t.size, fun k hk hn => (blk_setCell_other _ _ _ _ (show k ≠ b by omega)).trans (t.block k hk hn)⟩
theorem turn_offs {b : Nat} (t : Turn F w w') (hb : w.heap.size ≤ b) (vs : List Value) (o : Nat) : Turn F w (w'.setCells b o vs) :=
  ⟨(os_sets vs o w').1.trans t.os, (os_sets vs o w').2.1.trans t.tape, (os_sets vs o w').2.2.trans t.output, by rw [size_sets]; exact t.size, fun k hk hn => (blk_sets (show k ≠ b by omega) vs o w').trans (t.block k hk hn)⟩

set_option maxRecDepth 100000 in
set_option maxHeartbeats 4000000 in
theorem l_crash (h : Ex w B kd n s F gn gk R x) (hw : s.wr.length ≤ 1000) {a : Option Addr} {m c : Nat} {f : Nat → Int} (ha : NumAt w a m f) (hc : m ≤ c) (hc2 : c ≤ maxLen) (hF : 0 < m → ∀ b o, a = some ⟨b, o, none⟩ → ¬ F b) :
    Calls Tryz.prog 39 #[.pointer (some ⟨kd, 0, none⟩), .slice a m c] w fun e w' => e = .returned (.tuple #[]) ∧ (∃ R' y, Ex w' B kd n (crashed s (among m f)) F gn gk R' y) ∧ Turn F w w' := by
  obtain ⟨M, hM⟩ : ∃ M, s.wr.length = M := ⟨_, rfl⟩
  have HM : Hid (s.wr.length = M ∧ M ≤ 1000) := ⟨hM, hM ▸ hw⟩
  have HC : Hid (m ≤ maxLen) := show _ ≤ _ from Nat.le_trans hc hc2
  have HA : Hid (∀ w', Turn F w w' → NumAt w' a m f) := fun w' t => num_turn ha t hF
  have HS : Hid (∀ i, i < M → upto s (among m f) (i + 1) = if among m f i then upd (upto s (among m f) i) (s.wr.getD i (0, [])).1 (s.wr.getD i (0, [])).2 else upto s (among m f) i) := fun i hi => upto_succ s _ (by rw [hM]; exact hi)
  have HZ : Hid (upto s (among m f) M = play (among m f) 0 s.wr s.kept) := hM ▸ upto_all s _
  obtain ⟨U, hU⟩ : ∃ U, upto s (among m f) = U := ⟨_, rfl⟩
  have h0 : Ex w B kd n { s with kept := upto s (among m f) 0 } F gn gk R x := h
  rw [hU] at HS HZ h0
  obtain ⟨ao, cR, hRf, hEl⟩ := h.wr.form
  rw [hM] at hRf hEl
  subst hRf
  have HW : Hid (∀ w' k, Ex w' B kd n { s with kept := U k } F gn gk (.slice ao M cR) x → ∀ i, i < M → ∃ g, ao = some ⟨g, 0, none⟩ ∧ w'.rangeAt g (i * 33) (wc (s.wr.getD i (0, []))) ∧ (s.wr.getD i (0, [])).1 < n ∧ (s.wr.getD i (0, [])).2.length = 32) := fun w' k h' i hi => by
    obtain ⟨a', c', e1, e2⟩ := h'.wr.form
    obtain ⟨g, e3, e4⟩ := e2 i (by show i < s.wr.length; omega)
    cases e1
    exact ⟨g, e3, e4, h'.wr.at_ (by show i < s.wr.length; omega)⟩
  have hmk : ∀ W, (Instr.makeSlice 60 (.int .i64 (M : Nat)) (.int .i64 (M : Nat))).run Tryz.prog W = .ok (.slice (some ⟨W.heap.size, 0, none⟩) M M) (W.alloc (.cells (madeCells #[.bool false] M) 4)) := fun W => run_make_row' (P := Tryz.prog) 60 4 (.bool false) 1 Tryz.underlying60 Tryz.infoBool rfl .i64 .i64 M (by omega) (by omega) W
  obtain ⟨bb, hbb⟩ : ∃ bb, w.heap.size = bb := ⟨_, rfl⟩
  have hbl : Below w.heap.size w (w.alloc (.cells (madeCells #[.bool false] M) 4)) := (Below.refl _ _).alloc (Nat.le_refl _) _
  have h1 : Ex (w.alloc (.cells (madeCells #[.bool false] M) 4)) B kd n { s with kept := U 0 } F gn gk (.slice ao M cR) x := h0.below hbl
  have h2 : (w.alloc (.cells (madeCells #[.bool false] M) 4)).rowIs bb 4 M fun i => .bool (among 0 f i) := hbb ▸ World.rowIs_made w (.bool false) M 4
  have h3 : Turn F w (w.alloc (.cells (madeCells #[.bool false] M) 4)) := Turn.of_below hbl
  obtain ⟨W1, hW1⟩ : ∃ W1, w.alloc (.cells (madeCells #[.bool false] M) 4) = W1 := ⟨_, rfl⟩
  have hmk1 := hmk w
  rw [hW1] at h1 h2 h3 hmk1
  rw [hbb] at hmk1
  have H0 : Hid (Ex W1 B kd n { s with kept := U 0 } F gn gk (.slice ao M cR) x ∧ W1.rowIs bb 4 M (fun i => .bool (among 0 f i)) ∧ Turn F w W1) := ⟨h1, h2, h3⟩
  have HBB : Hid (w.heap.size = bb ∧ ∀ b, F b → b < bb) := ⟨hbb, fun b hb => hbb ▸ (h.own b hb).2⟩
  have c2 := h.cell2
  clear hM ha hF hw hc hc2 hU h0 hEl hmk hbb hbl h1 h2 h3 hW1 h
  go_enter Tryz.func39, Tryz.ntmps39
  go_wp2_with fail
  clear c2 hmk1
  go_loopw [17] (fun i wr => ∃ j : Nat, j ≤ m ∧ i = .int .i64 (j : Nat) ∧ Ex wr B kd n { s with kept := U 0 } F gn gk (.slice ao M cR) x ∧ wr.rowIs bb 4 M (fun i => .bool (among j f i)) ∧ Turn F w wr) (fun i _ => m - (intOf i).toNat)
  case atStart => exact ⟨0, Nat.zero_le _, rfl, H0.out⟩
  case round =>
    obtain ⟨j, hj, rfl, he, hrow, ht⟩ := hrel
    have HL : Hid (Ex wr B kd n { s with kept := U 0 } F gn gk (.slice ao M cR) x ∧ wr.rowIs bb 4 M (fun i => .bool (among j f i)) ∧ Turn F w wr) := ⟨he, hrow, ht⟩
    clear he hrow ht H0
    have Hm := HC.out
    unfold maxLen at Hm
    by_cases hlj : j < m
    · obtain ⟨b, o, rfl, q1⟩ := HA.out wr HL.out.2.2 j hlj
      have j0 : (0 : Int) ≤ (j : Int) := by omega
      have j1 : (j : Int) < (m : Int) := by omega
      have j5 : IntKind.i64.wrap ((j : Int) + 1) = (j : Int) + 1 := by rw [IntKind.wrap_i64]; omega
      obtain ⟨y, hy⟩ : ∃ y, f j = y := ⟨_, rfl⟩
      rw [hy] at q1
      have HY : Hid (f j = y) := hy
      clear hy Hm
      by_cases y0 : 0 ≤ y
      · by_cases y1 : y < (M : Int)
        · obtain ⟨i, rfl⟩ := Int.eq_ofNat_of_zero_le y0
          have hi : i < M := by omega
          have d0 := HL.out.2.1.cell hi
          have z0 := HL.out.2.1.frozen i
          have HN : Hid (Ex (wr.setCell ⟨bb, i, none⟩ (.bool true)) B kd n { s with kept := U 0 } F gn gk (.slice ao M cR) x ∧ (wr.setCell ⟨bb, i, none⟩ (.bool true)).rowIs bb 4 M (fun i => .bool (among (j + 1) f i)) ∧ Turn F w (wr.setCell ⟨bb, i, none⟩ (.bool true))) :=
            ⟨HL.out.1.off (fun q => by have := HBB.out.2 bb q; omega) _, (HL.out.2.1.set i _).congr fun k hk => by
              rw [among_succ, HY.out]
              by_cases e : k = i
              · subst e; simp
              · rw [if_neg e, decide_eq_false (by omega), Bool.or_false], turn_off HL.out.2.2 (Nat.le_of_eq HBB.out.1) _⟩
          go_wp2_with fail
          go_roundw
          case rel => exact ⟨j + 1, by omega, by go_num, HN.out⟩
          case measure => simp [intOf]; omega
        · have HN : Hid (wr.rowIs bb 4 M (fun i => .bool (among (j + 1) f i))) := HL.out.2.1.congr fun k hk => by
            rw [among_succ, HY.out, decide_eq_false (by omega), Bool.or_false]
          go_wp2_with fail
          go_roundw
          case rel => exact ⟨j + 1, by omega, by go_num, HL.out.1, HN.out, HL.out.2.2⟩
          case measure => simp [intOf]; omega
      · have HN : Hid (wr.rowIs bb 4 M (fun i => .bool (among (j + 1) f i))) := HL.out.2.1.congr fun k hk => by
          rw [among_succ, HY.out, decide_eq_false (by omega), Bool.or_false]
        go_wp2_with fail
        go_roundw
        case rel => exact ⟨j + 1, by omega, by go_num, HL.out.1, HN.out, HL.out.2.2⟩
        case measure => simp [intOf]; omega
    · have HJ : Hid (j = m) := show _ = _ by omega
      have j1 : ¬ (j : Int) < (m : Int) := by omega
      have HL2 : Hid (Ex wr B kd n { s with kept := U 0 } F gn gk (.slice ao M cR) x ∧ wr.rowIs bb 4 M (fun i => .bool (among m f i)) ∧ Turn F w wr) := by
        have h := HL.out
        rw [HJ.out] at h
        exact h
      have c2 := HL2.out.1.cell2
      clear HL HJ hlj Hm hj
      go_wp2_with fail
      clear c2 j1
      go_loopw [38] (fun i wr => ∃ k : Nat, k ≤ M ∧ i = .int .i64 (k : Nat) ∧ Ex wr B kd n { s with kept := U k } F gn gk (.slice ao M cR) x ∧ wr.rowIs bb 4 M (fun i => .bool (among m f i)) ∧ Turn F w wr) (fun i _ => M - (intOf i).toNat)
      case atStart => exact ⟨0, Nat.zero_le _, rfl, HL2.out⟩
      case round =>
        obtain ⟨k, hk, rfl, he, hrow, ht⟩ := hrel
        have HL : Hid (Ex wr B kd n { s with kept := U k } F gn gk (.slice ao M cR) x ∧ wr.rowIs bb 4 M (fun i => .bool (among m f i)) ∧ Turn F w wr) := ⟨he, hrow, ht⟩
        clear he hrow ht HL2
        have Hm := HM.out.2
        by_cases hlk : k < M
        · obtain ⟨g, rfl, hrg, hax, hpl⟩ := HW.out wr k HL.out.1 k hlk
          have hsu := HS.out k hlk
          obtain ⟨ax, hax2⟩ : ∃ ax, (s.wr.getD k (0, [])).1 = ax := ⟨_, rfl⟩
          obtain ⟨px, hpx⟩ : ∃ px, (s.wr.getD k (0, [])).2 = px := ⟨_, rfl⟩
          have hpr : s.wr.getD k (0, []) = (ax, px) := by rw [← hax2, ← hpx]
          rw [hpr] at hrg hax hpl hsu
          clear hax2 hpx hpr
          have HSU : Hid (U (k + 1) = if among m f k then upd (U k) ax px else U k) := hsu
          have HR : Hid (wr.rangeAt g (k * 33) (wc (ax, px))) := hrg
          have HP : Hid (ax < n ∧ px.length = 32) := ⟨hax, hpl⟩
          have k0 : (0 : Int) ≤ (k : Int) := by omega
          have k1 : (k : Int) < (M : Int) := by omega
          have k5 : IntKind.i64.wrap ((k : Int) + 1) = (k : Int) + 1 := by rw [IntKind.wrap_i64]; omega
          have hi1 : (Tryz.prog.info? 155).map (·.size) = some (wc (ax, px)).length := by rw [wc_len]; exact Tryz.infoDWs
          obtain ⟨vb, hvb⟩ : ∃ vb, wr.heap.size = vb := ⟨_, rfl⟩
          have hbl : Below wr.heap.size wr (wr.alloc nilDW) := (Below.refl _ _).alloc (Nat.le_refl _) _
          have hth : (wr.alloc nilDW).there vb 0 33 := fun j hj => by
            rw [← hvb, Nat.zero_add, cell_of_row _ _ _ _ _ _ (heap_alloc_last wr _)]
            refine ⟨?_, ?_⟩
            · simp [hj]
            · unfold World.frozen?
              rw [heap_alloc_last]
              simp
          have hst : (storeCells ⟨vb, 0, none⟩ (wc (ax, px))).run Tryz.prog (wr.alloc nilDW) = .ok () ((wr.alloc nilDW).setCells vb 0 (wc (ax, px))) := by
            have := run_storeCells_cells (P := Tryz.prog) vb 0 (wc (ax, px)) 0 (wr.alloc nilDW) (fun j hj => (hth j (by rwa [wc_len] at hj)).1) (fun j hj => (hth j (by rwa [wc_len] at hj)).2) wc_one
            simpa using this
          have hb1 : w.heap.size ≤ vb := by have := HL.out.2.2.size; omega
          have hnF : ¬ F vb := fun q => by have := HBB.out.2 vb q; have := HBB.out.1; omega
          have hbv : bb ≠ vb := by have := HL.out.2.1.lt; omega
          have e3 : Ex ((wr.alloc nilDW).setCells vb 0 (wc (ax, px))) B kd n { s with kept := U k } F gn gk (.slice (some ⟨g, 0, none⟩) M cR) x := (HL.out.1.below hbl).offs hnF _ _
          have r3 : ((wr.alloc nilDW).setCells vb 0 (wc (ax, px))).rowIs bb 4 M (fun i => .bool (among m f i)) := ((HL.out.2.1.alloc _).of_block (blk_sets hbv _ _ _))
          have t3 : Turn F w ((wr.alloc nilDW).setCells vb 0 (wc (ax, px))) := turn_offs (HL.out.2.2.trans (Turn.of_below hbl)) hb1 _ _
          have g3 : ((wr.alloc nilDW).setCells vb 0 (wc (ax, px))).rangeAt vb 0 (wc (ax, px)) := World.rangeAt_setCells_same _ _ _ _ (by rw [wc_len]; exact hth)
          obtain ⟨W2, hW2⟩ : ∃ W2, wr.alloc nilDW = W2 := ⟨_, rfl⟩
          rw [hW2] at hst e3 r3 t3 g3
          obtain ⟨W3, hW3⟩ : ∃ W3, W2.setCells vb 0 (wc (ax, px)) = W3 := ⟨_, rfl⟩
          rw [hW3] at hst e3 r3 t3 g3
          have H3 : Hid (Ex W3 B kd n { s with kept := U k } F gn gk (.slice (some ⟨g, 0, none⟩) M cR) x ∧ W3.rowIs bb 4 M (fun i => .bool (among m f i)) ∧ Turn F w W3 ∧ W3.rangeAt vb 0 (wc (ax, px))) := ⟨e3, r3, t3, g3⟩
          have HV : Hid (¬ F vb ∧ bb ≠ vb) := ⟨hnF, hbv⟩
          have b3 := r3.cell hlk
          clear hrg hax hpl hsu hbl hth hb1 hnF hbv e3 r3 t3 g3 hW3 Hm
          cases hmm : among m f k with
          | false =>
            rw [hmm] at b3
            have HN : Hid (U (k + 1) = U k) := show _ = _ by rw [HSU.out, hmm]; rfl
            clear hmm
            go_wp2_with (first
              | rw [hW2, hvb]
              | (refine wpList_load_mid rfl 155 (.tmp 41) rfl g (k * 33) rfl (wc (ax, px)) _ HR.out Tryz.underlying155 rfl hi1 ?_))
            go_roundw
            case rel => exact ⟨k + 1, by omega, by go_num, by rw [HN.out]; exact H3.out.1, H3.out.2.1, H3.out.2.2.1⟩
            case measure => simp [intOf]; omega
          | true =>
            rw [hmm] at b3
            have HN : Hid (U (k + 1) = upd (U k) ax px) := show _ = _ by rw [HSU.out, hmm]; rfl
            clear hmm
            have v0 : W3.cell? ⟨vb, 0, none⟩ = some (.int .i64 (ax : Nat)) := H3.out.2.2.2 0 _ rfl
            have v1 : W3.rangeAt vb 1 (pg px) := fun j u hu => by
              have := H3.out.2.2.2 (j + 1) u (by simpa [wc] using hu)
              rwa [show 0 + (j + 1) = 1 + j by omega] at this
            have c1 := H3.out.1.cell1
            have tk : W3.there gk (ax * 32) 32 := H3.out.1.kept.there HP.out.1
            have hkg : kd ≠ gk := H3.out.1.kn.2.1
            have hvg : vb ≠ gk := fun e => HV.out.1 (e ▸ H3.out.1.fk)
            have hbg : bb ≠ gk := fun e => by have := HBB.out.2 gk H3.out.1.fk; omega
            have hS0 : W3.drew.cell? ⟨kd, 1, none⟩ = some (.slice (some ⟨gk, 0, none⟩) n n) ∧ W3.drew.cell? ⟨vb, 0, none⟩ = some (.int .i64 (ax : Nat)) ∧ W3.drew.rangeAt vb 1 (pg px) ∧ W3.drew.there gk (ax * 32) 32 := ⟨c1, v0, v1, tk⟩
            have hS1 : (W3.drew.setCells gk (ax * 32) (pg px)).cell? ⟨kd, 1, none⟩ = some (.slice (some ⟨gk, 0, none⟩) n n) ∧ (W3.drew.setCells gk (ax * 32) (pg px)).cell? ⟨vb, 0, none⟩ = some (.int .i64 (ax : Nat)) ∧ (W3.drew.setCells gk (ax * 32) (pg px)).rangeAt vb 1 (pg px) ∧ (W3.drew.setCells gk (ax * 32) (pg px)).there gk (ax * 32) 32 :=
              ⟨(World.cell?_setCells_out gk _ _ _ _ (fun e _ => absurd e hkg)).trans c1, (World.cell?_setCells_out gk _ _ _ _ (fun e _ => absurd e hvg)).trans v0, World.rangeAt_setCells_apart hS0.2.2.1 _ _ _ (Or.inl hvg), World.there_setCells hS0.2.2.2 _ _ _⟩
            have H4 : Hid (Ex (W3.drew.setCells gk (ax * 32) (pg px)) B kd n { s with kept := U (k + 1) } F gn gk (.slice (some ⟨g, 0, none⟩) M cR) x ∧ (W3.drew.setCells gk (ax * 32) (pg px)).rowIs bb 4 M (fun i => .bool (among m f i)) ∧ Turn F w (W3.drew.setCells gk (ax * 32) (pg px))) := by
              refine ⟨?_, (H3.out.2.1.drew).of_block (blk_sets hbg _ _ _), H3.out.2.2.1.trans ((Turn.of_below (Below.refl _ _).drew).trans (turn_sets (w := W3.drew) H3.out.1.fk _ _))⟩
              rw [HN.out]
              exact (H3.out.1.below (Below.refl _ _).drew).setKept HP.out.1 HP.out.2
            have hi3 : (Tryz.prog.info? 153).map (·.size) = some (pg px).length := by rw [pg_len]; exact Tryz.infoPage
            have hi2 : (Tryz.prog.info? 153).map (·.size) = some (pg px).toArray.size := by simpa using hi3
            have hp2 : (pg px).toArray.all (·.oneCell') = true := all_oneCell_toArray pg_one
            have a0 : (0 : Int) ≤ (ax : Int) := by omega
            have a1 : (ax : Int) < (n : Int) := by have := HP.out.1; omega
            clear v0 v1 c1 tk hkg hvg hbg
            go_wp2_with (first
              | rw [hW2, hvb]
              | (refine wpList_load_mid rfl 155 (.tmp 41) rfl g (k * 33) rfl (wc (ax, px)) _ HR.out Tryz.underlying155 rfl hi1 ?_))
            clear b3 hst
            refine wp_region_noPanic ?_
            refine wp_region_held_drew (S := fun V => V.cell? ⟨kd, 1, none⟩ = some (.slice (some ⟨gk, 0, none⟩) n n) ∧ V.cell? ⟨vb, 0, none⟩ = some (.int .i64 (ax : Nat)) ∧ V.rangeAt vb 1 (pg px) ∧ V.there gk (ax * 32) 32) (by kernel_rfl) hS0 (fun hHeld => ?_)
            refine wpAnyH_take (i := 0) (oi := { dst := some 47, op := Go.Op.move (Go.Operand.tmp 0), type := 63, pos := _, after := #[], guard := none }) (v := ?va1) rfl (by kernel_rfl) (by kernel_rfl) (by kernel_rfl) (fun _ _ _ h => h) (Or.inl ⟨by rfl, ?ya1⟩) (by assumption) ?_
            case ya1 =>
              intro w hSw
              (try dsimp only at hSw)
              go_simp
              (try with_reducible rfl)
            simp only [Act.put, List.setIfInBounds_toArray, List.set_cons_zero, List.set_cons_succ]
            refine wpAnyH_take (i := 1) (oi := { dst := some 48, op := Go.Op.nilCheck (Go.Operand.tmp 47), type := 0, pos := _, after := #[{ on := 0, ground := Go.Ground.data }], guard := none }) (v := ?va2) rfl (by kernel_rfl) (by kernel_rfl) (by kernel_rfl) (fun _ _ _ h => h) (Or.inl ⟨by rfl, ?ya2⟩) (by assumption) ?_
            case ya2 =>
              intro w hSw
              (try dsimp only at hSw)
              go_simp
              (try with_reducible rfl)
            simp only [Act.put, List.setIfInBounds_toArray, List.set_cons_zero, List.set_cons_succ]
            refine wpAnyH_take (i := 2) (oi := { dst := some 49, op := Go.Op.fieldAddr 138 (Go.Operand.tmp 48) 1, type := 0, pos := _, after := #[{ on := 1, ground := Go.Ground.data }], guard := none }) (v := ?va3) rfl (by kernel_rfl) (by kernel_rfl) (by kernel_rfl) (fun _ _ _ h => h) (Or.inl ⟨by rfl, ?ya3⟩) (by assumption) ?_
            case ya3 =>
              intro w hSw
              (try dsimp only at hSw)
              go_simp
              (try with_reducible rfl)
            simp only [Act.put, List.setIfInBounds_toArray, List.set_cons_zero, List.set_cons_succ]
            refine wpAnyH_take (i := 3) (oi := { dst := some 50, op := Go.Op.load 135 (Go.Operand.tmp 49), type := 135, pos := _, after := #[{ on := 2, ground := Go.Ground.data }], guard := none }) (v := ?va4) rfl (by kernel_rfl) (by kernel_rfl) (by kernel_rfl) (fun _ _ _ h => h) (Or.inl ⟨by rfl, ?ya4⟩) (by assumption) ?_
            case ya4 =>
              intro w hSw
              (try dsimp only at hSw)
              go_simp
              (try with_reducible rfl)
            simp only [Act.put, List.setIfInBounds_toArray, List.set_cons_zero, List.set_cons_succ]
            refine wpAnyH_take (i := 4) (oi := { dst := some 51, op := Go.Op.fieldAddr 155 (Go.Operand.tmp 8) 0, type := 0, pos := _, after := #[], guard := none }) (v := ?va5) rfl (by kernel_rfl) (by kernel_rfl) (by kernel_rfl) (fun _ _ _ h => h) (Or.inl ⟨by rfl, ?ya5⟩) (by assumption) ?_
            case ya5 =>
              intro w hSw
              (try dsimp only at hSw)
              go_simp
              (try with_reducible rfl)
            simp only [Act.put, List.setIfInBounds_toArray, List.set_cons_zero, List.set_cons_succ]
            refine wpAnyH_take (i := 5) (oi := { dst := some 52, op := Go.Op.load 3 (Go.Operand.tmp 51), type := 3, pos := _, after := #[{ on := 4, ground := Go.Ground.data }], guard := none }) (v := ?va6) rfl (by kernel_rfl) (by kernel_rfl) (by kernel_rfl) (fun _ _ _ h => h) (Or.inl ⟨by rfl, ?ya6⟩) (by assumption) ?_
            case ya6 =>
              intro w hSw
              (try dsimp only at hSw)
              go_simp
              (try with_reducible rfl)
            simp only [Act.put, List.setIfInBounds_toArray, List.set_cons_zero, List.set_cons_succ]
            refine wpAnyH_take (i := 6) (oi := { dst := some 53, op := Go.Op.fieldAddr 155 (Go.Operand.tmp 8) 1, type := 0, pos := _, after := #[], guard := none }) (v := ?va7) rfl (by kernel_rfl) (by kernel_rfl) (by kernel_rfl) (fun _ _ _ h => h) (Or.inl ⟨by rfl, ?ya7⟩) (by assumption) ?_
            case ya7 =>
              intro w hSw
              (try dsimp only at hSw)
              go_simp
              (try with_reducible rfl)
            simp only [Act.put, List.setIfInBounds_toArray, List.set_cons_zero, List.set_cons_succ]
            refine wpAnyH_take (i := 7) (oi := { dst := some 54, op := Go.Op.load 153 (Go.Operand.tmp 53), type := 153, pos := _, after := #[{ on := 6, ground := Go.Ground.data }], guard := none }) (v := .agg (pg px).toArray) rfl (by kernel_rfl) (by kernel_rfl) (by kernel_rfl) (fun _ _ _ h => h) ?ya8 (by assumption) ?_
            case ya8 => exact yieldsIf_load_mid (by rfl) 153 (.tmp 53) (by rfl) vb 1 (by rfl) (pg px) _ (fun w h => h.2.2.1) Tryz.underlying153 rfl hi3
            simp only [Act.put, List.setIfInBounds_toArray, List.set_cons_zero, List.set_cons_succ]
            refine wpAnyH_take (i := 8) (oi := { dst := some 55, op := Go.Op.indexAddr 135 (Go.Operand.tmp 50) (Go.Operand.tmp 52), type := 0, pos := _, after := #[{ on := 3, ground := Go.Ground.data }, { on := 5, ground := Go.Ground.data }, { on := 0, ground := Go.Ground.phase }, { on := 1, ground := Go.Ground.phase }, { on := 2, ground := Go.Ground.phase }, { on := 3, ground := Go.Ground.phase }, { on := 4, ground := Go.Ground.phase }, { on := 5, ground := Go.Ground.phase }, { on := 6, ground := Go.Ground.phase }, { on := 7, ground := Go.Ground.phase }], guard := none }) (v := ?va9) rfl (by kernel_rfl) (by kernel_rfl) (by kernel_rfl) (fun _ _ _ h => h) (Or.inl ⟨by rfl, ?ya9⟩) (by assumption) ?_
            case ya9 =>
              intro w hSw
              (try dsimp only at hSw)
              go_simp
              (try with_reducible rfl)
            simp only [Act.put, List.setIfInBounds_toArray, List.set_cons_zero, List.set_cons_succ]
            refine wpAnyH_ready (rs := [9]) (by kernel_rfl) (by simp) ?_
            refine (AllReadyH.cons rfl (fun K9 hK9 => ?ca10) AllReadyH.nil)
            case ca10 =>
              refine step_unit rfl (run_unit (run_storeAt_mid _ gk (ax * 32) 153 (pg px).toArray hHeld.2.2.2 hi2 hp2)) ?_
              refine hK9.out _ _ hS1 (fun hHeld => ?_)
              clear hK9
              (try simp only [List.getElem_toArray, List.getElem_cons_succ, List.getElem_cons_zero])
              (try simp only [Act.put])
              refine wpAnyH_done (by kernel_rfl) ?_ _
              refine NoPanic.normal ?_
              go_wp2_with fail
              go_roundw
              case rel => exact ⟨k + 1, by omega, by go_num, H4.out⟩
              case measure => simp [intOf]; omega
        · have HK : Hid (k = M) := show _ = _ by omega
          have k1 : ¬ (k : Int) < (M : Int) := by omega
          have HE : Hid (Ex wr B kd n { s with kept := play (among m f) 0 s.wr s.kept } F gn gk (.slice ao M cR) x ∧ Turn F w wr) := ⟨by have h := HL.out.1; rw [HK.out, HZ.out] at h; exact h, HL.out.2.2⟩
          have c0 := HE.out.1.cell0
          have c1 := HE.out.1.cell1
          have hcp : (Builtin.copy_ #[135, 135] 3 #[.slice (some ⟨gn, 0, none⟩) n n, .slice (some ⟨gk, 0, none⟩) n n]).run Tryz.prog wr.drew = .ok (.int .i64 (n : Nat)) (wr.drew.setCells gn 0 (flat n (play (among m f) 0 s.wr s.kept))) := by
            have := run_copy_many wr.drew 135 135 3 153 32 gn 0 n n ⟨gk, 0, none⟩ n n (flat n (play (among m f) 0 s.wr s.kept)) Tryz.underlying135 Tryz.infoPage (by rw [flat_len]; simp) (fun j v hv => by rw [Addr.add_lit]; exact HE.out.1.kept.all j v hv) (by rw [flat_len]; exact HE.out.1.now.thereAll) flat_one
            rw [this]
            simp [goInt]
          have hE : Ex (wr.drew.setCells gn 0 (flat n (play (among m f) 0 s.wr s.kept))) B kd n { s with kept := play (among m f) 0 s.wr s.kept, now := play (among m f) 0 s.wr s.kept } F gn gk (.slice ao M cR) x := (HE.out.1.below (Below.refl _ _).drew).nowAll
          have hT : Turn F w (wr.drew.setCells gn 0 (flat n (play (among m f) 0 s.wr s.kept))) := HE.out.2.trans ((Turn.of_below (Below.refl _ _).drew).trans (turn_sets (w := wr.drew) HE.out.1.fn _ _))
          obtain ⟨W2, hW2⟩ : ∃ W2, wr.drew.setCells gn 0 (flat n (play (among m f) 0 s.wr s.kept)) = W2 := ⟨_, rfl⟩
          rw [hW2] at hcp hE hT
          have HX : Hid (Ex W2 B kd n { s with kept := play (among m f) 0 s.wr s.kept, now := play (among m f) 0 s.wr s.kept } F gn gk (.slice ao M cR) x ∧ Turn F w W2) := ⟨hE, hT⟩
          have d2 := hE.cell2
          have d3 := hE.cell3
          have d4 := hE.cell4
          have z2 := hE.free 2
          have z3 := hE.free 3
          have z4 := hE.free 4
          clear hE hT hW2 HL hlk Hm
          go_wp2_with fail
          go_region
          go_wp2_with fail
          go_end0
          exact ⟨rfl, ⟨_, _, (HX.out.1.setNone.setLeft (x' := -1) (y := -1) (Or.inl rfl) (by omega)).setDown false⟩, HX.out.2.trans ((turn_set HX.out.1.dk _).trans ((turn_set HX.out.1.dk _).trans (turn_set HX.out.1.dk _)))⟩

end Go.Proofs.YtcfemppdeidjmacGreat.Dk.L

namespace Go.Proofs.YtcfemppdeidjmacGreat.Sk
open Go.RowKit Go.Deep Go.Proofs.YtcfemppdeidjmacGreat.Dk
open Go.RowKit (Below)
set_option linter.unusedVariables false

variable {w w' : World} {b o k n N c : Nat} {f : Nat → Value}

def putLow (f : Nat → Value) (o k n : Nat) : Nat → Value := fun i => if o ≤ i ∧ i < o + k then by1 (byt n (i - o)) else f i

theorem putLow_more (f : Nat → Value) (o j n i : Nat) : putLow f o (j + 1) n i = if i = o + j then by1 (byt n j) else putLow f o j n i := by
  unfold putLow
  by_cases h : i = o + j
  · rw [if_pos h, if_pos (by omega), h, show o + j - o = j by omega]
  · rw [if_neg h]
    by_cases h2 : o ≤ i ∧ i < o + j
    · rw [if_pos h2, if_pos (by omega)]
    · rw [if_neg h2, if_neg (by omega)]

theorem set_turn {i : Nat} {v : Value} {wr : World} (h : Turn (fun x => x = b) w wr) : Turn (fun x => x = b) w (wr.setCell ⟨b, i, none⟩ v) :=
  ⟨h.os, h.tape, h.output, by simpa using h.size, fun q hq hn => by
    rw [← h.block q hq hn]
    simp [World.setCell, Array.getElem?_modify, Ne.symm hn]⟩

theorem shr_pow (n j : Nat) (hj : j < 8) : (n : Int) / 2 ^ min ((8 * (j : Int)).toNat) 64 = ((n / 256 ^ j : Nat) : Int) := by
  rw [show (8 * (j : Int)).toNat = 8 * j by omega, Nat.min_eq_left (by omega), pow_two]
  norm_cast

set_option maxRecDepth 100000 in
set_option maxHeartbeats 4000000 in
theorem write_any (h : w.rowIs b 5 N f) (hk : o + k ≤ N) (hN : N ≤ 1000) (hk8 : k ≤ 8) (hc : k ≤ c) (hn : n < 9223372036854775808) :
    Calls Tryz.prog 197 #[.slice (some ⟨b, o, none⟩) k c, .int .i64 (n : Nat)] w fun e w' => e = .returned (.tuple #[]) ∧ w'.rowIs b 5 N (putLow f o k n) ∧ Turn (fun x => x = b) w w' := by
  have H0 : Hid (w.rowIs b 5 N (putLow f o 0 n)) := h.congr fun i _ => by unfold putLow; rw [if_neg (by omega)]
  have HK : Hid (o + k ≤ N ∧ N ≤ 1000 ∧ k ≤ 8 ∧ k ≤ c ∧ n < 9223372036854775808) := ⟨hk, hN, hk8, hc, hn⟩
  clear h hk hN hk8 hc hn
  go_enter Tryz.func197, Tryz.ntmps197
  go_wp2_with fail
  go_loopw [7] (fun i wr => ∃ j : Nat, j ≤ k ∧ i = .int .i64 (j : Nat) ∧ wr.rowIs b 5 N (putLow f o j n) ∧ Turn (fun x => x = b) w wr) (fun i _ => k - (intOf i).toNat)
  case atStart => exact ⟨0, Nat.zero_le _, rfl, H0.out, Turn.refl w⟩
  case round =>
    obtain ⟨j, hj, rfl, hrow, ht⟩ := hrel
    by_cases hlt : j < k
    · have j1 : (j : Int) < (k : Int) := by omega
      have j0 : (0 : Int) ≤ (j : Int) := by omega
      have j5 : IntKind.i64.wrap ((j : Int) + 1) = (j : Int) + 1 := by rw [IntKind.wrap_i64]; have := HK.out; omega
      have j6 : IntKind.i64.wrap (8 * (j : Int)) = 8 * (j : Int) := by rw [IntKind.wrap_i64]; have := HK.out; omega
      have j7 : (0 : Int) ≤ 8 * (j : Int) := by omega
      have j8 : (n : Int) / 2 ^ min ((8 * (j : Int)).toNat) 64 = ((n / 256 ^ j : Nat) : Int) := shr_pow n j (by have := HK.out; omega)
      have j9 : IntKind.u8.wrap ((n / 256 ^ j : Nat) : Int) = ((byt n j).toNat : Int) := by rw [byt_nat, IntKind.wrap_u8']; omega
      obtain ⟨y, hy⟩ : ∃ y, n / 256 ^ j = y := ⟨_, rfl⟩
      obtain ⟨z, hz⟩ : ∃ z, (byt n j).toNat = z := ⟨_, rfl⟩
      rw [hy] at j8 j9
      rw [hz] at j9
      have d0 := hrow.cell (i := o + j) (by have := HK.out; omega)
      have z0 := hrow.frozen (o + j)
      have HN : Hid ((wr.setCell ⟨b, o + j, none⟩ (.int .u8 (z : Int))).rowIs b 5 N (putLow f o (j + 1) n) ∧ Turn (fun x => x = b) w (wr.setCell ⟨b, o + j, none⟩ (.int .u8 (z : Int)))) :=
        ⟨(hrow.set (o + j) _).congr fun i _ => by rw [putLow_more, by1, hz], set_turn ht⟩
      clear hrow ht H0 hy hz
      go_wp2_with fail
      go_roundw
      case rel => exact ⟨j + 1, by omega, by go_num, HN.out⟩
      case measure => simp [intOf]; omega
    · have j1 : ¬ (j : Int) < (k : Int) := by omega
      obtain rfl : j = k := by omega
      have HN : Hid (wr.rowIs b 5 N (putLow f o j n) ∧ Turn (fun x => x = b) w wr) := ⟨hrow, ht⟩
      clear hrow ht H0
      go_wp2_with fail
      go_end0
      exact ⟨rfl, HN.out⟩

set_option maxRecDepth 100000 in
set_option maxHeartbeats 4000000 in
theorem read_any {B : Nat} (h : ∀ i, i < k → w.cell? ⟨b, o + i, none⟩ = some (by1 (byt n i))) (hk8 : k ≤ 8) (hk1 : 1 ≤ k) (hc : k ≤ c) (hn : n < 9223372036854775808) (hn2 : n < 256 ^ k) :
    Calls Tryz.prog 198 #[.slice (some ⟨b, o, none⟩) k c] w fun e w' => e = .returned (.int .i64 (n : Nat)) ∧ w' = w := by
  have H0 : Hid (∀ i, i < k → w.cell? ⟨b, o + i, none⟩ = some (by1 (byt n i))) := h
  have HK : Hid (k ≤ 8 ∧ k ≤ c ∧ n < 9223372036854775808 ∧ n < 256 ^ k) := ⟨hk8, hc, hn, hn2⟩
  have z0 : ((n % 256 ^ 0 : Nat) : Int) = 0 := by simp [Nat.mod_one]
  clear h hk8 hc hn hn2 hk1
  go_enter Tryz.func198, Tryz.ntmps198
  go_wp2_with fail
  go_loopw [3, 8] (fun v i wr => ∃ j : Nat, j ≤ k ∧ i = .int .i64 (j : Nat) ∧ v = .int .i64 ((n % 256 ^ j : Nat) : Int) ∧ wr = w) (fun _ i _ => k - (intOf i).toNat)
  case atStart => exact ⟨0, Nat.zero_le _, rfl, by rw [z0], rfl⟩
  case round =>
    obtain ⟨j, hj, rfl, rfl, rfl⟩ := hrel
    by_cases hlt : j < k
    · have j1 : (j : Int) < (k : Int) := by omega
      have j0 : (0 : Int) ≤ (j : Int) := by omega
      have j5 : IntKind.i64.wrap ((j : Int) + 1) = (j : Int) + 1 := by rw [IntKind.wrap_i64]; have := HK.out; omega
      have j6 : IntKind.i64.wrap (8 * (j : Int)) = 8 * (j : Int) := by rw [IntKind.wrap_i64]; have := HK.out; omega
      have j7 : (0 : Int) ≤ 8 * (j : Int) := by omega
      have d0 := H0.out j hlt
      have e1 : IntKind.i64.wrap ((byt n j).toNat : Int) = ((byt n j).toNat : Int) := by rw [IntKind.wrap_i64]; have := (byt n j).toNat_lt; omega
      have e2 : IntKind.i64.wrap (((byt n j).toNat : Int) * 2 ^ min ((8 * (j : Int)).toNat) 64) = ((n / 256 ^ j % 256 * 256 ^ j : Nat) : Int) := by
        have h1 : n % 256 ^ (j + 1) ≤ n := Nat.mod_le _ _
        have h3 := mod_more n j
        have h4 : n / 256 ^ j % 256 * 256 ^ j = 256 ^ j * (n / 256 ^ j % 256) := Nat.mul_comm _ _
        have h5 := HK.out
        rw [byt_nat, show (8 * (j : Int)).toNat = 8 * j by omega, Nat.min_eq_left (by omega), show ((2 : Int) ^ (8 * j)) = ((256 ^ j : Nat) : Int) by rw [pow_two]; norm_cast, IntKind.wrap_i64, ← Int.natCast_mul]
        omega
      have e3 := or_more (i := j) HK.out.2.2.1
      unfold by1 at d0
      obtain ⟨y, hy⟩ : ∃ y, n / 256 ^ j % 256 * 256 ^ j = y := ⟨_, rfl⟩
      obtain ⟨z, hz⟩ : ∃ z, (byt n j).toNat = z := ⟨_, rfl⟩
      obtain ⟨p, hp⟩ : ∃ p, n % 256 ^ j = p := ⟨_, rfl⟩
      obtain ⟨q, hq⟩ : ∃ q, n % 256 ^ (j + 1) = q := ⟨_, rfl⟩
      rw [hy] at e2 e3
      rw [hz] at e1 e2 d0
      rw [hp, hq] at e3
      rw [hp]
      have HQ : Hid (n % 256 ^ (j + 1) = q) := hq
      clear hy hz hp hq
      clear H0 z0
      go_wp2_with fail
      go_roundw
      case rel => exact ⟨j + 1, by omega, by go_num, by rw [HQ.out], trivial⟩
      case measure => simp [intOf]; omega
    · have j1 : ¬ (j : Int) < (k : Int) := by omega
      obtain rfl : j = k := by omega
      have hn := Nat.mod_eq_of_lt HK.out.2.2.2
      rw [hn]
      clear H0 z0 hn
      go_wp2_with fail
      go_ret
      exact ⟨rfl, rfl⟩

end Go.Proofs.YtcfemppdeidjmacGreat.Sk

namespace Go.Proofs.YtcfemppdeidjmacGreat.Sk
open Go.RowKit Go.Deep Go.Proofs.YtcfemppdeidjmacGreat.Dk
open Go.RowKit (Below)
set_option linter.unusedVariables false

variable {w w' : World} {b o k n N c : Nat} {f : Nat → Value}

theorem Tryz.infoU8r : (Tryz.prog.info? 5).map (fun i => (i.zero, i.size, i.bytes)) = some (some (.int .u8 0), 1, 1) := by kernel_rfl

def pg0 (j : Nat) : Value := if 0 ≤ j ∧ j < 0 + 16 then by1 (mrk.getD j 0) else by1 0
def pgRow (h l t : Nat) : Nat → Value := putLow (putLow (putLow pg0 16 1 h) 17 2 l) 19 8 t

theorem pgRow_at (h l t i : Nat) (hi : i < 32) : pgRow h l t i = by1 ((headP h l t).getD i 0) := by
  rw [headP_at h l t i hi]
  unfold pgRow putLow pg0
  by_cases h1 : i < 16
  · rw [if_neg (by omega), if_neg (by omega), if_neg (by omega), if_pos (by omega), if_pos h1]
  · by_cases h2 : i < 17
    · rw [if_neg (by omega), if_neg (by omega), if_pos (by omega), if_neg h1, if_pos h2]
    · by_cases h3 : i < 19
      · rw [if_neg (by omega), if_pos (by omega), if_neg h1, if_neg h2, if_pos h3]
      · by_cases h4 : i < 27
        · rw [if_pos (by omega), if_neg h1, if_neg h2, if_neg h3, if_pos h4]
        · rw [if_neg (by omega), if_neg (by omega), if_neg (by omega), if_neg (by omega), if_neg h1, if_neg h2, if_neg h3, if_neg h4]

theorem copy_mark {W : World} {g : Nat} (h : W.rowIs g 5 32 fun _ => by1 0) :
    (Builtin.copy_ #[74, 9] 3 #[.slice (some ⟨g, 0, none⟩) 32 32, .string { data := #[102, 111, 111, 116, 98, 114, 105, 100, 103, 101, 32, 115, 116, 111, 114, 101] }]).run Tryz.prog W = .ok (.int .i64 16) (W.setCells g 0 (mrk.map by1)) := by
  have := run_copy_string (P := Tryz.prog) W 74 9 3 5 g 0 32 32 { data := #[102, 111, 111, 116, 98, 114, 105, 100, 103, 101, 32, 115, 116, 111, 114, 101] } Tryz.underlying74 (fun w => Tryz.sizeOf5 w) (by decide)
    (fun j hj => by have hj' : j < 16 := hj; rw [Nat.zero_add, h.cell (by omega)]; rfl) (fun j _ => by rw [Nat.zero_add]; exact h.frozen j)
  rw [this]
  rfl

set_option maxRecDepth 100000 in
set_option maxHeartbeats 4000000 in
theorem page_any (h l t : Nat) (hh : h ≤ 1) (hl : l ≤ 960) (ht : t ≤ 100000) :
    Calls Tryz.prog 165 #[.agg #[.int .i64 (h : Nat), .int .i64 (l : Nat), .int .i64 (t : Nat)]] w fun e w' => ∃ k, e = .returned (.slice (some ⟨k, 0, none⟩) 32 32) ∧ BtAt w' (some ⟨k, 0, none⟩) (headP h l t) ∧ w.heap.size ≤ k ∧ k < w'.heap.size ∧ Below w.heap.size w w' := by
  obtain ⟨O, hO⟩ : ∃ O, Obj.cells #[.int .i64 (h : Nat), .int .i64 (l : Nat), .int .i64 (t : Nat)] 189 = O := ⟨_, rfl⟩
  have hmk : (Instr.makeSlice 74 (.int .i64 32) (.int .i64 32)).run Tryz.prog (w.alloc O) = .ok (.slice (some ⟨w.heap.size + 1, 0, none⟩) 32 32) ((w.alloc O).alloc (.cells (madeCells #[.int .u8 0] 32) 5)) := by
    have := run_make_row' (P := Tryz.prog) 74 5 (.int .u8 0) 1 Tryz.underlying74 Tryz.infoU8r rfl .i64 .i64 32 (by omega) (by omega) (w.alloc O)
    rwa [show (w.alloc O).heap.size = w.heap.size + 1 by simp] at this
  have r2 : ((w.alloc O).alloc (.cells (madeCells #[.int .u8 0] 32) 5)).rowIs (w.heap.size + 1) 5 32 (fun _ => by1 0) := by
    have := World.rowIs_made (w.alloc O) (.int .u8 0) 32 5
    rwa [show (w.alloc O).heap.size = w.heap.size + 1 by simp] at this
  have c2 : ∀ i v, [Value.int .i64 (h : Nat), .int .i64 (l : Nat), .int .i64 (t : Nat)][i]? = some v → ((w.alloc O).alloc (.cells (madeCells #[.int .u8 0] 32) 5)).cell? ⟨w.heap.size, i, none⟩ = some v := fun i v hv => by
    refine cell_keep (W := w.alloc O) ((Below.refl _ _).alloc (Nat.le_refl _) _) ?_
    rw [← hO]
    have := Dk.L.new_cell w [Value.int .i64 (h : Nat), .int .i64 (l : Nat), .int .i64 (t : Nat)] 189 (j := i) (u := v) hv
    rwa [Nat.zero_add] at this
  have b2 : Below w.heap.size w ((w.alloc O).alloc (.cells (madeCells #[.int .u8 0] 32) 5)) := ((Below.refl _ _).alloc (Nat.le_refl _) _).alloc (by simp) _
  obtain ⟨W2, hW2⟩ : ∃ W2, (w.alloc O).alloc (.cells (madeCells #[.int .u8 0] 32) 5) = W2 := ⟨_, rfl⟩
  rw [hW2] at hmk r2 c2 b2
  have hcp := copy_mark r2
  have r3 : (W2.setCells (w.heap.size + 1) 0 (mrk.map by1)).rowIs (w.heap.size + 1) 5 32 pg0 := (rowIs_setCells (mrk.map by1) 0 W2 _ r2).congr fun j hj => by
    unfold pg0
    show (if 0 ≤ j ∧ j < 0 + 16 then _ else _) = _
    by_cases hj : 0 ≤ j ∧ j < 0 + 16
    · rw [if_pos hj, if_pos hj, Nat.sub_zero, List.getElem?_map, List.getD_eq_getElem?_getD, List.getElem?_eq_getElem (show j < mrk.length from by have := hj.2; exact (show j < 16 by omega))]
      rfl
    · rw [if_neg hj, if_neg hj]
  have b3 : Below w.heap.size w (W2.setCells (w.heap.size + 1) 0 (mrk.map by1)) := below_setCells (by omega) _ _ _ b2
  have c3 : ∀ i v, [Value.int .i64 (h : Nat), .int .i64 (l : Nat), .int .i64 (t : Nat)][i]? = some v → (W2.setCells (w.heap.size + 1) 0 (mrk.map by1)).cell? ⟨w.heap.size, i, none⟩ = some v := fun i v hv =>
    (World.cell?_setCells_out (w.heap.size + 1) _ _ _ _ (fun e _ => by simp at e)).trans (c2 i v hv)
  obtain ⟨W3, hW3⟩ : ∃ W3, W2.setCells (w.heap.size + 1) 0 (mrk.map by1) = W3 := ⟨_, rfl⟩
  rw [hW3] at hcp r3 b3 c3
  obtain ⟨E, hE⟩ : ∃ E, w.heap.size = E := ⟨_, rfl⟩
  have HP : Hid (h < 9223372036854775808 ∧ l < 9223372036854775808 ∧ t < 9223372036854775808) := show _ ∧ _ ∧ _ by omega
  have HR3 : Hid (W3.rowIs (E + 1) 5 32 pg0 ∧ Below w.heap.size w W3 ∧ w.heap.size = E) := ⟨hE ▸ r3, b3, hE⟩
  rw [hE] at hmk hcp c3
  have d0 := c3 0 _ rfl
  have d1 := c3 1 _ rfl
  have d2 := c3 2 _ rfl
  clear r2 c2 b2 r3 b3 c3 hW3 hh hl ht
  go_enter Tryz.func165, Tryz.ntmps165
  go_wp2_with (first | rw [hO] | rw [hE])
  go_region_held3 (fun V => V.cell? ⟨E, 0, none⟩ = some (.int .i64 (h : Nat)) ∧ V.cell? ⟨E, 1, none⟩ = some (.int .i64 (l : Nat)) ∧ V.cell? ⟨E, 2, none⟩ = some (.int .i64 (t : Nat)))
    (first | (go_keep; done) | exact ⟨ht4.cell (by omega) d0, ht4.cell (by omega) d1, ht4.cell (by omega) d2⟩)
    (first | (go_at_call 197; refine (write_any (w := W3.drew) (n := h) (k := 1) (o := 16) HR3.out.1.drew (by decide) (by decide) (by decide) (by decide) HP.out.1).mono ?_; rintro e W4 ⟨rfl, hr4, ht4⟩))
  replace d0 := ht4.cell (by omega) (show W3.drew.cell? _ = _ from d0)
  replace d1 := ht4.cell (by omega) (show W3.drew.cell? _ = _ from d1)
  replace d2 := ht4.cell (by omega) (show W3.drew.cell? _ = _ from d2)
  have HR4 : Hid (W4.rowIs (E + 1) 5 32 _ ∧ Below w.heap.size w W4 ∧ w.heap.size = E) := ⟨hr4, ht4.below HR3.out.2.1.drew HR3.out.2.1.size (fun q e => by have := HR3.out.2.2; omega), HR3.out.2.2⟩
  clear hr4 ht4 HR3
  go_wp2_with fail
  go_region_held3 (fun V => V.cell? ⟨E, 0, none⟩ = some (.int .i64 (h : Nat)) ∧ V.cell? ⟨E, 1, none⟩ = some (.int .i64 (l : Nat)) ∧ V.cell? ⟨E, 2, none⟩ = some (.int .i64 (t : Nat)))
    (first | (go_keep; done) | exact ⟨ht5.cell (by omega) d0, ht5.cell (by omega) d1, ht5.cell (by omega) d2⟩)
    (first | (go_at_call 197; refine (write_any (w := W4.drew) (n := l) (k := 2) (o := 17) HR4.out.1.drew (by decide) (by decide) (by decide) (by decide) HP.out.2.1).mono ?_; rintro e W5 ⟨rfl, hr5, ht5⟩))
  replace d0 := ht5.cell (by omega) (show W4.drew.cell? _ = _ from d0)
  replace d1 := ht5.cell (by omega) (show W4.drew.cell? _ = _ from d1)
  replace d2 := ht5.cell (by omega) (show W4.drew.cell? _ = _ from d2)
  have HR5 : Hid (W5.rowIs (E + 1) 5 32 _ ∧ Below w.heap.size w W5 ∧ w.heap.size = E) := ⟨hr5, ht5.below HR4.out.2.1.drew HR4.out.2.1.size (fun q e => by have := HR4.out.2.2; omega), HR4.out.2.2⟩
  clear hr5 ht5 HR4
  go_wp2_with fail
  go_region_held3 (fun V => V.cell? ⟨E, 0, none⟩ = some (.int .i64 (h : Nat)) ∧ V.cell? ⟨E, 1, none⟩ = some (.int .i64 (l : Nat)) ∧ V.cell? ⟨E, 2, none⟩ = some (.int .i64 (t : Nat)))
    (first | (go_keep; done) | exact ⟨ht6.cell (by omega) d0, ht6.cell (by omega) d1, ht6.cell (by omega) d2⟩)
    (first | (go_at_call 197; refine (write_any (w := W5.drew) (n := t) (k := 8) (o := 19) HR5.out.1.drew (by decide) (by decide) (by decide) (by decide) HP.out.2.2).mono ?_; rintro e W6 ⟨rfl, hr6, ht6⟩))
  replace d0 := ht6.cell (by omega) (show W5.drew.cell? _ = _ from d0)
  replace d1 := ht6.cell (by omega) (show W5.drew.cell? _ = _ from d1)
  replace d2 := ht6.cell (by omega) (show W5.drew.cell? _ = _ from d2)
  have HR6 : Hid (W6.rowIs (E + 1) 5 32 _ ∧ Below w.heap.size w W6 ∧ w.heap.size = E) := ⟨hr6, ht6.below HR5.out.2.1.drew HR5.out.2.1.size (fun q e => by have := HR5.out.2.2; omega), HR5.out.2.2⟩
  clear hr6 ht6 HR5
  go_wp2_with fail
  go_ret
  refine ⟨E + 1, rfl, fun i hi => ⟨E + 1, 0, rfl, ?_⟩, by have := HR6.out.2.2; omega, HR6.out.1.lt, HR6.out.2.1⟩
  rw [headP_len] at hi
  rw [Nat.zero_add, HR6.out.1.cell hi, ← pgRow_at h l t i hi]
  rfl

end Go.Proofs.YtcfemppdeidjmacGreat.Sk
