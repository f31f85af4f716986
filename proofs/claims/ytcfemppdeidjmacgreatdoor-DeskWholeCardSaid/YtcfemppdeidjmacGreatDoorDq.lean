/-
  The landed disk: Write.
-/
import Derived.Test.YtcfemppdeidjmacGreatDoorF10
import Derived.Deep.WholeRow
import Derived.Deep.RegionHeld3
import Derived.OwnWalk
namespace Go.Proofs.YtcfemppdeidjmacGreatDoor.Dk.L
open Go.RowKit Go.Deep
open Go.RowKit (Below)
set_option linter.unusedVariables false

variable {w w' : World} {B n kd g gn gk i j N : Nat} {F F' : Nat → Prop} {s : St} {v u R : Value} {l p : List UInt8} {x : Int}

theorem Tryz.infoPage : (Tryz.prog.info? 88).map (·.size) = some 32 := by kernel_rfl
theorem Tryz.infoU8 : (Tryz.prog.info? 5).map (·.size) = some 1 := by kernel_rfl
theorem Tryz.infoDW : (Tryz.prog.info? 90).map (fun i => (i.zero, i.size, i.bytes)) = some (some (.agg #[.int .i64 0, .int .u8 0, .int .u8 0, .int .u8 0, .int .u8 0, .int .u8 0, .int .u8 0, .int .u8 0, .int .u8 0, .int .u8 0, .int .u8 0, .int .u8 0, .int .u8 0, .int .u8 0, .int .u8 0, .int .u8 0, .int .u8 0, .int .u8 0, .int .u8 0, .int .u8 0, .int .u8 0, .int .u8 0, .int .u8 0, .int .u8 0, .int .u8 0, .int .u8 0, .int .u8 0, .int .u8 0, .int .u8 0, .int .u8 0, .int .u8 0, .int .u8 0, .int .u8 0]), 33, 40) := by kernel_rfl

/-- A page of 0, as a variable. -/
abbrev nilPg : Obj := .cells #[.int .u8 0, .int .u8 0, .int .u8 0, .int .u8 0, .int .u8 0, .int .u8 0, .int .u8 0, .int .u8 0, .int .u8 0, .int .u8 0, .int .u8 0, .int .u8 0, .int .u8 0, .int .u8 0, .int .u8 0, .int .u8 0, .int .u8 0, .int .u8 0, .int .u8 0, .int .u8 0, .int .u8 0, .int .u8 0, .int .u8 0, .int .u8 0, .int .u8 0, .int .u8 0, .int .u8 0, .int .u8 0, .int .u8 0, .int .u8 0, .int .u8 0, .int .u8 0] 88

theorem bt_turn {a : Option Addr} (h : BtAt w a l) (t : Turn F w w') (ha : l ≠ [] → ∀ b o, a = some ⟨b, o, none⟩ → ¬ F b) : BtAt w' a l := fun i hi => by
  obtain ⟨b, o, e, h1⟩ := h i hi
  exact ⟨b, o, e, t.cell (ha (by intro q; subst q; cases hi) b o e) h1⟩

theorem pg_map (hp : p.length = 32) : p.map by1 = pg p := by
  refine List.ext_getElem? fun j => ?_
  by_cases hj : j < 32
  · rw [pg_get hj, List.getElem?_map, List.getElem?_eq_getElem (by omega), List.getD_eq_getElem?_getD, List.getElem?_eq_getElem (by omega)]
    rfl
  · rw [List.getElem?_eq_none (by rw [List.length_map]; omega), List.getElem?_eq_none (by rw [pg_len]; omega)]

/-- Bytes are copied into a page of 0. -/
theorem copy_page {a : Option Addr} {c : Nat} (ha : BtAt w a l) (hl : l.length ≤ 32) (hc : l.length ≤ c) (hnil : a = none → c = 0) :
    (Builtin.copy_ #[37, 37] 3 #[.slice (some ⟨w.heap.size, 0, none⟩) 32 32, .slice a l.length c]).run Tryz.prog (w.alloc nilPg) = .ok (.int .i64 (l.length : Nat)) (w.alloc (.cells (pg (pad l)).toArray 88)) := by
  have hbl : ∀ o : Obj, Below w.heap.size w (w.alloc o) := fun o => (Below.refl _ _).alloc (Nat.le_refl _) _
  cases a with
  | none =>
    obtain rfl := hnil rfl
    obtain rfl : l = [] := List.eq_nil_of_length_eq_zero (by omega)
    exact run_copy_nil (P := Tryz.prog) (w.alloc nilPg) 37 37 3 5 ⟨w.heap.size, 0, none⟩ 32 32 Tryz.underlying37 (by rw [Tryz.infoU8]; rfl)
  | some a =>
    have hr := run_copy_row (P := Tryz.prog) (w.alloc nilPg) 37 37 3 5 w.heap.size 0 32 32 a l.length c _ 88 (l.map by1) Tryz.underlying37 Tryz.infoU8 (heap_alloc_last w _) (by rw [List.length_map]; exact (Nat.min_eq_left hl).symm) (fun j v hv => by
      rw [List.getElem?_map] at hv
      obtain ⟨x, hx, rfl⟩ := Option.map_eq_some_iff.1 hv
      obtain ⟨hj, hx'⟩ := List.getElem?_eq_some_iff.1 hx
      obtain ⟨b, o, e, hcell⟩ := ha.below (hbl nilPg) j hj
      cases e
      rw [Addr.add_lit, hcell, List.getD_eq_getElem?_getD, hx]
      rfl) (by rw [List.length_map]; simpa using hl) (fun v hv => by
      obtain ⟨x, _, rfl⟩ := List.mem_map.1 hv
      rfl)
    rw [World.setRow_alloc_new] at hr
    rw [hr, List.length_map, ← pg_map (pad_len hl)]
    have hz : ∀ m, m ≤ 32 → (List.drop m [.int .u8 0, .int .u8 0, .int .u8 0, .int .u8 0, .int .u8 0, .int .u8 0, .int .u8 0, .int .u8 0, .int .u8 0, .int .u8 0, .int .u8 0, .int .u8 0, .int .u8 0, .int .u8 0, .int .u8 0, .int .u8 0, .int .u8 0, .int .u8 0, .int .u8 0, .int .u8 0, .int .u8 0, .int .u8 0, .int .u8 0, .int .u8 0, .int .u8 0, .int .u8 0, .int .u8 0, .int .u8 0, .int .u8 0, .int .u8 0, .int .u8 0, .int .u8 0] : List Value) = List.replicate (32 - m) (.int .u8 0) := fun m _ => by
      rw [show ([.int .u8 0, .int .u8 0, .int .u8 0, .int .u8 0, .int .u8 0, .int .u8 0, .int .u8 0, .int .u8 0, .int .u8 0, .int .u8 0, .int .u8 0, .int .u8 0, .int .u8 0, .int .u8 0, .int .u8 0, .int .u8 0, .int .u8 0, .int .u8 0, .int .u8 0, .int .u8 0, .int .u8 0, .int .u8 0, .int .u8 0, .int .u8 0, .int .u8 0, .int .u8 0, .int .u8 0, .int .u8 0, .int .u8 0, .int .u8 0, .int .u8 0, .int .u8 0] : List Value) = List.replicate 32 (.int .u8 0) from rfl, List.drop_replicate]
    rw [Nat.zero_add, hz _ hl, List.take_zero, List.nil_append, pad, List.map_append, List.map_replicate]
    rfl

/-- A write, as a value. -/
theorem run_build_w (a : Nat) (q : List UInt8) (w : World) : (Instr.build 90 #[(0, .int .i64 (a : Nat)), (1, .agg (pg q).toArray)]).run Tryz.prog w = .ok (.agg (wc (a, q)).toArray) w :=
  run_build w 90 _ _ (by kernel_rfl)
theorem run_build_ws (a : Nat) (q : List UInt8) (w : World) : (Instr.buildSlice 60 1 #[(0, .agg (wc (a, q)).toArray)]).run Tryz.prog w = .ok (.slice (some ⟨w.heap.size, 0, none⟩) 1 1) (w.alloc (.cells (wc (a, q)).toArray 90)) := by kernel_rfl

theorem run_val {m : Sem Value} {v : Value} (h : m.run Tryz.prog w = .ok v w') : (do pure (Next.value (← m)) : Sem Next).run Tryz.prog w = .ok (.value v) w' := by
  rw [Sem.run_bind, h]
  rfl

theorem step_run {ops : Array Oper} {o : Oper} {a : Act} {K : Act → World → Prop} {Q : Exit → Act → World → Prop} {E : Prop} (hgd : o.guard = none) (hr : (execOp a.eval o).run Tryz.prog w = .ok (.value v) w') (h : K (a.put o.dst v) w') :
    if Region.wanted o (yielded ops a.tmps) = true then Oper.wp Tryz.prog o a w K Q else E := by
  rw [if_pos (show Region.wanted o (yielded ops a.tmps) = true by simp [Region.wanted, hgd])]
  unfold Oper.wp
  rw [hr]
  simpa [Oper.upon] using h

theorem new_cell (w : World) (L : List Value) (t : TypeId) {j : Nat} (h : L[j]? = some u) : (w.alloc (.cells L.toArray t)).cell? ⟨w.heap.size, 0 + j, none⟩ = some u := by
  rw [Nat.zero_add, cell_of_row _ _ _ _ _ _ (heap_alloc_last w _)]
  simpa using h
theorem rangeAt_grow {k o : Nat} {cs : List Value} (h : w.rangeAt k o cs) (hg : w.grownBy w' R.ownBlock) (hR : R.ownBlock ≠ some k) : w'.rangeAt k o cs := fun j v hv => by
  have hc := h j v hv
  exact (World.cell?_of_block (w := w) (a := ⟨k, o + j, none⟩) (hg.block k (World.block_lt_of_cell? _ _ hc) (Ne.symm hR))).trans hc
theorem rangeAt_set {k o b i : Nat} {cs : List Value} (h : w.rangeAt k o cs) (hk : k ≠ b) : (w.setCell ⟨b, i, none⟩ v).rangeAt k o cs := fun j u hu => by
  have hc := h j u hu
  exact (World.cell?_of_block (w := w) (a := ⟨k, o + j, none⟩) (blk_setCell_other _ _ _ _ hk)).trans hc

/-- One more write. -/
theorem Ex.push (h : Ex w B kd n s F gn gk R x) (hB : B ≤ w.heap.size) {c a : Nat} {q : List UInt8} (ha : a < n) (hq : q.length = 32) (hown : w'.ownsRow B 90 33 (.slice (some ⟨g, 0, none⟩) (s.wr.length + 1) c) (s.wr.length + 1) (s.wr.flatMap wc ++ wc (a, q)))
    (hgrow : w.grownBy w' R.ownBlock) (hat : R.ownBlock = some g ∨ w.heap.size ≤ g) :
    Ex (w'.setCell ⟨kd, 2, none⟩ (.slice (some ⟨g, 0, none⟩) (s.wr.length + 1) c)) B kd n { s with wr := s.wr ++ [(a, q)] } (fun b => F b ∨ b = g) gn gk (.slice (some ⟨g, 0, none⟩) (s.wr.length + 1) c) x ∧
      Turn F w (w'.setCell ⟨kd, 2, none⟩ (.slice (some ⟨g, 0, none⟩) (s.wr.length + 1) c)) ∧ w'.cell? ⟨kd, 2, none⟩ = some R ∧ w'.frozen? ⟨kd, 2, none⟩ = false := by
  obtain ⟨k1, k2, k3⟩ := h.kn
  have hb : ∀ k, F k → some k ≠ R.ownBlock → w'.heap[k]? = w.heap[k]? := fun k hk hne => hgrow.block k (h.own k hk).2 hne
  have hkR : some kd ≠ R.ownBlock := fun e => (k3 kd e.symm).1 rfl
  have hnR : some gn ≠ R.ownBlock := fun e => (k3 gn e.symm).2.1 rfl
  have hgR : some gk ≠ R.ownBlock := fun e => (k3 gk e.symm).2.2 rfl
  have hg : g ≠ kd := by
    rcases hat with e | e
    · exact (k3 g e).1
    · have := (h.own kd h.dk).2; omega
  have row' := h.row.of_block (hb kd h.dk hkR)
  have hs : w.heap.size ≤ (w'.setCell ⟨kd, 2, none⟩ (.slice (some ⟨g, 0, none⟩) (s.wr.length + 1) c)).heap.size := by simpa using hgrow.size
  refine ⟨⟨(row'.set 2 _).congr fun i hi => ?_, h.now.of_block ((blk_setCell_other _ _ _ _ k1.symm).trans (hb gn h.fn hnR)), h.kept.of_block ((blk_setCell_other _ _ _ _ k2.symm).trans (hb gk h.fk hgR)), ⟨?_, fun y hy => ?_⟩, h.ne, h.lft, Or.inl h.fn, Or.inl h.fk, fun k e => ?_, Or.inl h.dk, fun b hb => ?_, h.small, h.wide⟩, ?_, row'.cell (i := 2) (by omega), row'.frozen 2⟩
  · have : i = 0 ∨ i = 1 ∨ i = 2 ∨ i = 3 ∨ i = 4 := by omega
    rcases this with rfl | rfl | rfl | rfl | rfl <;> rfl
  · have hw : (s.wr ++ [(a, q)]).flatMap wc = s.wr.flatMap wc ++ wc (a, q) := by simp
    rw [hw, List.length_append]
    exact own_block hown fun k e => by
      simp only [Value.ownBlock, Option.some.injEq] at e
      exact blk_setCell_other _ _ _ _ (show k ≠ kd from e ▸ hg)
  · rcases List.mem_append.1 hy with e | e
    · exact h.wr.el y e
    · rw [List.mem_singleton.1 e]; exact ⟨ha, hq⟩
  · simp only [Value.ownBlock, Option.some.injEq] at e
    exact Or.inr e.symm
  · rcases hb with e | rfl
    · exact ⟨(h.own b e).1, Nat.lt_of_lt_of_le (h.own b e).2 hs⟩
    · have := hown.lt b rfl
      exact ⟨this.1, by simpa using this.2⟩
  · exact ⟨hgrow.os, hgrow.tape, hgrow.output, hs, fun k hk hn => (blk_setCell_other _ _ _ _ (show k ≠ kd from fun e => hn (by rw [e]; exact h.dk))).trans (hgrow.block k hk fun e => hn (h.fr k e.symm))⟩

theorem run_unit {m : Sem Unit} (h : m.run Tryz.prog w = .ok () w') : (do m; pure Next.skip : Sem Next).run Tryz.prog w = .ok .skip w' := by
  rw [Sem.run_bind, h]
  rfl

theorem step_unit {ops : Array Oper} {o : Oper} {a : Act} {K : Act → World → Prop} {Q : Exit → Act → World → Prop} {E : Prop} (hgd : o.guard = none) (hr : (execOp a.eval o).run Tryz.prog w = .ok .skip w') (h : K (a.put o.dst undef) w') :
    if Region.wanted o (yielded ops a.tmps) = true then Oper.wp Tryz.prog o a w K Q else E := by
  rw [if_pos (show Region.wanted o (yielded ops a.tmps) = true by simp [Region.wanted, hgd])]
  unfold Oper.wp
  rw [hr]
  simpa [Oper.upon] using h

set_option maxRecDepth 100000 in
set_option maxHeartbeats 4000000 in
/-- A page is written. -/
theorem l_write (h : Ex w B kd n s F gn gk R x) (hB : B ≤ w.heap.size) (hw : s.wr.length ≤ 1000) {a : Option Addr} {c : Nat} (k : Int) (ha : BtAt w a l) (hc : l.length ≤ c) (hc2 : c ≤ maxLen) (hnil : a = none → c = 0) (hF : l ≠ [] → ∀ b o, a = some ⟨b, o, none⟩ → ¬ F b) :
    Calls Tryz.prog 69 #[.pointer (some ⟨kd, 0, none⟩), .int .i64 k, .slice a l.length c] w fun e w' => ∃ v, e = .returned v ∧ ∃ x', Er v x' ∧ ∃ s', Writes n s k l x' s' ∧ ∃ F', (∃ R' y, Ex w' B kd n s' F' gn gk R' y) ∧ (∀ b, F' b → F b ∨ w.heap.size ≤ b) ∧ Turn F w w' := by
  have HR : Hid (Ex w B kd n s F gn gk R x) := h
  obtain ⟨m, hm⟩ : ∃ m, l.length = m := ⟨_, rfl⟩
  have HM : Hid (l.length = m) := hm
  have HC : Hid (m ≤ c ∧ c ≤ maxLen ∧ s.wr.length ≤ 1000 ∧ B ≤ w.heap.size) := ⟨hm ▸ hc, hc2, hw, hB⟩
  have HA : Hid (BtAt w a l ∧ (a = none → c = 0) ∧ (l ≠ [] → ∀ b o, a = some ⟨b, o, none⟩ → ¬ F b)) := ⟨ha, hnil, hF⟩
  rw [hm]
  have hh := l_has h k
  clear h hm hc hc2 hw hB ha hnil hF
  by_cases hk : 0 ≤ k ∧ k < (n : Int)
  case neg =>
    rw [decide_eq_false hk] at hh
    have HK : Hid (k < 0 ∨ (n : Int) ≤ k) := show _ ∨ _ by omega
    clear hk
    go_enter Tryz.func69, Tryz.ntmps69
    go_wp2_with fail
    refine hh.mono ?_
    rintro e w1 ⟨rfl, rfl⟩
    go_wp2_with fail
    go_ret
    exact ⟨_, rfl, 1, Or.inr ⟨rfl, by decide⟩, s, Or.inl ⟨HK.out, rfl, rfl⟩, F, ⟨R, x, HR.out⟩, fun b q => Or.inl q, Turn.refl _⟩
  rw [decide_eq_true hk] at hh
  obtain ⟨i, rfl⟩ := Int.eq_ofNat_of_zero_le hk.1
  have HI : Hid (i < n) := show _ < _ by omega
  clear hk
  by_cases m0 : 32 < m
  · have m1 : (32 : Int) < (m : Int) := by omega
    have HO : Hid ((0 ≤ (i : Int) ∧ (i : Int) < n) ∧ 32 < l.length) := ⟨⟨by omega, by have := HI.out; omega⟩, by rw [HM.out]; exact m0⟩
    clear m0
    go_enter Tryz.func69, Tryz.ntmps69
    go_wp2_with fail
    refine hh.mono ?_
    rintro e w1 ⟨rfl, rfl⟩
    go_wp2_with fail
    go_ret
    exact ⟨_, rfl, 3, Or.inr ⟨rfl, by decide⟩, s, Or.inr (Or.inl ⟨HO.out.1, HO.out.2, rfl, rfl⟩), F, ⟨R, x, HR.out⟩, fun b q => Or.inl q, Turn.refl _⟩
  have m1 : ¬ (32 : Int) < (m : Int) := by omega
  have HO : Hid ((0 ≤ (i : Int) ∧ (i : Int) < n) ∧ l.length ≤ 32) := ⟨⟨by omega, by have := HI.out; omega⟩, by rw [HM.out]; omega⟩
  clear m0
  go_enter Tryz.func69, Tryz.ntmps69
  go_wp2_with fail
  refine hh.mono ?_
  rintro e w0 ⟨rfl, rfl⟩
  clear hh
  go_wp2_with fail
  refine (l_step HR.out).mono ?_
  rintro e w1 ⟨⟨rfl, hoff, hr⟩ | ⟨rfl, hon, x1, hr⟩, ht⟩
  · have HX : Hid (Off s ∧ Ex w1 B kd n (fall s) F gn gk R x ∧ Turn F w0 w1) := ⟨hoff, hr, ht⟩
    clear hoff hr ht
    go_wp2_with fail
    go_ret
    exact ⟨_, rfl, 8, Or.inr ⟨rfl, by decide⟩, _, Or.inr (Or.inr (Or.inl ⟨HO.out.1, HO.out.2, HX.out.1, rfl, rfl⟩)), F, ⟨R, x, HX.out.2.1⟩, fun b q => Or.inl q, HX.out.2.2⟩
  have HX : Hid (¬ Off s ∧ Ex w1 B kd n (less s) F gn gk R x1 ∧ Turn F w0 w1) := ⟨hon, hr, ht⟩
  clear hon hr ht
  have hcp := copy_page (bt_turn HA.out.1 HX.out.2.2 HA.out.2.2) HO.out.2 (by rw [HM.out]; exact HC.out.1) HA.out.2.1
  rw [HM.out] at hcp
  obtain ⟨p, hp⟩ : ∃ p, w1.heap.size = p := ⟨_, rfl⟩
  obtain ⟨Wb, hWb⟩ : ∃ Wb, w1.alloc nilPg = Wb := ⟨_, rfl⟩
  obtain ⟨q, hq⟩ : ∃ q, pad l = q := ⟨_, rfl⟩
  have HQ : Hid (pad l = q ∧ q.length = 32) := ⟨hq, hq ▸ pad_len HO.out.2⟩
  obtain ⟨W1, hW1⟩ : ∃ W1, w1.alloc (.cells (pg q).toArray 88) = W1 := ⟨_, rfl⟩
  rw [hq, hp, hWb, hW1] at hcp
  clear hq
  go_wp2_with (first | rw [hWb, hp] | rw [hWb])
  have e1 : Ex W1 B kd n (less s) F gn gk R x1 := hW1 ▸ HX.out.2.1.below ((Below.refl _ _).alloc (Nat.le_refl _) _)
  have hi : (Tryz.prog.info? 88).map (·.size) = some (pg q).length := by rw [pg_len]; exact Tryz.infoPage
  have hi2 : (Tryz.prog.info? 88).map (·.size) = some (pg q).toArray.size := by simpa using hi
  have hp2 : (pg q).toArray.all (·.oneCell') = true := all_oneCell_toArray pg_one
  have rp : W1.rangeAt p 0 (pg q) := fun j v hv => by
    rw [← hW1, ← hp, Nat.zero_add, cell_of_row _ _ _ _ _ _ (heap_alloc_last w1 _)]
    simpa using hv
  have tn : W1.there gn (i * 32) 32 := e1.now.there HI.out
  have q0 := e1.cell0
  have hpg : p ≠ gn ∧ p ≠ kd := ⟨fun e => by have := (HX.out.2.1.own gn e1.fn).2; omega, fun e => by have := (HX.out.2.1.own kd e1.dk).2; omega⟩
  have hkg : kd ≠ gn := e1.kn.1
  have hS0 : W1.drew.cell? ⟨kd, 0, none⟩ = some (.slice (some ⟨gn, 0, none⟩) n n) ∧ W1.drew.rangeAt p 0 (pg q) ∧ W1.drew.there gn (i * 32) 32 := ⟨q0, rp, tn⟩
  have hS1 : (W1.drew.setCells gn (i * 32) (pg q)).cell? ⟨kd, 0, none⟩ = some (.slice (some ⟨gn, 0, none⟩) n n) ∧ (W1.drew.setCells gn (i * 32) (pg q)).rangeAt p 0 (pg q) ∧ (W1.drew.setCells gn (i * 32) (pg q)).there gn (i * 32) 32 :=
    ⟨(World.cell?_setCells_out gn _ _ _ _ (fun e _ => absurd e hkg)).trans q0, World.rangeAt_setCells_apart hS0.2.1 _ _ _ (Or.inl hpg.1), World.there_setCells hS0.2.2 _ _ _⟩
  have i0 : (0 : Int) ≤ (i : Int) := by omega
  have i1 : (i : Int) < (n : Int) := by have := HI.out; omega
  refine wp_region_noPanic ?_
  refine wp_region_held_drew (S := fun V => V.cell? ⟨kd, 0, none⟩ = some (.slice (some ⟨gn, 0, none⟩) n n) ∧ V.rangeAt p 0 (pg q) ∧ V.there gn (i * 32) 32) (by kernel_rfl) hS0 (fun hHeld => ?_)
  refine wpAnyH_take (i := 0) (oi := { dst := some 26, op := Go.Op.move (Go.Operand.tmp 0), type := 23, pos := _, after := #[], guard := none }) (v := ?va1) rfl (by kernel_rfl) (by kernel_rfl) (by kernel_rfl) (fun _ _ _ h => h) (Or.inl ⟨by rfl, ?ya1⟩) (by assumption) ?_
  case ya1 =>
    intro w hSw
    (try dsimp only at hSw)
    go_simp
    (try with_reducible rfl)
  simp only [Act.put, List.setIfInBounds_toArray, List.set_cons_zero, List.set_cons_succ]
  refine wpAnyH_take (i := 1) (oi := { dst := some 27, op := Go.Op.nilCheck (Go.Operand.tmp 26), type := 0, pos := _, after := #[{ on := 0, ground := Go.Ground.data }], guard := none }) (v := ?va2) rfl (by kernel_rfl) (by kernel_rfl) (by kernel_rfl) (fun _ _ _ h => h) (Or.inl ⟨by rfl, ?ya2⟩) (by assumption) ?_
  case ya2 =>
    intro w hSw
    (try dsimp only at hSw)
    go_simp
    (try with_reducible rfl)
  simp only [Act.put, List.setIfInBounds_toArray, List.set_cons_zero, List.set_cons_succ]
  refine wpAnyH_take (i := 2) (oi := { dst := some 28, op := Go.Op.fieldAddr 62 (Go.Operand.tmp 27) 0, type := 0, pos := _, after := #[{ on := 1, ground := Go.Ground.data }], guard := none }) (v := ?va3) rfl (by kernel_rfl) (by kernel_rfl) (by kernel_rfl) (fun _ _ _ h => h) (Or.inl ⟨by rfl, ?ya3⟩) (by assumption) ?_
  case ya3 =>
    intro w hSw
    (try dsimp only at hSw)
    go_simp
    (try with_reducible rfl)
  simp only [Act.put, List.setIfInBounds_toArray, List.set_cons_zero, List.set_cons_succ]
  refine wpAnyH_take (i := 3) (oi := { dst := some 29, op := Go.Op.load 59 (Go.Operand.tmp 28), type := 59, pos := _, after := #[{ on := 2, ground := Go.Ground.data }], guard := none }) (v := ?va4) rfl (by kernel_rfl) (by kernel_rfl) (by kernel_rfl) (fun _ _ _ h => h) (Or.inl ⟨by rfl, ?ya4⟩) (by assumption) ?_
  case ya4 =>
    intro w hSw
    (try dsimp only at hSw)
    go_simp
    (try with_reducible rfl)
  simp only [Act.put, List.setIfInBounds_toArray, List.set_cons_zero, List.set_cons_succ]
  refine wpAnyH_take (i := 4) (oi := { dst := some 30, op := Go.Op.move (Go.Operand.tmp 1), type := 3, pos := _, after := #[], guard := none }) (v := ?va5) rfl (by kernel_rfl) (by kernel_rfl) (by kernel_rfl) (fun _ _ _ h => h) (Or.inl ⟨by rfl, ?ya5⟩) (by assumption) ?_
  case ya5 =>
    intro w hSw
    (try dsimp only at hSw)
    go_simp
    (try with_reducible rfl)
  simp only [Act.put, List.setIfInBounds_toArray, List.set_cons_zero, List.set_cons_succ]
  refine wpAnyH_take (i := 5) (oi := { dst := some 31, op := Go.Op.load 88 (Go.Operand.tmp 8), type := 88, pos := _, after := #[], guard := none }) (v := .agg (pg q).toArray) rfl (by kernel_rfl) (by kernel_rfl) (by kernel_rfl) (fun _ _ _ h => h) ?ya6 (by assumption) ?_
  case ya6 => exact yieldsIf_load_mid (by rfl) 88 (.tmp 8) (by rfl) p 0 (by rfl) (pg q) _ (fun w h => h.2.1) Tryz.underlying88 rfl hi
  simp only [Act.put, List.setIfInBounds_toArray, List.set_cons_zero, List.set_cons_succ]
  refine wpAnyH_take (i := 6) (oi := { dst := some 32, op := Go.Op.indexAddr 59 (Go.Operand.tmp 29) (Go.Operand.tmp 30), type := 0, pos := _, after := #[{ on := 3, ground := Go.Ground.data }, { on := 4, ground := Go.Ground.data }, { on := 0, ground := Go.Ground.phase }, { on := 1, ground := Go.Ground.phase }, { on := 2, ground := Go.Ground.phase }, { on := 3, ground := Go.Ground.phase }, { on := 4, ground := Go.Ground.phase }, { on := 5, ground := Go.Ground.phase }], guard := none }) (v := ?va7) rfl (by kernel_rfl) (by kernel_rfl) (by kernel_rfl) (fun _ _ _ h => h) (Or.inl ⟨by rfl, ?ya7⟩) (by assumption) ?_
  case ya7 =>
    intro w hSw
    (try dsimp only at hSw)
    go_simp
    (try with_reducible rfl)
  simp only [Act.put, List.setIfInBounds_toArray, List.set_cons_zero, List.set_cons_succ]
  refine wpAnyH_ready (rs := [7]) (by kernel_rfl) (by simp) ?_
  refine (AllReadyH.cons rfl (fun K9 hK9 => ?ca8) AllReadyH.nil)
  case ca8 =>
    refine step_unit rfl (run_unit (run_storeAt_mid _ gn (i * 32) 88 (pg q).toArray hHeld.2.2 hi2 hp2)) ?_
    refine hK9.out _ _ hS1 (fun hHeld => ?_)
    clear hK9
    (try simp only [List.getElem_toArray, List.getElem_cons_succ, List.getElem_cons_zero])
    (try simp only [Act.put])
    refine wpAnyH_done (by kernel_rfl) ?_ _
    refine NoPanic.normal ?_
    have e2 : Ex (W1.drew.setCells gn (i * 32) (pg q)) B kd n { less s with now := upd s.now i q } F gn gk R x1 := (e1.below (Below.refl _ _).drew).setNow HI.out HQ.out.2
    have t2 : Turn F w0 (W1.drew.setCells gn (i * 32) (pg q)) := HX.out.2.2.trans ((Turn.of_below (hW1 ▸ (Below.refl _ _).alloc (Nat.le_refl _) _ : Below w1.heap.size w1 W1)).trans ((Turn.of_below (Below.refl _ _).drew).trans (turn_sets (w := W1.drew) e1.fn _ _)))
    have rp2 : (W1.drew.setCells gn (i * 32) (pg q)).rangeAt p 0 (pg q) := hS1.2.1
    obtain ⟨W2, hW2⟩ : ∃ W2, W1.drew.setCells gn (i * 32) (pg q) = W2 := ⟨_, rfl⟩
    rw [hW2] at e2 t2 rp2 ⊢
    obtain ⟨M, hM⟩ : ∃ M, s.wr.length = M := ⟨_, rfl⟩
    have HMM : Hid (M ≤ 1000 ∧ B ≤ W2.heap.size) := ⟨hM ▸ HC.out.2.2.1, Nat.le_trans HC.out.2.2.2 t2.size⟩
    have hOw : W2.ownsRow B 90 33 R M (s.wr.flatMap wc) := hM ▸ e2.wr.own
    have HOw : Hid (W2.ownsRow B 90 33 R M (s.wr.flatMap wc)) := hOw
    have HE : Hid (Ex W2 B kd n { less s with now := upd s.now i q } F gn gk R x1 ∧ Turn F w0 W2 ∧ s.wr.length = M) := ⟨e2, t2, hM⟩
    have c2 := e2.cell2
    have c3 : (W2.alloc (.cells (wc (i, q)).toArray 90)).cell? ⟨kd, 2, none⟩ = some R := cell_keep ((Below.refl _ _).alloc (Nat.le_refl _) _) c2
    have hpR : R.ownBlock ≠ some p := fun e => by have := (HX.out.2.1.own p (HX.out.2.1.fr p e)).2; omega
    have hpk : p ≠ kd := hpg.2
    clear hS0 hS1 rp tn q0 e1 hpg hkg hOw e2 t2 hM hW2 i0 i1
    have HU : Hid (∀ w' g' c, w'.ownsRow B 90 33 (.slice (some ⟨g', 0, none⟩) (M + 1) c) (M + 1) (s.wr.flatMap wc ++ wc (i, q)) → (W2.drew.alloc (.cells (wc (i, q)).toArray 90)).grownBy w' R.ownBlock → (R.ownBlock = some g' ∨ g' = W2.heap.size + 1) →
        Ex (w'.setCell ⟨kd, 2, none⟩ (.slice (some ⟨g', 0, none⟩) (M + 1) c)) B kd n { less s with now := upd s.now i q, wr := s.wr ++ [(i, q)] } (fun b => F b ∨ b = g') gn gk (.slice (some ⟨g', 0, none⟩) (M + 1) c) x1 ∧ Turn F W2 (w'.setCell ⟨kd, 2, none⟩ (.slice (some ⟨g', 0, none⟩) (M + 1) c)) ∧ w'.cell? ⟨kd, 2, none⟩ = some R ∧ w'.frozen? ⟨kd, 2, none⟩ = false) := fun w' g' c e1 e2 e3 => by
      have hM := HE.out.2.2
      subst hM
      exact HE.out.1.push HMM.out.2 HI.out HQ.out.2 e1 ⟨e2.os, e2.tape, e2.output, Nat.le_trans (by simp) e2.size, fun k hk hne => (e2.block k (by simp; omega) hne).trans (blk_alloc_lt _ _ _ hk)⟩ (e3.imp id fun e => by omega)
    have HOR : Hid (∀ g', (R.ownBlock = some g' ∨ g' = W2.heap.size + 1) → F g' ∨ w0.heap.size ≤ g') := fun g' e => e.imp (fun e => HE.out.1.fr _ e) (fun e => by have := HE.out.2.1.size; omega)
    obtain ⟨z0, hi0, hz0, hz1, hz2⟩ := info_parts Tryz.infoDW
    go_wp2_with fail
    refine wp_region_noPanic ?_
    refine wp_region_held_drew (S := fun V => V.rangeAt p 0 (pg q)) (by kernel_rfl) rp2 (fun hHeld => ?_)
    refine wpAnyH_take (i := 0) (oi := { dst := some 33, op := Go.Op.move (Go.Operand.tmp 0), type := 23, pos := _, after := #[], guard := none }) (v := ?vb1) rfl (by kernel_rfl) (by kernel_rfl) (by kernel_rfl) (fun _ _ _ h => h) (Or.inl ⟨by rfl, ?yb1⟩) (by assumption) ?_
    case yb1 =>
      intro w hSw
      (try dsimp only at hSw)
      go_simp
      (try with_reducible rfl)
    simp only [Act.put, List.setIfInBounds_toArray, List.set_cons_zero, List.set_cons_succ]
    refine wpAnyH_take (i := 1) (oi := { dst := some 34, op := Go.Op.move (Go.Operand.tmp 0), type := 23, pos := _, after := #[], guard := none }) (v := ?vb2) rfl (by kernel_rfl) (by kernel_rfl) (by kernel_rfl) (fun _ _ _ h => h) (Or.inl ⟨by rfl, ?yb2⟩) (by assumption) ?_
    case yb2 =>
      intro w hSw
      (try dsimp only at hSw)
      go_simp
      (try with_reducible rfl)
    simp only [Act.put, List.setIfInBounds_toArray, List.set_cons_zero, List.set_cons_succ]
    refine wpAnyH_take (i := 2) (oi := { dst := some 35, op := Go.Op.nilCheck (Go.Operand.tmp 34), type := 0, pos := _, after := #[{ on := 1, ground := Go.Ground.data }], guard := none }) (v := ?vb3) rfl (by kernel_rfl) (by kernel_rfl) (by kernel_rfl) (fun _ _ _ h => h) (Or.inl ⟨by rfl, ?yb3⟩) (by assumption) ?_
    case yb3 =>
      intro w hSw
      (try dsimp only at hSw)
      go_simp
      (try with_reducible rfl)
    simp only [Act.put, List.setIfInBounds_toArray, List.set_cons_zero, List.set_cons_succ]
    refine wpAnyH_take (i := 3) (oi := { dst := some 36, op := Go.Op.fieldAddr 62 (Go.Operand.tmp 35) 2, type := 0, pos := _, after := #[{ on := 2, ground := Go.Ground.data }], guard := none }) (v := ?vb4) rfl (by kernel_rfl) (by kernel_rfl) (by kernel_rfl) (fun _ _ _ h => h) (Or.inl ⟨by rfl, ?yb4⟩) (by assumption) ?_
    case yb4 =>
      intro w hSw
      (try dsimp only at hSw)
      go_simp
      (try with_reducible rfl)
    simp only [Act.put, List.setIfInBounds_toArray, List.set_cons_zero, List.set_cons_succ]
    refine wpAnyH_take (i := 5) (oi := { dst := some 38, op := Go.Op.move (Go.Operand.tmp 1), type := 3, pos := _, after := #[], guard := none }) (v := ?vb5) rfl (by kernel_rfl) (by kernel_rfl) (by kernel_rfl) (fun _ _ _ h => h) (Or.inl ⟨by rfl, ?yb5⟩) (by assumption) ?_
    case yb5 =>
      intro w hSw
      (try dsimp only at hSw)
      go_simp
      (try with_reducible rfl)
    simp only [Act.put, List.setIfInBounds_toArray, List.set_cons_zero, List.set_cons_succ]
    refine wpAnyH_take (i := 6) (oi := { dst := some 39, op := Go.Op.load 88 (Go.Operand.tmp 8), type := 88, pos := _, after := #[], guard := none }) (v := .agg (pg q).toArray) rfl (by kernel_rfl) (by kernel_rfl) (by kernel_rfl) (fun _ _ _ h => h) ?yb6 (by assumption) ?_
    case yb6 => exact yieldsIf_load_mid (by rfl) 88 (.tmp 8) (by rfl) p 0 (by rfl) (pg q) _ (fun w h => h) Tryz.underlying88 rfl hi
    simp only [Act.put, List.setIfInBounds_toArray, List.set_cons_zero, List.set_cons_succ]
    refine wpAnyH_take (i := 7) (oi := { dst := some 40, op := Go.Op.build 90 #[(0, Go.Operand.tmp 38), (1, Go.Operand.tmp 39)], type := 90, pos := _, after := #[{ on := 5, ground := Go.Ground.data }, { on := 6, ground := Go.Ground.data }], guard := none }) (v := .agg (wc (i, q)).toArray) rfl (by kernel_rfl) (by kernel_rfl) (by kernel_rfl) (fun _ _ _ h => h) ?yb7 (by assumption) ?_
    case yb7 => exact Or.inl ⟨by rfl, fun w _ => by simp only [execOp, List.map_toArray, List.map_cons, List.map_nil]; exact run_val (run_build_w i q w)⟩
    simp only [Act.put, List.setIfInBounds_toArray, List.set_cons_zero, List.set_cons_succ]
    refine wpAnyH_ready (rs := [4, 8]) (by kernel_rfl) (by simp) ?_
    refine (AllReadyH.cons rfl (fun K9 hK9 => ?cb20) (AllReadyH.cons rfl (fun K9 hK9 => ?cb21) AllReadyH.nil))
    case cb20 =>
      go_simp
      refine hK9.out _ _ hHeld (fun hHeld => ?_)
      clear hK9
      (try simp only [Act.put, List.setIfInBounds_toArray, List.set_cons_zero, List.set_cons_succ])
      refine wpAnyH_ready (rs := [8]) (by kernel_rfl) (by simp) ?_
      refine (AllReadyH.cons rfl (fun K9 hK9 => ?cb13) AllReadyH.nil)
      case cb13 =>
        refine step_run (v := .slice (some ⟨W2.heap.size, 0, none⟩) 1 1) (w' := W2.drew.alloc (.cells (wc (i, q)).toArray 90)) ?gb8 ?bb8 ?_
        case gb8 => rfl
        case bb8 =>
          simp only [List.getElem_toArray, List.getElem_cons_succ, List.getElem_cons_zero, execOp, List.map_toArray, List.map_cons, List.map_nil]
          exact run_val (run_build_ws i q _)
        refine hK9.out _ _ (World.rangeAt_alloc hHeld _) (fun hHeld => ?_)
        clear hK9
        (try simp only [List.getElem_toArray, List.getElem_cons_succ, List.getElem_cons_zero])
        (try simp only [Act.put, List.setIfInBounds_toArray, List.set_cons_zero, List.set_cons_succ])
        refine wpAnyH_ready (rs := [9]) (by kernel_rfl) (by simp) ?_
        refine (AllReadyH.cons rfl (fun K9 hK9 => ?cb12) AllReadyH.nil)
        case cb12 =>
          refine step_append_lies _ (by rfl) (.tmp 37) (.tmp 41) 60 (by rfl) B 90 z0 _ 33 40 Tryz.underlying60 hi0 hz0 hz1 hz2 rfl (by decide) R M (s.wr.flatMap wc) (by rfl) (World.ownsRow.alloc (w := W2.drew) HOw.out _) ⟨W2.heap.size, 0, none⟩ 1 1 (wc (i, q)) (by rfl) (by rw [wc_len]) (fun j u hu => by rw [Addr.add_lit]; exact new_cell _ _ _ hu) wc_one (by decide) (by unfold maxLen; have := HMM.out; omega) (by have := HMM.out; omega) (by have := HMM.out; simp; omega) _ rfl ?_
          intro g2 cap2 w6 hown hgrow hat hlt2
          refine hK9.out _ _ (rangeAt_grow hHeld hgrow hpR) (fun hHeld => ?_)
          clear hK9
          (try simp only [List.getElem_toArray, List.getElem_cons_succ, List.getElem_cons_zero])
          (try simp only [Act.put, List.setIfInBounds_toArray])
          refine wpAnyH_take (i := 10) (oi := { dst := some 43, op := Go.Op.nilCheck (Go.Operand.tmp 33), type := 0, pos := _, after := #[{ on := 0, ground := Go.Ground.data }, { on := 0, ground := Go.Ground.phase }, { on := 1, ground := Go.Ground.phase }, { on := 2, ground := Go.Ground.phase }, { on := 3, ground := Go.Ground.phase }, { on := 4, ground := Go.Ground.phase }, { on := 5, ground := Go.Ground.phase }, { on := 6, ground := Go.Ground.phase }, { on := 7, ground := Go.Ground.phase }, { on := 8, ground := Go.Ground.phase }, { on := 9, ground := Go.Ground.phase }], guard := none }) (v := ?vb9) rfl (by kernel_rfl) (by kernel_rfl) (by kernel_rfl) (fun _ _ _ h => h) (Or.inl ⟨by rfl, ?yb9⟩) (by assumption) ?_
          case yb9 =>
            intro w hSw
            (try dsimp only at hSw)
            go_simp
            (try with_reducible rfl)
          simp only [Act.put]
          refine wpAnyH_take (i := 11) (oi := { dst := some 44, op := Go.Op.fieldAddr 62 (Go.Operand.tmp 43) 2, type := 0, pos := _, after := #[{ on := 10, ground := Go.Ground.data }, { on := 0, ground := Go.Ground.phase }, { on := 1, ground := Go.Ground.phase }, { on := 2, ground := Go.Ground.phase }, { on := 3, ground := Go.Ground.phase }, { on := 4, ground := Go.Ground.phase }, { on := 5, ground := Go.Ground.phase }, { on := 6, ground := Go.Ground.phase }, { on := 7, ground := Go.Ground.phase }, { on := 8, ground := Go.Ground.phase }, { on := 9, ground := Go.Ground.phase }], guard := none }) (v := ?vb10) rfl (by kernel_rfl) (by kernel_rfl) (by kernel_rfl) (fun _ _ _ h => h) (Or.inl ⟨by rfl, ?yb10⟩) (by assumption) ?_
          case yb10 =>
            intro w hSw
            (try dsimp only at hSw)
            go_simp
            (try with_reducible rfl)
          simp only [Act.put]
          obtain ⟨r1, r2, r3, r4⟩ := HU.out w6 g2 cap2 hown hgrow (hat.imp id fun e => by first | exact e | simpa using e)
          refine wpAnyH_ready (rs := [12]) (by kernel_rfl) (by simp) ?_
          refine (AllReadyH.cons rfl (fun K9 hK9 => ?cb11) AllReadyH.nil)
          case cb11 =>
            go_simp
            refine hK9.out _ _ (rangeAt_set hHeld hpk) (fun hHeld => ?_)
            clear hK9
            refine wpAnyH_done (by kernel_rfl) ?_ _
            refine NoPanic.normal ?_
            have HF := HOR.out g2 (hat.imp id fun e => by first | exact e | simpa using e)
            have HG : Hid (Ex (w6.setCell ⟨kd, 2, none⟩ (.slice (some ⟨g2, 0, none⟩) (M + 1) cap2)) B kd n { less s with now := upd s.now i q, wr := s.wr ++ [(i, q)] } (fun b => F b ∨ b = g2) gn gk (.slice (some ⟨g2, 0, none⟩) (M + 1) cap2) x1 ∧ Turn F W2 (w6.setCell ⟨kd, 2, none⟩ (.slice (some ⟨g2, 0, none⟩) (M + 1) cap2)) ∧ (F g2 ∨ w0.heap.size ≤ g2)) := ⟨r1, r2, HF⟩
            clear hown hgrow hat hlt2 r1 r2 r3 r4 hHeld HF
            go_wp2_with fail
            go_ret
            refine ⟨_, rfl, 0, Or.inl ⟨rfl, rfl⟩, _, Or.inr (Or.inr (Or.inr ⟨HO.out.1, HO.out.2, HX.out.1, rfl, ?_⟩)), _, ⟨_, _, HG.out.1⟩, fun b e => ?_, HE.out.2.1.trans HG.out.2.1⟩
            · rw [HQ.out.1]
              rfl
            · rcases e with e | rfl
              · exact Or.inl e
              · exact HG.out.2.2
    case cb21 =>
      refine step_run (v := .slice (some ⟨W2.heap.size, 0, none⟩) 1 1) (w' := W2.drew.alloc (.cells (wc (i, q)).toArray 90)) ?gb14 ?bb14 ?_
      case gb14 => rfl
      case bb14 =>
        simp only [List.getElem_toArray, List.getElem_cons_succ, List.getElem_cons_zero, execOp, List.map_toArray, List.map_cons, List.map_nil]
        exact run_val (run_build_ws i q _)
      refine hK9.out _ _ (World.rangeAt_alloc hHeld _) (fun hHeld => ?_)
      clear hK9
      (try simp only [List.getElem_toArray, List.getElem_cons_succ, List.getElem_cons_zero])
      (try simp only [Act.put, List.setIfInBounds_toArray, List.set_cons_zero, List.set_cons_succ])
      refine wpAnyH_ready (rs := [4]) (by kernel_rfl) (by simp) ?_
      refine (AllReadyH.cons rfl (fun K9 hK9 => ?cb19) AllReadyH.nil)
      case cb19 =>
        go_simp
        refine hK9.out _ _ hHeld (fun hHeld => ?_)
        clear hK9
        (try simp only [Act.put, List.setIfInBounds_toArray, List.set_cons_zero, List.set_cons_succ])
        refine wpAnyH_ready (rs := [9]) (by kernel_rfl) (by simp) ?_
        refine (AllReadyH.cons rfl (fun K9 hK9 => ?cb18) AllReadyH.nil)
        case cb18 =>
          refine step_append_lies _ (by rfl) (.tmp 37) (.tmp 41) 60 (by rfl) B 90 z0 _ 33 40 Tryz.underlying60 hi0 hz0 hz1 hz2 rfl (by decide) R M (s.wr.flatMap wc) (by rfl) (World.ownsRow.alloc (w := W2.drew) HOw.out _) ⟨W2.heap.size, 0, none⟩ 1 1 (wc (i, q)) (by rfl) (by rw [wc_len]) (fun j u hu => by rw [Addr.add_lit]; exact new_cell _ _ _ hu) wc_one (by decide) (by unfold maxLen; have := HMM.out; omega) (by have := HMM.out; omega) (by have := HMM.out; simp; omega) _ rfl ?_
          intro g2 cap2 w6 hown hgrow hat hlt2
          refine hK9.out _ _ (rangeAt_grow hHeld hgrow hpR) (fun hHeld => ?_)
          clear hK9
          (try simp only [List.getElem_toArray, List.getElem_cons_succ, List.getElem_cons_zero])
          (try simp only [Act.put, List.setIfInBounds_toArray])
          refine wpAnyH_take (i := 10) (oi := { dst := some 43, op := Go.Op.nilCheck (Go.Operand.tmp 33), type := 0, pos := _, after := #[{ on := 0, ground := Go.Ground.data }, { on := 0, ground := Go.Ground.phase }, { on := 1, ground := Go.Ground.phase }, { on := 2, ground := Go.Ground.phase }, { on := 3, ground := Go.Ground.phase }, { on := 4, ground := Go.Ground.phase }, { on := 5, ground := Go.Ground.phase }, { on := 6, ground := Go.Ground.phase }, { on := 7, ground := Go.Ground.phase }, { on := 8, ground := Go.Ground.phase }, { on := 9, ground := Go.Ground.phase }], guard := none }) (v := ?vb15) rfl (by kernel_rfl) (by kernel_rfl) (by kernel_rfl) (fun _ _ _ h => h) (Or.inl ⟨by rfl, ?yb15⟩) (by assumption) ?_
          case yb15 =>
            intro w hSw
            (try dsimp only at hSw)
            go_simp
            (try with_reducible rfl)
          simp only [Act.put]
          refine wpAnyH_take (i := 11) (oi := { dst := some 44, op := Go.Op.fieldAddr 62 (Go.Operand.tmp 43) 2, type := 0, pos := _, after := #[{ on := 10, ground := Go.Ground.data }, { on := 0, ground := Go.Ground.phase }, { on := 1, ground := Go.Ground.phase }, { on := 2, ground := Go.Ground.phase }, { on := 3, ground := Go.Ground.phase }, { on := 4, ground := Go.Ground.phase }, { on := 5, ground := Go.Ground.phase }, { on := 6, ground := Go.Ground.phase }, { on := 7, ground := Go.Ground.phase }, { on := 8, ground := Go.Ground.phase }, { on := 9, ground := Go.Ground.phase }], guard := none }) (v := ?vb16) rfl (by kernel_rfl) (by kernel_rfl) (by kernel_rfl) (fun _ _ _ h => h) (Or.inl ⟨by rfl, ?yb16⟩) (by assumption) ?_
          case yb16 =>
            intro w hSw
            (try dsimp only at hSw)
            go_simp
            (try with_reducible rfl)
          simp only [Act.put]
          obtain ⟨r1, r2, r3, r4⟩ := HU.out w6 g2 cap2 hown hgrow (hat.imp id fun e => by first | exact e | simpa using e)
          refine wpAnyH_ready (rs := [12]) (by kernel_rfl) (by simp) ?_
          refine (AllReadyH.cons rfl (fun K9 hK9 => ?cb17) AllReadyH.nil)
          case cb17 =>
            go_simp
            refine hK9.out _ _ (rangeAt_set hHeld hpk) (fun hHeld => ?_)
            clear hK9
            refine wpAnyH_done (by kernel_rfl) ?_ _
            refine NoPanic.normal ?_
            have HF := HOR.out g2 (hat.imp id fun e => by first | exact e | simpa using e)
            have HG : Hid (Ex (w6.setCell ⟨kd, 2, none⟩ (.slice (some ⟨g2, 0, none⟩) (M + 1) cap2)) B kd n { less s with now := upd s.now i q, wr := s.wr ++ [(i, q)] } (fun b => F b ∨ b = g2) gn gk (.slice (some ⟨g2, 0, none⟩) (M + 1) cap2) x1 ∧ Turn F W2 (w6.setCell ⟨kd, 2, none⟩ (.slice (some ⟨g2, 0, none⟩) (M + 1) cap2)) ∧ (F g2 ∨ w0.heap.size ≤ g2)) := ⟨r1, r2, HF⟩
            clear hown hgrow hat hlt2 r1 r2 r3 r4 hHeld HF
            go_wp2_with fail
            go_ret
            refine ⟨_, rfl, 0, Or.inl ⟨rfl, rfl⟩, _, Or.inr (Or.inr (Or.inr ⟨HO.out.1, HO.out.2, HX.out.1, rfl, ?_⟩)), _, ⟨_, _, HG.out.1⟩, fun b e => ?_, HE.out.2.1.trans HG.out.2.1⟩
            · rw [HQ.out.1]
              rfl
            · rcases e with e | rfl
              · exact Or.inl e
              · exact HG.out.2.2

end Go.Proofs.YtcfemppdeidjmacGreatDoor.Dk.L
