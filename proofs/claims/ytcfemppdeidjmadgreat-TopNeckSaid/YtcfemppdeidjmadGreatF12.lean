/-
  The landed disk: Write.
  The landed disk: Read, Sync.
  The landed disk: Crash.
  The landed store: write and read, a number as bytes.
  The landed store: the page of a head.
-/
import Derived.Test.YtcfemppdeidjmadGreatF11
import Derived.Deep.WholeRow
import Derived.Deep.RegionHeld3
import Derived.OwnWalk
import Derived.Lib.LazyBuf
namespace Go.Proofs.YtcfemppdeidjmadGreat.Dk.L
open Go.RowKit Go.Deep
open Go.RowKit (Below)
set_option linter.unusedVariables false

variable {w w' : World} {B n kd g gn gk i j N : Nat} {F F' : Nat → Prop} {s : St} {v u R : Value} {l p : List UInt8} {x : Int}

theorem Tryz.infoPage : (Tryz.prog.info? 196).map (·.size) = some 32 := by kernel_rfl
theorem Tryz.infoU8 : (Tryz.prog.info? 5).map (·.size) = some 1 := by kernel_rfl
theorem Tryz.infoDW : (Tryz.prog.info? 198).map (fun i => (i.zero, i.size, i.bytes)) = some (some (.agg #[.int .i64 0, .int .u8 0, .int .u8 0, .int .u8 0, .int .u8 0, .int .u8 0, .int .u8 0, .int .u8 0, .int .u8 0, .int .u8 0, .int .u8 0, .int .u8 0, .int .u8 0, .int .u8 0, .int .u8 0, .int .u8 0, .int .u8 0, .int .u8 0, .int .u8 0, .int .u8 0, .int .u8 0, .int .u8 0, .int .u8 0, .int .u8 0, .int .u8 0, .int .u8 0, .int .u8 0, .int .u8 0, .int .u8 0, .int .u8 0, .int .u8 0, .int .u8 0, .int .u8 0]), 33, 40) := by kernel_rfl

/-- A page of 0, as a variable. -/
abbrev nilPg : Obj := .cells #[.int .u8 0, .int .u8 0, .int .u8 0, .int .u8 0, .int .u8 0, .int .u8 0, .int .u8 0, .int .u8 0, .int .u8 0, .int .u8 0, .int .u8 0, .int .u8 0, .int .u8 0, .int .u8 0, .int .u8 0, .int .u8 0, .int .u8 0, .int .u8 0, .int .u8 0, .int .u8 0, .int .u8 0, .int .u8 0, .int .u8 0, .int .u8 0, .int .u8 0, .int .u8 0, .int .u8 0, .int .u8 0, .int .u8 0, .int .u8 0, .int .u8 0, .int .u8 0] 196

theorem bt_turn {a : Option Addr} (h : BtAt w a l) (t : Turn F w w') (ha : l ≠ [] → ∀ b o, a = some ⟨b, o, none⟩ → ¬ F b) : BtAt w' a l := fun i hi => by
  obtain ⟨b, o, e, h1⟩ := h i hi
  exact ⟨b, o, e, t.cell (ha (by intro q; subst q; cases hi) b o e) h1⟩

theorem pg_map (hp : p.length = 32) : p.map by1 = pg p := by
  refine List.ext_getElem? fun j => ?_
  by_cases hj : j < 32
  · rw [pg_get hj, List.getElem?_map, List.getElem?_eq_getElem (by omega), List.getD_eq_getElem?_getD, List.getElem?_eq_getElem (by omega)]
    rfl
  · rw [List.getElem?_eq_none (by rw [List.length_map]; omega), List.getElem?_eq_none (by rw [pg_len]; omega)]

/-- Bytes are copied into a page of 0. -/
theorem copy_page {a : Option Addr} {c : Nat} (ha : BtAt w a l) (hl : l.length ≤ 32) (hc : l.length ≤ c) (hnil : a = none → c = 0) :
    (Builtin.copy_ #[97, 97] 3 #[.slice (some ⟨w.heap.size, 0, none⟩) 32 32, .slice a l.length c]).run Tryz.prog (w.alloc nilPg) = .ok (.int .i64 (l.length : Nat)) (w.alloc (.cells (pg (pad l)).toArray 196)) := by
  have hbl : ∀ o : Obj, Below w.heap.size w (w.alloc o) := fun o => (Below.refl _ _).alloc (Nat.le_refl _) _
  cases a with
  | none =>
    obtain rfl := hnil rfl
    obtain rfl : l = [] := List.eq_nil_of_length_eq_zero (by omega)
    exact run_copy_nil (P := Tryz.prog) (w.alloc nilPg) 97 97 3 5 ⟨w.heap.size, 0, none⟩ 32 32 Tryz.underlying97 (by rw [Tryz.infoU8]; rfl)
  | some a =>
    have hr := run_copy_row (P := Tryz.prog) (w.alloc nilPg) 97 97 3 5 w.heap.size 0 32 32 a l.length c _ 196 (l.map by1) Tryz.underlying97 Tryz.infoU8 (heap_alloc_last w _) (by rw [List.length_map]; exact (Nat.min_eq_left hl).symm) (fun j v hv => by
      rw [List.getElem?_map] at hv
      obtain ⟨x, hx, rfl⟩ := Option.map_eq_some_iff.1 hv
      obtain ⟨hj, hx'⟩ := List.getElem?_eq_some_iff.1 hx
      obtain ⟨b, o, e, hcell⟩ := ha.below (hbl nilPg) j hj
      cases e
      rw [Addr.add_lit, hcell, List.getD_eq_getElem?_getD, hx]
      rfl) (by rw [List.length_map]; simpa using hl) (fun v hv => by
      obtain ⟨x, _, rfl⟩ := List.mem_map.1 hv
      rfl)
    rw [World.setRow_alloc_new] at hr
    rw [hr, List.length_map, ← pg_map (pad_len hl)]
    have hz : ∀ m, m ≤ 32 → (List.drop m [.int .u8 0, .int .u8 0, .int .u8 0, .int .u8 0, .int .u8 0, .int .u8 0, .int .u8 0, .int .u8 0, .int .u8 0, .int .u8 0, .int .u8 0, .int .u8 0, .int .u8 0, .int .u8 0, .int .u8 0, .int .u8 0, .int .u8 0, .int .u8 0, .int .u8 0, .int .u8 0, .int .u8 0, .int .u8 0, .int .u8 0, .int .u8 0, .int .u8 0, .int .u8 0, .int .u8 0, .int .u8 0, .int .u8 0, .int .u8 0, .int .u8 0, .int .u8 0] : List Value) = List.replicate (32 - m) (.int .u8 0) := fun m _ => by
      rw [show ([.int .u8 0, .int .u8 0, .int .u8 0, .int .u8 0, .int .u8 0, .int .u8 0, .int .u8 0, .int .u8 0, .int .u8 0, .int .u8 0, .int .u8 0, .int .u8 0, .int .u8 0, .int .u8 0, .int .u8 0, .int .u8 0, .int .u8 0, .int .u8 0, .int .u8 0, .int .u8 0, .int .u8 0, .int .u8 0, .int .u8 0, .int .u8 0, .int .u8 0, .int .u8 0, .int .u8 0, .int .u8 0, .int .u8 0, .int .u8 0, .int .u8 0, .int .u8 0] : List Value) = List.replicate 32 (.int .u8 0) from rfl, List.drop_replicate]
    rw [Nat.zero_add, hz _ hl, List.take_zero, List.nil_append, pad, List.map_append, List.map_replicate]
    rfl

/-- A write, as a value. -/
theorem run_build_w (a : Nat) (q : List UInt8) (w : World) : (Instr.build 198 #[(0, .int .i64 (a : Nat)), (1, .agg (pg q).toArray)]).run Tryz.prog w = .ok (.agg (wc (a, q)).toArray) w :=
  run_build w 198 _ _ (by kernel_rfl)
theorem run_build_ws (a : Nat) (q : List UInt8) (w : World) : (Instr.buildSlice 94 1 #[(0, .agg (wc (a, q)).toArray)]).run Tryz.prog w = .ok (.slice (some ⟨w.heap.size, 0, none⟩) 1 1) (w.alloc (.cells (wc (a, q)).toArray 198)) := by kernel_rfl

theorem run_val {m : Sem Value} {v : Value} (h : m.run Tryz.prog w = .ok v w') : (do pure (Next.value (← m)) : Sem Next).run Tryz.prog w = .ok (.value v) w' := by
  rw [Sem.run_bind, h]
  rfl

theorem step_run {ops : Array Oper} {o : Oper} {a : Act} {K : Act → World → Prop} {Q : Exit → Act → World → Prop} {E : Prop} (hgd : o.guard = none) (hr : (execOp a.eval o).run Tryz.prog w = .ok (.value v) w') (h : K (a.put o.dst v) w') :
    if Region.wanted o (yielded ops a.tmps) = true then Oper.wp Tryz.prog o a w K Q else E := by
  rw [if_pos (show Region.wanted o (yielded ops a.tmps) = true by simp [Region.wanted, hgd])]
  unfold Oper.wp
  rw [hr]
  simpa [Oper.upon] using h

theorem new_cell (w : World) (L : List Value) (t : TypeId) {j : Nat} (h : L[j]? = some u) : (w.alloc (.cells L.toArray t)).cell? ⟨w.heap.size, 0 + j, none⟩ = some u := by
  rw [Nat.zero_add, cell_of_row _ _ _ _ _ _ (heap_alloc_last w _)]
  simpa using h
theorem rangeAt_grow {k o : Nat} {cs : List Value} (h : w.rangeAt k o cs) (hg : w.grownBy w' R.ownBlock) (hR : R.ownBlock ≠ some k) : w'.rangeAt k o cs := fun j v hv => by
  have hc := h j v hv
  exact (World.cell?_of_block (w := w) (a := ⟨k, o + j, none⟩) (hg.block k (World.block_lt_of_cell? _ _ hc) (Ne.symm hR))).trans hc
theorem rangeAt_set {k o b i : Nat} {cs : List Value} (h : w.rangeAt k o cs) (hk : k ≠ b) : (w.setCell ⟨b, i, none⟩ v).rangeAt k o cs := fun j u hu => by
  have hc := h j u hu
  exact (World.cell?_of_block (w := w) (a := ⟨k, o + j, none⟩) (blk_setCell_other _ _ _ _ hk)).trans hc

/-- One more write. -/
theorem Ex.push (h : Ex w B kd n s F gn gk R x) (hB : B ≤ w.heap.size) {c a : Nat} {q : List UInt8} (ha : a < n) (hq : q.length = 32) (hown : w'.ownsRow B 198 33 (.slice (some ⟨g, 0, none⟩) (s.wr.length + 1) c) (s.wr.length + 1) (s.wr.flatMap wc ++ wc (a, q)))
    (hgrow : w.grownBy w' R.ownBlock) (hat : R.ownBlock = some g ∨ w.heap.size ≤ g) :
    Ex (w'.setCell ⟨kd, 2, none⟩ (.slice (some ⟨g, 0, none⟩) (s.wr.length + 1) c)) B kd n { s with wr := s.wr ++ [(a, q)] } (fun b => F b ∨ b = g) gn gk (.slice (some ⟨g, 0, none⟩) (s.wr.length + 1) c) x ∧
      Turn F w (w'.setCell ⟨kd, 2, none⟩ (.slice (some ⟨g, 0, none⟩) (s.wr.length + 1) c)) ∧ w'.cell? ⟨kd, 2, none⟩ = some R ∧ w'.frozen? ⟨kd, 2, none⟩ = false := by
  obtain ⟨k1, k2, k3⟩ := h.kn
  have hb : ∀ k, F k → some k ≠ R.ownBlock → w'.heap[k]? = w.heap[k]? := fun k hk hne => hgrow.block k (h.own k hk).2 hne
  have hkR : some kd ≠ R.ownBlock := fun e => (k3 kd e.symm).1 rfl
  have hnR : some gn ≠ R.ownBlock := fun e => (k3 gn e.symm).2.1 rfl
  have hgR : some gk ≠ R.ownBlock := fun e => (k3 gk e.symm).2.2 rfl
  have hg : g ≠ kd := by
    rcases hat with e | e
    · exact (k3 g e).1
    · have := (h.own kd h.dk).2; omega
  have row' := h.row.of_block (hb kd h.dk hkR)
  have hs : w.heap.size ≤ (w'.setCell ⟨kd, 2, none⟩ (.slice (some ⟨g, 0, none⟩) (s.wr.length + 1) c)).heap.size := by simpa using hgrow.size
  refine ⟨⟨(row'.set 2 _).congr fun i hi => ?_, h.now.of_block ((blk_setCell_other _ _ _ _ k1.symm).trans (hb gn h.fn hnR)), h.kept.of_block ((blk_setCell_other _ _ _ _ k2.symm).trans (hb gk h.fk hgR)), ⟨?_, fun y hy => ?_⟩, h.ne, h.lft, Or.inl h.fn, Or.inl h.fk, fun k e => ?_, Or.inl h.dk, fun b hb => ?_, h.small, h.wide⟩, ?_, row'.cell (i := 2) (by omega), row'.frozen 2⟩
  · have : i = 0 ∨ i = 1 ∨ i = 2 ∨ i = 3 ∨ i = 4 := by omega
    rcases this with rfl | rfl | rfl | rfl | rfl <;> rfl
  · have hw : (s.wr ++ [(a, q)]).flatMap wc = s.wr.flatMap wc ++ wc (a, q) := by simp
    rw [hw, List.length_append]
    exact own_block hown fun k e => by
      simp only [Value.ownBlock, Option.some.injEq] at e
      exact blk_setCell_other _ _ _ _ (show k ≠ kd from e ▸ hg)
  · rcases List.mem_append.1 hy with e | e
    · exact h.wr.el y e
    · rw [List.mem_singleton.1 e]; exact ⟨ha, hq⟩
  · simp only [Value.ownBlock, Option.some.injEq] at e
    exact Or.inr e.symm
  · rcases hb with e | rfl
    · exact ⟨(h.own b e).1, Nat.lt_of_lt_of_le (h.own b e).2 hs⟩
    · have := hown.lt b rfl
      exact ⟨this.1, by simpa using this.2⟩
  · exact ⟨hgrow.os, hgrow.tape, hgrow.output, hs, fun k hk hn => (blk_setCell_other _ _ _ _ (show k ≠ kd from fun e => hn (by rw [e]; exact h.dk))).trans (hgrow.block k hk fun e => hn (h.fr k e.symm))⟩

theorem run_unit {m : Sem Unit} (h : m.run Tryz.prog w = .ok () w') : (do m; pure Next.skip : Sem Next).run Tryz.prog w = .ok .skip w' := by
  rw [Sem.run_bind, h]
  rfl

theorem step_unit {ops : Array Oper} {o : Oper} {a : Act} {K : Act → World → Prop} {Q : Exit → Act → World → Prop} {E : Prop} (hgd : o.guard = none) (hr : (execOp a.eval o).run Tryz.prog w = .ok .skip w') (h : K (a.put o.dst undef) w') :
    if Region.wanted o (yielded ops a.tmps) = true then Oper.wp Tryz.prog o a w K Q else E := by
  rw [if_pos (show Region.wanted o (yielded ops a.tmps) = true by simp [Region.wanted, hgd])]
  unfold Oper.wp
  rw [hr]
  simpa [Oper.upon] using h

set_option maxRecDepth 100000 in
set_option maxHeartbeats 4000000 in
/-- A page is written. -/
theorem l_write (h : Ex w B kd n s F gn gk R x) (hB : B ≤ w.heap.size) (hw : s.wr.length ≤ 1000) {a : Option Addr} {c : Nat} (k : Int) (ha : BtAt w a l) (hc : l.length ≤ c) (hc2 : c ≤ maxLen) (hnil : a = none → c = 0) (hF : l ≠ [] → ∀ b o, a = some ⟨b, o, none⟩ → ¬ F b) :
    Calls Tryz.prog 102 #[.pointer (some ⟨kd, 0, none⟩), .int .i64 k, .slice a l.length c] w fun e w' => ∃ v, e = .returned v ∧ ∃ x', Er v x' ∧ ∃ s', Writes n s k l x' s' ∧ ∃ F', (∃ R' y, Ex w' B kd n s' F' gn gk R' y) ∧ (∀ b, F' b → F b ∨ w.heap.size ≤ b) ∧ Turn F w w' := by
  have HR : Hid (Ex w B kd n s F gn gk R x) := h
  obtain ⟨m, hm⟩ : ∃ m, l.length = m := ⟨_, rfl⟩
  have HM : Hid (l.length = m) := hm
  have HC : Hid (m ≤ c ∧ c ≤ maxLen ∧ s.wr.length ≤ 1000 ∧ B ≤ w.heap.size) := ⟨hm ▸ hc, hc2, hw, hB⟩
  have HA : Hid (BtAt w a l ∧ (a = none → c = 0) ∧ (l ≠ [] → ∀ b o, a = some ⟨b, o, none⟩ → ¬ F b)) := ⟨ha, hnil, hF⟩
  rw [hm]
  have hh := l_has h k
  clear h hm hc hc2 hw hB ha hnil hF
  by_cases hk : 0 ≤ k ∧ k < (n : Int)
  case neg =>
    rw [decide_eq_false hk] at hh
    have HK : Hid (k < 0 ∨ (n : Int) ≤ k) := show _ ∨ _ by omega
    clear hk
    go_enter Tryz.func102, Tryz.ntmps102
    go_wp2_with fail
    refine hh.mono ?_
    rintro e w1 ⟨rfl, rfl⟩
    go_wp2_with fail
    go_ret
    exact ⟨_, rfl, 1, Or.inr ⟨rfl, by decide⟩, s, Or.inl ⟨HK.out, rfl, rfl⟩, F, ⟨R, x, HR.out⟩, fun b q => Or.inl q, Turn.refl _⟩
  rw [decide_eq_true hk] at hh
  obtain ⟨i, rfl⟩ := Int.eq_ofNat_of_zero_le hk.1
  have HI : Hid (i < n) := show _ < _ by omega
  clear hk
  by_cases m0 : 32 < m
  · have m1 : (32 : Int) < (m : Int) := by omega
    have HO : Hid ((0 ≤ (i : Int) ∧ (i : Int) < n) ∧ 32 < l.length) := ⟨⟨by omega, by have := HI.out; omega⟩, by rw [HM.out]; exact m0⟩
    clear m0
    go_enter Tryz.func102, Tryz.ntmps102
    go_wp2_with fail
    refine hh.mono ?_
    rintro e w1 ⟨rfl, rfl⟩
    go_wp2_with fail
    go_ret
    exact ⟨_, rfl, 3, Or.inr ⟨rfl, by decide⟩, s, Or.inr (Or.inl ⟨HO.out.1, HO.out.2, rfl, rfl⟩), F, ⟨R, x, HR.out⟩, fun b q => Or.inl q, Turn.refl _⟩
  have m1 : ¬ (32 : Int) < (m : Int) := by omega
  have HO : Hid ((0 ≤ (i : Int) ∧ (i : Int) < n) ∧ l.length ≤ 32) := ⟨⟨by omega, by have := HI.out; omega⟩, by rw [HM.out]; omega⟩
  clear m0
  go_enter Tryz.func102, Tryz.ntmps102
  go_wp2_with fail
  refine hh.mono ?_
  rintro e w0 ⟨rfl, rfl⟩
  clear hh
  go_wp2_with fail
  refine (l_step HR.out).mono ?_
  rintro e w1 ⟨⟨rfl, hoff, hr⟩ | ⟨rfl, hon, x1, hr⟩, ht⟩
  · have HX : Hid (Off s ∧ Ex w1 B kd n (fall s) F gn gk R x ∧ Turn F w0 w1) := ⟨hoff, hr, ht⟩
    clear hoff hr ht
    go_wp2_with fail
    go_ret
    exact ⟨_, rfl, 8, Or.inr ⟨rfl, by decide⟩, _, Or.inr (Or.inr (Or.inl ⟨HO.out.1, HO.out.2, HX.out.1, rfl, rfl⟩)), F, ⟨R, x, HX.out.2.1⟩, fun b q => Or.inl q, HX.out.2.2⟩
  have HX : Hid (¬ Off s ∧ Ex w1 B kd n (less s) F gn gk R x1 ∧ Turn F w0 w1) := ⟨hon, hr, ht⟩
  clear hon hr ht
  have hcp := copy_page (bt_turn HA.out.1 HX.out.2.2 HA.out.2.2) HO.out.2 (by rw [HM.out]; exact HC.out.1) HA.out.2.1
  rw [HM.out] at hcp
  obtain ⟨p, hp⟩ : ∃ p, w1.heap.size = p := ⟨_, rfl⟩
  obtain ⟨Wb, hWb⟩ : ∃ Wb, w1.alloc nilPg = Wb := ⟨_, rfl⟩
  obtain ⟨q, hq⟩ : ∃ q, pad l = q := ⟨_, rfl⟩
  have HQ : Hid (pad l = q ∧ q.length = 32) := ⟨hq, hq ▸ pad_len HO.out.2⟩
  obtain ⟨W1, hW1⟩ : ∃ W1, w1.alloc (.cells (pg q).toArray 196) = W1 := ⟨_, rfl⟩
  rw [hq, hp, hWb, hW1] at hcp
  clear hq
  go_wp2_with (first | rw [hWb, hp] | rw [hWb])
  have e1 : Ex W1 B kd n (less s) F gn gk R x1 := hW1 ▸ HX.out.2.1.below ((Below.refl _ _).alloc (Nat.le_refl _) _)
  have hi : (Tryz.prog.info? 196).map (·.size) = some (pg q).length := by rw [pg_len]; exact Tryz.infoPage
  have hi2 : (Tryz.prog.info? 196).map (·.size) = some (pg q).toArray.size := by simpa using hi
  have hp2 : (pg q).toArray.all (·.oneCell') = true := all_oneCell_toArray pg_one
  have rp : W1.rangeAt p 0 (pg q) := fun j v hv => by
    rw [← hW1, ← hp, Nat.zero_add, cell_of_row _ _ _ _ _ _ (heap_alloc_last w1 _)]
    simpa using hv
  have tn : W1.there gn (i * 32) 32 := e1.now.there HI.out
  have q0 := e1.cell0
  have hpg : p ≠ gn ∧ p ≠ kd := ⟨fun e => by have := (HX.out.2.1.own gn e1.fn).2; omega, fun e => by have := (HX.out.2.1.own kd e1.dk).2; omega⟩
  have hkg : kd ≠ gn := e1.kn.1
  have hS0 : W1.drew.cell? ⟨kd, 0, none⟩ = some (.slice (some ⟨gn, 0, none⟩) n n) ∧ W1.drew.rangeAt p 0 (pg q) ∧ W1.drew.there gn (i * 32) 32 := ⟨q0, rp, tn⟩
  have hS1 : (W1.drew.setCells gn (i * 32) (pg q)).cell? ⟨kd, 0, none⟩ = some (.slice (some ⟨gn, 0, none⟩) n n) ∧ (W1.drew.setCells gn (i * 32) (pg q)).rangeAt p 0 (pg q) ∧ (W1.drew.setCells gn (i * 32) (pg q)).there gn (i * 32) 32 :=
    ⟨(World.cell?_setCells_out gn _ _ _ _ (fun e _ => absurd e hkg)).trans q0, World.rangeAt_setCells_apart hS0.2.1 _ _ _ (Or.inl hpg.1), World.there_setCells hS0.2.2 _ _ _⟩
  have i0 : (0 : Int) ≤ (i : Int) := by omega
  have i1 : (i : Int) < (n : Int) := by have := HI.out; omega
  refine wp_region_noPanic ?_
  refine wp_region_held_drew (S := fun V => V.cell? ⟨kd, 0, none⟩ = some (.slice (some ⟨gn, 0, none⟩) n n) ∧ V.rangeAt p 0 (pg q) ∧ V.there gn (i * 32) 32) (by kernel_rfl) hS0 (fun hHeld => ?_)
  refine wpAnyH_take (i := 0) (oi := { dst := some 26, op := Go.Op.move (Go.Operand.tmp 0), type := 51, pos := _, after := #[], guard := none }) (v := ?va1) rfl (by kernel_rfl) (by kernel_rfl) (by kernel_rfl) (fun _ _ _ h => h) (Or.inl ⟨by rfl, ?ya1⟩) (by assumption) ?_
  case ya1 =>
    intro w hSw
    (try dsimp only at hSw)
    go_simp
    (try with_reducible rfl)
  simp only [Act.put, List.setIfInBounds_toArray, List.set_cons_zero, List.set_cons_succ]
  refine wpAnyH_take (i := 1) (oi := { dst := some 27, op := Go.Op.nilCheck (Go.Operand.tmp 26), type := 0, pos := _, after := #[{ on := 0, ground := Go.Ground.data }], guard := none }) (v := ?va2) rfl (by kernel_rfl) (by kernel_rfl) (by kernel_rfl) (fun _ _ _ h => h) (Or.inl ⟨by rfl, ?ya2⟩) (by assumption) ?_
  case ya2 =>
    intro w hSw
    (try dsimp only at hSw)
    go_simp
    (try with_reducible rfl)
  simp only [Act.put, List.setIfInBounds_toArray, List.set_cons_zero, List.set_cons_succ]
  refine wpAnyH_take (i := 2) (oi := { dst := some 28, op := Go.Op.fieldAddr 96 (Go.Operand.tmp 27) 0, type := 0, pos := _, after := #[{ on := 1, ground := Go.Ground.data }], guard := none }) (v := ?va3) rfl (by kernel_rfl) (by kernel_rfl) (by kernel_rfl) (fun _ _ _ h => h) (Or.inl ⟨by rfl, ?ya3⟩) (by assumption) ?_
  case ya3 =>
    intro w hSw
    (try dsimp only at hSw)
    go_simp
    (try with_reducible rfl)
  simp only [Act.put, List.setIfInBounds_toArray, List.set_cons_zero, List.set_cons_succ]
  refine wpAnyH_take (i := 3) (oi := { dst := some 29, op := Go.Op.load 93 (Go.Operand.tmp 28), type := 93, pos := _, after := #[{ on := 2, ground := Go.Ground.data }], guard := none }) (v := ?va4) rfl (by kernel_rfl) (by kernel_rfl) (by kernel_rfl) (fun _ _ _ h => h) (Or.inl ⟨by rfl, ?ya4⟩) (by assumption) ?_
  case ya4 =>
    intro w hSw
    (try dsimp only at hSw)
    go_simp
    (try with_reducible rfl)
  simp only [Act.put, List.setIfInBounds_toArray, List.set_cons_zero, List.set_cons_succ]
  refine wpAnyH_take (i := 4) (oi := { dst := some 30, op := Go.Op.move (Go.Operand.tmp 1), type := 3, pos := _, after := #[], guard := none }) (v := ?va5) rfl (by kernel_rfl) (by kernel_rfl) (by kernel_rfl) (fun _ _ _ h => h) (Or.inl ⟨by rfl, ?ya5⟩) (by assumption) ?_
  case ya5 =>
    intro w hSw
    (try dsimp only at hSw)
    go_simp
    (try with_reducible rfl)
  simp only [Act.put, List.setIfInBounds_toArray, List.set_cons_zero, List.set_cons_succ]
  refine wpAnyH_take (i := 5) (oi := { dst := some 31, op := Go.Op.load 196 (Go.Operand.tmp 8), type := 196, pos := _, after := #[], guard := none }) (v := .agg (pg q).toArray) rfl (by kernel_rfl) (by kernel_rfl) (by kernel_rfl) (fun _ _ _ h => h) ?ya6 (by assumption) ?_
  case ya6 => exact yieldsIf_load_mid (by rfl) 196 (.tmp 8) (by rfl) p 0 (by rfl) (pg q) _ (fun w h => h.2.1) Tryz.underlying196 rfl hi
  simp only [Act.put, List.setIfInBounds_toArray, List.set_cons_zero, List.set_cons_succ]
  refine wpAnyH_take (i := 6) (oi := { dst := some 32, op := Go.Op.indexAddr 93 (Go.Operand.tmp 29) (Go.Operand.tmp 30), type := 0, pos := _, after := #[{ on := 3, ground := Go.Ground.data }, { on := 4, ground := Go.Ground.data }, { on := 0, ground := Go.Ground.phase }, { on := 1, ground := Go.Ground.phase }, { on := 2, ground := Go.Ground.phase }, { on := 3, ground := Go.Ground.phase }, { on := 4, ground := Go.Ground.phase }, { on := 5, ground := Go.Ground.phase }], guard := none }) (v := ?va7) rfl (by kernel_rfl) (by kernel_rfl) (by kernel_rfl) (fun _ _ _ h => h) (Or.inl ⟨by rfl, ?ya7⟩) (by assumption) ?_
  case ya7 =>
    intro w hSw
    (try dsimp only at hSw)
    go_simp
    (try with_reducible rfl)
  simp only [Act.put, List.setIfInBounds_toArray, List.set_cons_zero, List.set_cons_succ]
  refine wpAnyH_ready (rs := [7]) (by kernel_rfl) (by simp) ?_
  refine (AllReadyH.cons rfl (fun K9 hK9 => ?ca8) AllReadyH.nil)
  case ca8 =>
    refine step_unit rfl (run_unit (run_storeAt_mid _ gn (i * 32) 196 (pg q).toArray hHeld.2.2 hi2 hp2)) ?_
    refine hK9.out _ _ hS1 (fun hHeld => ?_)
    clear hK9
    (try simp only [List.getElem_toArray, List.getElem_cons_succ, List.getElem_cons_zero])
    (try simp only [Act.put])
    refine wpAnyH_done (by kernel_rfl) ?_ _
    refine NoPanic.normal ?_
    have e2 : Ex (W1.drew.setCells gn (i * 32) (pg q)) B kd n { less s with now := upd s.now i q } F gn gk R x1 := (e1.below (Below.refl _ _).drew).setNow HI.out HQ.out.2
    have t2 : Turn F w0 (W1.drew.setCells gn (i * 32) (pg q)) := HX.out.2.2.trans ((Turn.of_below (hW1 ▸ (Below.refl _ _).alloc (Nat.le_refl _) _ : Below w1.heap.size w1 W1)).trans ((Turn.of_below (Below.refl _ _).drew).trans (turn_sets (w := W1.drew) e1.fn _ _)))
    have rp2 : (W1.drew.setCells gn (i * 32) (pg q)).rangeAt p 0 (pg q) := hS1.2.1
    obtain ⟨W2, hW2⟩ : ∃ W2, W1.drew.setCells gn (i * 32) (pg q) = W2 := ⟨_, rfl⟩
    rw [hW2] at e2 t2 rp2 ⊢
    obtain ⟨M, hM⟩ : ∃ M, s.wr.length = M := ⟨_, rfl⟩
    have HMM : Hid (M ≤ 1000 ∧ B ≤ W2.heap.size) := ⟨hM ▸ HC.out.2.2.1, Nat.le_trans HC.out.2.2.2 t2.size⟩
    have hOw : W2.ownsRow B 198 33 R M (s.wr.flatMap wc) := hM ▸ e2.wr.own
    have HOw : Hid (W2.ownsRow B 198 33 R M (s.wr.flatMap wc)) := hOw
    have HE : Hid (Ex W2 B kd n { less s with now := upd s.now i q } F gn gk R x1 ∧ Turn F w0 W2 ∧ s.wr.length = M) := ⟨e2, t2, hM⟩
    have c2 := e2.cell2
    have c3 : (W2.alloc (.cells (wc (i, q)).toArray 198)).cell? ⟨kd, 2, none⟩ = some R := cell_keep ((Below.refl _ _).alloc (Nat.le_refl _) _) c2
    have hpR : R.ownBlock ≠ some p := fun e => by have := (HX.out.2.1.own p (HX.out.2.1.fr p e)).2; omega
    have hpk : p ≠ kd := hpg.2
    clear hS0 hS1 rp tn q0 e1 hpg hkg hOw e2 t2 hM hW2 i0 i1
    have HU : Hid (∀ w' g' c, w'.ownsRow B 198 33 (.slice (some ⟨g', 0, none⟩) (M + 1) c) (M + 1) (s.wr.flatMap wc ++ wc (i, q)) → (W2.drew.alloc (.cells (wc (i, q)).toArray 198)).grownBy w' R.ownBlock → (R.ownBlock = some g' ∨ g' = W2.heap.size + 1) →
        Ex (w'.setCell ⟨kd, 2, none⟩ (.slice (some ⟨g', 0, none⟩) (M + 1) c)) B kd n { less s with now := upd s.now i q, wr := s.wr ++ [(i, q)] } (fun b => F b ∨ b = g') gn gk (.slice (some ⟨g', 0, none⟩) (M + 1) c) x1 ∧ Turn F W2 (w'.setCell ⟨kd, 2, none⟩ (.slice (some ⟨g', 0, none⟩) (M + 1) c)) ∧ w'.cell? ⟨kd, 2, none⟩ = some R ∧ w'.frozen? ⟨kd, 2, none⟩ = false) := fun w' g' c e1 e2 e3 => by
      have hM := HE.out.2.2
      subst hM
      exact HE.out.1.push HMM.out.2 HI.out HQ.out.2 e1 ⟨e2.os, e2.tape, e2.output, Nat.le_trans (by simp) e2.size, fun k hk hne => (e2.block k (by simp; omega) hne).trans (blk_alloc_lt _ _ _ hk)⟩ (e3.imp id fun e => by omega)
    have HOR : Hid (∀ g', (R.ownBlock = some g' ∨ g' = W2.heap.size + 1) → F g' ∨ w0.heap.size ≤ g') := fun g' e => e.imp (fun e => HE.out.1.fr _ e) (fun e => by have := HE.out.2.1.size; omega)
    obtain ⟨z0, hi0, hz0, hz1, hz2⟩ := info_parts Tryz.infoDW
    go_wp2_with fail
    refine wp_region_noPanic ?_
    refine wp_region_held_drew (S := fun V => V.rangeAt p 0 (pg q)) (by kernel_rfl) rp2 (fun hHeld => ?_)
    refine wpAnyH_take (i := 0) (oi := { dst := some 33, op := Go.Op.move (Go.Operand.tmp 0), type := 51, pos := _, after := #[], guard := none }) (v := ?vb1) rfl (by kernel_rfl) (by kernel_rfl) (by kernel_rfl) (fun _ _ _ h => h) (Or.inl ⟨by rfl, ?yb1⟩) (by assumption) ?_
    case yb1 =>
      intro w hSw
      (try dsimp only at hSw)
      go_simp
      (try with_reducible rfl)
    simp only [Act.put, List.setIfInBounds_toArray, List.set_cons_zero, List.set_cons_succ]
    refine wpAnyH_take (i := 1) (oi := { dst := some 34, op := Go.Op.move (Go.Operand.tmp 0), type := 51, pos := _, after := #[], guard := none }) (v := ?vb2) rfl (by kernel_rfl) (by kernel_rfl) (by kernel_rfl) (fun _ _ _ h => h) (Or.inl ⟨by rfl, ?yb2⟩) (by assumption) ?_
    case yb2 =>
      intro w hSw
      (try dsimp only at hSw)
      go_simp
      (try with_reducible rfl)
    simp only [Act.put, List.setIfInBounds_toArray, List.set_cons_zero, List.set_cons_succ]
    refine wpAnyH_take (i := 2) (oi := { dst := some 35, op := Go.Op.nilCheck (Go.Operand.tmp 34), type := 0, pos := _, after := #[{ on := 1, ground := Go.Ground.data }], guard := none }) (v := ?vb3) rfl (by kernel_rfl) (by kernel_rfl) (by kernel_rfl) (fun _ _ _ h => h) (Or.inl ⟨by rfl, ?yb3⟩) (by assumption) ?_
    case yb3 =>
      intro w hSw
      (try dsimp only at hSw)
      go_simp
      (try with_reducible rfl)
    simp only [Act.put, List.setIfInBounds_toArray, List.set_cons_zero, List.set_cons_succ]
    refine wpAnyH_take (i := 3) (oi := { dst := some 36, op := Go.Op.fieldAddr 96 (Go.Operand.tmp 35) 2, type := 0, pos := _, after := #[{ on := 2, ground := Go.Ground.data }], guard := none }) (v := ?vb4) rfl (by kernel_rfl) (by kernel_rfl) (by kernel_rfl) (fun _ _ _ h => h) (Or.inl ⟨by rfl, ?yb4⟩) (by assumption) ?_
    case yb4 =>
      intro w hSw
      (try dsimp only at hSw)
      go_simp
      (try with_reducible rfl)
    simp only [Act.put, List.setIfInBounds_toArray, List.set_cons_zero, List.set_cons_succ]
    refine wpAnyH_take (i := 5) (oi := { dst := some 38, op := Go.Op.move (Go.Operand.tmp 1), type := 3, pos := _, after := #[], guard := none }) (v := ?vb5) rfl (by kernel_rfl) (by kernel_rfl) (by kernel_rfl) (fun _ _ _ h => h) (Or.inl ⟨by rfl, ?yb5⟩) (by assumption) ?_
    case yb5 =>
      intro w hSw
      (try dsimp only at hSw)
      go_simp
      (try with_reducible rfl)
    simp only [Act.put, List.setIfInBounds_toArray, List.set_cons_zero, List.set_cons_succ]
    refine wpAnyH_take (i := 6) (oi := { dst := some 39, op := Go.Op.load 196 (Go.Operand.tmp 8), type := 196, pos := _, after := #[], guard := none }) (v := .agg (pg q).toArray) rfl (by kernel_rfl) (by kernel_rfl) (by kernel_rfl) (fun _ _ _ h => h) ?yb6 (by assumption) ?_
    case yb6 => exact yieldsIf_load_mid (by rfl) 196 (.tmp 8) (by rfl) p 0 (by rfl) (pg q) _ (fun w h => h) Tryz.underlying196 rfl hi
    simp only [Act.put, List.setIfInBounds_toArray, List.set_cons_zero, List.set_cons_succ]
    refine wpAnyH_take (i := 7) (oi := { dst := some 40, op := Go.Op.build 198 #[(0, Go.Operand.tmp 38), (1, Go.Operand.tmp 39)], type := 198, pos := _, after := #[{ on := 5, ground := Go.Ground.data }, { on := 6, ground := Go.Ground.data }], guard := none }) (v := .agg (wc (i, q)).toArray) rfl (by kernel_rfl) (by kernel_rfl) (by kernel_rfl) (fun _ _ _ h => h) ?yb7 (by assumption) ?_
    case yb7 => exact Or.inl ⟨by rfl, fun w _ => by simp only [execOp, List.map_toArray, List.map_cons, List.map_nil]; exact run_val (run_build_w i q w)⟩
    simp only [Act.put, List.setIfInBounds_toArray, List.set_cons_zero, List.set_cons_succ]
    refine wpAnyH_ready (rs := [4, 8]) (by kernel_rfl) (by simp) ?_
    refine (AllReadyH.cons rfl (fun K9 hK9 => ?cb20) (AllReadyH.cons rfl (fun K9 hK9 => ?cb21) AllReadyH.nil))
    case cb20 =>
      go_simp
      refine hK9.out _ _ hHeld (fun hHeld => ?_)
      clear hK9
      (try simp only [Act.put, List.setIfInBounds_toArray, List.set_cons_zero, List.set_cons_succ])
      refine wpAnyH_ready (rs := [8]) (by kernel_rfl) (by simp) ?_
      refine (AllReadyH.cons rfl (fun K9 hK9 => ?cb13) AllReadyH.nil)
      case cb13 =>
        refine step_run (v := .slice (some ⟨W2.heap.size, 0, none⟩) 1 1) (w' := W2.drew.alloc (.cells (wc (i, q)).toArray 198)) ?gb8 ?bb8 ?_
        case gb8 => rfl
        case bb8 =>
          simp only [List.getElem_toArray, List.getElem_cons_succ, List.getElem_cons_zero, execOp, List.map_toArray, List.map_cons, List.map_nil]
          exact run_val (run_build_ws i q _)
        refine hK9.out _ _ (World.rangeAt_alloc hHeld _) (fun hHeld => ?_)
        clear hK9
        (try simp only [List.getElem_toArray, List.getElem_cons_succ, List.getElem_cons_zero])
        (try simp only [Act.put, List.setIfInBounds_toArray, List.set_cons_zero, List.set_cons_succ])
        refine wpAnyH_ready (rs := [9]) (by kernel_rfl) (by simp) ?_
        refine (AllReadyH.cons rfl (fun K9 hK9 => ?cb12) AllReadyH.nil)
        case cb12 =>
          refine step_append_lies _ (by rfl) (.tmp 37) (.tmp 41) 94 (by rfl) B 198 z0 _ 33 40 Tryz.underlying94 hi0 hz0 hz1 hz2 rfl (by decide) R M (s.wr.flatMap wc) (by rfl) (World.ownsRow.alloc (w := W2.drew) HOw.out _) ⟨W2.heap.size, 0, none⟩ 1 1 (wc (i, q)) (by rfl) (by rw [wc_len]) (fun j u hu => by rw [Addr.add_lit]; exact new_cell _ _ _ hu) wc_one (by decide) (by unfold maxLen; have := HMM.out; omega) (by have := HMM.out; omega) (by have := HMM.out; simp; omega) _ rfl ?_
          intro g2 cap2 w6 hown hgrow hat hlt2
          refine hK9.out _ _ (rangeAt_grow hHeld hgrow hpR) (fun hHeld => ?_)
          clear hK9
          (try simp only [List.getElem_toArray, List.getElem_cons_succ, List.getElem_cons_zero])
          (try simp only [Act.put, List.setIfInBounds_toArray])
          refine wpAnyH_take (i := 10) (oi := { dst := some 43, op := Go.Op.nilCheck (Go.Operand.tmp 33), type := 0, pos := _, after := #[{ on := 0, ground := Go.Ground.data }, { on := 0, ground := Go.Ground.phase }, { on := 1, ground := Go.Ground.phase }, { on := 2, ground := Go.Ground.phase }, { on := 3, ground := Go.Ground.phase }, { on := 4, ground := Go.Ground.phase }, { on := 5, ground := Go.Ground.phase }, { on := 6, ground := Go.Ground.phase }, { on := 7, ground := Go.Ground.phase }, { on := 8, ground := Go.Ground.phase }, { on := 9, ground := Go.Ground.phase }], guard := none }) (v := ?vb9) rfl (by kernel_rfl) (by kernel_rfl) (by kernel_rfl) (fun _ _ _ h => h) (Or.inl ⟨by rfl, ?yb9⟩) (by assumption) ?_
          case yb9 =>
            intro w hSw
            (try dsimp only at hSw)
            go_simp
            (try with_reducible rfl)
          simp only [Act.put]
          refine wpAnyH_take (i := 11) (oi := { dst := some 44, op := Go.Op.fieldAddr 96 (Go.Operand.tmp 43) 2, type := 0, pos := _, after := #[{ on := 10, ground := Go.Ground.data }, { on := 0, ground := Go.Ground.phase }, { on := 1, ground := Go.Ground.phase }, { on := 2, ground := Go.Ground.phase }, { on := 3, ground := Go.Ground.phase }, { on := 4, ground := Go.Ground.phase }, { on := 5, ground := Go.Ground.phase }, { on := 6, ground := Go.Ground.phase }, { on := 7, ground := Go.Ground.phase }, { on := 8, ground := Go.Ground.phase }, { on := 9, ground := Go.Ground.phase }], guard := none }) (v := ?vb10) rfl (by kernel_rfl) (by kernel_rfl) (by kernel_rfl) (fun _ _ _ h => h) (Or.inl ⟨by rfl, ?yb10⟩) (by assumption) ?_
          case yb10 =>
            intro w hSw
            (try dsimp only at hSw)
            go_simp
            (try with_reducible rfl)
          simp only [Act.put]
          obtain ⟨r1, r2, r3, r4⟩ := HU.out w6 g2 cap2 hown hgrow (hat.imp id fun e => by first | exact e | simpa using e)
          refine wpAnyH_ready (rs := [12]) (by kernel_rfl) (by simp) ?_
          refine (AllReadyH.cons rfl (fun K9 hK9 => ?cb11) AllReadyH.nil)
          case cb11 =>
            go_simp
            refine hK9.out _ _ (rangeAt_set hHeld hpk) (fun hHeld => ?_)
            clear hK9
            refine wpAnyH_done (by kernel_rfl) ?_ _
            refine NoPanic.normal ?_
            have HF := HOR.out g2 (hat.imp id fun e => by first | exact e | simpa using e)
            have HG : Hid (Ex (w6.setCell ⟨kd, 2, none⟩ (.slice (some ⟨g2, 0, none⟩) (M + 1) cap2)) B kd n { less s with now := upd s.now i q, wr := s.wr ++ [(i, q)] } (fun b => F b ∨ b = g2) gn gk (.slice (some ⟨g2, 0, none⟩) (M + 1) cap2) x1 ∧ Turn F W2 (w6.setCell ⟨kd, 2, none⟩ (.slice (some ⟨g2, 0, none⟩) (M + 1) cap2)) ∧ (F g2 ∨ w0.heap.size ≤ g2)) := ⟨r1, r2, HF⟩
            clear hown hgrow hat hlt2 r1 r2 r3 r4 hHeld HF
            go_wp2_with fail
            go_ret
            refine ⟨_, rfl, 0, Or.inl ⟨rfl, rfl⟩, _, Or.inr (Or.inr (Or.inr ⟨HO.out.1, HO.out.2, HX.out.1, rfl, ?_⟩)), _, ⟨_, _, HG.out.1⟩, fun b e => ?_, HE.out.2.1.trans HG.out.2.1⟩
            · rw [HQ.out.1]
              rfl
            · rcases e with e | rfl
              · exact Or.inl e
              · exact HG.out.2.2
    case cb21 =>
      refine step_run (v := .slice (some ⟨W2.heap.size, 0, none⟩) 1 1) (w' := W2.drew.alloc (.cells (wc (i, q)).toArray 198)) ?gb14 ?bb14 ?_
      case gb14 => rfl
      case bb14 =>
        simp only [List.getElem_toArray, List.getElem_cons_succ, List.getElem_cons_zero, execOp, List.map_toArray, List.map_cons, List.map_nil]
        exact run_val (run_build_ws i q _)
      refine hK9.out _ _ (World.rangeAt_alloc hHeld _) (fun hHeld => ?_)
      clear hK9
      (try simp only [List.getElem_toArray, List.getElem_cons_succ, List.getElem_cons_zero])
      (try simp only [Act.put, List.setIfInBounds_toArray, List.set_cons_zero, List.set_cons_succ])
      refine wpAnyH_ready (rs := [4]) (by kernel_rfl) (by simp) ?_
      refine (AllReadyH.cons rfl (fun K9 hK9 => ?cb19) AllReadyH.nil)
      case cb19 =>
        go_simp
        refine hK9.out _ _ hHeld (fun hHeld => ?_)
        clear hK9
        (try simp only [Act.put, List.setIfInBounds_toArray, List.set_cons_zero, List.set_cons_succ])
        refine wpAnyH_ready (rs := [9]) (by kernel_rfl) (by simp) ?_
        refine (AllReadyH.cons rfl (fun K9 hK9 => ?cb18) AllReadyH.nil)
        case cb18 =>
          refine step_append_lies _ (by rfl) (.tmp 37) (.tmp 41) 94 (by rfl) B 198 z0 _ 33 40 Tryz.underlying94 hi0 hz0 hz1 hz2 rfl (by decide) R M (s.wr.flatMap wc) (by rfl) (World.ownsRow.alloc (w := W2.drew) HOw.out _) ⟨W2.heap.size, 0, none⟩ 1 1 (wc (i, q)) (by rfl) (by rw [wc_len]) (fun j u hu => by rw [Addr.add_lit]; exact new_cell _ _ _ hu) wc_one (by decide) (by unfold maxLen; have := HMM.out; omega) (by have := HMM.out; omega) (by have := HMM.out; simp; omega) _ rfl ?_
          intro g2 cap2 w6 hown hgrow hat hlt2
          refine hK9.out _ _ (rangeAt_grow hHeld hgrow hpR) (fun hHeld => ?_)
          clear hK9
          (try simp only [List.getElem_toArray, List.getElem_cons_succ, List.getElem_cons_zero])
          (try simp only [Act.put, List.setIfInBounds_toArray])
          refine wpAnyH_take (i := 10) (oi := { dst := some 43, op := Go.Op.nilCheck (Go.Operand.tmp 33), type := 0, pos := _, after := #[{ on := 0, ground := Go.Ground.data }, { on := 0, ground := Go.Ground.phase }, { on := 1, ground := Go.Ground.phase }, { on := 2, ground := Go.Ground.phase }, { on := 3, ground := Go.Ground.phase }, { on := 4, ground := Go.Ground.phase }, { on := 5, ground := Go.Ground.phase }, { on := 6, ground := Go.Ground.phase }, { on := 7, ground := Go.Ground.phase }, { on := 8, ground := Go.Ground.phase }, { on := 9, ground := Go.Ground.phase }], guard := none }) (v := ?vb15) rfl (by kernel_rfl) (by kernel_rfl) (by kernel_rfl) (fun _ _ _ h => h) (Or.inl ⟨by rfl, ?yb15⟩) (by assumption) ?_
          case yb15 =>
            intro w hSw
            (try dsimp only at hSw)
            go_simp
            (try with_reducible rfl)
          simp only [Act.put]
          refine wpAnyH_take (i := 11) (oi := { dst := some 44, op := Go.Op.fieldAddr 96 (Go.Operand.tmp 43) 2, type := 0, pos := _, after := #[{ on := 10, ground := Go.Ground.data }, { on := 0, ground := Go.Ground.phase }, { on := 1, ground := Go.Ground.phase }, { on := 2, ground := Go.Ground.phase }, { on := 3, ground := Go.Ground.phase }, { on := 4, ground := Go.Ground.phase }, { on := 5, ground := Go.Ground.phase }, { on := 6, ground := Go.Ground.phase }, { on := 7, ground := Go.Ground.phase }, { on := 8, ground := Go.Ground.phase }, { on := 9, ground := Go.Ground.phase }], guard := none }) (v := ?vb16) rfl (by kernel_rfl) (by kernel_rfl) (by kernel_rfl) (fun _ _ _ h => h) (Or.inl ⟨by rfl, ?yb16⟩) (by assumption) ?_
          case yb16 =>
            intro w hSw
            (try dsimp only at hSw)
            go_simp
            (try with_reducible rfl)
          simp only [Act.put]
          obtain ⟨r1, r2, r3, r4⟩ := HU.out w6 g2 cap2 hown hgrow (hat.imp id fun e => by first | exact e | simpa using e)
          refine wpAnyH_ready (rs := [12]) (by kernel_rfl) (by simp) ?_
          refine (AllReadyH.cons rfl (fun K9 hK9 => ?cb17) AllReadyH.nil)
          case cb17 =>
            go_simp
            refine hK9.out _ _ (rangeAt_set hHeld hpk) (fun hHeld => ?_)
            clear hK9
            refine wpAnyH_done (by kernel_rfl) ?_ _
            refine NoPanic.normal ?_
            have HF := HOR.out g2 (hat.imp id fun e => by first | exact e | simpa using e)
            have HG : Hid (Ex (w6.setCell ⟨kd, 2, none⟩ (.slice (some ⟨g2, 0, none⟩) (M + 1) cap2)) B kd n { less s with now := upd s.now i q, wr := s.wr ++ [(i, q)] } (fun b => F b ∨ b = g2) gn gk (.slice (some ⟨g2, 0, none⟩) (M + 1) cap2) x1 ∧ Turn F W2 (w6.setCell ⟨kd, 2, none⟩ (.slice (some ⟨g2, 0, none⟩) (M + 1) cap2)) ∧ (F g2 ∨ w0.heap.size ≤ g2)) := ⟨r1, r2, HF⟩
            clear hown hgrow hat hlt2 r1 r2 r3 r4 hHeld HF
            go_wp2_with fail
            go_ret
            refine ⟨_, rfl, 0, Or.inl ⟨rfl, rfl⟩, _, Or.inr (Or.inr (Or.inr ⟨HO.out.1, HO.out.2, HX.out.1, rfl, ?_⟩)), _, ⟨_, _, HG.out.1⟩, fun b e => ?_, HE.out.2.1.trans HG.out.2.1⟩
            · rw [HQ.out.1]
              rfl
            · rcases e with e | rfl
              · exact Or.inl e
              · exact HG.out.2.2

end Go.Proofs.YtcfemppdeidjmadGreat.Dk.L

namespace Go.Proofs.YtcfemppdeidjmadGreat.Dk.L
open Go.RowKit Go.Deep
open Go.RowKit (Below)
set_option linter.unusedVariables false

variable {w w' : World} {B n kd g gn gk i j N : Nat} {F F' : Nat → Prop} {s : St} {v u R : Value} {l p : List UInt8} {x : Int}

/-- A page's cells as bytes. -/
theorem bt_pg {k : Nat} (h : w.rangeAt k 0 (pg p)) (hp : p.length = 32) : BtAt w (some ⟨k, 0, none⟩) p := fun j hj => by
  refine ⟨k, 0, rfl, h j _ ?_⟩
  rw [pg_get (by omega)]

set_option maxRecDepth 100000 in
set_option maxHeartbeats 1000000 in
theorem l_read_no (h : Ex w B kd n s F gn gk R x) (k : Int) (hk : k < 0 ∨ (n : Int) ≤ k) :
    Calls Tryz.prog 105 #[.pointer (some ⟨kd, 0, none⟩), .int .i64 k] w fun e w' => e = .returned (.tuple #[.slice none 0 0, .iface 66 (.int .i64 1)]) ∧ w' = w := by
  have hh := l_has h k
  rw [decide_eq_false (by omega)] at hh
  clear h hk
  go_enter Tryz.func105, Tryz.ntmps105
  go_wp2_with fail
  refine hh.mono ?_
  rintro e w1 ⟨rfl, rfl⟩
  go_wp2_with fail
  go_ret2
  exact ⟨rfl, rfl⟩

set_option maxRecDepth 100000 in
set_option maxHeartbeats 1000000 in
theorem l_read32 (h : Ex w B kd n s F gn gk R x) (hi : i < n) :
    Calls Tryz.prog 105 #[.pointer (some ⟨kd, 0, none⟩), .int .i64 (i : Nat)] w fun e w' => ∃ k, e = .returned (.tuple #[.slice (some ⟨k, 0, none⟩) 32 32, .nilIface]) ∧ (s.now i).length = 32 ∧ BtAt w' (some ⟨k, 0, none⟩) (s.now i) ∧ w.heap.size ≤ k ∧ Below w.heap.size w w' := by
  have hh := l_has h (i : Nat)
  rw [decide_eq_true (by omega)] at hh
  have hlen := h.now.1 i hi
  have hr := h.now.range hi
  have c0 := h.cell0
  obtain ⟨q, hq⟩ : ∃ q, s.now i = q := ⟨_, rfl⟩
  rw [hq] at hlen hr
  have HQ : Hid (s.now i = q ∧ q.length = 32) := ⟨hq, hlen⟩
  have hi1 : (Tryz.prog.info? 196).map (·.size) = some (pg q).length := by rw [pg_len]; exact Tryz.infoPage
  obtain ⟨k, hk⟩ : ∃ k, w.heap.size = k := ⟨_, rfl⟩
  have ht : (w.alloc nilPg).there k 0 32 := fun j hj => by
    rw [← hk, Nat.zero_add, cell_of_row _ _ _ _ _ _ (heap_alloc_last w _)]
    refine ⟨?_, ?_⟩
    · simp [hj]
    · unfold World.frozen?
      rw [heap_alloc_last]
      simp
  have HB : Hid (Below w.heap.size w (w.alloc nilPg) ∧ w.heap.size = k) := ⟨(Below.refl _ _).alloc (Nat.le_refl _) _, hk⟩
  obtain ⟨W1, hW1⟩ : ∃ W1, w.alloc nilPg = W1 := ⟨_, rfl⟩
  rw [hW1] at ht HB
  have HT : Hid (W1.there k 0 32) := ht
  have hst : (storeCells ⟨k, 0, none⟩ (pg q)).run Tryz.prog W1 = .ok () (W1.setCells k 0 (pg q)) := by
    have := run_storeCells_cells (P := Tryz.prog) k 0 (pg q) 0 W1 (fun j hj => (ht j (by rwa [pg_len] at hj)).1) (fun j hj => (ht j (by rwa [pg_len] at hj)).2) pg_one
    simpa using this
  obtain ⟨W2, hW2⟩ : ∃ W2, W1.setCells k 0 (pg q) = W2 := ⟨_, rfl⟩
  rw [hW2] at hst
  have HW : Hid (W1.setCells k 0 (pg q) = W2) := hW2
  have HR : Hid (w.rangeAt gn (i * 32) (pg q)) := hr
  have i0 : (0 : Int) ≤ (i : Int) := by omega
  have i1 : (i : Int) < (n : Int) := by omega
  clear hq hlen hi ht hr h hW2
  go_enter Tryz.func105, Tryz.ntmps105
  go_wp2_with fail
  refine hh.mono ?_
  rintro e w0 ⟨rfl, rfl⟩
  clear hh
  go_wp2_with (first
    | rw [hW1, hk]
    | (refine wpList_load_mid rfl 196 (.tmp 17) rfl gn (i * 32) rfl (pg q) _ HR.out Tryz.underlying196 rfl hi1 ?_))
  go_ret2
  refine ⟨k, rfl, by rw [HQ.out.1]; exact HQ.out.2, ?_, Nat.le_of_eq HB.out.2, ?_⟩ <;> rw [← HW.out]
  · rw [HQ.out.1]
    exact bt_pg (World.rangeAt_setCells_same _ _ _ _ (by simpa [pg_len] using HT.out)) HQ.out.2
  · have hb := HB.out.1
    exact (turn_sets (F := fun b => b = k) rfl _ _).below hb hb.size (fun b e => by rw [e]; exact Nat.le_of_eq HB.out.2)

theorem l_read (h : Ex w B kd n s F gn gk R x) (hi : i < n) :
    Calls Tryz.prog 105 #[.pointer (some ⟨kd, 0, none⟩), .int .i64 (i : Nat)] w fun e w' => ∃ k c, e = .returned (.tuple #[.slice (some ⟨k, 0, none⟩) 32 c, .nilIface]) ∧ (s.now i).length = 32 ∧ BtAt w' (some ⟨k, 0, none⟩) (s.now i) ∧ w.heap.size ≤ k ∧ Below w.heap.size w w' :=
  (l_read32 h hi).mono fun e w' ⟨k, h1⟩ => ⟨k, 32, h1⟩

set_option maxRecDepth 100000 in
set_option maxHeartbeats 1000000 in
theorem l_sync (h : Ex w B kd n s F gn gk R x) :
    Calls Tryz.prog 104 #[.pointer (some ⟨kd, 0, none⟩)] w fun e w' => ∃ v, e = .returned v ∧ ∃ x', Er v x' ∧ ∃ s', Syncs s x' s' ∧ (∃ R' y, Ex w' B kd n s' F gn gk R' y) ∧ Turn F w w' := by
  have HR : Hid (Ex w B kd n s F gn gk R x) := h
  clear h
  go_enter Tryz.func104, Tryz.ntmps104
  go_wp2_with fail
  refine (l_step HR.out).mono ?_
  rintro e w1 ⟨⟨rfl, hoff, hr⟩ | ⟨rfl, hon, x1, hr⟩, ht⟩
  · have HX : Hid (Off s ∧ Ex w1 B kd n (fall s) F gn gk R x ∧ Turn F w w1) := ⟨hoff, hr, ht⟩
    clear hoff hr ht
    go_wp2_with fail
    go_ret
    exact ⟨_, rfl, 8, Or.inr ⟨rfl, by decide⟩, _, Or.inl ⟨HX.out.1, rfl, rfl⟩, ⟨R, x, HX.out.2.1⟩, HX.out.2.2⟩
  have c0 := hr.cell0
  have c1 := hr.cell1
  have hcp : (Builtin.copy_ #[93, 93] 3 #[.slice (some ⟨gk, 0, none⟩) n n, .slice (some ⟨gn, 0, none⟩) n n]).run Tryz.prog w1.drew = .ok (.int .i64 (n : Nat)) (w1.drew.setCells gk 0 (flat n s.now)) := by
    have := run_copy_many w1.drew 93 93 3 196 32 gk 0 n n ⟨gn, 0, none⟩ n n (flat n s.now) Tryz.underlying93 Tryz.infoPage (by rw [flat_len]; simp) (fun j v hv => by rw [Addr.add_lit]; exact hr.now.all j v hv) (by rw [flat_len]; exact hr.kept.thereAll) flat_one
    rw [this]
    simp [goInt]
  have hE : Ex (w1.drew.setCells gk 0 (flat n s.now)) B kd n { less s with kept := s.now } F gn gk R x1 := (hr.below (Below.refl _ _).drew).keptAll
  have hT : Turn F w (w1.drew.setCells gk 0 (flat n s.now)) := ht.trans ((Turn.of_below (Below.refl _ _).drew).trans (turn_sets (w := w1.drew) hr.fk _ _))
  obtain ⟨W2, hW2⟩ : ∃ W2, w1.drew.setCells gk 0 (flat n s.now) = W2 := ⟨_, rfl⟩
  rw [hW2] at hcp hE hT
  have HX : Hid (¬ Off s ∧ Ex W2 B kd n { less s with kept := s.now } F gn gk R x1 ∧ Turn F w W2) := ⟨hon, hE, hT⟩
  have c2 := hE.cell2
  have z2 := hE.free 2
  clear hon hr ht hE hT hW2
  go_wp2_with fail
  go_region
  go_wp2_with fail
  go_ret
  exact ⟨_, rfl, 0, Or.inl ⟨rfl, rfl⟩, _, Or.inr ⟨HX.out.1, rfl, rfl⟩, ⟨_, _, HX.out.2.1.setNone⟩, HX.out.2.2.trans (turn_set HX.out.2.1.dk _)⟩

end Go.Proofs.YtcfemppdeidjmadGreat.Dk.L

namespace Go.Proofs.YtcfemppdeidjmadGreat.Dk.L
open Go.RowKit Go.Deep
open Go.RowKit (Below)
set_option linter.unusedVariables false

variable {w w' : World} {B n kd g gn gk i j N : Nat} {F F' : Nat → Prop} {s : St} {v u R : Value} {l p : List UInt8} {x : Int}

theorem among_zero (f : Nat → Int) (i : Nat) : among 0 f i = false := rfl
theorem among_succ (m : Nat) (f : Nat → Int) (i : Nat) : among (m + 1) f i = (among m f i || decide (f m = (i : Int))) := by
  unfold among
  rw [List.range_succ, List.any_append]
  simp
theorem num_turn {a : Option Addr} {m : Nat} {f : Nat → Int} (h : NumAt w a m f) (t : Turn F w w') (ha : 0 < m → ∀ b o, a = some ⟨b, o, none⟩ → ¬ F b) : NumAt w' a m f := fun i hi => by
  obtain ⟨b, o, e, h1⟩ := h i hi
  exact ⟨b, o, e, t.cell (ha (by omega) b o e) h1⟩

/-- What of the writes ahead of i is kept. -/
def upto (s : St) (q : Nat → Bool) (i : Nat) : Nat → List UInt8 := play q 0 (s.wr.take i) s.kept
theorem upto_zero (s : St) (q : Nat → Bool) : upto s q 0 = s.kept := rfl
theorem upto_all (s : St) (q : Nat → Bool) : upto s q s.wr.length = play q 0 s.wr s.kept := by unfold upto; rw [List.take_length]
theorem upto_succ (s : St) (q : Nat → Bool) {i : Nat} (hi : i < s.wr.length) : upto s q (i + 1) = if q i then upd (upto s q i) (s.wr.getD i (0, [])).1 (s.wr.getD i (0, [])).2 else upto s q i := by
  unfold upto
  rw [List.take_add_one, List.getElem?_eq_getElem hi]
  have e : s.wr.getD i (0, []) = s.wr[i] := by rw [List.getD_eq_getElem?_getD, List.getElem?_eq_getElem hi]; rfl
  rw [e]
  obtain ⟨a, p⟩ := s.wr[i]
  show play q 0 (s.wr.take i ++ [(a, p)]) s.kept = _
  rw [play_snoc, List.length_take, Nat.min_eq_left (Nat.le_of_lt hi), Nat.zero_add]

theorem Tryz.infoBool : (Tryz.prog.info? 4).map (fun i => (i.zero, i.size, i.bytes)) = some (some (.bool false), 1, 1) := by kernel_rfl
theorem Tryz.infoDWs : (Tryz.prog.info? 198).map (·.size) = some 33 := by kernel_rfl

/-- A write of 0, as a variable. -/
abbrev nilDW : Obj := .cells #[.int .i64 0, .int .u8 0, .int .u8 0, .int .u8 0, .int .u8 0, .int .u8 0, .int .u8 0, .int .u8 0, .int .u8 0, .int .u8 0, .int .u8 0, .int .u8 0, .int .u8 0, .int .u8 0, .int .u8 0, .int .u8 0, .int .u8 0, .int .u8 0, .int .u8 0, .int .u8 0, .int .u8 0, .int .u8 0, .int .u8 0, .int .u8 0, .int .u8 0, .int .u8 0, .int .u8 0, .int .u8 0, .int .u8 0, .int .u8 0, .int .u8 0, .int .u8 0, .int .u8 0] 198

/-- Nothing else has turned but a block that the disk does not stand on. -/
theorem Ex.off (h : Ex w B kd n s F gn gk R x) {b i : Nat} (hb : ¬ F b) (v : Value) : Ex (w.setCell ⟨b, i, none⟩ v) B kd n s F gn gk R x :=
  h.keep (by simp) fun k hk => blk_setCell_other _ _ _ _ (show k ≠ b from fun e => hb (by rw [← e]; exact hk))
theorem Ex.offs (h : Ex w B kd n s F gn gk R x) {b : Nat} (hb : ¬ F b) (vs : List Value) (o : Nat) : Ex (w.setCells b o vs) B kd n s F gn gk R x :=
  h.keep (Nat.le_of_eq (size_sets vs o w).symm) fun k hk => blk_sets (fun e => hb (by rw [← e]; exact hk)) vs o w
theorem turn_off {b i : Nat} (t : Turn F w w') (hb : w.heap.size ≤ b) (v : Value) : Turn F w (w'.setCell ⟨b, i, none⟩ v) :=
  ⟨t.os, t.tape, t.output, by simpa using t.size, fun k hk hn => (blk_setCell_other _ _ _ _ (show k ≠ b by omega)).trans (t.block k hk hn)⟩
theorem turn_offs {b : Nat} (t : Turn F w w') (hb : w.heap.size ≤ b) (vs : List Value) (o : Nat) : Turn F w (w'.setCells b o vs) :=
  ⟨(os_sets vs o w').1.trans t.os, (os_sets vs o w').2.1.trans t.tape, (os_sets vs o w').2.2.trans t.output, by rw [size_sets]; exact t.size, fun k hk hn => (blk_sets (show k ≠ b by omega) vs o w').trans (t.block k hk hn)⟩

end Go.Proofs.YtcfemppdeidjmadGreat.Dk.L

namespace Go.Proofs.YtcfemppdeidjmadGreat.Sk
open Go.RowKit Go.Deep Go.Proofs.YtcfemppdeidjmadGreat.Dk
open Go.RowKit (Below)
set_option linter.unusedVariables false

variable {w w' : World} {b o k n N c : Nat} {f : Nat → Value}

/-- A row's cells with k bytes of a number from o on. -/
def putLow (f : Nat → Value) (o k n : Nat) : Nat → Value := fun i => if o ≤ i ∧ i < o + k then by1 (byt n (i - o)) else f i

theorem putLow_more (f : Nat → Value) (o j n i : Nat) : putLow f o (j + 1) n i = if i = o + j then by1 (byt n j) else putLow f o j n i := by
  unfold putLow
  by_cases h : i = o + j
  · rw [if_pos h, if_pos (by omega), h, show o + j - o = j by omega]
  · rw [if_neg h]
    by_cases h2 : o ≤ i ∧ i < o + j
    · rw [if_pos h2, if_pos (by omega)]
    · rw [if_neg h2, if_neg (by omega)]

theorem set_turn {i : Nat} {v : Value} {wr : World} (h : Turn (fun x => x = b) w wr) : Turn (fun x => x = b) w (wr.setCell ⟨b, i, none⟩ v) :=
  ⟨h.os, h.tape, h.output, by simpa using h.size, fun q hq hn => by
    rw [← h.block q hq hn]
    simp [World.setCell, Array.getElem?_modify, Ne.symm hn]⟩

theorem shr_pow (n j : Nat) (hj : j < 8) : (n : Int) / 2 ^ min ((8 * (j : Int)).toNat) 64 = ((n / 256 ^ j : Nat) : Int) := by
  rw [show (8 * (j : Int)).toNat = 8 * j by omega, Nat.min_eq_left (by omega), pow_two]
  norm_cast

set_option maxRecDepth 100000 in
set_option maxHeartbeats 4000000 in
theorem write_any (h : w.rowIs b 5 N f) (hk : o + k ≤ N) (hN : N ≤ 1000) (hk8 : k ≤ 8) (hc : k ≤ c) (hn : n < 9223372036854775808) :
    Calls Tryz.prog 130 #[.slice (some ⟨b, o, none⟩) k c, .int .i64 (n : Nat)] w fun e w' => e = .returned (.tuple #[]) ∧ w'.rowIs b 5 N (putLow f o k n) ∧ Turn (fun x => x = b) w w' := by
  have H0 : Hid (w.rowIs b 5 N (putLow f o 0 n)) := h.congr fun i _ => by unfold putLow; rw [if_neg (by omega)]
  have HK : Hid (o + k ≤ N ∧ N ≤ 1000 ∧ k ≤ 8 ∧ k ≤ c ∧ n < 9223372036854775808) := ⟨hk, hN, hk8, hc, hn⟩
  clear h hk hN hk8 hc hn
  go_enter Tryz.func130, Tryz.ntmps130
  go_wp2_with fail
  go_loopw [7] (fun i wr => ∃ j : Nat, j ≤ k ∧ i = .int .i64 (j : Nat) ∧ wr.rowIs b 5 N (putLow f o j n) ∧ Turn (fun x => x = b) w wr) (fun i _ => k - (intOf i).toNat)
  case atStart => exact ⟨0, Nat.zero_le _, rfl, H0.out, Turn.refl w⟩
  case round =>
    obtain ⟨j, hj, rfl, hrow, ht⟩ := hrel
    by_cases hlt : j < k
    · have j1 : (j : Int) < (k : Int) := by omega
      have j0 : (0 : Int) ≤ (j : Int) := by omega
      have j5 : IntKind.i64.wrap ((j : Int) + 1) = (j : Int) + 1 := by rw [IntKind.wrap_i64]; have := HK.out; omega
      have j6 : IntKind.i64.wrap (8 * (j : Int)) = 8 * (j : Int) := by rw [IntKind.wrap_i64]; have := HK.out; omega
      have j7 : (0 : Int) ≤ 8 * (j : Int) := by omega
      have j8 : (n : Int) / 2 ^ min ((8 * (j : Int)).toNat) 64 = ((n / 256 ^ j : Nat) : Int) := shr_pow n j (by have := HK.out; omega)
      have j9 : IntKind.u8.wrap ((n / 256 ^ j : Nat) : Int) = ((byt n j).toNat : Int) := by rw [byt_nat, IntKind.wrap_u8']; omega
      obtain ⟨y, hy⟩ : ∃ y, n / 256 ^ j = y := ⟨_, rfl⟩
      obtain ⟨z, hz⟩ : ∃ z, (byt n j).toNat = z := ⟨_, rfl⟩
      rw [hy] at j8 j9
      rw [hz] at j9
      have d0 := hrow.cell (i := o + j) (by have := HK.out; omega)
      have z0 := hrow.frozen (o + j)
      have HN : Hid ((wr.setCell ⟨b, o + j, none⟩ (.int .u8 (z : Int))).rowIs b 5 N (putLow f o (j + 1) n) ∧ Turn (fun x => x = b) w (wr.setCell ⟨b, o + j, none⟩ (.int .u8 (z : Int)))) :=
        ⟨(hrow.set (o + j) _).congr fun i _ => by rw [putLow_more, by1, hz], set_turn ht⟩
      clear hrow ht H0 hy hz
      go_wp2_with fail
      go_roundw
      case rel => exact ⟨j + 1, by omega, by go_num, HN.out⟩
      case measure => simp [intOf]; omega
    · have j1 : ¬ (j : Int) < (k : Int) := by omega
      obtain rfl : j = k := by omega
      have HN : Hid (wr.rowIs b 5 N (putLow f o j n) ∧ Turn (fun x => x = b) w wr) := ⟨hrow, ht⟩
      clear hrow ht H0
      go_wp2_with fail
      go_end0
      exact ⟨rfl, HN.out⟩

set_option maxRecDepth 100000 in
set_option maxHeartbeats 4000000 in
theorem read_any {B : Nat} (h : ∀ i, i < k → w.cell? ⟨b, o + i, none⟩ = some (by1 (byt n i))) (hk8 : k ≤ 8) (hk1 : 1 ≤ k) (hc : k ≤ c) (hn : n < 9223372036854775808) (hn2 : n < 256 ^ k) :
    Calls Tryz.prog 131 #[.slice (some ⟨b, o, none⟩) k c] w fun e w' => e = .returned (.int .i64 (n : Nat)) ∧ w' = w := by
  have H0 : Hid (∀ i, i < k → w.cell? ⟨b, o + i, none⟩ = some (by1 (byt n i))) := h
  have HK : Hid (k ≤ 8 ∧ k ≤ c ∧ n < 9223372036854775808 ∧ n < 256 ^ k) := ⟨hk8, hc, hn, hn2⟩
  have z0 : ((n % 256 ^ 0 : Nat) : Int) = 0 := by simp [Nat.mod_one]
  clear h hk8 hc hn hn2 hk1
  go_enter Tryz.func131, Tryz.ntmps131
  go_wp2_with fail
  go_loopw [3, 8] (fun v i wr => ∃ j : Nat, j ≤ k ∧ i = .int .i64 (j : Nat) ∧ v = .int .i64 ((n % 256 ^ j : Nat) : Int) ∧ wr = w) (fun _ i _ => k - (intOf i).toNat)
  case atStart => exact ⟨0, Nat.zero_le _, rfl, by rw [z0], rfl⟩
  case round =>
    obtain ⟨j, hj, rfl, rfl, rfl⟩ := hrel
    by_cases hlt : j < k
    · have j1 : (j : Int) < (k : Int) := by omega
      have j0 : (0 : Int) ≤ (j : Int) := by omega
      have j5 : IntKind.i64.wrap ((j : Int) + 1) = (j : Int) + 1 := by rw [IntKind.wrap_i64]; have := HK.out; omega
      have j6 : IntKind.i64.wrap (8 * (j : Int)) = 8 * (j : Int) := by rw [IntKind.wrap_i64]; have := HK.out; omega
      have j7 : (0 : Int) ≤ 8 * (j : Int) := by omega
      have d0 := H0.out j hlt
      have e1 : IntKind.i64.wrap ((byt n j).toNat : Int) = ((byt n j).toNat : Int) := by rw [IntKind.wrap_i64]; have := (byt n j).toNat_lt; omega
      have e2 : IntKind.i64.wrap (((byt n j).toNat : Int) * 2 ^ min ((8 * (j : Int)).toNat) 64) = ((n / 256 ^ j % 256 * 256 ^ j : Nat) : Int) := by
        have h1 : n % 256 ^ (j + 1) ≤ n := Nat.mod_le _ _
        have h3 := mod_more n j
        have h4 : n / 256 ^ j % 256 * 256 ^ j = 256 ^ j * (n / 256 ^ j % 256) := Nat.mul_comm _ _
        have h5 := HK.out
        rw [byt_nat, show (8 * (j : Int)).toNat = 8 * j by omega, Nat.min_eq_left (by omega), show ((2 : Int) ^ (8 * j)) = ((256 ^ j : Nat) : Int) by rw [pow_two]; norm_cast, IntKind.wrap_i64, ← Int.natCast_mul]
        omega
      have e3 := or_more (i := j) HK.out.2.2.1
      unfold by1 at d0
      obtain ⟨y, hy⟩ : ∃ y, n / 256 ^ j % 256 * 256 ^ j = y := ⟨_, rfl⟩
      obtain ⟨z, hz⟩ : ∃ z, (byt n j).toNat = z := ⟨_, rfl⟩
      obtain ⟨p, hp⟩ : ∃ p, n % 256 ^ j = p := ⟨_, rfl⟩
      obtain ⟨q, hq⟩ : ∃ q, n % 256 ^ (j + 1) = q := ⟨_, rfl⟩
      rw [hy] at e2 e3
      rw [hz] at e1 e2 d0
      rw [hp, hq] at e3
      rw [hp]
      have HQ : Hid (n % 256 ^ (j + 1) = q) := hq
      clear hy hz hp hq
      clear H0 z0
      go_wp2_with fail
      go_roundw
      case rel => exact ⟨j + 1, by omega, by go_num, by rw [HQ.out], trivial⟩
      case measure => simp [intOf]; omega
    · have j1 : ¬ (j : Int) < (k : Int) := by omega
      obtain rfl : j = k := by omega
      have hn := Nat.mod_eq_of_lt HK.out.2.2.2
      rw [hn]
      clear H0 z0 hn
      go_wp2_with fail
      go_ret
      exact ⟨rfl, rfl⟩

end Go.Proofs.YtcfemppdeidjmadGreat.Sk

namespace Go.Proofs.YtcfemppdeidjmadGreat.Sk
open Go.RowKit Go.Deep Go.Proofs.YtcfemppdeidjmadGreat.Dk
open Go.RowKit (Below)
set_option linter.unusedVariables false

variable {w w' : World} {b o k n N c : Nat} {f : Nat → Value}

theorem Tryz.infoU8r : (Tryz.prog.info? 5).map (fun i => (i.zero, i.size, i.bytes)) = some (some (.int .u8 0), 1, 1) := by kernel_rfl

def pg0 (j : Nat) : Value := if 0 ≤ j ∧ j < 0 + 16 then by1 (mrk.getD j 0) else by1 0
/-- What stands on a head's page while it is made. -/
def pgRow (h l t : Nat) : Nat → Value := putLow (putLow (putLow pg0 16 1 h) 17 2 l) 19 8 t

theorem pgRow_at (h l t i : Nat) (hi : i < 32) : pgRow h l t i = by1 ((headP h l t).getD i 0) := by
  rw [headP_at h l t i hi]
  unfold pgRow putLow pg0
  by_cases h1 : i < 16
  · rw [if_neg (by omega), if_neg (by omega), if_neg (by omega), if_pos (by omega), if_pos h1]
  · by_cases h2 : i < 17
    · rw [if_neg (by omega), if_neg (by omega), if_pos (by omega), if_neg h1, if_pos h2]
    · by_cases h3 : i < 19
      · rw [if_neg (by omega), if_pos (by omega), if_neg h1, if_neg h2, if_pos h3]
      · by_cases h4 : i < 27
        · rw [if_pos (by omega), if_neg h1, if_neg h2, if_neg h3, if_pos h4]
        · rw [if_neg (by omega), if_neg (by omega), if_neg (by omega), if_neg (by omega), if_neg h1, if_neg h2, if_neg h3, if_neg h4]

theorem copy_mark {W : World} {g : Nat} (h : W.rowIs g 5 32 fun _ => by1 0) :
    (Builtin.copy_ #[97, 9] 3 #[.slice (some ⟨g, 0, none⟩) 32 32, .string { data := #[102, 111, 111, 116, 98, 114, 105, 100, 103, 101, 32, 115, 116, 111, 114, 101] }]).run Tryz.prog W = .ok (.int .i64 16) (W.setCells g 0 (mrk.map by1)) := by
  have := run_copy_string (P := Tryz.prog) W 97 9 3 5 g 0 32 32 { data := #[102, 111, 111, 116, 98, 114, 105, 100, 103, 101, 32, 115, 116, 111, 114, 101] } Tryz.underlying97 (fun w => Tryz.sizeOf5 w) (by decide)
    (fun j hj => by have hj' : j < 16 := hj; rw [Nat.zero_add, h.cell (by omega)]; rfl) (fun j _ => by rw [Nat.zero_add]; exact h.frozen j)
  rw [this]
  rfl

set_option maxRecDepth 100000 in
set_option maxHeartbeats 4000000 in
theorem page_any (h l t : Nat) (hh : h ≤ 1) (hl : l ≤ 960) (ht : t ≤ 100000) :
    Calls Tryz.prog 103 #[.agg #[.int .i64 (h : Nat), .int .i64 (l : Nat), .int .i64 (t : Nat)]] w fun e w' => ∃ k, e = .returned (.slice (some ⟨k, 0, none⟩) 32 32) ∧ BtAt w' (some ⟨k, 0, none⟩) (headP h l t) ∧ w.heap.size ≤ k ∧ k < w'.heap.size ∧ Below w.heap.size w w' := by
  obtain ⟨O, hO⟩ : ∃ O, Obj.cells #[.int .i64 (h : Nat), .int .i64 (l : Nat), .int .i64 (t : Nat)] 137 = O := ⟨_, rfl⟩
  have hmk : (Instr.makeSlice 97 (.int .i64 32) (.int .i64 32)).run Tryz.prog (w.alloc O) = .ok (.slice (some ⟨w.heap.size + 1, 0, none⟩) 32 32) ((w.alloc O).alloc (.cells (madeCells #[.int .u8 0] 32) 5)) := by
    have := run_make_row' (P := Tryz.prog) 97 5 (.int .u8 0) 1 Tryz.underlying97 Tryz.infoU8r rfl .i64 .i64 32 (by omega) (by omega) (w.alloc O)
    rwa [show (w.alloc O).heap.size = w.heap.size + 1 by simp] at this
  have r2 : ((w.alloc O).alloc (.cells (madeCells #[.int .u8 0] 32) 5)).rowIs (w.heap.size + 1) 5 32 (fun _ => by1 0) := by
    have := World.rowIs_made (w.alloc O) (.int .u8 0) 32 5
    rwa [show (w.alloc O).heap.size = w.heap.size + 1 by simp] at this
  have c2 : ∀ i v, [Value.int .i64 (h : Nat), .int .i64 (l : Nat), .int .i64 (t : Nat)][i]? = some v → ((w.alloc O).alloc (.cells (madeCells #[.int .u8 0] 32) 5)).cell? ⟨w.heap.size, i, none⟩ = some v := fun i v hv => by
    refine cell_keep (W := w.alloc O) ((Below.refl _ _).alloc (Nat.le_refl _) _) ?_
    rw [← hO]
    have := Dk.L.new_cell w [Value.int .i64 (h : Nat), .int .i64 (l : Nat), .int .i64 (t : Nat)] 137 (j := i) (u := v) hv
    rwa [Nat.zero_add] at this
  have b2 : Below w.heap.size w ((w.alloc O).alloc (.cells (madeCells #[.int .u8 0] 32) 5)) := ((Below.refl _ _).alloc (Nat.le_refl _) _).alloc (by simp) _
  obtain ⟨W2, hW2⟩ : ∃ W2, (w.alloc O).alloc (.cells (madeCells #[.int .u8 0] 32) 5) = W2 := ⟨_, rfl⟩
  rw [hW2] at hmk r2 c2 b2
  have hcp := copy_mark r2
  have r3 : (W2.setCells (w.heap.size + 1) 0 (mrk.map by1)).rowIs (w.heap.size + 1) 5 32 pg0 := (rowIs_setCells (mrk.map by1) 0 W2 _ r2).congr fun j hj => by
    unfold pg0
    show (if 0 ≤ j ∧ j < 0 + 16 then _ else _) = _
    by_cases hj : 0 ≤ j ∧ j < 0 + 16
    · rw [if_pos hj, if_pos hj, Nat.sub_zero, List.getElem?_map, List.getD_eq_getElem?_getD, List.getElem?_eq_getElem (show j < mrk.length from by have := hj.2; exact (show j < 16 by omega))]
      rfl
    · rw [if_neg hj, if_neg hj]
  have b3 : Below w.heap.size w (W2.setCells (w.heap.size + 1) 0 (mrk.map by1)) := below_setCells (by omega) _ _ _ b2
  have c3 : ∀ i v, [Value.int .i64 (h : Nat), .int .i64 (l : Nat), .int .i64 (t : Nat)][i]? = some v → (W2.setCells (w.heap.size + 1) 0 (mrk.map by1)).cell? ⟨w.heap.size, i, none⟩ = some v := fun i v hv =>
    (World.cell?_setCells_out (w.heap.size + 1) _ _ _ _ (fun e _ => by simp at e)).trans (c2 i v hv)
  obtain ⟨W3, hW3⟩ : ∃ W3, W2.setCells (w.heap.size + 1) 0 (mrk.map by1) = W3 := ⟨_, rfl⟩
  rw [hW3] at hcp r3 b3 c3
  obtain ⟨E, hE⟩ : ∃ E, w.heap.size = E := ⟨_, rfl⟩
  have HP : Hid (h < 9223372036854775808 ∧ l < 9223372036854775808 ∧ t < 9223372036854775808) := show _ ∧ _ ∧ _ by omega
  have HR3 : Hid (W3.rowIs (E + 1) 5 32 pg0 ∧ Below w.heap.size w W3 ∧ w.heap.size = E) := ⟨hE ▸ r3, b3, hE⟩
  rw [hE] at hmk hcp c3
  have d0 := c3 0 _ rfl
  have d1 := c3 1 _ rfl
  have d2 := c3 2 _ rfl
  clear r2 c2 b2 r3 b3 c3 hW3 hh hl ht
  go_enter Tryz.func103, Tryz.ntmps103
  go_wp2_with (first | rw [hO] | rw [hE])
  go_region_held3 (fun V => V.cell? ⟨E, 0, none⟩ = some (.int .i64 (h : Nat)) ∧ V.cell? ⟨E, 1, none⟩ = some (.int .i64 (l : Nat)) ∧ V.cell? ⟨E, 2, none⟩ = some (.int .i64 (t : Nat)))
    (first | (go_keep; done) | exact ⟨ht4.cell (by omega) d0, ht4.cell (by omega) d1, ht4.cell (by omega) d2⟩)
    (first | (go_at_call 130; refine (write_any (w := W3.drew) (n := h) (k := 1) (o := 16) HR3.out.1.drew (by decide) (by decide) (by decide) (by decide) HP.out.1).mono ?_; rintro e W4 ⟨rfl, hr4, ht4⟩))
  replace d0 := ht4.cell (by omega) (show W3.drew.cell? _ = _ from d0)
  replace d1 := ht4.cell (by omega) (show W3.drew.cell? _ = _ from d1)
  replace d2 := ht4.cell (by omega) (show W3.drew.cell? _ = _ from d2)
  have HR4 : Hid (W4.rowIs (E + 1) 5 32 _ ∧ Below w.heap.size w W4 ∧ w.heap.size = E) := ⟨hr4, ht4.below HR3.out.2.1.drew HR3.out.2.1.size (fun q e => by have := HR3.out.2.2; omega), HR3.out.2.2⟩
  clear hr4 ht4 HR3
  go_wp2_with fail
  go_region_held3 (fun V => V.cell? ⟨E, 0, none⟩ = some (.int .i64 (h : Nat)) ∧ V.cell? ⟨E, 1, none⟩ = some (.int .i64 (l : Nat)) ∧ V.cell? ⟨E, 2, none⟩ = some (.int .i64 (t : Nat)))
    (first | (go_keep; done) | exact ⟨ht5.cell (by omega) d0, ht5.cell (by omega) d1, ht5.cell (by omega) d2⟩)
    (first | (go_at_call 130; refine (write_any (w := W4.drew) (n := l) (k := 2) (o := 17) HR4.out.1.drew (by decide) (by decide) (by decide) (by decide) HP.out.2.1).mono ?_; rintro e W5 ⟨rfl, hr5, ht5⟩))
  replace d0 := ht5.cell (by omega) (show W4.drew.cell? _ = _ from d0)
  replace d1 := ht5.cell (by omega) (show W4.drew.cell? _ = _ from d1)
  replace d2 := ht5.cell (by omega) (show W4.drew.cell? _ = _ from d2)
  have HR5 : Hid (W5.rowIs (E + 1) 5 32 _ ∧ Below w.heap.size w W5 ∧ w.heap.size = E) := ⟨hr5, ht5.below HR4.out.2.1.drew HR4.out.2.1.size (fun q e => by have := HR4.out.2.2; omega), HR4.out.2.2⟩
  clear hr5 ht5 HR4
  go_wp2_with fail
  go_region_held3 (fun V => V.cell? ⟨E, 0, none⟩ = some (.int .i64 (h : Nat)) ∧ V.cell? ⟨E, 1, none⟩ = some (.int .i64 (l : Nat)) ∧ V.cell? ⟨E, 2, none⟩ = some (.int .i64 (t : Nat)))
    (first | (go_keep; done) | exact ⟨ht6.cell (by omega) d0, ht6.cell (by omega) d1, ht6.cell (by omega) d2⟩)
    (first | (go_at_call 130; refine (write_any (w := W5.drew) (n := t) (k := 8) (o := 19) HR5.out.1.drew (by decide) (by decide) (by decide) (by decide) HP.out.2.2).mono ?_; rintro e W6 ⟨rfl, hr6, ht6⟩))
  replace d0 := ht6.cell (by omega) (show W5.drew.cell? _ = _ from d0)
  replace d1 := ht6.cell (by omega) (show W5.drew.cell? _ = _ from d1)
  replace d2 := ht6.cell (by omega) (show W5.drew.cell? _ = _ from d2)
  have HR6 : Hid (W6.rowIs (E + 1) 5 32 _ ∧ Below w.heap.size w W6 ∧ w.heap.size = E) := ⟨hr6, ht6.below HR5.out.2.1.drew HR5.out.2.1.size (fun q e => by have := HR5.out.2.2; omega), HR5.out.2.2⟩
  clear hr6 ht6 HR5
  go_wp2_with fail
  go_ret
  refine ⟨E + 1, rfl, fun i hi => ⟨E + 1, 0, rfl, ?_⟩, by have := HR6.out.2.2; omega, HR6.out.1.lt, HR6.out.2.1⟩
  rw [headP_len] at hi
  rw [Nat.zero_add, HR6.out.1.cell hi, ← pgRow_at h l t i hi]
  rfl

end Go.Proofs.YtcfemppdeidjmadGreat.Sk
