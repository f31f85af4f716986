/-
  append at the statement's own rows and lists.
-/
import Derived.Test.YtpmkllmeilhakaaDoorPlays1
import Derived.Maps.AppendAt
namespace Go.Proofs.YtpmkllmeilhakaaDoor
open Go.RowKit Go.Deep

theorem Tryd.infoSeqPtr : (Tryd.prog.info? 30).map (fun i => (i.zero, i.size, i.bytes)) = some (some (.pointer none), 1, 8) := by kernel_rfl
theorem Tryd.infoInts : (Tryd.prog.info? 25).map (fun i => (i.zero, i.size, i.bytes)) = some (some (.slice none 0 0), 1, 24) := by kernel_rfl

/-- append of a list that is nil: what it is appended to is handed back. -/
theorem run_append_none (w : World) (ty : TypeId) {base : Nat} {v : Value} {n : Nat} {xs : List Value} (hown : w.ownsRow base 3 1 v n xs) (c : Nat) :
    (Builtin.append_ #[25, 25] ty #[v, .slice none 0 c]).run Tryd.prog w = .ok v w := by
  obtain ⟨i0, hi, hz0, hz1, hz2⟩ := info_parts Tryd.infoInt
  rcases hown.2 with ⟨rfl, _⟩ | ⟨g, cap, cur, rfl, _, _, hle, _⟩
  · simp [Builtin.append_, underlying, Tryd.underlying25, sizeOf, typeInfo, hi, Builtin.lenOf, Builtin.firstCells]
  · simp [Builtin.append_, underlying, Tryd.underlying25, sizeOf, typeInfo, hi, Builtin.lenOf, Builtin.firstCells, hle, storeCells]

/-- append of a list of numbers to one of the statement's own. -/
theorem run_append_ints (w : World) (ty : TypeId) {base : Nat} {v : Value} {n : Nat} {xs : List Value} (hown : w.ownsRow base 3 1 v n xs) {a : Option Addr} {m c : Nat} {ys : List Int} (hy : IntsAt w a m c ys) (hb : n + m ≤ 1000) (hbase : base ≤ w.heap.size) :
    ∃ v' w', (Builtin.append_ #[25, 25] ty #[v, .slice a m c]).run Tryd.prog w = .ok v' w' ∧ w'.ownsRow base 3 1 v' (n + m) (xs ++ ys.map (Value.int .i64)) ∧ w.grownBy w' v.ownBlock ∧ (v'.ownBlock = v.ownBlock ∨ v'.ownBlock = some w.heap.size) := by
  obtain ⟨i0, hi, hz0, hz1, hz2⟩ := info_parts Tryd.infoInt
  cases a with
  | none =>
    have hm : m = 0 := by
      rcases Nat.eq_zero_or_pos m with h | h
      · exact h
      · obtain ⟨b, o, e, _⟩ := hy.cell 0 h; cases e
    subst hm
    have hys : ys = [] := List.eq_nil_of_length_eq_zero hy.len
    subst hys
    refine ⟨v, w, run_append_none w ty hown c, by simpa using hown, ⟨rfl, rfl, rfl, Nat.le_refl _, fun _ _ _ => rfl⟩, Or.inl rfl⟩
  | some ad =>
    obtain ⟨v', w', h1, h2, h3, _, h5⟩ := run_append_own_at (P := Tryd.prog) w base 25 ty 3 i0 (.int .i64 0) 1 8 Tryd.underlying25 hi hz0 hz1 hz2 rfl (by decide) v n xs hown ad m c (ys.map (Value.int .i64))
      (by rw [List.length_map, hy.len, Nat.mul_one]) (fun j u hu => by
        rw [List.getElem?_map] at hu
        obtain ⟨y, hy1, rfl⟩ := Option.map_eq_some_iff.1 hu
        have hj : j < m := by
          have := (List.getElem?_eq_some_iff.1 hy1).1
          rwa [hy.len] at this
        obtain ⟨b, o, e, hc⟩ := hy.cell j hj
        cases e
        rw [Addr.add_lit, hc, List.getD_eq_getElem?_getD, hy1]
        rfl) (fun u hu => by
        obtain ⟨y, _, rfl⟩ := List.mem_map.1 hu
        rfl) (by unfold maxLen; omega) (by omega) hbase
    exact ⟨v', w', h1, h2, h3, h5⟩

theorem wpList_append_ints {ops : Array Oper} {rest : List Oper} {o : Oper} {A : Act} {Q : Exit → Act → World → Prop} (w : World) (hgd : o.guard = none) (s x : Operand)
    (ho : o.op = .call { callee := .builtin .append, args := #[s, x], argTypes := #[25, 25] }) {base : Nat} {v : Value} {n : Nat} {xs : List Value} (hs : A.eval s = v) (hown : w.ownsRow base 3 1 v n xs)
    {a : Option Addr} {m c : Nat} {ys : List Int} (hx : A.eval x = .slice a m c) (hy : IntsAt w a m c ys) (hb : n + m ≤ 1000) (hbase : base ≤ w.heap.size)
    (h : ∀ v' w', w'.ownsRow base 3 1 v' (n + m) (xs ++ ys.map (Value.int .i64)) → w.grownBy w' v.ownBlock → (v'.ownBlock = v.ownBlock ∨ v'.ownBlock = some w.heap.size) → wpList Tryd.prog ops Q rest (A.put o.dst v') w') :
    wpList Tryd.prog ops Q (o :: rest) A w :=
  wpList_plain hgd fun _ hK => by
    obtain ⟨v', w', hr, h2, h3, h4⟩ := run_append_ints w o.type hown hy hb hbase
    unfold Oper.wp execOp
    simp only [ho, resolve, invoke, builtin, Sem.run_bind, Sem.run_pure, Result.andThen_ok, List.map_toArray, List.map_cons, List.map_nil, hs, hx, hr]
    exact hK _ _ (h v' w' h2 h3 h4)

theorem own_form {w : World} {base : Nat} {e : TypeId} {v : Value} {n : Nat} {xs : List Value} (h : w.ownsRow base e 1 v n xs) : ∃ a c, v = .slice a n c := by
  rcases h.2 with ⟨rfl, rfl⟩ | ⟨g, cap, cur, rfl, _⟩
  · exact ⟨none, 0, rfl⟩
  · exact ⟨_, cap, rfl⟩

theorem ints_of_own {w : World} {base : Nat} {a : Option Addr} {n c : Nat} {ys : List Int} (h : w.ownsRow base 3 1 (.slice a n c) n (ys.map (Value.int .i64))) : IntsAt w a n c ys ∧ Own base w a n ∧ c ≤ maxLen := by
  have hl : ys.length = n := by have := h.1; rwa [List.length_map, Nat.mul_one] at this
  rcases h.2 with ⟨h0, _⟩ | ⟨g, cap, cur, hv, h1, h2, h3, h4, h5, h6⟩
  · injection h0 with e1 e2 e3
    subst e1 e2 e3
    exact ⟨⟨hl, Nat.le_refl _, fun i hi => absurd hi (Nat.not_lt_zero _)⟩, (fun b o e => absurd e (by simp)), Nat.zero_le _⟩
  · injection hv with e1 e2 e3
    subst e1 e3
    refine ⟨⟨hl, h3, fun i hi => ⟨g, 0, rfl, ?_⟩⟩, fun b o e => ?_, h4⟩
    · rw [Nat.zero_add, cell_of_row w g i cur _ _ h2]
      have hx : (cur.toList.take (n * 1))[i]? = (ys.map (Value.int .i64))[i]? := by rw [h6]
      have hy : ys[i]? = some (ys.getD i 0) := by rw [List.getD_eq_getElem?_getD, List.getElem?_eq_getElem (by rw [hl]; exact hi)]; rfl
      rw [Nat.mul_one, List.getElem?_take, if_pos hi, List.getElem?_map, hy] at hx
      rw [← Array.getElem?_toList, hx]
      rfl
    · injection e with e
      injection e with e4
      subst e4
      exact Or.inr (Or.inr ⟨cur, _, h2⟩)

set_option maxRecDepth 100000 in
/-- A list cut at a place: the first items, and the others. -/
theorem slice_both {base : Nat} {w : World} {a : Option Addr} {n cap : Nat} {xs : List Int} (h : IntsAt w a n cap xs) (ho : Own base w a n) (hm : cap ≤ maxLen) (k : Nat) (hk : k ≤ n) :
    (∀ W, (Instr.slice 25 (.slice a n cap) none (some (.int .i64 (k : Int))) none).run Tryd.prog W = .ok (.slice a k cap) W) ∧
    ∃ a2, (∀ W, (Instr.slice 25 (.slice a n cap) (some (.int .i64 (k : Int))) none none).run Tryd.prog W = .ok (.slice a2 (n - k) (cap - k)) W) ∧
      IntsAt w a k cap (xs.take k) ∧ Own base w a k ∧ IntsAt w a2 (n - k) (cap - k) (xs.drop k) ∧ Own base w a2 (n - k) ∧ cap - k ≤ maxLen := by
  have hle := h.le
  refine ⟨fun W => ?_, ?_⟩
  · rw [run_slice_h (w := W) 25 _ n cap Tryd.underlying25 .i64 _ (by omega) (by omega)]
    cases a <;> go_simp
  · have htk : IntsAt w a k cap (xs.take k) := by
      refine ⟨by rw [List.length_take, h.len]; omega, by omega, fun i hi => ?_⟩
      obtain ⟨b, o, e, hc⟩ := h.cell i (by omega)
      refine ⟨b, o, e, ?_⟩
      rw [hc]
      simp only [List.getD_eq_getElem?_getD, List.getElem?_take, if_pos hi]
    have hok : Own base w a k := fun b o e => by
      rcases ho b o e with h1 | h1 | h1
      · exact Or.inl (by omega)
      · exact Or.inr (Or.inl h1)
      · exact Or.inr (Or.inr h1)
    by_cases hn : k < n
    · obtain ⟨b, o, rfl, _⟩ := h.cell 0 (by omega)
      have hd := h.drop k hk
      refine ⟨some ⟨b, o + k, none⟩, fun W => ?_, htk, hok, hd, fun b' o' e => ?_, by omega⟩
      · have e : ((k : Int)).toNat = k := by omega
        rw [run_slice_l (w := W) 25 _ n cap Tryd.underlying25 .i64 _ (by omega) (by omega), e]
        have hne : ¬ cap = k := by omega
        go_simp
      · injection e with e
        injection e with e1 e2
        subst e1
        rcases ho b o rfl with h1 | h1 | h1
        · omega
        · exact Or.inr (Or.inl h1)
        · exact Or.inr (Or.inr h1)
    · have hkn : k = n := by omega
      refine ⟨if cap = k then a else a.map (fun x => x.add (k * 1)), fun W => ?_, htk, hok, ⟨by rw [List.length_drop, h.len], by omega, fun i hi => by omega⟩, fun b o _ => Or.inl (by omega), by omega⟩
      have e : ((k : Int)).toNat = k := by omega
      rw [run_slice_l (w := W) 25 _ n cap Tryd.underlying25 .i64 _ (by omega) (by omega), e]
      by_cases hc : cap = k <;> go_simp

theorem ok_same {r : Result Value} {v v' : Value} {w w' : World} (h : r = .ok v w) (h' : r = .ok v' w') : v = v' ∧ w = w' := by
  subst h
  simp only [Result.ok.injEq] at h'
  exact h'

/-- append to an own row at a step of a statement that leaves its order open: besides, the elder cells are there as they were. -/
theorem step_append_keep {ops : Array Oper} {o : Oper} {A : Act} {K : Act → World → Prop} {Q : Exit → Act → World → Prop} {E : Prop} (w : World) (hgd : o.guard = none) (s x : Operand) (t : TypeId)
    (ho : o.op = .call { callee := .builtin .append, args := #[s, x], argTypes := #[t, t] })
    (base : Nat) (e : TypeId) (i : TypeInfo) (z : Value) (bytes : Nat) (ht : Tryd.prog.underlying t = some (.slice e)) (hi : Tryd.prog.info? e = some i) (hz : i.zero = some z)
    (hsize : i.size = 1) (hby : i.bytes = bytes) (hzs : z.cells.size = 1)
    (g0 c0 n : Nat) (xs : List Value) (hs : A.eval s = .slice (some ⟨g0, 0, none⟩) n c0) (hown : w.ownsRow base e 1 (.slice (some ⟨g0, 0, none⟩) n c0) n xs)
    (ad : Addr) (m c : Nat) (news : List Value) (hx : A.eval x = .slice (some ad) m c) (hl : news.length = m * 1) (hnews : ∀ j u, news[j]? = some u → w.cell? (ad.add j) = some u) (h1 : ∀ u ∈ news, u.oneCell' = true)
    (hm : 0 < m) (h63 : n + m ≤ maxLen) (hbytes : (n + m) * bytes ≤ 140737488355328) (hbase : base ≤ w.heap.size)
    (h : ∀ g cap w', w'.ownsRow base e 1 (.slice (some ⟨g, 0, none⟩) (n + m) cap) (n + m) (xs ++ news) → w.grownBy w' (some g0) → (∀ j u, xs[j]? = some u → w'.cell? ⟨g0, j, none⟩ = some u) → K (A.put o.dst (.slice (some ⟨g, 0, none⟩) (n + m) cap)) w') :
    if Region.wanted o (yielded ops A.tmps) = true then Oper.wp Tryd.prog o A w K Q else E := by
  have hw : Region.wanted o (yielded ops A.tmps) = true := by simp [Region.wanted, hgd]
  rw [if_pos hw]
  obtain ⟨g, cap, w', hr, h2, h3, h4, h5⟩ := run_append_lies (P := Tryd.prog) w t o.type base e i z 1 bytes ht hi hz hsize hby hzs (by decide) _ n xs hown ad m c news hl hnews h1 hm h63 hbytes hbase _ rfl
  have hkeep : ∀ j u, xs[j]? = some u → w'.cell? ⟨g0, j, none⟩ = some u := by
    rcases hown.2 with ⟨h0, _⟩ | ⟨g', cap', cur, hv, b1, b2, b3, b4, b5, b6⟩
    · simp at h0
    · simp only [Value.slice.injEq, Option.some.injEq, Addr.mk.injEq, and_true, true_and] at hv
      obtain ⟨e1, e3⟩ := hv
      subst e1 e3
      have hold : ∀ j u, xs[j]? = some u → w.cell? ⟨g0, j, none⟩ = some u := fun j u hu => by
        rw [cell_of_row w g0 j cur e _ b2]
        rw [← b6, Nat.mul_one, List.getElem?_take] at hu
        split at hu
        · simpa using hu
        · cases hu
      by_cases hroom : n + m ≤ c0
      · have hr2 := run_append_room (P := Tryd.prog) w t o.type e i ht hi g0 n c0 cur b2 ad m c news (by rw [hsize]; exact hl) hnews h1 hroom (by rw [hsize, hl, b5]; omega)
        obtain ⟨hr3, _⟩ := ok_same hr2 hr
        simp only [Value.slice.injEq, Option.some.injEq, Addr.mk.injEq, and_true] at hr3
        obtain ⟨hr3, _⟩ := hr3
        subst hr3
        intro j u hu
        obtain ⟨g2, cap2, hv2, _, _, hc2⟩ := own_cell h2 (by omega)
        simp only [Value.slice.injEq, Option.some.injEq, Addr.mk.injEq, and_true, true_and] at hv2
        obtain ⟨q1, _⟩ := hv2
        subst q1
        exact hc2 j u (by rw [List.getElem?_append_left (List.getElem?_eq_some_iff.1 hu).1]; exact hu)
      · obtain ⟨v2, w2, hr2, _, hg2⟩ := run_append_arg_grows (P := Tryd.prog) w t o.type e i z 1 bytes ht hi hz hsize hby hzs (by decide) ⟨g0, 0, none⟩ n c0 xs hown.1 (fun j u hu => by rw [Addr.add_lit, Nat.zero_add]; exact hold j u hu) ad m c news hl hnews (by omega) h63 hbytes
        obtain ⟨_, hr3⟩ := ok_same hr2 hr
        subst hr3
        intro j u hu
        have hc := hold j u hu
        exact (hg2.cell_far ⟨g0, j, none⟩ (World.block_lt_of_cell? _ _ hc) (by simp)).trans hc
  unfold Oper.wp execOp
  simp only [ho, resolve, invoke, builtin, Sem.run_bind, Sem.run_pure, Result.andThen_ok, List.map_toArray, List.map_cons, List.map_nil, hs, hx, hr]
  exact h g cap w' h2 h3 hkeep

/-- Between the two appends of a round: the rows have come, the lists not yet. -/
structure Half (w0 w : World) (vr vw : Value) (es : List El) (ms : List (Option Addr)) : Prop where
  below : Below w0.heap.size w0 w
  rows : w.ownsRow w0.heap.size 30 1 vr (es.length + ms.length) ((es.map fun x => .pointer x.r) ++ ms.map Value.pointer)
  want : w.ownsRow w0.heap.size 25 1 vw es.length (es.map fun x => .slice x.a x.n x.c)
  ok : ∀ x ∈ es, ElOk w0.heap.size w x
  err : ErrType w

theorem kept_rows {w0 w w' : World} {vr : Value} {n : Nat} {xs : List Value} (h : w.ownsRow w0.heap.size 30 1 vr n xs) (hg : w.grownBy w' vr.ownBlock) : Kept w0.heap.size w w' :=
  Kept.of_grown hg fun _ e => ⟨(own_tag h e).1, Or.inl (own_tag h e).2⟩
theorem kept_want {w0 w w' : World} {vw : Value} {n : Nat} {xs : List Value} (h : w.ownsRow w0.heap.size 25 1 vw n xs) (hg : w.grownBy w' vw.ownBlock) : Kept w0.heap.size w w' :=
  Kept.of_grown hg fun _ e => ⟨(own_tag h e).1, Or.inr (own_tag h e).2⟩

theorem below_kept {w0 w w' : World} {v : Value} {e : TypeId} {n : Nat} {xs : List Value} (hb : Below w0.heap.size w0 w) (h : w.ownsRow w0.heap.size e 1 v n xs) (hg : w.grownBy w' v.ownBlock) : Below w0.heap.size w0 w' :=
  hb.grown hg hb.size fun _ e => (own_tag h e).1

theorem err_kept {w0 w w' : World} {v : Value} {e : TypeId} {n : Nat} {xs : List Value} (hr : ErrType w) (h0 : ErrType w0) (h : w.ownsRow w0.heap.size e 1 v n xs) (hg : w.grownBy w' v.ownBlock) : ErrType w' :=
  (hg.cell_far ⟨0, 0, none⟩ hr.pos (fun e => by have h1 : w0.heap.size ≤ 0 := (own_tag h e.symm).1; have := h0.pos; omega)).trans hr

theorem Stand.rows_grown {w0 w w' : World} {vr vr' vw : Value} {es : List El} {ms : List (Option Addr)} (h : Stand w0 w vr vw es) (h0 : ErrType w0)
    (hown : w'.ownsRow w0.heap.size 30 1 vr' (es.length + ms.length) ((es.map fun x => .pointer x.r) ++ ms.map Value.pointer)) (hg : w.grownBy w' vr.ownBlock) : Half w0 w' vr' vw es ms ∧ Kept w0.heap.size w w' := by
  have hk := kept_rows h.rows hg
  refine ⟨⟨below_kept h.below h.rows hg, hown, ownsRow_keep h.want fun g e => ?_, fun x hx => (h.ok x hx).kept hk, err_kept h.err h0 h.rows hg⟩, hk⟩
  have ht := (own_tag h.want e).2
  exact hg.block g ht.lt (fun e2 => absurd (ht.one (own_tag h.rows e2.symm).2) (by decide))

theorem Half.want_grown {w0 w w' : World} {vr vw vw' : Value} {es ns : List El} (h : Half w0 w vr vw es (ns.map (·.r))) (h0 : ErrType w0)
    (hown : w'.ownsRow w0.heap.size 25 1 vw' (es.length + ns.length) ((es.map fun x => .slice x.a x.n x.c) ++ ns.map fun x => .slice x.a x.n x.c)) (hg : w.grownBy w' vw.ownBlock) (hn : ∀ x ∈ ns, ElOk w0.heap.size w x) : Stand w0 w' vr vw' (es ++ ns) ∧ Kept w0.heap.size w w' := by
  have hk := kept_want h.want hg
  refine ⟨⟨below_kept h.below h.want hg, ?_, by simpa using hown, fun x hx => ?_, err_kept h.err h0 h.want hg⟩, hk⟩
  · have hr := h.rows
    simp only [List.length_map, List.map_map] at hr
    have := ownsRow_keep (w' := w') hr fun g e => by
      have ht := (own_tag h.rows e).2
      exact hg.block g ht.lt (fun e2 => absurd (ht.one (own_tag h.want e2.symm).2) (by decide))
    simpa [Function.comp_def] using this
  · rcases List.mem_append.1 hx with hx | hx
    · exact (h.ok x hx).kept hk
    · exact (hn x hx).kept hk

theorem stand_start {w0 w1 w2 : World} {vr vw : Value} (hb1 : Below w0.heap.size w0 w1) (hr : w1.ownsRow w0.heap.size 30 1 vr 1 [.pointer none]) (he1 : ErrType w1)
    (hb2 : w1.grownBy w2 none) (hw : w2.ownsRow w0.heap.size 25 1 vw 1 [.slice none 0 0]) : Stand w0 w2 vr vw [⟨none, .nil, none, 0, 0⟩] := by
  have hb : Below w1.heap.size w1 w2 := (Below.refl _ _).grown hb2 (Nat.le_refl _) (fun k e => by cases e)
  refine ⟨below_step hb1 hb, ownsRow_below hr hb, hw, fun x hx => ?_, he1.below hb⟩
  simp only [List.mem_singleton] at hx
  subst hx
  exact ⟨RowAt.nil_ _, trivial, Nat.zero_le _, ⟨rfl, Nat.le_refl _, fun i hi => absurd hi (Nat.not_lt_zero _)⟩, Nat.zero_le _, fun b o e => by cases e⟩

end Go.Proofs.YtpmkllmeilhakaaDoor
