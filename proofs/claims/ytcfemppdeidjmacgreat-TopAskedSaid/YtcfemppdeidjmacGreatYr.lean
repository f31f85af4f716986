/-
  Helpers for statements over all packages: rows of one's own beside a desk, pieces of events.
-/
import Derived.Test.YtcfemppdeidjmacGreatF20
import Derived.Test.YtcfemppdeidjmacGreatF19
namespace Go.Proofs.YtcfemppdeidjmacGreat.Ds
open Go.RowKit Go.Deep Go.Proofs.YtcfemppdeidjmacGreat.Br
open Go.Proofs.YtcfemppdeidjmacGreat.Dk (EvAt NumAt Er Same)
open Go.Proofs.YtcfemppdeidjmacGreat.Sk (SW Apart Keeps Owns)
open Go.RowKit (Below)
set_option linter.unusedVariables false

variable {w w' wr : World} {P : World → Nat → (Nat → Prop) → Prop} {X V : Nat → Prop} {B : Nat} {a : Option Addr} {m c n p q : Nat} {f : Nat → Ev}

/-- A row of one's own grows that stands apart. -/
theorem sw_grown (hK : Keeps P) (hO : Owns P) (h : SW P w B X wr) {row : Option Nat} (hg : wr.grownBy w' row) (hr : ∀ k, row = some k → X k ∧ w.heap.size ≤ k) : SW P w B (fun b => X b ∨ (wr.heap.size ≤ b ∧ b < w'.heap.size)) w' := by
  obtain ⟨F, hF, hX⟩ := h.at_
  refine ⟨⟨F, hK hF hg.size fun b q => hg.block b (hO hF b q).2 fun e => (hX b (hr b e.symm).1).1 q, fun b q => ?_⟩, h.below.grown hg h.below.size fun k e => (hr k e).2, h.b1, Nat.le_trans h.b2 hg.size⟩
  rcases q with q | ⟨q1, q2⟩
  · exact ⟨(hX b q).1, Nat.lt_of_lt_of_le (hX b q).2 hg.size⟩
  · exact ⟨fun z => by have := (hO hF b z).2; omega, q2⟩

theorem Tryz.infoBoolR : (Tryz.prog.info? 4).map (fun i => (i.zero, i.size, i.bytes)) = some (some (.bool false), 1, 1) := by kernel_rfl
theorem own_block {b m M : Nat} {ty : TypeId} {v : Value} {xs : List Value} (h : w.ownsRow b ty m v M xs) (e : ∀ k, v.ownBlock = some k → w'.heap[k]? = w.heap[k]?) : w'.ownsRow b ty m v M xs := by
  refine ⟨h.1, ?_⟩
  rcases h.2 with h0 | ⟨g, cap, cur, hv, h1, h2, h3⟩
  · exact Or.inl h0
  · exact Or.inr ⟨g, cap, cur, hv, h1, (e g (by rw [hv]; rfl)).trans h2, h3⟩

/-- append of no answer. -/
theorem run_append_zero (w : World) {base : Nat} {v : Value} {n : Nat} {xs : List Value} (hown : w.ownsRow base 4 1 v n xs) (a : Option Addr) (c : Nat) (ty : TypeId) :
    (Builtin.append_ #[60, 60] ty #[v, .slice a 0 c]).run Tryz.prog w = .ok v w := by
  obtain ⟨i0, hi, hz0, hz1, hz2⟩ := info_parts Tryz.infoBoolR
  rcases hown.2 with ⟨rfl, _⟩ | ⟨g, cap, cur, rfl, _, _, hle, _⟩ <;> cases a <;>
  simp [Builtin.append_, underlying, Tryz.underlying60, sizeOf, typeInfo, Builtin.lenOf, Builtin.firstCells, storeCells, loadCells, loadCellsFrom, *]
theorem wpList_append_zero {ops : Array Oper} {rest : List Oper} {o : Oper} {ac : Act} {Q : Exit → Act → World → Prop} (hgd : o.guard = none) (s x : Operand)
    (ho : o.op = .call { callee := .builtin .append, args := #[s, x], argTypes := #[60, 60] })
    (base : Nat) (v : Value) (n : Nat) (xs : List Value) (hs : ac.eval s = v) (hown : w.ownsRow base 4 1 v n xs) (a : Option Addr) (c : Nat) (hx : ac.eval x = .slice a 0 c)
    (h : wpList Tryz.prog ops Q rest (ac.put o.dst v) w) : wpList Tryz.prog ops Q (o :: rest) ac w := by
  refine wpList_plain hgd fun K hK => ?_
  have hrun := run_append_zero w hown a c o.type
  unfold Oper.wp
  simp [execOp, ho, resolve, invoke, builtin, hs, hx, hrun, Result.andThen]
  exact hK _ _ h

theorem ev_from {b o : Nat} (h : EvAt w (some ⟨b, o, none⟩) m f) (hq : q ≤ m) : EvAt w (some ⟨b, o + p * 3, none⟩) (q - p) (fun k => f (p + k)) := fun i hi => by
  obtain ⟨b', o', e, h1, h2, h3⟩ := h (p + i) (by omega)
  simp only [Option.some.injEq, Addr.mk.injEq, and_true] at e
  obtain ⟨rfl, rfl⟩ := e
  rw [Nat.add_mul, ← Nat.add_assoc] at h1 h2 h3
  exact ⟨_, _, rfl, h1, h2, h3⟩
theorem ev_cut (h : EvAt w a m f) (hq : q ≤ m) : EvAt w (Option.map (fun x => x.add (p * 3)) a) (q - p) (fun k => f (p + k)) := fun i hi => by
  obtain ⟨b, o, rfl, h1, h2, h3⟩ := h (p + i) (by omega)
  rw [Nat.add_mul, ← Nat.add_assoc] at h1 h2 h3
  exact ⟨b, o + p * 3, by rw [Option.map_some, Addr.add_lit], h1, h2, h3⟩
set_option maxRecDepth 100000 in
/-- append of answers that stand there. -/
theorem wpList_append_bl {ops : Array Oper} {rest : List Oper} {o : Oper} {ac : Act} {Q : Exit → Act → World → Prop} (hgd : o.guard = none) (s x : Operand)
    (ho : o.op = .call { callee := .builtin .append, args := #[s, x], argTypes := #[60, 60] })
    (base : Nat) (v : Value) (n : Nat) (xs ys : List Bool) (hs : ac.eval s = v) (hown : w.ownsRow base 4 1 v n (As.bools xs)) (oz : Option Addr) (L c : Nat) (hx : ac.eval x = .slice oz L c)
    (hl : ys.length = L) (hb : BlAt w oz ys) (hn : n + L ≤ 200) (hbase : base ≤ w.heap.size)
    (h : ∀ v' w', w'.ownsRow base 4 1 v' (n + L) (As.bools (xs ++ ys)) → w.grownBy w' v.ownBlock → (∀ k, v'.ownBlock = some k → v.ownBlock = some k ∨ (w.heap.size ≤ k ∧ k < w'.heap.size)) → wpList Tryz.prog ops Q rest (ac.put o.dst v') w') : wpList Tryz.prog ops Q (o :: rest) ac w := by
  obtain ⟨z0, hi0, hz0, hz1, hz2⟩ := info_parts Tryz.infoBoolR
  by_cases hL : L = 0
  · subst hL
    obtain rfl : ys = [] := List.length_eq_zero_iff.1 hl
    exact wpList_append_zero hgd s x ho base v n (As.bools xs) hs hown oz c hx (h v w (by rw [List.append_nil]; exact hown) (World.grownBy.refl _ _) fun k e => Or.inl e)
  · obtain ⟨zb, zo, rfl, -⟩ := hb 0 (by omega)
    refine wpList_append_lies _ hgd s x 60 ho base 4 z0 (.bool false) 1 1 Tryz.underlying60 hi0 hz0 hz1 hz2 rfl (by decide) v n (As.bools xs) hs hown ⟨zb, zo, none⟩ L c (As.bools ys) hx ?_ ?_ ?_ (by omega) ?_ ?_ hbase _ rfl ?_
    · rw [Nat.mul_one, ← hl]
      simp [As.bools]
    · intro i u hu
      have hi : i < ys.length := by
        have := (List.getElem?_eq_some_iff.1 hu).1
        simpa [As.bools] using this
      have hu2 : u = .bool (ys.getD i false) := by
        simp only [As.bools, List.getElem?_map, List.getElem?_eq_getElem hi, Option.map_some, Option.some.injEq] at hu
        rw [← hu, List.getD_eq_getElem?_getD, List.getElem?_eq_getElem hi]
        rfl
      obtain ⟨b', o2, e2, hc2⟩ := hb i hi
      simp only [Option.some.injEq, Addr.mk.injEq, and_true] at e2
      obtain ⟨rfl, rfl⟩ := e2
      rw [hu2, Addr.add_lit]
      exact hc2
    · intro u hu
      obtain ⟨y, -, rfl⟩ := List.mem_map.1 hu
      rfl
    · unfold maxLen
      omega
    · omega
    · intro g9 cap9 w9 hown9 hgrow hat hlt9
      refine h _ w9 (by rw [show As.bools (xs ++ ys) = As.bools xs ++ As.bools ys by simp [As.bools]]; exact hown9) hgrow fun k e => ?_
      have : g9 = k := by simpa [Value.ownBlock] using e
      subst this
      exact hat.imp id fun q => ⟨Nat.le_of_eq q.symm, hlt9⟩
theorem bl_at' {a : Option Addr} {l : List Bool} {M : Nat} (h : BlAt w a l) (hM : l.length = M) : As.BoolsAt w a M l := ⟨hM, fun i hi => h i (by omega)⟩

theorem ev_apart' {f : Nat → Ev} (h : EvAt w a m f) (hm : 0 < m) : Apart w X a := fun b o e => Or.inl (by
  obtain ⟨b', o', e', hc, _⟩ := h 0 hm
  rw [e] at e'
  simp only [Option.some.injEq, Addr.mk.injEq, and_true] at e'
  have := World.block_lt_of_cell? _ _ hc
  simp at this
  omega)

end Go.Proofs.YtcfemppdeidjmacGreat.Ds
