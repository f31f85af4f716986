/-
  Span of package span: the closure that is told of each edge taken puts its place into a list; this is sorted.
-/
import Derived.Test.YtffpkclefgidhaaKg
import Derived.RangeFuncBox
namespace Go.Proofs.Ytffpkclefgidhaa.Sp
open Go.RowKit Go.Deep Go.Shelf Go.Sort Go.Lib
open Go.RowKit (Below)
set_option linter.unusedVariables false

variable {m n : Nat} {ed : Nat → Nat × Nat} {wt : Nat → Nat} {t : Nat → Bool}

/-- Places as they lie in a list. -/
def ints (l : List Nat) : List Value := l.map fun k => Value.int .i64 ((k : Nat) : Int)

theorem ints_len (l : List Nat) : (ints l).length = l.length := List.length_map ..

/-- What the closure of Span keeps: the places that it was told of. -/
def SClo (B : Nat) (l : List Nat) (st : Bool) (w : World) (C : Nat → Prop) : Prop :=
  ∃ v, w.heap[B]? = some (.cells #[v] 22 (0, 0)) ∧ w.ownsRow (B + 1) 3 1 v l.length (ints l) ∧ st = true ∧ C = fun k => k = B ∨ v.ownBlock = some k

theorem box_lt {w : World} {B : Nat} {v : Value} (h : w.heap[B]? = some (.cells #[v] 22 (0, 0))) : B < w.heap.size := (Array.getElem?_eq_some_iff.1 h).1

set_option maxHeartbeats 1000000 in
theorem span1_any {B i : Nat} {w : World} {v : Value} {l : List Nat} (hB : w.heap[B]? = some (.cells #[v] 22 (0, 0))) (hrow : w.ownsRow (B + 1) 3 1 v l.length (ints l)) (hl : l.length < 1000) (gv : Value) :
    Calls Try.prog 63 #[.int .i64 ((i : Nat) : Int), gv, .pointer (some ⟨B, 0, none⟩)] w fun e w' => e = .returned (.bool true) ∧ ∃ C', Un.Moves (fun k => k = B ∨ v.ownBlock = some k) w w' C' ∧ SClo B (l ++ [i]) true w' C' := by
  obtain ⟨i0, hi0, hz0, hz1, hz2⟩ := info_parts Un.Try.infoInt
  have cB : w.cell? ⟨B, 0, none⟩ = some v := by simp [World.cell?, hB]
  have fB : w.frozen? ⟨B, 0, none⟩ = false := by simp [World.frozen?, hB]
  have hlt := box_lt hB
  have HO : Hid (w.ownsRow (B + 1) 3 1 v l.length (ints l)) := hrow
  have HB : Hid (w.heap[B]? = some (.cells #[v] 22 (0, 0))) := hB
  clear hrow hB
  go_enter Try.func63, Try.ntmps63
  go_wp2_with (first
    | (at_builtin; refine wpList_append_lies _ rfl (.tmp 6) (.tmp 8) 22 rfl (B + 1) 3 i0 (.int .i64 0) 1 8 Try.underlying22 hi0 hz0 hz1 hz2 rfl (by decide) v l.length (ints l) rfl (HO.out.alloc _) ⟨w.heap.size, 0, none⟩ 1 1 [.int .i64 ((i : Nat) : Int)] rfl rfl ?c1 ?c2 (by decide) ?c3 ?c4 ?c5 _ rfl ?_))
  case c1 => exact cell_one_new _ _ _
  case c2 => intro u hu; simp at hu; subst hu; rfl
  case c3 => unfold maxLen; omega
  case c4 => omega
  case c5 => simp; omega
  intro g1 cap1 w2 hown hgrow hat hlt2
  have hne : some B ≠ v.ownBlock := fun e => by have := (Un.own_heap HO.out e.symm).1; omega
  have hB2 : w2.heap[B]? = some (.cells #[v] 22 (0, 0)) := by
    rw [hgrow.block B (by simp; omega) hne, heap_alloc_old _ _ hlt]
    exact HB.out
  have cB2 : w2.cell? ⟨B, 0, none⟩ = some v := by simp [World.cell?, hB2]
  have fB2 : w2.frozen? ⟨B, 0, none⟩ = false := by simp [World.frozen?, hB2]
  have HF : Hid (∃ C', Un.Moves (fun k => k = B ∨ v.ownBlock = some k) w (w2.setCell ⟨B, 0, none⟩ (.slice (some ⟨g1, 0, none⟩) (l.length + 1) cap1)) C' ∧ SClo B (l ++ [i]) true (w2.setCell ⟨B, 0, none⟩ (.slice (some ⟨g1, 0, none⟩) (l.length + 1) cap1)) C') := by
    have hg1 : B + 1 ≤ g1 := (Un.own_heap hown (k := g1) rfl).1
    refine ⟨fun k => k = B ∨ k = g1, ⟨hgrow.os, hgrow.tape, hgrow.output, ?_, fun k hk hn => ?_, fun k hk => ?_⟩, .slice (some ⟨g1, 0, none⟩) (l.length + 1) cap1, one_setCell hB2, ?_, rfl, ?_⟩
    · have := hgrow.size; simp at this ⊢; omega
    · rw [Below.heap_setCell _ _ _ _ (fun e => hn (Or.inl e)), hgrow.block k (by simp; omega) (fun e => hn (Or.inr e.symm)), heap_alloc_old _ _ hk]
    · rcases hk with rfl | rfl
      · exact Or.inl (Or.inl rfl)
      · rcases hat with h1 | h1
        · exact Or.inl (Or.inr h1)
        · right; rw [h1]; simp
    · have h1 : w2.ownsRow (B + 1) 3 1 (.slice (some ⟨g1, 0, none⟩) (l.length + 1) cap1) (l ++ [i]).length (ints (l ++ [i])) := by
        have e1 : (l ++ [i]).length = l.length + 1 := by simp
        have e2 : ints (l ++ [i]) = ints l ++ [.int .i64 ((i : Nat) : Int)] := by simp [ints]
        rw [e1, e2]
        exact hown
      exact Un.ownsRow_keep h1 (fun k hk => Below.heap_setCell _ _ _ _ (by
        have e : k = g1 := by simpa [Value.ownBlock] using hk.symm
        show k ≠ B
        omega))
    · funext k
      simp only [Value.ownBlock, Option.some.injEq, eq_iff_iff]
      constructor
      · rintro (h | h)
        · exact Or.inl h
        · exact Or.inr h.symm
      · rintro (h | h)
        · exact Or.inl h
        · exact Or.inr h.symm
  clear hown hgrow hat hlt2
  go_wp2_with fail
  go_ret
  exact ⟨rfl, HF.out⟩

theorem span_clos {B : Nat} (hm : m ≤ 200) : Clos n m ed t 63 #[.pointer (some ⟨B, 0, none⟩)] (SClo B) (fun _ => True) (fun _ => False) where
  enters := enters_of Try.func63 (by kernel_rfl) rfl
  lt := by
    rintro l b w C ⟨v, h1, h2, _, rfl⟩ k hk
    rcases hk with rfl | hk
    · exact box_lt h1
    · exact (Un.own_heap h2 hk).2
  keep := by
    rintro l b w w' C F F' ⟨v, h1, h2, h3, rfl⟩ hm hd
    refine ⟨v, (hm.block B (box_lt h1) (hd B (Or.inl rfl))).trans h1, Un.ownsRow_keep h2 (fun k hk => hm.block k (Un.own_heap h2 hk).2 (hd k (Or.inr hk))), h3, rfl⟩
  start := trivial
  skip := fun _ _ => trivial
  call := by
    rintro P i w C base g F L hP hi ht ⟨v, h1, h2, _, rfl⟩ hU hd hbs hcon hG
    have hl : (P.filter t).length < 1000 := by have := List.length_filter_le t P; omega
    refine (span1_any (i := i) h1 h2 hl _).mono ?_
    rintro e w' ⟨rfl, C', hM, hC⟩
    exact ⟨true, C', rfl, hM, hC, fun _ => trivial, fun e => by cases e⟩

end Go.Proofs.Ytffpkclefgidhaa.Sp
