/-
  What Neck answers, plain: one answer; the same there and back; by a third node no narrower. Two edges of the statements' own.
-/
import Derived.Test.YtffpkclefgidhaaDoorKg
namespace Go.Proofs.YtffpkclefgidhaaDoor.Sp
open Go.RowKit Go.Deep
set_option linter.unusedVariables false

variable {n : Int} {m : Nat} {hv : Nat → Int × Int × Int} {a b c x y : Int} {e e' : Int}

/-- Where all is right there is a way, or none. -/
structure Answers (n : Int) (m : Nat) (hv : Nat → Int × Int × Int) (a b : Int) (n' a' b' : Nat) : Prop where
  fault : Fault n m hv 0 0
  en : n = n'
  ea : a = a'
  eb : b = b'
  la : a' < n'
  lb : b' < n'

theorem Necks.cases (h : Necks n m hv a b x e) : (e ≠ 0 ∧ x = 0 ∧ ((∃ k, Fault n m hv k e) ∨ (Fault n m hv 0 0 ∧ e = 1 ∧ ¬ ((0 ≤ a ∧ a < n) ∧ 0 ≤ b ∧ b < n)) ∨ ∃ n' a' b', Answers n m hv a b n' a' b' ∧ e = 4 ∧ ¬ Conn (picked m (edOf hv) fun _ => true) a' b')) ∨ (e = 0 ∧ ∃ n' a' b' W, Answers n m hv a b n' a' b' ∧ x = (W : Nat) ∧ Neck m (edOf hv) (wtOf hv) a' b' W) := by
  rcases h with ⟨k, hf, he, hx⟩ | ⟨hf, hr, hx, he⟩ | ⟨n', a', b', hf, h1, h2, h3, h4, h5, h6, hx, he⟩ | ⟨n', a', b', W, hf, h1, h2, h3, h4, h5, h6, h7, hx, he⟩
  · exact Or.inl ⟨he, hx, Or.inl ⟨k, hf⟩⟩
  · exact Or.inl ⟨by rw [he]; decide, hx, Or.inr (Or.inl ⟨hf, he, hr⟩)⟩
  · exact Or.inl ⟨by rw [he]; decide, hx, Or.inr (Or.inr ⟨n', a', b', ⟨hf, h1, h2, h3, h4, h5⟩, he, h6⟩)⟩
  · exact Or.inr ⟨he, n', a', b', W, ⟨hf, h1, h2, h3, h4, h5⟩, hx, h6⟩

theorem Answers.one {n' a' b' n2 a2 b2 : Nat} (h : Answers n m hv a b n' a' b') (k : Answers n m hv a b n2 a2 b2) : n' = n2 ∧ a' = a2 ∧ b' = b2 := by
  have := h.en; have := k.en; have := h.ea; have := k.ea; have := h.eb; have := k.eb
  omega

theorem Answers.inside {n' a' b' : Nat} (h : Answers n m hv a b n' a' b') : (0 ≤ a ∧ a < n) ∧ 0 ≤ b ∧ b < n := by
  have := h.en; have := h.ea; have := h.eb; have := h.la; have := h.lb
  omega

theorem Necks.one (h : Necks n m hv a b x e) (k : Necks n m hv a b y e') : x = y ∧ e = e' := by
  have hc := h.cases
  have kc := k.cases
  clear h k
  rcases hc with ⟨he, hx, hh⟩ | ⟨he, n', a', b', W, h1, hx, h2⟩
  · rcases kc with ⟨ke, kx, kk⟩ | ⟨ke, n2, a2, b2, V, k1, kx, k2⟩
    · refine ⟨hx.trans kx.symm, ?_⟩
      rcases hh with ⟨j, hf⟩ | ⟨hf, e1, hn⟩ | ⟨n', a', b', h1, e1, h2⟩
      · rcases kk with ⟨i, kf⟩ | ⟨kf, e2, kn⟩ | ⟨n2, a2, b2, k1, e2, k2⟩
        · exact (hf.one kf).2
        · exact absurd (hf.one kf).2 he
        · exact absurd (hf.one k1.fault).2 he
      · rcases kk with ⟨i, kf⟩ | ⟨kf, e2, kn⟩ | ⟨n2, a2, b2, k1, e2, k2⟩
        · exact absurd (kf.one hf).2 ke
        · exact e1.trans e2.symm
        · exact absurd k1.inside hn
      · rcases kk with ⟨i, kf⟩ | ⟨kf, e2, kn⟩ | ⟨n2, a2, b2, k1, e2, k2⟩
        · exact absurd (kf.one h1.fault).2 ke
        · exact absurd h1.inside kn
        · exact e1.trans e2.symm
    · exfalso
      rcases hh with ⟨j, hf⟩ | ⟨hf, e1, hn⟩ | ⟨n', a', b', h1, e1, h2⟩
      · exact he (hf.one k1.fault).2
      · exact hn k1.inside
      · obtain ⟨q1, q2, q3⟩ := h1.one k1
        subst q1 q2 q3
        exact h2 (upto_all k2.way)
  · rcases kc with ⟨ke, kx, kk⟩ | ⟨ke, n2, a2, b2, V, k1, kx, k2⟩
    · exfalso
      rcases kk with ⟨j, kf⟩ | ⟨hf, e1, hn⟩ | ⟨n2, a2, b2, k1, e1, k2⟩
      · exact ke (kf.one h1.fault).2
      · exact hn h1.inside
      · obtain ⟨q1, q2, q3⟩ := h1.one k1
        subst q1 q2 q3
        exact k2 (upto_all h2.way)
    · obtain ⟨q1, q2, q3⟩ := h1.one k1
      subst q1 q2 q3
      exact ⟨by rw [hx, kx, h2.one k2], he.trans ke.symm⟩

theorem Necks.flip (h : Necks n m hv a b x e) : Necks n m hv b a x e := by
  rcases h with ⟨k, hf, he, hx⟩ | ⟨hf, hr, hx, he⟩ | ⟨n', a', b', hf, h1, h2, h3, h4, h5, h6, hx, he⟩ | ⟨n', a', b', W, hf, h1, h2, h3, h4, h5, h6, h7, hx, he⟩
  · exact Or.inl ⟨k, hf, he, hx⟩
  · exact Or.inr (Or.inl ⟨hf, fun h => hr ⟨h.2, h.1⟩, hx, he⟩)
  · exact Or.inr (Or.inr (Or.inl ⟨n', b', a', hf, h1, h3, h2, h5, h4, fun h => h6 ((conn_eqv _).symm h), hx, he⟩))
  · refine Or.inr (Or.inr (Or.inr ⟨n', b', a', W, hf, h1, h3, h2, h5, h4, h6.symm, ?_, hx, he⟩))
    rcases h7 with h7 | h7
    · exact Or.inl h7.symm
    · exact Or.inr h7

theorem Necks.third {z v : Int} (h : Necks n m hv a b x 0) (k : Necks n m hv b c z 0) (l : Necks n m hv a c v e) : e = 0 ∧ (v ≤ x ∨ v ≤ z) := by
  have hc := h.cases
  have kc := k.cases
  have lc := l.cases
  clear h k l
  rcases hc with ⟨he, _⟩ | ⟨_, n', a', b', W, h1, hx, h2⟩
  · exact absurd rfl he
  rcases kc with ⟨he, _⟩ | ⟨_, n2, b2, c', V, k1, kx, k2⟩
  · exact absurd rfl he
  obtain rfl : b2 = b' := by have := h1.eb; have := k1.ea; omega
  have hw := h2.third k2
  rcases lc with ⟨he, lx, ll⟩ | ⟨he, n3, a3, c3, U, l1, lx, l2⟩
  · exfalso
    rcases ll with ⟨j, lf⟩ | ⟨hf, e1, hn⟩ | ⟨n3, a3, c3, l1, e1, l2⟩
    · exact he (lf.one h1.fault).2
    · exact hn ⟨h1.inside.1, k1.inside.2⟩
    · obtain rfl : a3 = a' := by have := h1.ea; have := l1.ea; omega
      obtain rfl : c3 = c' := by have := k1.eb; have := l1.eb; omega
      exact l2 (upto_all hw)
  · obtain rfl : a3 = a' := by have := h1.ea; have := l1.ea; omega
    obtain rfl : c3 = c' := by have := k1.eb; have := l1.eb; omega
    have := l2.least hw
    exact ⟨he, by omega⟩

/-- The statement's own two edges. -/
def hvTwo : Nat → Int × Int × Int := fun i => if i = 0 then (0, 1, 5) else (1, 2, 2)

theorem fault_two : Fault 3 2 hvTwo 0 0 := .right (by decide) (by decide) (by decide) fun i hi => by
  match i, hi with
  | 0, _ => exact ⟨by decide, by decide, by decide, by decide, by decide⟩
  | 1, _ => exact ⟨by decide, by decide, by decide, by decide, by decide⟩

theorem neck_two : Neck 2 (edOf hvTwo) (wtOf hvTwo) 0 2 5 := by
  refine ⟨(conn_eqv _).trans (j := 1) (conn_edge (mem_picked.2 ⟨0, by decide, by decide, rfl⟩)) (conn_edge (mem_picked.2 ⟨1, by decide, by decide, rfl⟩)), fun V hV hc => ?_⟩
  have := hc (fun i j => i = 0 ↔ j = 0) ⟨⟨fun _ => Iff.rfl, fun h => h.symm, fun h k => h.trans k⟩, fun e he => ?_⟩
  · simp at this
  · obtain ⟨k, h1, h2, rfl⟩ := mem_picked.1 he
    match k, h1 with
    | 0, _ =>
      have : wtOf hvTwo 0 ≤ V := by simpa using h2
      have h5 : wtOf hvTwo 0 = 5 := rfl
      omega
    | 1, _ => show (1 = 0 ↔ 2 = 0); simp

theorem necks_two (h : Necks 3 2 hvTwo 0 2 x e) : x = 5 ∧ e = 0 :=
  h.one (.way 3 0 2 5 fault_two rfl rfl rfl (by decide) (by decide) neck_two (Or.inr ⟨0, by decide, rfl⟩))

theorem heavy_two (w : World) : HeavyAt (w.alloc (.cells #[.int .i64 0, .int .i64 1, .int .i64 5, .int .i64 1, .int .i64 2, .int .i64 2] 54)) (some ⟨w.heap.size, 0, none⟩) 2 hvTwo := fun i hi => by
  match i, hi with
  | 0, _ => exact ⟨w.heap.size, 0, rfl, by simp [hvTwo], by simp [hvTwo], by simp [hvTwo]⟩
  | 1, _ => exact ⟨w.heap.size, 0, rfl, by simp [hvTwo], by simp [hvTwo], by simp [hvTwo]⟩

end Go.Proofs.YtffpkclefgidhaaDoor.Sp
