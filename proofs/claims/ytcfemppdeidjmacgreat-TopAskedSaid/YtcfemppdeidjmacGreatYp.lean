/-
  Events that may all be done, plain: what a desk comes to of them, piece by piece, is what is answered of them at once.
-/
import Derived.Test.YtcfemppdeidjmacGreatYb
import Derived.Test.YtcfemppdeidjmacGreatF19
namespace Go.Proofs.YtcfemppdeidjmacGreat.Ds
open Go.Proofs.YtcfemppdeidjmacGreat.Br
open Go.Proofs.YtcfemppdeidjmacGreat.As (here eOf May Ans)
set_option linter.unusedVariables false

variable {f : Nat → Ev} {n m p q : Nat} {A A' B : List (Nat × Nat)} {o o' l : List Bool} {x : Int}

theorem here_len (f : Nat → Ev) : ∀ t, (here f t).length ≤ t
  | 0 => Nat.le_refl _
  | t + 1 => by
    have ih := here_len f t
    rw [As.here_succ]
    split
    · simp; omega
    · split
      · have := List.length_erase_le (a := eOf f t) (l := here f t)
        omega
      · omega

theorem pr_eOf {k : Nat} (h : May n f k) : pr (f k).2.1 (f k).2.2 = eOf f k := by
  have h1 := h.a
  have h2 := h.b
  exact Prod.ext (by show min (f k).2.1.toNat (f k).2.2.toNat = (min (f k).2.1 (f k).2.2).toNat; omega) (by show max (f k).2.1.toNat (f k).2.2.toNat = (max (f k).2.1 (f k).2.2).toNat; omega)

theorem up_ins {e : Nat × Nat} : ∀ {E : List (Nat × Nat)}, Up E → e ∉ E → ∃ A B, E = A ++ B ∧ Up (A ++ e :: B)
  | [], _, _ => ⟨[], [], rfl, List.pairwise_singleton _ _⟩
  | x :: E, hu, hn => by
    obtain ⟨h1, h2⟩ := List.pairwise_cons.1 hu
    have hne : e ≠ x := fun q => hn (by rw [q]; exact List.mem_cons_self)
    by_cases hlt : e.1 < x.1 ∨ e.1 = x.1 ∧ e.2 < x.2
    · refine ⟨[], x :: E, rfl, List.pairwise_cons.2 ⟨fun y hy => ?_, hu⟩⟩
      rcases List.mem_cons.1 hy with rfl | hy
      · exact hlt
      · have := h1 y hy
        omega
    · obtain ⟨A, B, rfl, h3⟩ := up_ins h2 (fun q => hn (List.mem_cons_of_mem _ q))
      refine ⟨x :: A, B, rfl, List.pairwise_cons.2 ⟨fun y hy => ?_, h3⟩⟩
      have hxe : x.1 < e.1 ∨ x.1 = e.1 ∧ x.2 < e.2 := by
        have : ¬ (x.1 = e.1 ∧ x.2 = e.2) := fun q => hne (Prod.ext q.1.symm q.2.symm)
        omega
      rcases List.mem_append.1 hy with hy | hy
      · exact h1 y (List.mem_append_left _ hy)
      · rcases List.mem_cons.1 hy with rfl | hy
        · exact hxe
        · exact h1 y (List.mem_append_right _ hy)

/-- What they come to. -/
theorem valid_all (hm : m ≤ 120) (hv : ∀ j, j < m → May n f j) : ∀ p, p ≤ m → ∃ A o, All n (evl f p) [] 0 A o ∧ Up A ∧ A.Perm (here f p) ∧ Ans f p o
  | 0, _ => ⟨[], [], ⟨rfl, rfl, rfl⟩, List.Pairwise.nil, List.Perm.refl _, As.Ans.nil f⟩
  | p + 1, hp => by
    obtain ⟨A, o, h1, h2, h3, h4⟩ := valid_all hm hv p (by omega)
    have hmay := hv p (by omega)
    have hpr := pr_eOf hmay
    have hl : A.length < 200 := by have := here_len f p; rw [h3.length_eq]; omega
    have hw : (f p).1 = 1 ∨ (f p).1 = 2 ∨ (f p).1 = 3 := by have := hmay.what; omega
    rcases hw with hw | hw | hw
    · have hn : eOf f p ∉ A := fun z => hmay.add hw (h3.mem_iff.1 z)
      obtain ⟨P, Q, rfl, hu⟩ := up_ins h2 hn
      have hperm : (P ++ eOf f p :: Q).Perm (eOf f p :: (P ++ Q)) := List.perm_middle
      have h5 : One n (P ++ Q) (f p) 0 (P ++ eOf f p :: Q) [] := Or.inr (Or.inr (Or.inr (Or.inr (Or.inl ⟨⟨hw, hmay.a, hmay.b⟩, hmay.ne (by omega), by rw [hpr]; exact hn, hl, rfl, hu, by rw [hpr]; exact hperm, rfl⟩))))
      refine ⟨_, _, more_all h1 h5, hu, ?_, ?_⟩
      · rw [As.here_add hw]
        exact hperm.trans ((h3.cons _).trans (List.perm_append_comm (l₁ := [eOf f p])))
      · rw [List.append_nil]
        exact h4.other (by omega)
    · have hn : eOf f p ∈ A := h3.mem_iff.2 (hmay.drop hw)
      obtain ⟨P, Q, rfl⟩ := List.append_of_mem hn
      have hu : Up (P ++ Q) := h2.sublist (List.Sublist.append_left (List.sublist_cons_self _ Q) P)
      have hperm : (P ++ eOf f p :: Q).Perm (eOf f p :: (P ++ Q)) := List.perm_middle
      have h5 : One n (P ++ eOf f p :: Q) (f p) 0 (P ++ Q) [] := Or.inr (Or.inr (Or.inr (Or.inr (Or.inr (Or.inr (Or.inl ⟨⟨hw, hmay.a, hmay.b⟩, by rw [hpr]; exact hn, rfl, hu, by rw [hpr]; exact hperm, rfl⟩))))))
      refine ⟨_, _, more_all h1 h5, hu, ?_, ?_⟩
      · rw [As.here_drop hw]
        have := (hperm.symm.trans h3).erase (eOf f p)
        rwa [List.erase_cons_head] at this
      · rw [List.append_nil]
        exact h4.other (by omega)
    · have hj : ∃ z : Bool, z = true ↔ Jn A (f p).2.1 (f p).2.2 := by
        by_cases z : Jn A (f p).2.1 (f p).2.2
        · exact ⟨true, fun _ => z, fun _ => rfl⟩
        · exact ⟨false, fun q => (by cases q), fun q => absurd q z⟩
      obtain ⟨z, hz⟩ := hj
      have h5 : One n A (f p) 0 A [z] := Or.inr (Or.inr (Or.inr (Or.inr (Or.inr (Or.inr (Or.inr ⟨⟨hw, hmay.a, hmay.b⟩, rfl, rfl, z, hz, rfl⟩))))))
      refine ⟨_, _, more_all h1 h5, h2, ?_, h4.ask hw (hz.trans (conn_perm h3 _ _))⟩
      rw [As.here_ask (by omega) (by omega)]
      exact h3

theorem all_split : ∀ {l r : List Ev} {A B : List (Nat × Nat)} {o : List Bool}, All n (l ++ r) A 0 B o → ∃ C o1 o2, All n l A 0 C o1 ∧ All n r C 0 B o2 ∧ o = o1 ++ o2
  | [], r, A, B, o, h => ⟨A, [], o, ⟨rfl, rfl, rfl⟩, h, rfl⟩
  | e :: l, r, A, B, o, h => by
    rcases h with ⟨h1, _⟩ | ⟨C, o1, o2, h1, h2, h3⟩
    · exact absurd rfl h1
    · obtain ⟨C', p1, p2, g1, g2, g3⟩ := all_split h2
      exact ⟨C', o1 ++ p1, p2, Or.inr ⟨C, o1, p1, h1, g1, rfl⟩, g2, by rw [h3, g3, List.append_assoc]⟩

theorem evl_cut (h : p ≤ q) : evl f q = evl f p ++ evl (fun i => f (p + i)) (q - p) := by
  obtain ⟨k, rfl⟩ : ∃ k, q = p + k := ⟨q - p, by omega⟩
  rw [Nat.add_sub_cancel_left]
  unfold evl
  rw [List.range_add, List.map_append, List.map_map]
  rfl

/-- A piece more. -/
theorem piece_does (hm : m ≤ 120) (hv : ∀ j, j < m → May n f j) (h1 : p ≤ q) (h2 : q ≤ m) (h : All n (evl f p) [] 0 A o) (hd : Does n A (evl (fun i => f (p + i)) (q - p)) x A' o') : x = 0 ∧ All n (evl f q) [] 0 A' (o ++ o') := by
  obtain ⟨A2, o2, g1, g2, _, _⟩ := valid_all hm hv q h2
  have g3 := g1
  rw [evl_cut h1] at g3
  obtain ⟨C, p1, p2, k1, k2, k3⟩ := all_split g3
  obtain ⟨rfl, rfl⟩ := (k1.one h List.Pairwise.nil).2 rfl
  have k4 := done_does k2 (by omega)
  obtain ⟨rfl, rfl, rfl⟩ := hd.one k4 (h.rises List.Pairwise.nil)
  exact ⟨rfl, by rw [← k3]; exact g1⟩

theorem all_ans (hm : m ≤ 120) (hv : ∀ j, j < m → May n f j) (h : All n (evl f m) [] 0 A o) (ha : Ans f m l) : o = l := by
  obtain ⟨A2, o2, g1, _, _, g4⟩ := valid_all hm hv m (Nat.le_refl _)
  exact (h.one g1 List.Pairwise.nil).2 rfl |>.2.trans (g4.one ha)

theorem all_len (hm : m ≤ 120) (hv : ∀ j, j < m → May n f j) (hp : p ≤ m) (h : All n (evl f p) [] 0 A o) : o.length ≤ p := by
  obtain ⟨A2, o2, g1, _, _, g4⟩ := valid_all hm hv p hp
  rw [(h.one g1 List.Pairwise.nil).2 rfl |>.2, g4.len]
  unfold As.places
  exact Nat.le_trans (List.length_filter_le _ _) (by simp)

end Go.Proofs.YtcfemppdeidjmacGreat.Ds
