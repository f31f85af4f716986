/-
  part and Back of package union.
-/
import Derived.Test.YtcfemppdeidjmacGreatRa1
import Derived.Deep.LoopGhost
namespace Go.Proofs.YtcfemppdeidjmacGreat.Un
open Go.RowKit Go.Deep
set_option linter.unusedVariables false

/-- The last of an own row is taken off. -/
theorem own_less {w : World} {base : Nat} {e : TypeId} {v : Value} {m : Nat} {xs : List Value} {x : Value} (h : w.ownsRow base e 1 v (m + 1) (xs ++ [x])) :
    ∃ gj cap, v = .slice (some ⟨gj, 0, none⟩) (m + 1) cap ∧ m + 1 ≤ cap ∧ cap ≤ maxLen ∧ w.cell? ⟨gj, m, none⟩ = some x ∧ w.ownsRow base e 1 (.slice (some ⟨gj, 0, none⟩) m cap) m xs := by
  have hl : xs.length = m := by have := h.1; simp at this; omega
  rcases h.2 with ⟨_, h0⟩ | ⟨g, cap, cur, hv, h1, h2, h3, h4, h5, h6⟩
  · omega
  · refine ⟨g, cap, hv, h3, h4, ?_, ⟨by simpa using hl, Or.inr ⟨g, cap, cur, rfl, h1, h2, by omega, h4, h5, ?_⟩⟩⟩
    · rw [cell_of_row w g m cur e _ h2]
      have hx : (cur.toList.take ((m + 1) * 1))[m]? = (xs ++ [x])[m]? := by rw [h6]
      rw [Nat.mul_one, List.getElem?_take, if_pos (by omega), List.getElem?_append_right (by omega), hl, Nat.sub_self] at hx
      simpa using hx
    · have : (cur.toList.take ((m + 1) * 1)).take m = (xs ++ [x]).take m := by rw [h6]
      rw [List.take_take, List.take_append_of_le_length (by omega), List.take_of_length_le (Nat.le_of_eq hl)] at this
      rw [← this]
      congr 1
      omega

/-- What part leaves. -/
theorem Lays.parted {base n : Nat} {w : World} {g ba bs l q gj cap : Nat} {L : List (Nat × Nat)} (h : Lays base n w g ba bs (.slice (some ⟨gj, 0, none⟩) (L.length + 1) cap) ((l, q) :: L))
    (ho : w.ownsRow base 3 1 (.slice (some ⟨gj, 0, none⟩) L.length cap) L.length (fell L)) :
    Lays base n (((w.setCell ⟨g, 2, none⟩ (.slice (some ⟨gj, 0, none⟩) L.length cap)).setCell ⟨bs, q, none⟩ (.int .i64 (cz L q : Nat))).setCell ⟨ba, l, none⟩ (.int .i64 (l : Nat))).drew g ba bs (.slice (some ⟨gj, 0, none⟩) L.length cap) L := by
  obtain ⟨a1, a2, a3⟩ := h.apart gj rfl
  obtain ⟨k1, k2, k3, k4, k5, k6⟩ := h.linked
  refine ⟨?_, ?_, ?_, ?_, k6, h.n1, h.n60, h.ne1, h.ne2, h.ne3, (fun k e => by cases e; exact ⟨a1, a2, a3⟩), h.bg, h.bb, h.bz⟩
  · refine (((h.st.set 2 _).setOther (a := ⟨bs, q, none⟩) (by exact h.ne2) _).setOther (a := ⟨ba, l, none⟩) (by exact h.ne1) _).drew.congr fun i hi => ?_
    by_cases e : i = 2
    · subst e; rfl
    · simp only [if_neg e]
      unfold parts3
      have : i = 0 ∨ i = 1 := by omega
      rcases this with rfl | rfl <;> rfl
  · refine (((h.above.setOther (a := ⟨g, 2, none⟩) (fun e => h.ne1 e.symm) _).setOther (a := ⟨bs, q, none⟩) (by exact h.ne3) _).set l _).drew.congr fun i hi => ?_
    by_cases e : i = l
    · subst e; simp [ab_root k6 i k4]
    · simp [e, ab]
  · refine (((h.size.setOther (a := ⟨g, 2, none⟩) (fun e => h.ne2 e.symm) _).set q _).setOther (a := ⟨ba, l, none⟩) (fun e => h.ne3 e.symm) _).drew.congr fun i hi => ?_
    by_cases e : i = q
    · subst e; simp
    · simp [e, cz]
  · exact ownsRow_setCell_other (ownsRow_setCell_other (ownsRow_setCell_other ho (a := ⟨g, 2, none⟩) (by simp [Value.ownBlock]; exact a1) _) (a := ⟨bs, q, none⟩) (by simp [Value.ownBlock]; exact a3) _) (a := ⟨ba, l, none⟩) (by simp [Value.ownBlock]; exact a2) _

theorem moves_parted {g ba bs l q : Nat} {vj vj' u1 u2 u3 : Value} (w : World) (hv : vj'.ownBlock = vj.ownBlock) :
    Moves (Foot g ba bs vj) w (((w.setCell ⟨g, 2, none⟩ u1).setCell ⟨bs, q, none⟩ u2).setCell ⟨ba, l, none⟩ u3).drew (Foot g ba bs vj') := by
  refine ⟨rfl, rfl, rfl, by simp [World.setCell, World.drew], fun k hk hn => ?_, fun k hk => Or.inl ?_⟩
  · show (((w.setCell ⟨g, 2, none⟩ u1).setCell ⟨bs, q, none⟩ u2).setCell ⟨ba, l, none⟩ u3).heap[k]? = _
    rw [Below.heap_setCell _ _ _ _ (fun e => hn (Or.inr (Or.inl e))), Below.heap_setCell _ _ _ _ (fun e => hn (Or.inr (Or.inr (Or.inl e)))), Below.heap_setCell _ _ _ _ (fun e => hn (Or.inl e))]
  · rcases hk with h | h | h | h
    · exact Or.inl h
    · exact Or.inr (Or.inl h)
    · exact Or.inr (Or.inr (Or.inl h))
    · exact Or.inr (Or.inr (Or.inr (hv.symm.trans h)))

set_option maxRecDepth 100000 in
set_option maxHeartbeats 1000000 in
theorem part_any {base n : Nat} {w : World} {g ba bs l q : Nat} {vj : Value} {L : List (Nat × Nat)} (h : Lays base n w g ba bs vj ((l, q) :: L)) :
    Calls Tryz.prog 194 #[.pointer (some ⟨g, 0, none⟩)] w fun e w' => ∃ v vj', e = .returned v ∧ Lays base n w' g ba bs vj' L ∧ Moves (Foot g ba bs vj) w w' (Foot g ba bs vj') := by
  have hj := h.joined
  rw [fell_cons] at hj
  obtain ⟨gj, cap, rfl, hc1, hc2, hcl, ho⟩ := own_less hj
  clear hj
  have HD := h.parted ho
  have HM := moves_parted (g := g) (ba := ba) (bs := bs) (l := l) (q := q) (vj := .slice (some ⟨gj, 0, none⟩) (L.length + 1) cap) (vj' := .slice (some ⟨gj, 0, none⟩) L.length cap) (u1 := .slice (some ⟨gj, 0, none⟩) L.length cap) (u2 := .int .i64 (cz L q : Nat)) (u3 := .int .i64 (l : Nat)) w rfl
  obtain ⟨k1, k2, k3, k4, k5, k6⟩ := h.linked
  have c2 := h.c2
  have fz := h.st.frozen 2
  have hn := h.n60
  have hlen : L.length < 60 := by have := links_lt k6 h.n1; omega
  have b1 := cz_two k6 k1 k2 k4 k5 k3
  -- the memory behind the list is cut
  have s0 : (w.setCell ⟨g, 2, none⟩ (.slice (some ⟨gj, 0, none⟩) L.length cap)).cell? ⟨g, 0, none⟩ = some (.slice (some ⟨ba, 0, none⟩) n n) := (h.st.set 2 _).cell (i := 0) (by omega)
  have s1 : (w.setCell ⟨g, 2, none⟩ (.slice (some ⟨gj, 0, none⟩) L.length cap)).cell? ⟨g, 1, none⟩ = some (.slice (some ⟨bs, 0, none⟩) n n) := (h.st.set 2 _).cell (i := 1) (by omega)
  have ra := h.above.setOther (a := ⟨g, 2, none⟩) (fun e => h.ne1 e.symm) (.slice (some ⟨gj, 0, none⟩) L.length cap)
  have rz := h.size.setOther (a := ⟨g, 2, none⟩) (fun e => h.ne2 e.symm) (.slice (some ⟨gj, 0, none⟩) L.length cap)
  have s2 : (w.setCell ⟨g, 2, none⟩ (.slice (some ⟨gj, 0, none⟩) L.length cap)).cell? ⟨ba, l, none⟩ = some (.int .i64 (q : Nat)) := by rw [ra.cell k1]; simp [ab]
  have s3 : (w.setCell ⟨g, 2, none⟩ (.slice (some ⟨gj, 0, none⟩) L.length cap)).cell? ⟨bs, q, none⟩ = some (.int .i64 ((cz L q + cz L l : Nat) : Int)) := by rw [rz.cell k2]; simp [cz]
  have s4 : (w.setCell ⟨g, 2, none⟩ (.slice (some ⟨gj, 0, none⟩) L.length cap)).cell? ⟨bs, l, none⟩ = some (.int .i64 ((cz L l : Nat) : Int)) := by rw [rz.cell k1]; simp [cz, k3]
  have f1 := ra.frozen l
  have f2 := rz.frozen q
  have g0 : ((w.setCell ⟨g, 2, none⟩ (.slice (some ⟨gj, 0, none⟩) L.length cap)).setCell ⟨bs, q, none⟩ (.int .i64 (cz L q : Nat))).cell? ⟨g, 0, none⟩ = some (.slice (some ⟨ba, 0, none⟩) n n) :=
    ((h.st.set 2 _).setOther (a := ⟨bs, q, none⟩) (by exact h.ne2) _).cell (i := 0) (by omega)
  have g1 : ((w.setCell ⟨g, 2, none⟩ (.slice (some ⟨gj, 0, none⟩) L.length cap)).setCell ⟨bs, q, none⟩ (.int .i64 (cz L q : Nat))).cell? ⟨ba, l, none⟩ = some (.int .i64 (q : Nat)) := by
    rw [(ra.setOther (a := ⟨bs, q, none⟩) (by exact h.ne3) _).cell k1]; simp [ab]
  have g2 := (ra.setOther (a := ⟨bs, q, none⟩) (by exact h.ne3) (.int .i64 (cz L q : Nat))).frozen l
  have i0 : (0 : Int) ≤ (l : Int) := by omega
  have i1 : (l : Int) < (n : Int) := by omega
  have i2 : (0 : Int) ≤ (q : Int) := by omega
  have i3 : (q : Int) < (n : Int) := by omega
  have E : Hid (((cz L q + cz L l : Nat) : Int) - ((cz L l : Nat) : Int) = ((cz L q : Nat) : Int)) := show _ = _ by omega
  have hsl : ∀ W, (Instr.slice 33 (.slice (some ⟨gj, 0, none⟩) (L.length + 1) cap) none (some (.int .i64 ((L.length : Nat) : Int))) none).run Tryz.prog W = .ok (.slice (some ⟨gj, 0, none⟩) L.length cap) W := fun W => by
    rw [run_slice_h (w := W) 33 _ (L.length + 1) cap Tryz.underlying33 .i64 _ (by omega) (by omega)]
    go_simp
  clear ra rz h ho
  go_enter Tryz.func194, Tryz.ntmps194
  go_wp2_with fail
  generalize w.setCell ⟨g, 2, none⟩ (.slice (some ⟨gj, 0, none⟩) L.length cap) = w1 at *
  go_region
  all_goals
    generalize w1.setCell ⟨bs, q, none⟩ (.int .i64 (cz L q : Nat)) = w2 at *
    go_wp2_with fail
    go_end0
    exact ⟨_, _, rfl, HD, HM⟩

set_option maxRecDepth 100000 in
set_option maxHeartbeats 1000000 in
theorem back_any {base n : Nat} {w : World} {g ba bs : Nat} {vj : Value} {L : List (Nat × Nat)} (h : Lays base n w g ba bs vj L) (k : Nat) (hk : k ≤ L.length) :
    Calls Tryz.prog 163 #[.pointer (some ⟨g, 0, none⟩), .int .i64 (k : Nat)] w fun e w' => ∃ vj' M L', e = .returned .nilIface ∧ L = M ++ L' ∧ L'.length = k ∧ Lays base n w' g ba bs vj' L' ∧ Moves (Foot g ba bs vj) w w' (Foot g ba bs vj') := by
  obtain ⟨a, c, rfl⟩ := own_form h.joined
  have c2 := h.c2
  have hn := h.n60
  have hlen : L.length < 60 := by have := links_lt h.linked h.n1; omega
  have t0 : decide ((k : Int) < 0) = false := by simp
  have t1 : decide (L.length < k) = false := by simp; omega
  go_enter Tryz.func163, Tryz.ntmps163
  go_wp2_with fail
  clear c2
  go_loopg [24] L.length (fun m _ wr => ∃ vj' M L', m = L'.length ∧ L = M ++ L' ∧ k ≤ L'.length ∧ Lays base n wr g ba bs vj' L' ∧ Moves (Foot g ba bs (.slice a L.length c)) w wr (Foot g ba bs vj'))
  case atStart => exact ⟨_, [], L, rfl, rfl, hk, h, Moves.of_below (Below.refl _ _)⟩
  case round =>
    clear h hk
    obtain ⟨vj', M, L', rfl, hL, hk, h, hm⟩ := hrel
    have HL : Hid (L = M ++ L') := hL
    have hlen' : L'.length < 60 := by have := links_lt h.linked h.n1; omega
    clear hL
    obtain ⟨a', c', rfl⟩ := own_form h.joined
    have c2 := h.c2
    by_cases hgt : k < L'.length
    · cases L' with
      | nil => simp at hgt
      | cons x L' =>
        obtain ⟨l, q⟩ := x
        simp only [List.length_cons] at *
        go_wp2_with fail
        refine (part_any h).mono ?_
        rintro e w' ⟨v, vj', rfl, h', hm'⟩
        clear c2 h
        go_wp2_with fail
        go_roundg L'.length
        case measure => omega
        case rel => exact ⟨_, M ++ [(l, q)], L', rfl, by rw [HL.out]; simp, by omega, h', hm.trans hm'⟩
    · go_wp2_with fail
      go_ret
      exact ⟨_, M, L', rfl, HL.out, by omega, h, hm⟩

end Go.Proofs.YtcfemppdeidjmacGreat.Un
