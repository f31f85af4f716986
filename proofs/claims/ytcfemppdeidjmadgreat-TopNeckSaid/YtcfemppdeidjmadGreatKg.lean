/-
  Neck of package span, whatever it is asked.
-/
import Derived.Test.YtcfemppdeidjmadGreatKf
namespace Go.Proofs.YtcfemppdeidjmadGreat.Sp
open Go.RowKit Go.Deep
set_option linter.unusedVariables false

theorem errV_some {e : Int} (h : e ≠ 0) : errV e = .iface 66 (.int .i64 e) := by unfold errV; rw [if_neg h]
theorem errV_none : errV 0 = .nilIface := by unfold errV; rw [if_pos rfl]

/-- What Neck answers, and that it leaves all that was. -/
def NeckPost (n : Int) (m : Nat) (hv : Nat → Int × Int × Int) (a b : Int) (w : World) (e : Ending) (w' : World) : Prop :=
  ∃ x err : Int, e = .returned (.tuple #[.int .i64 x, errV err]) ∧ Necks n m hv a b x err ∧ Below w.heap.size w w'

theorem two_boxes (w : World) (x y : Value) : Below w.heap.size w ((w.alloc (.cells #[x] 3)).alloc (.cells #[y] 3)) ∧ ((w.alloc (.cells #[x] 3)).alloc (.cells #[y] 3)).cell? ⟨w.heap.size, 0, none⟩ = some x ∧ ((w.alloc (.cells #[x] 3)).alloc (.cells #[y] 3)).cell? ⟨w.heap.size + 1, 0, none⟩ = some y ∧ ((w.alloc (.cells #[x] 3)).alloc (.cells #[y] 3)).heap.size = w.heap.size + 1 + 1 := by
  refine ⟨((Below.refl _ _).alloc (Nat.le_refl _) _).alloc (by simp) _, ?_, ?_, by simp⟩
  · rw [World.cell?_alloc_lt _ _ ⟨w.heap.size, 0, none⟩ (by simp)]; simp
  · simp

/-- The two variables that Neck lays for its closure. -/
structure Laid2 (w W : World) : Prop where
  below : Below w.heap.size w W
  last : W.cell? ⟨w.heap.size, 0, none⟩ = some (.int .i64 0)
  fl : W.frozen? ⟨w.heap.size, 0, none⟩ = false
  joined : W.cell? ⟨w.heap.size + 1, 0, none⟩ = some (.bool false)
  fj : W.frozen? ⟨w.heap.size + 1, 0, none⟩ = false
  size : W.heap.size = w.heap.size + 1 + 1

theorem laid2 (w : World) : Laid2 w ((w.alloc (.cells #[.int .i64 0] 3)).alloc (.cells #[.bool false] 4)) := by
  refine ⟨((Below.refl _ _).alloc (Nat.le_refl _) _).alloc (by simp) _, ?_, ?_, by simp, by simp, by simp⟩
  · rw [World.cell?_alloc_lt _ _ ⟨w.heap.size, 0, none⟩ (by simp)]; simp
  · rw [World.frozen?_alloc_old _ _ ⟨w.heap.size, 0, none⟩ (by simp)]; simp

set_option maxRecDepth 100000 in
set_option maxHeartbeats 1000000 in
theorem neck_any {a : Option Addr} {m c : Nat} {hv : Nat → Int × Int × Int} {w : World} (h : HeavyAt w a m hv) (n x y : Int) :
    Calls Tryz.prog 6 #[.int .i64 n, .slice a m c, .int .i64 x, .int .i64 y] w (NeckPost n m hv x y w) := by
  obtain ⟨hb0, ca, cb, hz0⟩ := two_boxes w (.int .i64 x) (.int .i64 y)
  have hch := check_any (c := c) (h.below hb0) n
  have HH : Hid (HeavyAt w a m hv) := h
  clear h
  go_enter Tryz.func6, Tryz.ntmps6
  go_wp2_with fail
  generalize ((w.alloc (.cells #[.int .i64 x] 3)).alloc (.cells #[.int .i64 y] 3)) = W0 at *
  refine hch.mono ?_
  rintro e w1 ⟨k, err, rfl, hF, hb1⟩
  clear hch
  replace ca := Un.cell_keep hb1 ca
  replace cb := Un.cell_keep hb1 cb
  have hb2 := Un.below_step hb0 hb1
  have hz1 := hb1.size
  rw [hz0] at hz1
  clear hb0 hb1
  by_cases he : err = 0
  · subst he
    rw [errV_none]
    have hF0 : Fault n m hv 0 0 := hF.zero
    obtain ⟨n', rfl, hE, hpos⟩ := fault_plain hF
    have HF : Hid (Fault (n' : Int) m hv 0 0) := hF0
    clear hF hF0
    by_cases hx : 0 ≤ x ∧ x < n'
    · have q1 := fun W => isNode_any n' x W true (by simp; omega)
      by_cases hy : 0 ≤ y ∧ y < n'
      · have q2 := fun W => isNode_any n' y W true (by simp; omega)
        go_wp2_with fail
        refine (q1 _).mono ?_
        rintro e w1 ⟨rfl, rfl⟩
        go_wp2_with fail
        refine (q2 _).mono ?_
        rintro e w1 ⟨rfl, rfl⟩
        obtain ⟨x', rfl⟩ := Int.eq_ofNat_of_zero_le hx.1
        obtain ⟨y', rfl⟩ := Int.eq_ofNat_of_zero_le hy.1
        by_cases hxy : x' = y'
        · subst hxy
          go_wp2_with fail
          go_ret2
          exact ⟨0, 0, by rw [errV_none]; rfl, .way n' x' x' 0 HF.out rfl rfl rfl (by omega) (by omega) (neck_self x') (Or.inl rfl), hb2⟩
        · have hxe : (((x' : Nat) : Int) == ((y' : Nat) : Int)) = false := by rw [beq_eq_false_iff_ne]; omega
          go_wp2_with fail
          have hl2 := laid2 w1
          generalize ((w1.alloc (.cells #[.int .i64 0] 3)).alloc (.cells #[.bool false] 4)) = W2 at *
          obtain ⟨t, ht⟩ := tells_some m (edOf hv) (wtOf hv)
          have hbW := Un.below_step hb2 hl2.below
          have hvW := (HH.out.below hbW).plain hpos
          have hfour : Four w1.heap.size w.heap.size (w.heap.size + 1) (w1.heap.size + 1) := ⟨by omega, by omega, by omega, by omega, by omega⟩
          have hclo : NClo w1.heap.size w.heap.size (w.heap.size + 1) (w1.heap.size + 1) x' y' [] true W2 (four w1.heap.size w.heap.size (w.heap.size + 1) (w1.heap.size + 1)) :=
            ⟨hl2.last, hl2.fl, Un.cell_keep hl2.below ca, Un.cell_keep hl2.below cb, hl2.joined, hl2.fj, rfl⟩
          have hC0 : ∀ k, four w1.heap.size w.heap.size (w.heap.size + 1) (w1.heap.size + 1) k → w.heap.size ≤ k := fun k hk => by
            rcases hk with rfl | rfl | rfl | rfl <;> omega
          have hoff : Off a m (four w1.heap.size w.heap.size (w.heap.size + 1) (w1.heap.size + 1)) := fun b o e h0 hc => by
            obtain ⟨b', o', e', h1, _⟩ := HH.out 0 h0
            rw [e] at e'
            simp only [Option.some.injEq, Addr.mk.injEq, and_true] at e'
            have h2 := World.block_lt_of_cell? _ _ h1
            simp only at h2
            have := hC0 b hc
            omega
          have hgr := grow_any (c := c) (neck_clos hfour (by omega) (by omega) hxy) hE ht hvW hoff hclo
          have HP : Hid (∀ w3 C', Un.Moves (four w1.heap.size w.heap.size (w.heap.size + 1) (w1.heap.size + 1)) W2 w3 C' → Below w.heap.size w w3 ∧ HvAt w3 a m (edOf hv) (wtOf hv)) := fun w3 C' hm => ⟨hm.below hbW hbW.size hC0, hvW.moves hm hoff⟩
          have HX : Hid (¬ x' = y') := hxy
          have HN : Hid (x' < n' ∧ y' < n') := ⟨by omega, by omega⟩
          clear hclo hC0 hoff hl2 hvW hxy hx hy hbW ca cb hz1 hz0 hpos
          refine hgr.mono ?_
          rintro e w3 ⟨rfl, C', o, ho, hm3, hres⟩
          clear hgr
          obtain ⟨hb3, hv3⟩ := HP.out w3 C' hm3
          rcases hres with ⟨hcl, hG⟩ | ⟨P, i, Q, rfl, hti, hcl, hG, hH⟩
          · have hj := hcl.joined
            have HR : Hid (¬ Conn (picked m (edOf hv) fun _ => true) x' y') := fun h => hG ((ho.all x' y').2 h)
            clear hcl hG hv3 hm3
            go_wp2_with fail
            go_ret2
            exact ⟨0, 4, by rw [errV_some (by decide)]; rfl, .none n' x' y' HF.out rfl rfl rfl HN.out.1 HN.out.2 HR.out, hb3⟩
          · have hj := hcl.joined
            have hla := hcl.last
            rw [List.getLastD_concat] at hla
            have him : i < m := ho.lt (List.mem_append_right _ (List.mem_cons_self ..))
            have HR : Hid (Neck m (edOf hv) (wtOf hv) x' y' (wtOf hv i)) := neck_at ho hG hH
            obtain ⟨bl, ol, rfl, -, -, hcw⟩ := hv3 i him
            have i2 : (0 : Int) ≤ (i : Int) := by omega
            have i3 : (i : Int) < (m : Int) := by omega
            have HI : Hid (∃ i, i < m ∧ wtOf hv i = wtOf hv i) := ⟨i, him, rfl⟩
            obtain ⟨W, hW⟩ : ∃ W, wtOf hv i = W := ⟨_, rfl⟩
            have HR2 : Hid (Neck m (edOf hv) (wtOf hv) x' y' W ∧ ∃ i, i < m ∧ wtOf hv i = W) := ⟨by have := HR.out; rw [hW] at this; exact this, i, him, hW⟩
            rw [hW] at hcw
            clear hcl hG hH hti hv3 hW hm3 ho
            go_wp2_with fail
            go_ret2
            exact ⟨W, 0, by rw [errV_none]; rfl, .way n' x' y' W HF.out rfl rfl rfl HN.out.1 HN.out.2 HR2.out.1 (Or.inr HR2.out.2), hb3⟩
      · have q2 := fun W => isNode_any n' y W false (by simp; omega)
        go_wp2_with fail
        refine (q1 _).mono ?_
        rintro e w1 ⟨rfl, rfl⟩
        go_wp2_with fail
        refine (q2 _).mono ?_
        rintro e w1 ⟨rfl, rfl⟩
        go_wp2_with fail
        go_ret2
        exact ⟨0, 1, rfl, .range HF.out (fun h => hy h.2), hb2⟩
    · have q1 := fun W => isNode_any n' x W false (by simp; omega)
      go_wp2_with fail
      refine (q1 _).mono ?_
      rintro e w1 ⟨rfl, rfl⟩
      go_wp2_with fail
      go_ret2
      exact ⟨0, 1, rfl, .range HF.out (fun h => hx h.1), hb2⟩
  · have HE : Hid (err ≠ 0) := he
    rw [errV_some he]
    clear he
    go_wp2_with fail
    go_ret2
    exact ⟨0, err, by rw [errV_some HE.out]; rfl, .wrong k err hF HE.out, hb2⟩

end Go.Proofs.YtcfemppdeidjmadGreat.Sp
