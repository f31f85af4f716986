/-
  Bytes as edges: what the statements' own EdgesOf tells.
-/
import Derived.Test.YtgmadfiibaeleabDoorNi
import Derived.Test.YtgmadfiibaeleabDoorBd
namespace Go.Proofs.YtgmadfiibaeleabDoor.Nt
open Go.RowKit Go.Deep Go.Proofs.YtgmadfiibaeleabDoor.Br
open Go.RowKit (Below)
set_option linter.unusedVariables false

variable {w w' : World} {g : Nat → Nat} {N : Nat}

/-- Bytes, as they lie in memory. -/
structure BtAt (w : World) (a : Option Addr) (N : Nat) (g : Nat → Nat) : Prop where
  cell : ∀ i, i < N → ∃ b o, a = some ⟨b, o, none⟩ ∧ w.cell? ⟨b, o + i, none⟩ = some (.int .u8 (g i : Nat))
  byte : ∀ i, i < N → g i < 256

theorem BtAt.below {a : Option Addr} (h : BtAt w a N g) (hb : Below w.heap.size w w') : BtAt w' a N g := ⟨fun i hi => by
  obtain ⟨b, o, e, h1⟩ := h.cell i hi
  exact ⟨b, o, e, cell_keep hb h1⟩, h.byte⟩

theorem BtAt.at {b o : Nat} (h : BtAt w (some ⟨b, o, none⟩) N g) {i : Nat} (hi : i < N) : w.cell? ⟨b, o + i, none⟩ = some (.int .u8 (g i : Nat)) := by
  obtain ⟨b', o', e, h1⟩ := h.cell i hi
  simp only [Option.some.injEq, Addr.mk.injEq, and_true] at e
  obtain ⟨rfl, rfl⟩ := e
  exact h1

/-- The edges that bytes may tell. -/
def de (g : Nat → Nat) (i : Nat) : Int × Int := ((g (2 * i + 2) : Nat), (g (2 * i + 1 + 2) : Nat))
/-- Bytes of edges that may be. -/
def Good (N : Nat) (g : Nat → Nat) : Prop := 2 ≤ N ∧ N = 2 + 2 * g 1 ∧ Valid (g 0 : Nat) (g 1) (de g)

theorem eg_de {a : Option Addr} {m : Nat} (h : EdgesAt w a (edges (de g) m)) : EgAt w a m (de g) := fun i hi => by
  obtain ⟨b, o, e, h1, h2⟩ := h.cell i (by rw [edges_len]; exact hi)
  rw [edges_getD hi] at h1 h2
  exact ⟨b, o, e, h1, h2⟩

theorem edges_snoc (f : Nat → Int × Int) (j : Nat) : edges f (j + 1) = edges f j ++ [((f j).1.toNat, (f j).2.toNat)] := by simp [edges, List.range_succ]

set_option maxRecDepth 100000 in
set_option maxHeartbeats 4000000 in
theorem edgesof_short {a : Option Addr} {c : Nat} (h : BtAt w a N g) (hno : N < 2 ∨ N ≠ 2 + 2 * g 1) :
    Calls Tryd.prog 40 #[.slice a N c] w fun e w' => e = .returned (.tuple #[.int .i64 0, .slice none 0 0, .int .i64 5]) ∧ Below w.heap.size w w' := by
  by_cases h1 : N < 2
  · have h1' : (N : Int) < 2 := by omega
    clear h hno
    go_enter Tryd.func40, Tryd.ntmps40
    go_wp2_with fail
    go_ret3
    exact ⟨rfl, Below.refl _ _⟩
  · have h2 : N ≠ 2 + 2 * g 1 := by rcases hno with q | q; exact absurd q h1; exact q
    have hb0 := h.byte 0 (by omega)
    have hb1 := h.byte 1 (by omega)
    obtain ⟨b, o, rfl, q0⟩ := h.cell 0 (by omega)
    have q1 := h.at (i := 1) (by omega)
    rw [Nat.add_zero] at q0
    generalize g 0 = n at *
    generalize g 1 = M at *
    have h1' : ¬ (N : Int) < 2 := by omega
    have i1 : (1 : Int) < (N : Int) := by omega
    have i0 : (0 : Int) < (N : Int) := by omega
    have w0 : IntKind.i64.wrap (n : Int) = (n : Int) := by rw [IntKind.wrap_i64]; omega
    have w1 : IntKind.i64.wrap (M : Int) = (M : Int) := by rw [IntKind.wrap_i64]; omega
    have w2 : IntKind.i64.wrap (2 * (M : Int)) = 2 * (M : Int) := by rw [IntKind.wrap_i64]; omega
    obtain ⟨Z, hZ⟩ : ∃ Z, 2 + 2 * M = Z := ⟨_, rfl⟩
    have w3 : IntKind.i64.wrap (2 + 2 * (M : Int)) = (Z : Int) := by rw [IntKind.wrap_i64]; omega
    rw [hZ] at h2
    have t1 : ((N : Int) != (Z : Int)) = true := by rw [bne_iff_ne]; omega
    have t2 : (N != Z) = true := by rw [bne_iff_ne]; exact h2
    clear h hno hZ h2
    go_enter Tryd.func40, Tryd.ntmps40
    go_wp2_with fail
    go_ret3
    exact ⟨rfl, Below.refl _ _⟩

set_option maxRecDepth 100000 in
set_option maxHeartbeats 4000000 in
theorem edgesof_long {a : Option Addr} {c : Nat} (h : BtAt w a N g) (hN : N = 2 + 2 * g 1) :
    Calls Tryd.prog 40 #[.slice a N c] w fun e w' => ((Valid (g 0 : Nat) (g 1) (de g) ∧ ∃ a' c', e = .returned (.tuple #[.int .i64 (g 0 : Nat), .slice a' (g 1) c', .int .i64 0]) ∧ EdgesAt w' a' (edges (de g) (g 1))) ∨ (¬ Valid (g 0 : Nat) (g 1) (de g) ∧ e = .returned (.tuple #[.int .i64 0, .slice none 0 0, .int .i64 5]))) ∧ Below w.heap.size w w' := by
  have hb0 := h.byte 0 (by omega)
  have hb1 := h.byte 1 (by omega)
  obtain ⟨b, o, rfl, q0⟩ := h.cell 0 (by omega)
  have q1 := h.at (i := 1) (by omega)
  rw [Nat.add_zero] at q0
  have HH : Hid (BtAt w (some ⟨b, o, none⟩) N g) := h
  clear h
  obtain ⟨n, hn⟩ : ∃ n, g 0 = n := ⟨_, rfl⟩
  obtain ⟨M, hM⟩ : ∃ M, g 1 = M := ⟨_, rfl⟩
  rw [hn] at hb0 q0 ⊢
  rw [hM] at hb1 q1 hN ⊢
  clear hn hM
  obtain ⟨z0, hi0, hz0, hz1, hz2⟩ := info_parts Tryd.infoEdge
  have h1' : ¬ (N : Int) < 2 := by omega
  have i1 : (1 : Int) < (N : Int) := by omega
  have i0 : (0 : Int) < (N : Int) := by omega
  have w0 : IntKind.i64.wrap (n : Int) = (n : Int) := by rw [IntKind.wrap_i64]; omega
  have w1 : IntKind.i64.wrap (M : Int) = (M : Int) := by rw [IntKind.wrap_i64]; omega
  have w2 : IntKind.i64.wrap (2 * (M : Int)) = 2 * (M : Int) := by rw [IntKind.wrap_i64]; omega
  have w3 : IntKind.i64.wrap (2 + 2 * (M : Int)) = (N : Int) := by rw [IntKind.wrap_i64]; omega
  have HN : Hid (N = 2 + 2 * M ∧ M < 256) := ⟨hN, hb1⟩
  clear hN hb0 hb1
  go_enter Tryd.func40, Tryd.ntmps40
  go_wp2_with fail
  clear h1' i1 w2 w3
  go_loopw [6, 7] (fun vo i wr => ∃ j : Nat, j ≤ M ∧ i = .int .i64 (j : Nat) ∧ Below w.heap.size w wr ∧ wr.ownsRow w.heap.size 56 2 vo j (twos (edges (de g) j))) (fun _ i _ => M - (intOf i).toNat)
  case atStart => exact ⟨0, Nat.zero_le _, rfl, Below.refl _ _, World.ownsRow_nil ..⟩
  case round =>
    obtain ⟨j, hj, rfl, hb, hown⟩ := hrel
    have HO1 : Hid (wr.ownsRow w.heap.size 56 2 u6 j (twos (edges (de g) j))) := hown
    have HB1 : Hid (Below w.heap.size w wr) := hb
    have q1 := cell_keep hb q1
    have i1 : (1 : Int) < (N : Int) := by have := HN.out; omega
    by_cases hlt : j < M
    · obtain ⟨P, hP⟩ : ∃ P, 2 * j + 2 = P := ⟨_, rfl⟩
      obtain ⟨Q, hQ⟩ : ∃ Q, 2 * j + 1 + 2 = Q := ⟨_, rfl⟩
      have hPN : P < N := by have := HN.out; omega
      have hQN : Q < N := by have := HN.out; omega
      have qp := cell_keep hb (HH.out.at hPN)
      have qq := cell_keep hb (HH.out.at hQN)
      have hX1 := HH.out.byte P hPN
      have hY1 := HH.out.byte Q hQN
      have hb0 : b < w.heap.size := World.block_lt_of_cell? _ _ q0
      have HN2 : Hid (twos (edges (de g) (j + 1)) = twos (edges (de g) j) ++ two (g P, g Q)) := show _ = _ by
        rw [edges_snoc, twos_snoc, ← hP, ← hQ]; rfl
      have v1 : IntKind.i64.wrap (2 * (j : Int)) = 2 * (j : Int) := by have := HN.out; rw [IntKind.wrap_i64]; omega
      have v2 : IntKind.i64.wrap (2 + 2 * (j : Int)) = (P : Int) := by have := HN.out; rw [IntKind.wrap_i64]; omega
      have v3 : IntKind.i64.wrap (3 + 2 * (j : Int)) = (Q : Int) := by have := HN.out; rw [IntKind.wrap_i64]; omega
      generalize g P = X at *
      generalize g Q = Y at *
      have x0 : IntKind.i64.wrap (X : Int) = (X : Int) := by rw [IntKind.wrap_i64]; omega
      have y0 : IntKind.i64.wrap (Y : Int) = (Y : Int) := by rw [IntKind.wrap_i64]; omega
      have p0 : (0 : Int) ≤ (P : Int) := by omega
      have p1 : (P : Int) < (N : Int) := by omega
      have r0 : (0 : Int) ≤ (Q : Int) := by omega
      have r1 : (Q : Int) < (N : Int) := by omega
      have hjM : j ≤ 300 := by have := HN.out; omega
      have i2 : (j : Int) < (M : Int) := by omega
      have hown0 : ∀ o : Obj, Hid ((wr.alloc o).drew.ownsRow w.heap.size 56 2 u6 j (twos (edges (de g) j))) := fun o => HO1.out.alloc o
      have hbase : w.heap.size ≤ (wr.alloc (.cells #[.int .i64 (X : Int), .int .i64 (Y : Int)] 56)).drew.heap.size := Nat.le_trans HB1.out.size (by simp)
      have hfar : ∀ k, u6.ownBlock = some k → b ≠ k := fun k hk e => by have := (own_heapB HO1.out hk).1; omega
      have hlt2 : b < wr.heap.size := World.block_lt_of_cell? _ _ q1
      clear hown hb hP hQ hX1 hY1 hPN hQN
      go_wp2_with fail
      go_region_held3 (fun V => V.cell? ⟨b, o + P, none⟩ = some (.int .u8 (X : Nat)) ∧ V.cell? ⟨b, o + Q, none⟩ = some (.int .u8 (Y : Nat)))
        (first
          | (go_keep; done)
          | exact ⟨(hgrow.cell_far ⟨b, o + P, none⟩ (by simp; omega) (fun e => hfar b e.symm rfl)).trans (cell_keep (((Below.refl _ _).alloc (Nat.le_refl _) _).drew) qp), (hgrow.cell_far ⟨b, o + Q, none⟩ (by simp; omega) (fun e => hfar b e.symm rfl)).trans (cell_keep (((Below.refl _ _).alloc (Nat.le_refl _) _).drew) qq)⟩)
        ((refine step_append_lies _ (by rfl) (.tmp 34) (.tmp 50) 42 (by rfl) w.heap.size 56 z0 (.agg #[.int .i64 0, .int .i64 0]) 2 16 Tryd.underlying42 hi0 hz0 hz1 hz2 rfl (by decide) u6 j (twos (edges (de g) j)) (by simp [Act.eval]) (hown0 _).out ⟨wr.heap.size, 0, none⟩ 1 1 (two (X, Y)) (by simp [Act.eval]) rfl (by exact two_new _ _ _) (by simp [two, Value.oneCell']) (by decide) (by unfold maxLen; omega) (by omega) hbase _ rfl ?_; intro g2 cap2 w4 hown2 hgrow hat hlt4))
      have hb4 : Below w.heap.size w w4 := ((HB1.out.alloc HB1.out.size _).drew).grown hgrow (by simp; have := HB1.out.size; omega) (fun k e => (own_heapB HO1.out e).1)
      have HO2 : Hid (w4.ownsRow w.heap.size 56 2 (.slice (some ⟨g2, 0, none⟩) (j + 1) cap2) (j + 1) (twos (edges (de g) (j + 1)))) := by
        show World.ownsRow ..
        rw [HN2.out]
        exact hown2
      clear hown2 hgrow hat hlt4 hown0 hfar
      go_wp2_with fail
      go_roundw
      case rel => exact ⟨j + 1, by omega, by go_num, hb4, HO2.out⟩
      case measure => simp [intOf]; omega
    · obtain rfl : j = M := by omega
      obtain ⟨a', c', rfl, hE, -, -⟩ := own_edges HO1.out (edges_len _ _)
      have HE : Hid (EdgesAt wr a' (edges (de g) j)) := hE
      have hq := edfault_any (c := c') (eg_de hE) (n : Nat)
      clear hown hb hE HO1
      go_wp2_with fail
      refine hq.mono ?_
      rintro e w2 ⟨k, x, rfl, hF, hb2⟩
      have HB2 : Hid (Below w.heap.size w w2) := below_step HB1.out hb2
      have HE2 : Hid (EdgesAt w2 a' (edges (de g) j)) := HE.out.below hb2
      rcases fault_or (n : Nat) j (de g) with hv | ⟨k', x', hF', hx'⟩
      · obtain ⟨rfl, rfl⟩ := hF.one hv.fault
        have HV : Hid (Valid (n : Nat) j (de g)) := hv
        clear hq hF hb2 hv
        go_wp2_with fail
        go_ret3
        exact ⟨Or.inl ⟨HV.out, _, _, rfl, HE2.out⟩, HB2.out⟩
      · obtain ⟨rfl, rfl⟩ := hF.one hF'
        have HV : Hid (¬ Valid (n : Nat) j (de g)) := fun hv => hx' (hF.one hv.fault).2
        have t1 : (x != 0) = true := by rw [bne_iff_ne]; exact hx'
        clear hq hF hb2 hF' hx'
        go_wp2_with fail
        go_ret3
        exact ⟨Or.inr ⟨HV.out, rfl⟩, HB2.out⟩

/-- EdgesOf of any bytes. -/
theorem edgesof_any {a : Option Addr} {c : Nat} (h : BtAt w a N g) :
    Calls Tryd.prog 40 #[.slice a N c] w fun e w' => ((Good N g ∧ ∃ a' c', e = .returned (.tuple #[.int .i64 (g 0 : Nat), .slice a' (g 1) c', .int .i64 0]) ∧ EdgesAt w' a' (edges (de g) (g 1))) ∨ (¬ Good N g ∧ e = .returned (.tuple #[.int .i64 0, .slice none 0 0, .int .i64 5]))) ∧ Below w.heap.size w w' := by
  by_cases hno : N < 2 ∨ N ≠ 2 + 2 * g 1
  · exact (edgesof_short h hno).mono fun e w' ⟨h1, h2⟩ => ⟨Or.inr ⟨fun q => hno.elim (fun z => by have := q.1; omega) (fun z => z q.2.1), h1⟩, h2⟩
  · have hN : N = 2 + 2 * g 1 := Classical.byContradiction fun q => hno (Or.inr q)
    exact (edgesof_long h hN).mono fun e w' ⟨h1, h2⟩ => ⟨h1.imp (fun ⟨a, b⟩ => ⟨⟨by omega, hN, a⟩, b⟩) (fun ⟨a, b⟩ => ⟨fun q => a q.2.2, b⟩), h2⟩

end Go.Proofs.YtgmadfiibaeleabDoor.Nt
