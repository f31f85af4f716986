/-
  Edges as bytes: what the statements' own BytesOf tells.
-/
import Derived.Test.YtgmadfiibaeleabDoorNh
namespace Go.Proofs.YtgmadfiibaeleabDoor.Nt
open Go.RowKit Go.Deep Go.Proofs.YtgmadfiibaeleabDoor.Br
open Go.RowKit (Below)
set_option linter.unusedVariables false

variable {w w' : World} {f : Nat → Int × Int} {m n : Nat}

theorem Tryd.infoU8 : (Tryd.prog.info? 5).map (fun i => (i.zero, i.size, i.bytes)) = some (some (.int .u8 0), 1, 1) := by kernel_rfl

def by1 (c : UInt8) : Value := .int .u8 (c.toNat : Int)
def bys (l : List UInt8) : List Value := l.map by1
theorem bys_len (l : List UInt8) : (bys l).length = l.length := by simp [bys]
theorem bys_app (l r : List UInt8) : bys (l ++ r) = bys l ++ bys r := by simp [bys]

/-- An edge's two bytes. -/
def eb (f : Nat → Int × Int) (i : Nat) : List UInt8 := [UInt8.ofNat (f i).1.toNat, UInt8.ofNat (f i).2.toNat]
/-- The bytes as far as the first j edges. -/
def bt (n m : Nat) (f : Nat → Int × Int) (j : Nat) : List UInt8 := UInt8.ofNat n :: UInt8.ofNat m :: (List.range j).flatMap (eb f)

theorem bt_succ (j : Nat) : bt n m f (j + 1) = bt n m f j ++ eb f j := by simp [bt, List.range_succ]
theorem bt_len (j : Nat) : (bt n m f j).length = 2 + 2 * j := by
  induction j with
  | zero => rfl
  | succ j ih => rw [bt_succ, List.length_append, ih]; simp [eb]; omega

theorem two_bytes (w : World) (x y : Int) : ∀ j u, [Value.int .u8 x, Value.int .u8 y][j]? = some u → (w.alloc (.cells #[.int .u8 x, .int .u8 y] 5)).cell? (Addr.add ⟨w.heap.size, 0, none⟩ j) = some u := fun j u hj => by
  match j, hj with
  | 0, hj => cases hj; simp [Addr.add]
  | 1, hj => cases hj; simp [Addr.add]

/-- A row of two bytes that has just been made. -/
theorem own_two_bytes (w : World) (x y : Int) : (w.alloc (.cells #[.int .u8 x, .int .u8 y] 5)).ownsRow w.heap.size 5 1 (.slice (some ⟨w.heap.size, 0, none⟩) 2 2) 2 [.int .u8 x, .int .u8 y] :=
  ⟨rfl, Or.inr ⟨w.heap.size, 2, #[.int .u8 x, .int .u8 y], rfl, Nat.le_refl _, heap_alloc_new _ _, Nat.le_refl _, by decide, rfl, rfl⟩⟩

theorem own_heapB {base e s n : Nat} {v : Value} {xs : List Value} (h : w.ownsRow base e s v n xs) {k : Nat} (hk : v.ownBlock = some k) : base ≤ k ∧ k < w.heap.size := h.lt k hk

/-- What an edge that may be holds. -/
theorem may_num {j : Nat} (hv : Valid (n : Nat) m f) (hj : j < m) : ∃ X Y : Nat, (f j).1 = (X : Nat) ∧ (f j).2 = (Y : Nat) ∧ X < 60 ∧ Y < 60 ∧ eb f j = [UInt8.ofNat X, UInt8.ofNat Y] := by
  have h := (hv.2.2 j hj).1
  unfold Sane at h
  have hn := hv.1
  refine ⟨(f j).1.toNat, (f j).2.toNat, by omega, by omega, by omega, by omega, rfl⟩

set_option maxRecDepth 100000 in
set_option maxHeartbeats 4000000 in
theorem bytesof {a : Option Addr} {c : Nat} (h : EgAt w a m f) (hv : Valid (n : Nat) m f) :
    Calls Tryd.prog 38 #[.int .i64 (n : Nat), .slice a m c] w fun e w' => ∃ v, e = .returned v ∧ w'.ownsRow w.heap.size 5 1 v (2 + 2 * m) (bys (bt n m f m)) ∧ Below w.heap.size w w' := by
  have HE : Hid (EgAt w a m f ∧ Valid (n : Nat) m f) := ⟨h, hv⟩
  have hn := hv.1
  have hm := hv.2.1
  have n0 : IntKind.u8.wrap (n : Int) = (n : Int) := by rw [IntKind.wrap_u8]; omega
  have m0 : IntKind.u8.wrap (m : Int) = (m : Int) := by rw [IntKind.wrap_u8]; omega
  obtain ⟨z0, hi0, hz0, hz1, hz2⟩ := info_parts Tryd.infoU8
  have HS : Hid ((w.alloc (.cells #[.int .u8 (n : Int), .int .u8 (m : Int)] 5)).ownsRow w.heap.size 5 1 (.slice (some ⟨w.heap.size, 0, none⟩) 2 2) (2 + 2 * 0) (bys (bt n m f 0)) ∧ Below w.heap.size w (w.alloc (.cells #[.int .u8 (n : Int), .int .u8 (m : Int)] 5))) := ⟨by
    have e : bys (bt n m f 0) = [.int .u8 (n : Int), .int .u8 (m : Int)] := by
      show [by1 (UInt8.ofNat n), by1 (UInt8.ofNat m)] = _
      unfold by1
      rw [u8_of (by omega), u8_of (by omega)]
    rw [e]
    exact own_two_bytes w n m, (Below.refl _ _).alloc (Nat.le_refl _) _⟩
  clear h hv hn
  go_enter Tryd.func38, Tryd.ntmps38
  go_wp2_with fail
  go_loopw [5, 6] (fun vo i wr => ∃ j : Nat, j ≤ m ∧ i = .int .i64 (j : Nat) ∧ Below w.heap.size w wr ∧ wr.ownsRow w.heap.size 5 1 vo (2 + 2 * j) (bys (bt n m f j))) (fun _ i _ => m - (intOf i).toNat)
  case atStart => exact ⟨0, Nat.zero_le _, rfl, HS.out.2, HS.out.1⟩
  case round =>
    obtain ⟨j, hj, rfl, hb, hown⟩ := hrel
    obtain ⟨K, hK⟩ : ∃ K, 2 + 2 * j = K := ⟨_, rfl⟩
    rw [hK] at hown
    have HO1 : Hid (wr.ownsRow w.heap.size 5 1 u5 K (bys (bt n m f j))) := hown
    have HB1 : Hid (Below w.heap.size w wr) := hb
    by_cases hlt : j < m
    · obtain ⟨X, Y, hX, hY, hX1, hY1, heb⟩ := may_num HE.out.2 hlt
      obtain ⟨b, o, rfl, q1, q2⟩ := (HE.out.1.below hb) j hlt
      have hb0 : b < w.heap.size := by
        obtain ⟨b', o', e', q, -⟩ := HE.out.1 j hlt
        simp only [Option.some.injEq, Addr.mk.injEq, and_true] at e'
        rw [e'.1]
        exact World.block_lt_of_cell? _ _ q
      rw [hX] at q1
      rw [hY] at q2
      have x0 : IntKind.u8.wrap (X : Int) = (X : Int) := by rw [IntKind.wrap_u8]; omega
      have y0 : IntKind.u8.wrap (Y : Int) = (Y : Int) := by rw [IntKind.wrap_u8]; omega
      have HN : Hid (bys (bt n m f (j + 1)) = bys (bt n m f j) ++ [.int .u8 (X : Int), .int .u8 (Y : Int)] ∧ K + 2 = 2 + 2 * (j + 1)) := ⟨by
        rw [bt_succ, bys_app, heb]
        show _ ++ [by1 (UInt8.ofNat X), by1 (UInt8.ofNat Y)] = _
        unfold by1
        rw [u8_of (by omega), u8_of (by omega)], by omega⟩
      have hKm : K ≤ 500 := by omega
      have i0 : (0 : Int) ≤ (j : Int) := by omega
      have i1 : (j : Int) < (m : Int) := by omega
      have hown0 : ∀ o : Obj, Hid ((wr.alloc o).drew.ownsRow w.heap.size 5 1 u5 K (bys (bt n m f j))) := fun o => HO1.out.alloc o
      have hbase : w.heap.size ≤ (wr.alloc (.cells #[.int .u8 (X : Int), .int .u8 (Y : Int)] 5)).drew.heap.size := Nat.le_trans HB1.out.size (by simp)
      have hfar : ∀ k, u5.ownBlock = some k → b ≠ k := fun k hk e => by have := (own_heapB HO1.out hk).1; omega
      have hlt2 : b < wr.heap.size := World.block_lt_of_cell? _ _ q1
      clear hown hb hK hX hY heb
      go_wp2_with fail
      go_region_held3 (fun V => V.cell? ⟨b, o + j * 2, none⟩ = some (.int .i64 (X : Nat)) ∧ V.cell? ⟨b, o + j * 2 + 1, none⟩ = some (.int .i64 (Y : Nat)))
        (first
          | (go_keep; done)
          | exact ⟨(hgrow.cell_far ⟨b, o + j * 2, none⟩ (by simp; omega) (fun e => hfar b e.symm rfl)).trans (cell_keep (((Below.refl _ _).alloc (Nat.le_refl _) _).drew) q1), (hgrow.cell_far ⟨b, o + j * 2 + 1, none⟩ (by simp; omega) (fun e => hfar b e.symm rfl)).trans (cell_keep (((Below.refl _ _).alloc (Nat.le_refl _) _).drew) q2)⟩)
        ((refine step_append_lies _ (by rfl) (.tmp 19) (.tmp 32) 68 (by rfl) w.heap.size 5 z0 (.int .u8 0) 1 1 Tryd.underlying68 hi0 hz0 hz1 hz2 rfl (by decide) u5 K (bys (bt n m f j)) (by simp [Act.eval]) (hown0 _).out ⟨wr.heap.size, 0, none⟩ 2 2 [.int .u8 (X : Int), .int .u8 (Y : Int)] (by simp [Act.eval]) rfl (by exact two_bytes _ _ _) (by simp [Value.oneCell']) (by decide) (by unfold maxLen; omega) (by omega) hbase _ rfl ?_; intro g2 cap2 w4 hown2 hgrow hat hlt4))
      have hb4 : Below w.heap.size w w4 := ((HB1.out.alloc HB1.out.size _).drew).grown hgrow (by simp; have := HB1.out.size; omega) (fun k e => (own_heapB HO1.out e).1)
      have HO2 : Hid (w4.ownsRow w.heap.size 5 1 (.slice (some ⟨g2, 0, none⟩) (K + 2) cap2) (2 + 2 * (j + 1)) (bys (bt n m f (j + 1)))) := by
        show World.ownsRow ..
        rw [HN.out.1, ← HN.out.2]
        exact hown2
      clear hown2 hgrow hat hlt4 hown0 hfar
      go_wp2_with fail
      go_roundw
      case rel => exact ⟨j + 1, by omega, by go_num, hb4, HO2.out⟩
      case measure => simp [intOf]; omega
    · obtain rfl : j = m := by omega
      have HF : Hid (wr.ownsRow w.heap.size 5 1 u5 (2 + 2 * j) (bys (bt n j f j))) := show World.ownsRow .. by rw [hK]; exact HO1.out
      clear hown hb
      go_wp2_with fail
      go_ret
      exact ⟨_, rfl, HF.out, HB1.out⟩

end Go.Proofs.YtgmadfiibaeleabDoor.Nt
