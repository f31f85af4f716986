/-
  Ne Ni Nk Nj Nl Nm Nw
-/
import Derived.Test.YtcfemppdeidjmacGreatW45
import Derived.Test.YtcfemppdeidjmacGreatW19
namespace Go.Proofs.YtcfemppdeidjmacGreat.Nt
open Go.RowKit Go.Deep Go.Proofs.YtcfemppdeidjmacGreat.Br
open Go.RowKit (Below)
set_option linter.unusedVariables false

variable {w w' : World}

def cells3 (x y z : Int) : Nat → Value := fun i => if i = 0 then .int .i64 x else if i = 1 then .int .i64 y else .int .i64 z

end Go.Proofs.YtcfemppdeidjmacGreat.Nt

namespace Go.Proofs.YtcfemppdeidjmacGreat.Nt
open Go.RowKit Go.Deep Go.Proofs.YtcfemppdeidjmacGreat.Br
open Go.RowKit (Below)
set_option linter.unusedVariables false

variable {w w' : World} {f : Nat → Int × Int} {m n : Nat}

theorem Tryz.infoU8 : (Tryz.prog.info? 5).map (fun i => (i.zero, i.size, i.bytes)) = some (some (.int .u8 0), 1, 1) := by kernel_rfl

def by1 (c : UInt8) : Value := .int .u8 (c.toNat : Int)
def bys (l : List UInt8) : List Value := l.map by1
theorem bys_app (l r : List UInt8) : bys (l ++ r) = bys l ++ bys r := by simp [bys]

def eb (f : Nat → Int × Int) (i : Nat) : List UInt8 := [UInt8.ofNat (f i).1.toNat, UInt8.ofNat (f i).2.toNat]
def bt (n m : Nat) (f : Nat → Int × Int) (j : Nat) : List UInt8 := UInt8.ofNat n :: UInt8.ofNat m :: (List.range j).flatMap (eb f)

theorem bt_succ (j : Nat) : bt n m f (j + 1) = bt n m f j ++ eb f j := by simp [bt, List.range_succ]
theorem bt_len (j : Nat) : (bt n m f j).length = 2 + 2 * j := by
  induction j with
  | zero => rfl
  | succ j ih => rw [bt_succ, List.length_append, ih]; simp [eb]; omega

theorem two_bytes (w : World) (x y : Int) : ∀ j u, [Value.int .u8 x, Value.int .u8 y][j]? = some u → (w.alloc (.cells #[.int .u8 x, .int .u8 y] 5)).cell? (Addr.add ⟨w.heap.size, 0, none⟩ j) = some u := fun j u hj => by
  match j, hj with
  | 0, hj => cases hj; simp [Addr.add]
  | 1, hj => cases hj; simp [Addr.add]

theorem own_heapB {base e s n : Nat} {v : Value} {xs : List Value} (h : w.ownsRow base e s v n xs) {k : Nat} (hk : v.ownBlock = some k) : base ≤ k ∧ k < w.heap.size := h.lt k hk

theorem may_num {j : Nat} (hv : Valid (n : Nat) m f) (hj : j < m) : ∃ X Y : Nat, (f j).1 = (X : Nat) ∧ (f j).2 = (Y : Nat) ∧ X < 60 ∧ Y < 60 ∧ eb f j = [UInt8.ofNat X, UInt8.ofNat Y] := by
  have h := (hv.2.2 j hj).1
  unfold Sane at h
  have hn := hv.1
  refine ⟨(f j).1.toNat, (f j).2.toNat, by omega, by omega, by omega, by omega, rfl⟩

end Go.Proofs.YtcfemppdeidjmacGreat.Nt

namespace Go.Proofs.YtcfemppdeidjmacGreat.Nt
open Go.RowKit Go.Deep Go.Proofs.YtcfemppdeidjmacGreat.Br
open Go.RowKit (Below)
set_option linter.unusedVariables false

variable {w w' : World} {g : Nat → Nat} {N : Nat}

structure BtAt (w : World) (a : Option Addr) (N : Nat) (g : Nat → Nat) : Prop where
  cell : ∀ i, i < N → ∃ b o, a = some ⟨b, o, none⟩ ∧ w.cell? ⟨b, o + i, none⟩ = some (.int .u8 (g i : Nat))
  byte : ∀ i, i < N → g i < 256

theorem BtAt.below {a : Option Addr} (h : BtAt w a N g) (hb : Below w.heap.size w w') : BtAt w' a N g := ⟨fun i hi => by
  obtain ⟨b, o, e, h1⟩ := h.cell i hi
  exact ⟨b, o, e, cell_keep hb h1⟩, h.byte⟩

theorem BtAt.at {b o : Nat} (h : BtAt w (some ⟨b, o, none⟩) N g) {i : Nat} (hi : i < N) : w.cell? ⟨b, o + i, none⟩ = some (.int .u8 (g i : Nat)) := by
  obtain ⟨b', o', e, h1⟩ := h.cell i hi
  simp only [Option.some.injEq, Addr.mk.injEq, and_true] at e
  obtain ⟨rfl, rfl⟩ := e
  exact h1

def de (g : Nat → Nat) (i : Nat) : Int × Int := ((g (2 * i + 2) : Nat), (g (2 * i + 1 + 2) : Nat))
def Good (N : Nat) (g : Nat → Nat) : Prop := 2 ≤ N ∧ N = 2 + 2 * g 1 ∧ Valid (g 0 : Nat) (g 1) (de g)

theorem eg_de {a : Option Addr} {m : Nat} (h : EdgesAt w a (edges (de g) m)) : EgAt w a m (de g) := fun i hi => by
  obtain ⟨b, o, e, h1, h2⟩ := h.cell i (by rw [edges_len]; exact hi)
  rw [edges_getD hi] at h1 h2
  exact ⟨b, o, e, h1, h2⟩

end Go.Proofs.YtcfemppdeidjmacGreat.Nt

namespace Go.Proofs.YtcfemppdeidjmacGreat.Nt
open Go.RowKit Go.Deep Go.Proofs.YtcfemppdeidjmacGreat.Br
open Go.RowKit (Below)
set_option linter.unusedVariables false

variable {w w' : World} {f : Nat → Int × Int} {m n : Nat}

set_option maxRecDepth 100000 in
set_option maxHeartbeats 1000000 in
theorem encode_no {a : Option Addr} {c : Nat} (h : EgAt w a m f) (n : Int) (k : Nat) (x : Int) (hF : EFault n m f k x) (hx : x ≠ 0) :
    Calls Tryz.prog 41 #[.int .i64 n, .slice a m c] w fun e w' => e = .returned (.tuple #[.slice none 0 0, .iface 102 (.int .i64 x)]) ∧ Below w.heap.size w w' := by
  have hw : Calls Tryz.prog 89 #[.int .i64 n, .slice a m c] w fun e w' => e = .returned (.tuple #[.int .i64 (k : Int), .iface 102 (.int .i64 x)]) ∧ Below w.heap.size w w' := (check_any (c := c) h n).mono fun e w' ⟨k', x', h1, h2, h3⟩ => by
    obtain ⟨rfl, rfl⟩ := hF.one h2
    refine ⟨?_, h3⟩
    rw [h1]
    unfold errV
    rw [if_neg hx]
  clear h hF
  go_enter Tryz.func41, Tryz.ntmps41
  go_wp2_with fail
  refine hw.mono ?_
  rintro e w1 ⟨rfl, hb1⟩
  clear hw
  go_wp2_with fail
  go_ret2
  exact ⟨rfl, hb1⟩

set_option maxRecDepth 100000 in
set_option maxHeartbeats 4000000 in
theorem encode_ok {a : Option Addr} {c : Nat} (h : EgAt w a m f) (hv : Valid (n : Nat) m f) :
    Calls Tryz.prog 41 #[.int .i64 (n : Nat), .slice a m c] w fun e w' => ∃ v, e = .returned (.tuple #[v, .nilIface]) ∧ w'.ownsRow w.heap.size 5 1 v (2 + 2 * m) (bys (bt n m f m)) ∧ Below w.heap.size w w' := by
  have hw : Calls Tryz.prog 89 #[.int .i64 (n : Nat), .slice a m c] w fun e w' => e = .returned (.tuple #[.int .i64 0, .nilIface]) ∧ Below w.heap.size w w' := (check_any (c := c) h n).mono fun e w' ⟨k', x', h1, h2, h3⟩ => by
    obtain ⟨rfl, rfl⟩ := h2.one hv.fault
    exact ⟨h1, h3⟩
  have HE : Hid (EgAt w a m f ∧ Valid (n : Nat) m f) := ⟨h, hv⟩
  have hn := hv.1
  have hm := hv.2.1
  have n0 : IntKind.u8.wrap (n : Int) = (n : Int) := by rw [IntKind.wrap_u8]; omega
  have m0 : IntKind.u8.wrap (m : Int) = (m : Int) := by rw [IntKind.wrap_u8]; omega
  obtain ⟨z0, hi0, hz0, hz1, hz2⟩ := info_parts Tryz.infoU8
  obtain ⟨K0, hK0⟩ : ∃ K, 2 + 2 * m = K := ⟨_, rfl⟩
  have k1 : IntKind.i64.wrap (2 * (m : Int)) = 2 * (m : Int) := by rw [IntKind.wrap_i64]; omega
  have k2 : IntKind.i64.wrap (2 + 2 * (m : Int)) = (K0 : Int) := by rw [IntKind.wrap_i64]; omega
  have HK0 : Hid (K0 ≤ 402) := show _ ≤ _ by omega
  have HB0 : Hid (bys (bt n m f 0) = [.int .u8 (n : Int), .int .u8 (m : Int)]) := show _ = _ by
    show [by1 (UInt8.ofNat n), by1 (UInt8.ofNat m)] = _
    unfold by1
    rw [u8_of (by omega), u8_of (by omega)]
  clear h hv hn hK0
  go_enter Tryz.func41, Tryz.ntmps41
  go_wp2_with fail
  refine hw.mono ?_
  rintro e w1 ⟨rfl, hb1⟩
  have HB1 : Hid (Below w.heap.size w w1) := hb1
  have hmk : ∃ w2, (Instr.makeSlice 74 (.int .i64 0) (.int .i64 (K0 : Int))).run Tryz.prog w1 = .ok (.slice (some ⟨w1.heap.size, 0, none⟩) 0 K0) w2 ∧ w2.ownsRow w.heap.size 5 1 (.slice (some ⟨w1.heap.size, 0, none⟩) 0 K0) 0 [] ∧ w1.grownBy w2 none :=
    run_makeSlice_owned w1 w.heap.size 74 5 z0 (.int .u8 0) 1 Tryz.underlying74 hi0 hz0 hz1 .i64 .i64 K0 (by have := HK0.out; omega) (by rw [hz2]; have := HK0.out; omega) (by have := HK0.out; unfold maxLen; omega) hb1.size
  obtain ⟨w2, hmk, hown2, hgrow2⟩ := hmk
  have hb2 : Below w.heap.size w w2 := hb1.grown hgrow2 hb1.size (fun k e => by cases e)
  have HO2 : Hid (w2.ownsRow w.heap.size 5 1 (.slice (some ⟨w1.heap.size, 0, none⟩) 0 K0) 0 [] ∧ Below w.heap.size w w2) := ⟨hown2, hb2⟩
  have hs2 : w.heap.size ≤ w2.heap.size := hb2.size
  clear hw hb1 hown2 hgrow2 hb2
  go_wp2_with (first
    | (at_builtin; refine wpList_append_lies _ rfl (.tmp 25) (.tmp 31) 74 rfl w.heap.size 5 z0 (.int .u8 0) 1 1 Tryz.underlying74 hi0 hz0 hz1 hz2 rfl (by decide) (.slice (some ⟨w1.heap.size, 0, none⟩) 0 K0) 0 [] rfl (HO2.out.1.alloc _) ⟨w2.heap.size, 0, none⟩ 2 2 [.int .u8 (n : Int), .int .u8 (m : Int)] rfl rfl (two_bytes _ _ _) ?c2 (by decide) ?c3 ?c4 ?c5 _ rfl ?_))
  case c2 => intro z hz; simp at hz; rcases hz with rfl | rfl <;> rfl
  case c3 => unfold maxLen; omega
  case c4 => omega
  case c5 => first | omega | (simp; omega)
  intro g1 cap1 w3 hown hgrow hat hlt2
  have HS : Hid (Below w.heap.size w w3 ∧ w3.ownsRow w.heap.size 5 1 (.slice (some ⟨g1, 0, none⟩) (0 + 2) cap1) (2 + 2 * 0) (bys (bt n m f 0))) := ⟨(HO2.out.2.alloc hs2 _).grown hgrow (by simp; omega) (fun k e => (own_heapB HO2.out.1 e).1), by rw [HB0.out]; exact hown⟩
  clear hown hgrow hat hlt2
  go_wp2_with fail
  go_loopw [8, 35] (fun vo i wr => ∃ j : Nat, j ≤ m ∧ i = .int .i64 (j : Nat) ∧ Below w.heap.size w wr ∧ wr.ownsRow w.heap.size 5 1 vo (2 + 2 * j) (bys (bt n m f j))) (fun _ i _ => m - (intOf i).toNat)
  case atStart => exact ⟨0, Nat.zero_le _, rfl, HS.out.1, HS.out.2⟩
  case round =>
    obtain ⟨j, hj, rfl, hb, hown⟩ := hrel
    obtain ⟨K, hK⟩ : ∃ K, 2 + 2 * j = K := ⟨_, rfl⟩
    rw [hK] at hown
    have HO1 : Hid (wr.ownsRow w.heap.size 5 1 u8 K (bys (bt n m f j))) := hown
    have HB1 : Hid (Below w.heap.size w wr) := hb
    by_cases hlt : j < m
    · obtain ⟨X, Y, hX, hY, hX1, hY1, heb⟩ := may_num HE.out.2 hlt
      obtain ⟨b, o, rfl, q1, q2⟩ := (HE.out.1.below hb) j hlt
      rw [hX] at q1
      rw [hY] at q2
      have x0 : IntKind.u8.wrap (X : Int) = (X : Int) := by rw [IntKind.wrap_u8]; omega
      have y0 : IntKind.u8.wrap (Y : Int) = (Y : Int) := by rw [IntKind.wrap_u8]; omega
      have HN : Hid (bys (bt n m f (j + 1)) = bys (bt n m f j) ++ [.int .u8 (X : Int), .int .u8 (Y : Int)] ∧ K + 2 = 2 + 2 * (j + 1)) := ⟨by
        rw [bt_succ, bys_app, heb]
        show _ ++ [by1 (UInt8.ofNat X), by1 (UInt8.ofNat Y)] = _
        unfold by1
        rw [u8_of (by omega), u8_of (by omega)], by omega⟩
      have hKm : K ≤ 500 := by omega
      have i0 : (0 : Int) ≤ (j : Int) := by omega
      have i1 : (j : Int) < (m : Int) := by omega
      have hbase : w.heap.size ≤ wr.heap.size := HB1.out.size
      have hnews := two_bytes (wr.alloc (.cells #[.int .i64 (X : Int), .int .i64 (Y : Int)] 44)) (X : Int) (Y : Int)
      rw [show (wr.alloc (.cells #[.int .i64 (X : Int), .int .i64 (Y : Int)] 44)).heap.size = wr.heap.size + 1 by simp] at hnews
      have HNews : Hid (∀ j' u, [Value.int .u8 (X : Int), Value.int .u8 (Y : Int)][j']? = some u → ((wr.alloc (.cells #[.int .i64 (X : Int), .int .i64 (Y : Int)] 44)).alloc (.cells #[.int .u8 (X : Int), .int .u8 (Y : Int)] 5)).cell? (Addr.add ⟨wr.heap.size + 1, 0, none⟩ j') = some u) := hnews
      clear hown hb hK hX hY heb hnews
      go_wp2_with (first
        | (at_builtin; refine wpList_append_lies _ rfl (.tmp 39) (.tmp 46) 74 rfl w.heap.size 5 z0 (.int .u8 0) 1 1 Tryz.underlying74 hi0 hz0 hz1 hz2 rfl (by decide) u8 K (bys (bt n m f j)) rfl ((HO1.out.alloc _).alloc _) ⟨wr.heap.size + 1, 0, none⟩ 2 2 [.int .u8 (X : Int), .int .u8 (Y : Int)] rfl rfl HNews.out ?c2 (by decide) ?c3 ?c4 ?c5 _ rfl ?_))
      case c2 => intro z hz; simp at hz; rcases hz with rfl | rfl <;> rfl
      case c3 => unfold maxLen; omega
      case c4 => omega
      case c5 => first | omega | (simp; omega)
      intro g2 cap2 w4 hown hgrow hat hlt2
      have HX : Hid (Below w.heap.size w w4 ∧ w4.ownsRow w.heap.size 5 1 (.slice (some ⟨g2, 0, none⟩) (K + 2) cap2) (2 + 2 * (j + 1)) (bys (bt n m f (j + 1)))) := ⟨((HB1.out.alloc hbase _).alloc (by simp; omega) _).grown hgrow (by simp; omega) (fun k e => (own_heapB HO1.out e).1), by
        rw [HN.out.1, ← HN.out.2]
        exact hown⟩
      clear hown hgrow hat hlt2
      go_wp2_with fail
      exact ⟨⟨j + 1, by omega, by go_num, HX.out.1, HX.out.2⟩, by simp [intOf]; omega⟩
    · obtain rfl : j = m := by omega
      have HF : Hid (wr.ownsRow w.heap.size 5 1 u8 (2 + 2 * j) (bys (bt n j f j))) := show World.ownsRow .. by rw [hK]; exact HO1.out
      clear hown hb
      go_wp2_with fail
      go_ret2
      exact ⟨_, rfl, HF.out, HB1.out⟩

end Go.Proofs.YtcfemppdeidjmacGreat.Nt

namespace Go.Proofs.YtcfemppdeidjmacGreat.Nt
open Go.RowKit Go.Deep Go.Proofs.YtcfemppdeidjmacGreat.Br
open Go.RowKit (Below)
set_option linter.unusedVariables false

variable {w w' : World} {g : Nat → Nat} {N : Nat}

def ee (g : Nat → Nat) (i : Nat) : Int × Int := ((g (2 * i) : Nat), (g (2 * i + 1) : Nat))

def zero2 : Array Value := #[.int .i64 0, .int .i64 0]

theorem make_edges (m : Nat) (hm : m ≤ 300) (W : World) : (Instr.makeSlice 31 (.int .i64 (m : Int)) (.int .i64 (m : Int))).run Tryz.prog W = .ok (.slice (some ⟨W.heap.size, 0, none⟩) m m) (W.alloc (.cells (madeCells zero2 (m * 2)) 44)) := by
  obtain ⟨i, hi, hz⟩ := Option.map_eq_some_iff.1 Tryz.infoEdge
  simp only [Prod.mk.injEq] at hz
  obtain ⟨hz, hs, hb⟩ := hz
  have := run_make (P := Tryz.prog) W 31 44 i _ Tryz.underlying31 hi hz .i64 .i64 m m (by omega) (Int.le_refl _) (by rw [hb]; omega) (by omega)
  rw [hs, show (Value.agg #[.int .i64 0, .int .i64 0]).cells = zero2 by rfl] at this
  simpa using this

def told (g : Nat → Nat) (j : Nat) : Nat → Value := fun i => if i < 2 * j then .int .i64 (g i : Nat) else .int .i64 0

theorem made_row (W : World) (m : Nat) : (W.alloc (.cells (madeCells zero2 (m * 2)) 44)).rowIs W.heap.size 44 (m * 2) (told g 0) := by
  have hc : ∀ i, i < (madeCells zero2 (m * 2)).size → (madeCells zero2 (m * 2))[i]? = some (zero2[i % 2]!) := fun i hi => by
    rw [size_madeCells] at hi
    simp [madeCells, hi, zero2]
  have h1 := World.rowIs_alloc W (madeCells zero2 (m * 2)) 44 (fun i => zero2[i % 2]!) hc
  rw [size_madeCells] at h1
  refine h1.congr fun i _ => ?_
  unfold told
  rw [if_neg (by omega)]
  have : i % 2 = 0 ∨ i % 2 = 1 := by omega
  rcases this with e | e <;> rw [e] <;> rfl

set_option maxRecDepth 100000 in
set_option maxHeartbeats 4000000 in
theorem edges_any {a : Option Addr} {c m : Nat} (h : BtAt w a (2 * m) g) (hm : m ≤ 255) :
    Calls Tryz.prog 90 #[.slice a (2 * m : Nat) c] w fun e w' => ∃ k, e = .returned (.slice (some ⟨k, 0, none⟩) m m) ∧ EdgesAt w' (some ⟨k, 0, none⟩) (edges (ee g) m) ∧ Below w.heap.size w w' := by
  obtain ⟨N, hN⟩ : ∃ N, 2 * m = N := ⟨_, rfl⟩
  rw [hN] at h ⊢
  have HH : Hid (BtAt w a N g) := h
  have hmk := make_edges m (by omega)
  have k1 : Int.tdiv (N : Int) 2 = (m : Int) := by rw [Int.tdiv_eq_ediv_of_nonneg (by omega)]; omega
  have k2 : IntKind.i64.wrap (m : Int) = (m : Int) := by rw [IntKind.wrap_i64]; omega
  have HN : Hid (N = 2 * m ∧ m ≤ 255) := ⟨hN.symm, hm⟩
  have HM : Hid ((w.alloc (.cells (madeCells zero2 (m * 2)) 44)).rowIs w.heap.size 44 (m * 2) (told g 0) ∧ Below w.heap.size w (w.alloc (.cells (madeCells zero2 (m * 2)) 44))) := ⟨made_row w m, (Below.refl _ _).alloc (Nat.le_refl _) _⟩
  clear h hN hm
  go_enter Tryz.func90, Tryz.ntmps90
  go_wp2_with fail
  clear hmk k1 k2
  go_loopw [4, 11] (fun _ i wr => ∃ j : Nat, j ≤ m ∧ i = .int .i64 (j : Nat) ∧ Below w.heap.size w wr ∧ wr.rowIs w.heap.size 44 (m * 2) (told g j)) (fun _ i _ => m - (intOf i).toNat)
  case atStart => exact ⟨0, Nat.zero_le _, rfl, HM.out.2, HM.out.1⟩
  case round =>
    obtain ⟨j, hj, rfl, hb, hrow⟩ := hrel
    have HB1 : Hid (Below w.heap.size w wr ∧ wr.rowIs w.heap.size 44 (m * 2) (told g j)) := ⟨hb, hrow⟩
    by_cases hlt : j < m
    · obtain ⟨P, hP⟩ : ∃ P, 2 * j = P := ⟨_, rfl⟩
      obtain ⟨Q, hQ⟩ : ∃ Q, 2 * j + 1 = Q := ⟨_, rfl⟩
      have hPN : P < N := by have := HN.out; omega
      have hQN : Q < N := by have := HN.out; omega
      obtain ⟨b, o, rfl, qp⟩ := HH.out.cell P hPN
      have qq := cell_keep hb (HH.out.at hQN)
      have hb0 : b < w.heap.size := World.block_lt_of_cell? _ _ qp
      replace qp := cell_keep hb qp
      have hX1 := HH.out.byte P hPN
      have hY1 := HH.out.byte Q hQN
      have d0 : wr.cell? ⟨w.heap.size, j * 2, none⟩ = some (.int .i64 0) := by rw [hrow.cell (by omega)]; unfold told; rw [if_neg (by omega)]
      have d1 : wr.cell? ⟨w.heap.size, j * 2 + 1, none⟩ = some (.int .i64 0) := by rw [hrow.cell (by omega)]; unfold told; rw [if_neg (by omega)]
      have z0 := hrow.frozen
      have hX : ∀ W' : World, W'.rowIs w.heap.size 44 (m * 2) (told g j) → ((W'.setCell ⟨w.heap.size, j * 2, none⟩ (.int .i64 (g P : Nat))).setCell ⟨w.heap.size, j * 2 + 1, none⟩ (.int .i64 (g Q : Nat))).rowIs w.heap.size 44 (m * 2) (told g (j + 1)) := fun W' hW' =>
        ((hW'.set (j * 2) _).set (j * 2 + 1) _).congr fun i hi => by
          unfold told
          by_cases e1 : i = j * 2 + 1
          · subst e1
            rw [if_pos rfl, if_pos (by omega), ← hQ, Nat.mul_comm]
          · rw [if_neg e1]
            by_cases e2 : i = j * 2
            · subst e2
              rw [if_pos rfl, if_pos (by omega), ← hP, Nat.mul_comm]
            · rw [if_neg e2]
              by_cases q : i < 2 * j
              · rw [if_pos q, if_pos (by omega)]
              · rw [if_neg q, if_neg (by omega)]
      have HX : Hid (Below w.heap.size w ((wr.setCell ⟨w.heap.size, j * 2, none⟩ (.int .i64 (g P : Nat))).setCell ⟨w.heap.size, j * 2 + 1, none⟩ (.int .i64 (g Q : Nat))).drew ∧ ((wr.setCell ⟨w.heap.size, j * 2, none⟩ (.int .i64 (g P : Nat))).setCell ⟨w.heap.size, j * 2 + 1, none⟩ (.int .i64 (g Q : Nat))).drew.rowIs w.heap.size 44 (m * 2) (told g (j + 1))) :=
        ⟨((hb.setCell (Nat.le_refl _) _).setCell (Nat.le_refl _) _).drew, (hX wr hrow).drew⟩
      have v2 : IntKind.i64.wrap (2 * (j : Int)) = (P : Int) := by have := HN.out; rw [IntKind.wrap_i64]; omega
      have v3 : IntKind.i64.wrap ((P : Int) + 1) = (Q : Int) := by have := HN.out; rw [IntKind.wrap_i64]; omega
      clear hX hP hQ
      generalize g P = X at *
      generalize g Q = Y at *
      have x0 : IntKind.i64.wrap (X : Int) = (X : Int) := by rw [IntKind.wrap_i64]; omega
      have y0 : IntKind.i64.wrap (Y : Int) = (Y : Int) := by rw [IntKind.wrap_i64]; omega
      have p0 : (0 : Int) ≤ (P : Int) := by omega
      have p1 : (P : Int) < (N : Int) := by omega
      have r0 : (0 : Int) ≤ (Q : Int) := by omega
      have r1 : (Q : Int) < (N : Int) := by omega
      have i0 : (0 : Int) ≤ (j : Int) := by omega
      have i2 : (j : Int) < (m : Int) := by omega
      have ne1 : b ≠ w.heap.size := by omega
      have hjm : j ≤ 255 := by have := HN.out; omega
      clear hb hrow hX1 hY1 hPN hQN hb0 HB1
      generalize w.heap.size = B at *
      go_wp2_with fail
      go_region
      go_wp2_with fail
      exact ⟨⟨j + 1, by omega, by go_num, HX.out.1, HX.out.2⟩, by simp [intOf]; omega⟩
    · obtain rfl : j = m := by omega
      have HX : Hid (EdgesAt wr (some ⟨w.heap.size, 0, none⟩) (edges (ee g) j)) := ⟨fun i hi => by
        rw [edges_len] at hi
        refine ⟨w.heap.size, 0, rfl, ?_, ?_⟩
        · rw [edges_getD hi, Nat.zero_add, hrow.cell (by omega)]
          unfold told
          rw [if_pos (by omega), Nat.mul_comm]
          rfl
        · rw [edges_getD hi, Nat.zero_add, hrow.cell (by omega)]
          unfold told
          rw [if_pos (by omega), Nat.mul_comm]
          rfl⟩
      clear hb hrow
      go_wp2_with fail
      go_ret
      exact ⟨_, rfl, HX.out, HB1.out.1⟩

end Go.Proofs.YtcfemppdeidjmacGreat.Nt

namespace Go.Proofs.YtcfemppdeidjmacGreat.Nt
open Go.RowKit Go.Deep Go.Proofs.YtcfemppdeidjmacGreat.Br
open Go.RowKit (Below)
set_option linter.unusedVariables false

variable {w w' : World} {g : Nat → Nat} {N : Nat}

theorem bt_tail {b o : Nat} (h : BtAt w (some ⟨b, o, none⟩) N g) : BtAt w (some ⟨b, o + 2, none⟩) (N - 2) (fun i => g (i + 2)) := ⟨fun i hi => ⟨b, o + 2, rfl, by
  have := h.at (i := i + 2) (by omega)
  rw [show o + 2 + i = o + (i + 2) by omega]
  exact this⟩, fun i hi => h.byte (i + 2) (by omega)⟩

set_option maxRecDepth 100000 in
set_option maxHeartbeats 4000000 in
theorem decode_short {a : Option Addr} {c : Nat} (h : BtAt w a N g) (hno : N < 2 ∨ N ≠ 2 + 2 * g 1) :
    Calls Tryz.prog 42 #[.slice a N c] w fun e w' => e = .returned (.tuple #[.int .i64 0, .slice none 0 0, .iface 102 (.int .i64 5)]) ∧ Below w.heap.size w w' := by
  by_cases h1 : N < 2
  · have h1' : (N : Int) < 2 := by omega
    clear h hno
    go_enter Tryz.func42, Tryz.ntmps42
    go_wp2_with fail
    go_ret3
    exact ⟨rfl, Below.refl _ _⟩
  · have h2 : N ≠ 2 + 2 * g 1 := by rcases hno with q | q; exact absurd q h1; exact q
    have hb1 := h.byte 1 (by omega)
    obtain ⟨b, o, rfl, q1⟩ := h.cell 1 (by omega)
    generalize g 1 = M at *
    have h1' : ¬ (N : Int) < 2 := by omega
    have i1 : (1 : Int) < (N : Int) := by omega
    have w1 : IntKind.i64.wrap (M : Int) = (M : Int) := by rw [IntKind.wrap_i64]; omega
    have w2 : IntKind.i64.wrap (2 * (M : Int)) = 2 * (M : Int) := by rw [IntKind.wrap_i64]; omega
    obtain ⟨Z, hZ⟩ : ∃ Z, 2 + 2 * M = Z := ⟨_, rfl⟩
    have w3 : IntKind.i64.wrap (2 + 2 * (M : Int)) = (Z : Int) := by rw [IntKind.wrap_i64]; omega
    rw [hZ] at h2
    have t1 : ((N : Int) != (Z : Int)) = true := by rw [bne_iff_ne]; omega
    have t2 : (N != Z) = true := by rw [bne_iff_ne]; exact h2
    clear h hno hZ h2
    go_enter Tryz.func42, Tryz.ntmps42
    go_wp2_with fail
    go_ret3
    exact ⟨rfl, Below.refl _ _⟩

set_option maxRecDepth 100000 in
set_option maxHeartbeats 4000000 in
theorem decode_long {a : Option Addr} {c : Nat} (h : BtAt w a N g) (hc : N ≤ c) (hc2 : c ≤ maxLen) (hN : N = 2 + 2 * g 1) :
    Calls Tryz.prog 42 #[.slice a N c] w fun e w' => ((Valid (g 0 : Nat) (g 1) (de g) ∧ ∃ a' c', e = .returned (.tuple #[.int .i64 (g 0 : Nat), .slice a' (g 1) c', .nilIface]) ∧ EdgesAt w' a' (edges (de g) (g 1)) ∧ g 1 ≤ c' ∧ c' ≤ maxLen) ∨ (¬ Valid (g 0 : Nat) (g 1) (de g) ∧ e = .returned (.tuple #[.int .i64 0, .slice none 0 0, .iface 102 (.int .i64 5)]))) ∧ Below w.heap.size w w' := by
  have hb0 := h.byte 0 (by omega)
  have hb1 := h.byte 1 (by omega)
  obtain ⟨b, o, rfl, q0⟩ := h.cell 0 (by omega)
  have q1 := h.at (i := 1) (by omega)
  rw [Nat.add_zero] at q0
  have HH : Hid (BtAt w (some ⟨b, o, none⟩) N g) := h
  clear h
  obtain ⟨n, hn⟩ : ∃ n, g 0 = n := ⟨_, rfl⟩
  obtain ⟨M, hM⟩ : ∃ M, g 1 = M := ⟨_, rfl⟩
  rw [hn] at hb0 q0 ⊢
  rw [hM] at hb1 q1 hN ⊢
  clear hn hM
  have h1' : ¬ (N : Int) < 2 := by omega
  have i1 : (1 : Int) < (N : Int) := by omega
  have i0 : (0 : Int) < (N : Int) := by omega
  have j1 : (2 : Int) ≤ (N : Int) := by omega
  have j2 : (N : Int) ≤ (c : Int) := by omega
  have w0 : IntKind.i64.wrap (n : Int) = (n : Int) := by rw [IntKind.wrap_i64]; omega
  have w1 : IntKind.i64.wrap (M : Int) = (M : Int) := by rw [IntKind.wrap_i64]; omega
  have w2 : IntKind.i64.wrap (2 * (M : Int)) = 2 * (M : Int) := by rw [IntKind.wrap_i64]; omega
  have w3 : IntKind.i64.wrap (2 + 2 * (M : Int)) = (N : Int) := by rw [IntKind.wrap_i64]; omega
  have hbd : Below w.heap.size w w.drew := (Below.refl _ _).drew
  have HN : Hid (N = 2 + 2 * M ∧ M < 256) := ⟨hN, hb1⟩
  have hfin : ∀ (ad : Option Addr), BtAt w.drew ad (2 * M) (fun i => g (i + 2)) → Calls Tryz.prog 90 #[.slice ad (2 * M) (c - 2)] w.drew fun e w' => ∃ k, e = .returned (.slice (some ⟨k, 0, none⟩) M M) ∧ w'.cell? ⟨b, o, none⟩ = some (.int .u8 (n : Nat)) ∧ Hid (EdgesAt w' (some ⟨k, 0, none⟩) (edges (de g) M) ∧ Below w.heap.size w w') := fun ad hB =>
    (edges_any hB (by omega)).mono fun e w' ⟨k, e1, e2, e3⟩ => ⟨k, e1, (cell_keep e3 (cell_keep hbd q0)), e2, below_step hbd e3⟩
  by_cases hck : c = 2
  · have hM0 : M = 0 := by omega
    have hN2 : N = 2 := by omega
    subst hck hM0 hN2
    have hq := hfin (some ⟨b, o, none⟩) ⟨fun i hi => by omega, fun i hi => by omega⟩
    rw [Nat.mul_zero, Nat.sub_self] at hq
    clear hfin hN hb0 hb1 hbd hc hc2 h1' i1 i0 j1 j2 w1 w2 w3
    have w1 : IntKind.i64.wrap (0 : Int) = (0 : Int) := by decide
    go_enter Tryz.func42, Tryz.ntmps42
    go_wp2_with fail
    go_region_held3 (fun V => V.cell? ⟨b, o, none⟩ = some (.int .u8 (n : Nat))) (first | (go_keep; done))
      (first | (go_at_call 90; refine hq.mono ?_; rintro e w4 ⟨k, rfl, s4, HX⟩))
    have HCk : Hid (0 ≤ 0 ∧ 0 ≤ maxLen) := ⟨Nat.le_refl _, by have := HN.out.2; unfold maxLen; omega⟩
    have hch := check_any (c := 0) (eg_de HX.out.1) (n : Nat)
    clear hq
    go_wp2_with fail
    refine hch.mono ?_
    rintro e w5 ⟨k5, x5, rfl, hF, hb5⟩
    have HB5 : Hid (Below w.heap.size w w5) := below_step HX.out.2 hb5
    have HE5 : Hid (EdgesAt w5 (some ⟨k, 0, none⟩) (edges (de g) 0)) := HX.out.1.below hb5
    rcases fault_or (n : Nat) 0 (de g) with hv | ⟨k', x', hF', hx'⟩
    · obtain ⟨rfl, rfl⟩ := hF.one hv.fault
      have HV : Hid (Valid (n : Nat) 0 (de g)) := hv
      have he : errV 0 = .nilIface := rfl
      rw [he]
      clear hch hF hb5 hv he
      go_wp2_with fail
      go_ret3
      exact ⟨Or.inl ⟨HV.out, _, _, rfl, HE5.out, HCk.out⟩, HB5.out⟩
    · obtain ⟨rfl, rfl⟩ := hF.one hF'
      have HV : Hid (¬ Valid (n : Nat) 0 (de g)) := fun hv => hx' (hF.one hv.fault).2
      have he : errV x5 = .iface 102 (.int .i64 x5) := if_neg hx'
      rw [he]
      clear hch hF hb5 hF' hx' he
      go_wp2_with fail
      go_ret3
      exact ⟨Or.inr ⟨HV.out, rfl⟩, HB5.out⟩
  · have hq := hfin (some ⟨b, o + 2, none⟩) (by
      have := bt_tail (HH.out.below hbd)
      rw [show N - 2 = 2 * M by omega] at this
      exact this)
    rw [show 2 * M = N - 2 by omega] at hq
    have i0n : 0 < N := by omega
    clear hfin hN hb0 hb1 hbd
    go_enter Tryz.func42, Tryz.ntmps42
    go_wp2_with fail
    go_region_held3 (fun V => V.cell? ⟨b, o, none⟩ = some (.int .u8 (n : Nat))) (first | (go_keep; done))
      (first | (go_at_call 90; refine hq.mono ?_; rintro e w4 ⟨k, rfl, s4, HX⟩))
    have HCk : Hid (M ≤ M ∧ M ≤ maxLen) := ⟨Nat.le_refl _, by have := HN.out.2; unfold maxLen; omega⟩
    have hch := check_any (c := M) (eg_de HX.out.1) (n : Nat)
    clear hq
    go_wp2_with fail
    refine hch.mono ?_
    rintro e w5 ⟨k5, x5, rfl, hF, hb5⟩
    have HB5 : Hid (Below w.heap.size w w5) := below_step HX.out.2 hb5
    have HE5 : Hid (EdgesAt w5 (some ⟨k, 0, none⟩) (edges (de g) M)) := HX.out.1.below hb5
    rcases fault_or (n : Nat) M (de g) with hv | ⟨k', x', hF', hx'⟩
    · obtain ⟨rfl, rfl⟩ := hF.one hv.fault
      have HV : Hid (Valid (n : Nat) M (de g)) := hv
      have he : errV 0 = .nilIface := rfl
      rw [he]
      clear hch hF hb5 hv he
      go_wp2_with fail
      go_ret3
      exact ⟨Or.inl ⟨HV.out, _, _, rfl, HE5.out, HCk.out⟩, HB5.out⟩
    · obtain ⟨rfl, rfl⟩ := hF.one hF'
      have HV : Hid (¬ Valid (n : Nat) M (de g)) := fun hv => hx' (hF.one hv.fault).2
      have he : errV x5 = .iface 102 (.int .i64 x5) := if_neg hx'
      rw [he]
      clear hch hF hb5 hF' hx' he
      go_wp2_with fail
      go_ret3
      exact ⟨Or.inr ⟨HV.out, rfl⟩, HB5.out⟩

theorem decode_any {a : Option Addr} {c : Nat} (h : BtAt w a N g) (hc : N ≤ c) (hc2 : c ≤ maxLen) :
    Calls Tryz.prog 42 #[.slice a N c] w fun e w' => ((Good N g ∧ ∃ a' c', e = .returned (.tuple #[.int .i64 (g 0 : Nat), .slice a' (g 1) c', .nilIface]) ∧ EdgesAt w' a' (edges (de g) (g 1)) ∧ g 1 ≤ c' ∧ c' ≤ maxLen) ∨ (¬ Good N g ∧ e = .returned (.tuple #[.int .i64 0, .slice none 0 0, .iface 102 (.int .i64 5)]))) ∧ Below w.heap.size w w' := by
  by_cases hno : N < 2 ∨ N ≠ 2 + 2 * g 1
  · exact (decode_short h hno).mono fun e w' ⟨h1, h2⟩ => ⟨Or.inr ⟨fun q => hno.elim (fun z => by have := q.1; omega) (fun z => z q.2.1), h1⟩, h2⟩
  · have hN : N = 2 + 2 * g 1 := Classical.byContradiction fun q => hno (Or.inr q)
    exact (decode_long h hc hc2 hN).mono fun e w' ⟨h1, h2⟩ => ⟨h1.imp (fun ⟨a, b⟩ => ⟨⟨by omega, hN, a⟩, b⟩) (fun ⟨a, b⟩ => ⟨fun q => a q.2.2, b⟩), h2⟩

end Go.Proofs.YtcfemppdeidjmacGreat.Nt

namespace Go.Proofs.YtcfemppdeidjmacGreat.Nt
open Go.RowKit Go.Deep Go.Proofs.YtcfemppdeidjmacGreat.Br
open Go.RowKit (Below)
set_option linter.unusedVariables false

variable {w w' : World} {f : Nat → Int × Int} {m n : Nat}

def gb (l : List UInt8) (i : Nat) : Nat := (l.getD i 0).toNat

theorem bt_get : ∀ (j i : Nat), i < j → (bt n m f j)[2 * i + 2]? = some (UInt8.ofNat (f i).1.toNat) ∧ (bt n m f j)[2 * i + 1 + 2]? = some (UInt8.ofNat (f i).2.toNat)
  | 0, i, h => absurd h (Nat.not_lt_zero _)
  | j + 1, i, h => by
    rw [bt_succ]
    have hl := bt_len (n := n) (m := m) (f := f) j
    by_cases e : i = j
    · subst e
      refine ⟨?_, ?_⟩
      · rw [List.getElem?_append_right (by omega), show 2 * i + 2 - (bt n m f i).length = 0 by omega]; rfl
      · rw [List.getElem?_append_right (by omega), show 2 * i + 1 + 2 - (bt n m f i).length = 1 by omega]; rfl
    · have := bt_get j i (by omega)
      refine ⟨?_, ?_⟩
      · rw [List.getElem?_append_left (by omega)]; exact this.1
      · rw [List.getElem?_append_left (by omega)]; exact this.2

theorem gb_of {l : List UInt8} {i x : Nat} (h : l[i]? = some (UInt8.ofNat x)) (hx : x < 256) : gb l i = x := by
  unfold gb
  rw [List.getD_eq_getElem?_getD, h]
  exact u8_of hx

theorem bt_de (hv : Valid (n : Nat) m f) {i : Nat} (hi : i < m) : de (gb (bt n m f m)) i = f i := by
  obtain ⟨X, Y, hX, hY, hX1, hY1, _⟩ := may_num hv hi
  have h := bt_get (n := n) (m := m) (f := f) m i hi
  rw [hX, hY] at h
  unfold de
  rw [gb_of (x := X) h.1 (by omega), gb_of (x := Y) h.2 (by omega), ← hX, ← hY]

theorem bt_n (hv : Valid (n : Nat) m f) : gb (bt n m f m) 0 = n := gb_of (l := bt n m f m) (i := 0) rfl (by have := hv.1; omega)
theorem bt_m (hv : Valid (n : Nat) m f) : gb (bt n m f m) 1 = m := gb_of (l := bt n m f m) (i := 1) rfl (by have := hv.2.1; omega)

theorem valid_as {f' : Nat → Int × Int} {n : Int} (h : ∀ i, i < m → f' i = f i) (hv : Valid n m f) : Valid n m f' := ⟨hv.1, hv.2.1, fun j hj => by
  have := hv.2.2 j hj
  unfold May Sane Climbs at this ⊢
  rw [h j hj]
  refine ⟨this.1, fun h0 => ?_⟩
  rw [h (j - 1) (by omega)]
  exact this.2 h0⟩

theorem edges_as {f' : Nat → Int × Int} (h : ∀ i, i < m → f' i = f i) : edges f' m = edges f m := by
  unfold edges
  exact List.map_congr_left fun i hi => by rw [h i (List.mem_range.1 hi)]

end Go.Proofs.YtcfemppdeidjmacGreat.Nt
