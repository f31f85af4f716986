/-
  For NoteBack: a number below another; edges' bytes read again.
-/
import Derived.Test.YtgmadfiibaeleacDoorNr
namespace Go.Proofs.YtgmadfiibaeleacDoor.Nt
open Go.RowKit Go.Deep Go.Proofs.YtgmadfiibaeleacDoor.Br
open Go.RowKit (Below)
set_option linter.unusedVariables false

variable {w w' : World} {f : Nat → Int × Int} {m n : Nat}

theorem neg_tmod_lt (c : Int) (n : Nat) (h : c < 0) (hn : 0 < n) : ∃ k : Nat, k < n ∧ -(c + 1).tmod (n : Int) = (k : Int) := by
  obtain ⟨m, hm⟩ : ∃ m : Nat, c + 1 = -(m : Int) := ⟨(-(c + 1)).toNat, by omega⟩
  refine ⟨m % n, Nat.mod_lt _ hn, ?_⟩
  rw [hm, Int.neg_tmod, Int.neg_neg, Int.tmod_eq_emod_of_nonneg (by omega)]
  exact (Int.natCast_emod m n).symm

theorem emod_lt (c : Int) (n : Nat) (h : 0 ≤ c) (hn : 0 < n) : ∃ k : Nat, k < n ∧ c % (n : Int) = (k : Int) := by
  obtain ⟨m, rfl⟩ := Int.eq_ofNat_of_zero_le h
  exact ⟨m % n, Nat.mod_lt _ hn, (Int.natCast_emod m n).symm⟩

set_option maxHeartbeats 400000 in
theorem pick_any (c : Int) (n : Nat) (w : World) (hc : -9223372036854775808 ≤ c ∧ c ≤ 9223372036854775807) (hn : 0 < n) (hn2 : n ≤ 1000) :
    Calls Tryd.prog 9 #[.int .i64 c, .int .i64 n] w fun e w' => ∃ k : Nat, k < n ∧ e = .returned (.int .i64 k) ∧ w' = w := by
  have hne : ((n : Int) == 0) = false := by rw [beq_eq_false_iff_ne]; omega
  by_cases h : c < 0
  · obtain ⟨k, hk, e⟩ := neg_tmod_lt c n h hn
    have E : Hid (-(c + 1).tmod (n : Int) = (k : Int)) := e
    clear e
    go_enter Tryd.func9, Tryd.ntmps9
    go_wp2
    go_ret
    exact ⟨k, hk, by rw [E.out]; rfl, rfl⟩
  · obtain ⟨k, hk, e⟩ := emod_lt c n (Int.not_lt.1 h) hn
    have E : Hid (c % (n : Int) = (k : Int)) := e
    clear e
    go_enter Tryd.func9, Tryd.ntmps9
    go_wp2
    go_ret
    exact ⟨k, hk, by rw [E.out]; rfl, rfl⟩

/-- Bytes of a list, as numbers. -/
def gb (l : List UInt8) (i : Nat) : Nat := (l.getD i 0).toNat

theorem bt_at {k N : Nat} {l : List UInt8} (hl : l.length = N) (hc : ∀ j (hj : j < l.length), w.cell? ⟨k, j, none⟩ = some (by1 l[j])) : BtAt w (some ⟨k, 0, none⟩) N (gb l) := ⟨fun i hi => ⟨k, 0, rfl, by
  have hi' : i < l.length := by omega
  rw [Nat.zero_add, hc i hi']
  unfold gb by1
  rw [List.getD_eq_getElem?_getD, List.getElem?_eq_getElem hi']
  rfl⟩, fun i _ => (l.getD i 0).toNat_lt⟩

theorem BtAt.less {a : Option Addr} {N r : Nat} {g : Nat → Nat} (h : BtAt w a N g) (hr : r ≤ N) : BtAt w a r g := ⟨fun i hi => h.cell i (by omega), fun i hi => h.byte i (by omega)⟩

theorem bt_get : ∀ (j i : Nat), i < j → (bt n m f j)[2 * i + 2]? = some (UInt8.ofNat (f i).1.toNat) ∧ (bt n m f j)[2 * i + 1 + 2]? = some (UInt8.ofNat (f i).2.toNat)
  | 0, i, h => absurd h (Nat.not_lt_zero _)
  | j + 1, i, h => by
    rw [bt_succ]
    have hl := bt_len (n := n) (m := m) (f := f) j
    by_cases e : i = j
    · subst e
      refine ⟨?_, ?_⟩
      · rw [List.getElem?_append_right (by omega), show 2 * i + 2 - (bt n m f i).length = 0 by omega]; rfl
      · rw [List.getElem?_append_right (by omega), show 2 * i + 1 + 2 - (bt n m f i).length = 1 by omega]; rfl
    · have := bt_get j i (by omega)
      refine ⟨?_, ?_⟩
      · rw [List.getElem?_append_left (by omega)]; exact this.1
      · rw [List.getElem?_append_left (by omega)]; exact this.2

theorem gb_of {l : List UInt8} {i x : Nat} (h : l[i]? = some (UInt8.ofNat x)) (hx : x < 256) : gb l i = x := by
  unfold gb
  rw [List.getD_eq_getElem?_getD, h]
  exact u8_of hx

theorem bt_de (hv : Valid (n : Nat) m f) {i : Nat} (hi : i < m) : de (gb (bt n m f m)) i = f i := by
  obtain ⟨X, Y, hX, hY, hX1, hY1, _⟩ := may_num hv hi
  have h := bt_get (n := n) (m := m) (f := f) m i hi
  rw [hX, hY] at h
  unfold de
  rw [gb_of (x := X) h.1 (by omega), gb_of (x := Y) h.2 (by omega), ← hX, ← hY]

theorem bt_n (hv : Valid (n : Nat) m f) : gb (bt n m f m) 0 = n := gb_of (l := bt n m f m) (i := 0) rfl (by have := hv.1; omega)
theorem bt_m (hv : Valid (n : Nat) m f) : gb (bt n m f m) 1 = m := gb_of (l := bt n m f m) (i := 1) rfl (by have := hv.2.1; omega)

theorem valid_as {f' : Nat → Int × Int} {n : Int} (h : ∀ i, i < m → f' i = f i) (hv : Valid n m f) : Valid n m f' := ⟨hv.1, hv.2.1, fun j hj => by
  have := hv.2.2 j hj
  unfold May Sane Climbs at this ⊢
  rw [h j hj]
  refine ⟨this.1, fun h0 => ?_⟩
  rw [h (j - 1) (by omega)]
  exact this.2 h0⟩

theorem edges_as {f' : Nat → Int × Int} (h : ∀ i, i < m → f' i = f i) : edges f' m = edges f m := by
  unfold edges
  exact List.map_congr_left fun i hi => by rw [h i (List.mem_range.1 hi)]

/-- What was written is read. -/
theorem dec_back {k c N : Nat} (hv : Valid (n : Nat) m f) (hN : 2 + 2 * m = N) (h : BtAt w (some ⟨k, 0, none⟩) N (gb (bt n m f m))) (hc : N ≤ c) (hc2 : c ≤ maxLen) :
    Calls Tryd.prog 7 #[.slice (some ⟨k, 0, none⟩) N c] w fun e w' => ∃ a' c', e = .returned (.tuple #[.int .i64 (n : Nat), .slice a' m c', .nilIface]) ∧ EdgesAt w' a' (edges f m) ∧ Below w.heap.size w w' := by
  have hG : Good N (gb (bt n m f m)) := ⟨by omega, by rw [bt_m hv]; omega, by rw [bt_n hv, bt_m hv]; exact valid_as (fun i hi => bt_de hv hi) hv⟩
  refine (decode_any h hc hc2).mono fun e w' ⟨h1, h2⟩ => ?_
  rcases h1 with ⟨_, a', c', e1, e2, _⟩ | ⟨q, _⟩
  · rw [bt_n hv, bt_m hv] at e1
    rw [bt_m hv, edges_as (fun i hi => bt_de hv hi)] at e2
    exact ⟨a', c', e1, e2, h2⟩
  · exact absurd hG q

theorem dec_bad {a : Option Addr} {c N : Nat} {g : Nat → Nat} (h : BtAt w a N g) (hc : N ≤ c) (hc2 : c ≤ maxLen) (hno : ¬ Good N g) :
    Calls Tryd.prog 7 #[.slice a N c] w fun e w' => e = .returned (.tuple #[.int .i64 0, .slice none 0 0, .iface 39 (.int .i64 5)]) ∧ Below w.heap.size w w' :=
  (decode_any h hc hc2).mono fun e w' ⟨h1, h2⟩ => by
    rcases h1 with ⟨q, _⟩ | ⟨_, e1⟩
    · exact absurd q hno
    · exact ⟨e1, h2⟩

/-- A text that is an event is read. -/
theorem parse_ok {k a b : Nat} (hs : Senti w) (hk : 1 ≤ k ∧ k ≤ 3) (ha : a ≤ 59) (hb : b ≤ 59) : Calls Tryd.prog 5 #[.string (str (text k a b))] w fun e w' => e = .returned (.tuple #[evv (k : Nat) (a : Nat) (b : Nat), .nilIface]) ∧ Below w.heap.size w w' := by
  have hx : TextIs (text k a b) ((k : Nat), (a : Nat), (b : Nat)) := ⟨k, a, b, hk, ha, hb, rfl, rfl⟩
  have hd : ∀ x, (dgt x).length ≤ 2 := fun x => by unfold dgt; split <;> simp
  have h1 := hd a
  have h2 := hd b
  refine (parse_any (text k a b) (by simp [text]; omega) hs).mono fun e w' ⟨h, hb⟩ => ?_
  rcases h with ⟨k', a', b', h3, e1⟩ | ⟨h3, _⟩
  · cases hx.one h3
    exact ⟨e1, hb⟩
  · exact absurd hx (h3 _)

theorem fact_text : str (text 2 7 10) = ByteArray.mk #[45, 55, 32, 49, 48] := rfl

end Go.Proofs.YtgmadfiibaeleacDoor.Nt
