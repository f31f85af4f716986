/-
  At of package seq: the item at a place; and how many digits a number has in base 2, as the statements reckon it.
-/
import Derived.Test.YtpmkllmeilhakaaDoorWalks3
import Derived.Deep.LoopGhost
namespace Go.Proofs.YtpmkllmeilhakaaDoor
open Go.RowKit Go.Deep

theorem getD_left (l r : List Int) (a : Int) (k : Nat) (h : k < l.length) : (l ++ a :: r).getD k 0 = l.getD k 0 := by
  simp only [List.getD_eq_getElem?_getD]; rw [List.getElem?_append_left h]
theorem getD_mid (l r : List Int) (a : Int) : (l ++ a :: r).getD l.length 0 = a := by
  simp
theorem getD_right (l r : List Int) (a : Int) (k : Nat) : (l ++ a :: r).getD (l.length + 1 + k) 0 = r.getD k 0 := by
  simp only [List.getD_eq_getElem?_getD]
  rw [List.getElem?_append_right (by omega), show l.length + 1 + k - l.length = k + 1 from by omega, List.getElem?_cons_succ]

/-- Where pick stands: at a node, with a place in it, and how many items its left branch has. -/
def Picks (w : World) (x : Int) (g : Nat) (t i h : Value) (wr : World) : Prop :=
  ∃ (u : Option Addr) (b o : Nat) (a : Int) (l r : BT Int) (k : Nat), g = sz (.node b o a l r) ∧ g < 1000000 ∧ t = .pointer u ∧ i = .int .i64 (k : Int) ∧ h = .int .i64 (sz l : Nat) ∧ At w u (.node b o a l r) ∧ k < sz (.node b o a l r) ∧ (items (.node b o a l r)).getD k 0 = x ∧ wr = w

set_option maxHeartbeats 1000000 in
theorem pickAt_any {u : Option Addr} {T : BT Int} {w : World} (h : At w u T) (k : Nat) (hk : k < sz T) (hs : sz T < 1000000) :
    Calls Tryd.prog 21 #[.pointer u, .int .i64 (k : Int)] w fun e w' => e = .returned (.int .i64 ((items T).getD k 0)) ∧ w' = w := by
  cases T with
  | nil => simp only [sz] at hk; omega
  | node b o a l r =>
    obtain ⟨u1, u2, rfl, h1, h2, c0, c1, c2, c3, c4⟩ := h.open_node
    clear c1 c2 c3 c4
    have HX : Hid (Picks w ((items (.node b o a l r)).getD k 0) (sz (.node b o a l r)) (.pointer (some ⟨b, 0, none⟩)) (.int .i64 (k : Int)) (.int .i64 (sz l : Nat)) w) := ⟨_, b, o, a, l, r, k, rfl, hs, rfl, rfl, rfl, h, hk, rfl, rfl⟩
    generalize (items (.node b o a l r)).getD k 0 = x at *
    go_enter Tryd.func21, Tryd.ntmps21
    go_wp2_with fail
    refine (size_any h1).mono ?_
    rintro e w' ⟨rfl, rfl⟩
    go_wp2_with fail
    go_loopg [0, 1, 5] (sz (.node b o a l r)) (fun g t i h wr => Picks w' x g t i h wr)
    case atStart => exact HX.out
    case round =>
      clear HX h h1 h2 c0 hk hs
      obtain ⟨u, b, o, a, l, r, k, rfl, hs, rfl, rfl, rfl, h, hk, hx, rfl⟩ := hrel
      have HXX : Hid ((items (.node b o a l r)).getD k 0 = x) := hx
      clear hx
      obtain ⟨u1, u2, rfl, h1, h2, c0, c1, c2, c3, c4⟩ := h.open_node
      clear c3 c4
      simp only [sz] at hk hs
      by_cases hlt : k < sz l
      · have hne : ((k : Int) != (sz l : Nat)) = true := by rw [bne_iff_ne]; omega
        cases l with
        | nil => simp only [sz] at hlt; omega
        | node b' o' a' l' r' =>
          obtain ⟨u3, u4, rfl, h3, h4, d0, d1, d2, d3, d4⟩ := h1.open_node
          clear d1 d2 d3 d4
          have hx : Hid ((items (.node b' o' a' l' r')).getD k 0 = x) := by
            show (items (.node b' o' a' l' r')).getD k 0 = x
            rw [← HXX.out]
            exact (getD_left _ _ _ _ (by rw [items_len]; exact hlt)).symm
          clear HXX
          go_wp2_with fail
          refine (size_any h3).mono ?_
          rintro e w2 ⟨rfl, rfl⟩
          go_wp2_with fail
          go_roundg (sz (.node b' o' a' l' r'))
          case measure => simp only [sz]; omega
          case rel => exact ⟨_, b', o', a', l', r', k, rfl, by simp only [sz] at hs ⊢; omega, rfl, rfl, rfl, h1, hlt, hx.out, rfl⟩
      · by_cases heq : k = sz l
        · have hne : ((k : Int) != (sz l : Nat)) = false := by rw [bne_eq_false_iff_eq]; omega
          have hx : Hid (a = x) := by
            show a = x
            rw [← HXX.out, heq, ← items_len l]
            exact (getD_mid _ _ _).symm
          clear HXX heq hlt
          go_wp2_with fail
          go_ret
          exact ⟨by rw [hx.out]; rfl, rfl⟩
        · have hne : ((k : Int) != (sz l : Nat)) = true := by rw [bne_iff_ne]; omega
          have hgt : sz l < k := by omega
          cases r with
          | nil => simp only [sz] at hk; omega
          | node b' o' a' l' r' =>
            obtain ⟨u3, u4, rfl, h3, h4, d0, d1, d2, d3, d4⟩ := h2.open_node
            clear d1 d2 d3 d4
            obtain ⟨j, rfl⟩ : ∃ j, k = sz l + 1 + j := ⟨k - sz l - 1, by omega⟩
            have hx : Hid ((items (.node b' o' a' l' r')).getD j 0 = x) := by
              show (items (.node b' o' a' l' r')).getD j 0 = x
              rw [← HXX.out, ← items_len l]
              exact (getD_right _ _ _ _).symm
            clear HXX heq
            go_wp2_with fail
            refine (size_any h3).mono ?_
            rintro e w2 ⟨rfl, rfl⟩
            go_wp2_with fail
            go_roundg (sz (.node b' o' a' l' r'))
            case measure => simp only [sz]; omega
            case rel => exact ⟨_, b', o', a', l', r', j, rfl, by simp only [sz] at hs ⊢; omega, rfl, by first | rfl | (congr 1; omega), rfl, h2, by simp only [sz] at hk ⊢; omega, hx.out, rfl⟩

set_option maxHeartbeats 400000 in
theorem at_low {v : Option Addr} {w : World} (i : Int) (hi : i < 0) :
    Calls Tryd.prog 9 #[.pointer v, .int .i64 i] w fun e w' => e = .returned (.tuple #[.int .i64 0, .iface 29 (.int .i64 1)]) ∧ w' = w := by
  go_enter Tryd.func9, Tryd.ntmps9
  go_wp2_with fail
  go_ret2
  exact ⟨rfl, rfl⟩

set_option maxHeartbeats 400000 in
theorem at_high {v : Option Addr} {T : BT Int} {w : World} (h : RowAt w v T) (i : Int) (hi0 : 0 ≤ i) (hi : sz T ≤ i) :
    Calls Tryd.prog 9 #[.pointer v, .int .i64 i] w fun e w' => e = .returned (.tuple #[.int .i64 0, .iface 29 (.int .i64 1)]) ∧ w' = w := by
  go_enter Tryd.func9, Tryd.ntmps9
  go_wp2_with fail
  refine (len_any h).mono ?_
  rintro e w' ⟨rfl, rfl⟩
  go_wp2_with fail
  go_ret2
  exact ⟨rfl, rfl⟩

set_option maxHeartbeats 400000 in
theorem at_any {v : Option Addr} {T : BT Int} {w : World} (h : RowAt w v T) (k : Nat) (hk : k < sz T) (hs : sz T ≤ 400) :
    Calls Tryd.prog 9 #[.pointer v, .int .i64 (k : Int)] w fun e w' => e = .returned (.tuple #[.int .i64 ((items T).getD k 0), .nilIface]) ∧ w' = w := by
  obtain ⟨x, hx⟩ : ∃ x, (items T).getD k 0 = x := ⟨_, rfl⟩
  rw [hx]
  have HX : Hid ((items T).getD k 0 = x) := hx
  clear hx
  go_enter Tryd.func9, Tryd.ntmps9
  go_wp2_with fail
  refine (len_any h).mono ?_
  rintro e w' ⟨rfl, rfl⟩
  go_wp2_with fail
  refine (tree_any h).mono ?_
  rintro e w' ⟨u, rfl, rfl, ha⟩
  go_wp2_with fail
  refine (pickAt_any ha k hk (by omega)).mono ?_
  rintro e w' ⟨rfl, rfl⟩
  rw [HX.out]
  go_wp2_with fail
  go_ret2
  exact ⟨rfl, rfl⟩

theorem at_is {v : Option Addr} {T : BT Int} {w : World} (h : RowAt w v T) (k : Nat) (hk : k < sz T) (hs : sz T ≤ 400) (X : Int) (hx : (items T).getD k 0 = X) :
    Calls Tryd.prog 9 #[.pointer v, .int .i64 (k : Int)] w fun e w' => e = .returned (.tuple #[.int .i64 X, .nilIface]) ∧ w' = w := by
  subst hx
  exact at_any h k hk hs

set_option maxHeartbeats 400000 in
theorem digits_any (n : Nat) (w : World) (hn : n < 1000000) :
    Calls Tryd.prog 14 #[.int .i64 (n : Int)] w fun e w' => e = .returned (.int .i64 (bitsOf n : Nat)) ∧ w' = w := by
  generalize hN : bitsOf n = N
  have HN : Hid (bitsOf n = N) := hN
  clear hN
  go_enter Tryd.func14, Tryd.ntmps14
  go_wp2_with fail
  go_loopg [0, 3] n (fun g t k wr => ∃ q : Nat, g < 1000000 ∧ t = .int .i64 (g : Int) ∧ k = .int .i64 (q : Int) ∧ q + bitsOf g = N ∧ q + g ≤ n ∧ wr = w)
  case atStart => exact ⟨0, hn, rfl, rfl, by rw [Nat.zero_add]; exact HN.out, by omega, rfl⟩
  case round =>
    obtain ⟨q, hg, rfl, rfl, hq, hqn, rfl⟩ := hrel
    have HQ : Hid (q + bitsOf gk = N) := hq
    clear hq
    by_cases hp : 0 < gk
    · have HB : Hid (bitsOf gk = bitsOf (gk / 2) + 1) := bitsOf_pos hp
      go_wp2_with fail
      go_roundg (gk / 2)
      case measure => omega
      case rel => exact ⟨q + 1, by omega, by go_num, by go_num, by have := HQ.out; have := HB.out; omega, by omega, rfl⟩
    · have hz : gk = 0 := by omega
      have HZ : Hid (q = N) := by
        show q = N
        have := HQ.out
        rw [hz, bitsOf_zero] at this
        omega
      clear hz
      go_wp2_with fail
      go_ret
      exact ⟨by rw [HZ.out]; rfl, rfl⟩

end Go.Proofs.YtpmkllmeilhakaaDoor
