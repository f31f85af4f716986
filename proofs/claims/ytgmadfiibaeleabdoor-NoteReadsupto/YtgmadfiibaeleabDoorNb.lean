/-
  The statements' own numbers in decimal: Dec, Number.
-/
import Derived.Test.YtgmadfiibaeleabDoorNa
import Derived.Test.YtgmadfiibaeleabDoorBg
namespace Go.Proofs.YtgmadfiibaeleabDoor.Nt
open Go.RowKit Go.Deep Go.Proofs.YtgmadfiibaeleabDoor.Br
open Go.RowKit (Below)
set_option linter.unusedVariables false

variable {w w' : World}

def str (l : List UInt8) : ByteArray := ⟨l.toArray⟩

theorem digit_at {d : Nat} (h : d < 10) : (ByteArray.mk #[48, 49, 50, 51, 52, 53, 54, 55, 56, 57]).extract d (d + 1) = str [UInt8.ofNat (48 + d)] := by
  have : d = 0 ∨ d = 1 ∨ d = 2 ∨ d = 3 ∨ d = 4 ∨ d = 5 ∨ d = 6 ∨ d = 7 ∨ d = 8 ∨ d = 9 := by omega
  rcases this with rfl | rfl | rfl | rfl | rfl | rfl | rfl | rfl | rfl | rfl <;> decide

theorem str_app (a b : List UInt8) : str a ++ str b = str (a ++ b) := by
  unfold str
  rw [ByteArray.mk_append_mk]

theorem str_nil : (ByteArray.mk #[]) = str [] := rfl

set_option maxRecDepth 100000 in
set_option maxHeartbeats 1000000 in
theorem dec_any (n : Nat) (hn : n ≤ 59) : Calls Tryd.prog 64 #[.int .i64 (n : Nat)] w fun e w' => e = .returned (.string (str (dgt n))) ∧ w' = w := by
  obtain ⟨r, hr⟩ : ∃ r, n % 10 = r := ⟨_, rfl⟩
  obtain ⟨t, ht⟩ : ∃ t, n / 10 = t := ⟨_, rfl⟩
  obtain ⟨cr, hcr⟩ : ∃ c, UInt8.ofNat (48 + r) = c := ⟨_, rfl⟩
  obtain ⟨ct, hct⟩ : ∃ c, UInt8.ofNat (48 + t) = c := ⟨_, rfl⟩
  obtain ⟨cn, hcn⟩ : ∃ c, UInt8.ofNat (48 + n) = c := ⟨_, rfl⟩
  have HD1 : Hid (n ≤ 9 → dgt n = [cn]) := fun h => by unfold dgt; rw [if_pos h, hcn]
  have HD2 : Hid (9 < n → dgt n = [ct, cr]) := fun h => by unfold dgt; rw [if_neg (by omega), hr, ht, hcr, hct]
  have hdr := digit_at (d := r) (by omega)
  have hdt := digit_at (d := t) (by omega)
  have HDN : Hid (n ≤ 9 → (ByteArray.mk #[48, 49, 50, 51, 52, 53, 54, 55, 56, 57]).extract n (n + 1) = str [cn]) := fun h => by rw [← hcn]; exact digit_at (by omega)
  rw [hcr] at hdr
  rw [hct] at hdt
  have hr1 : Int.tmod (n : Int) 10 = (r : Int) := by rw [Int.tmod_eq_emod_of_nonneg (by omega)]; omega
  have ht1 : Int.tdiv (n : Int) 10 = (t : Int) := by rw [Int.tdiv_eq_ediv_of_nonneg (by omega)]; omega
  have HR : Hid (r ≤ 9 ∧ t ≤ 5 ∧ (9 < n → t < n ∧ 0 < t)) := ⟨by omega, by omega, by omega⟩
  clear hr ht hcr hct hcn
  go_enter Tryd.func64, Tryd.ntmps64
  go_wp2_with fail
  go_loopw [0, 3] (fun x s wr => wr = w ∧ ((x = .int .i64 (n : Nat) ∧ s = .string (ByteArray.mk #[])) ∨ (9 < n ∧ x = .int .i64 (t : Nat) ∧ s = .string (str [cr])))) (fun x _ _ => (intOf x).toNat)
  case atStart => exact ⟨rfl, Or.inl ⟨rfl, rfl⟩⟩
  case round =>
    obtain ⟨rfl, hrel⟩ := hrel
    rcases hrel with ⟨rfl, rfl⟩ | ⟨h9, rfl, rfl⟩
    · by_cases h9 : n ≤ 9
      · have h9' : ¬ (9 : Int) < (n : Int) := by omega
        have i0 : (0 : Int) ≤ (n : Int) := by omega
        have i1 : (n : Int) ≤ 10 := by omega
        have i2 : (n : Int) + 1 ≤ 10 := by omega
        have i3 : (n : Int) ≤ (n : Int) + 1 := by omega
        have i4 : ((n : Int) + 1).toNat = n + 1 := by omega
        have hd := HDN.out h9
        rw [str_nil]
        clear hr1 ht1
        go_wp2_with fail
        go_ret
        exact ⟨by rw [HD1.out h9, str_app]; rfl, rfl⟩
      · have h9' : (9 : Int) < (n : Int) := by omega
        have hrr := HR.out.1
        have htt := HR.out.2.1
        have i5 : IntKind.i64.wrap (t : Int) = (t : Int) := by rw [IntKind.wrap_i64]; omega
        have i0 : (0 : Int) ≤ (r : Int) := by omega
        have i1 : (r : Int) ≤ 10 := by omega
        have i2 : (r : Int) + 1 ≤ 10 := by omega
        have i3 : (r : Int) ≤ (r : Int) + 1 := by omega
        have i4 : ((r : Int) + 1).toNat = r + 1 := by omega
        rw [str_nil]
        go_wp2_with fail
        go_roundw
        case rel => exact ⟨by first | rfl | trivial, Or.inr ⟨by omega, rfl, by rw [str_app]; rfl⟩⟩
        case measure => have := HR.out.2.2 (by omega); simp [intOf]; omega
    · have htt := HR.out.2.1
      have h9' : ¬ (9 : Int) < (t : Int) := by omega
      have i0 : (0 : Int) ≤ (t : Int) := by omega
      have i1 : (t : Int) ≤ 10 := by omega
      have i2 : (t : Int) + 1 ≤ 10 := by omega
      have i3 : (t : Int) ≤ (t : Int) + 1 := by omega
      have i4 : ((t : Int) + 1).toNat = t + 1 := by omega
      clear hr1 ht1
      go_wp2_with fail
      go_ret
      exact ⟨by rw [HD2.out h9, str_app]; rfl, rfl⟩

theorem str_size (l : List UInt8) : (str l).size = l.length := by simp [str, ByteArray.size]

/-- What Number tells. -/
def NumIs (l : List UInt8) (x : Int) : Prop := (Numeral l ∧ x = (val l : Nat)) ∨ (¬ Numeral l ∧ x = -1)

theorem val_lt {l : List UInt8} : ∀ (k : Nat), l.length ≤ k → (∀ c ∈ l, Dig c) → val l < 10 ^ k := by
  intro k
  induction k generalizing l with
  | zero =>
    intro hl _
    have : l = [] := List.eq_nil_of_length_eq_zero (by omega)
    subst this
    decide
  | succ k ih =>
    intro hl hd
    rcases List.eq_nil_or_concat l with rfl | ⟨r, c, rfl⟩
    · exact Nat.pow_pos (by decide)
    · rw [List.concat_eq_append] at hl hd ⊢
      rw [List.length_append] at hl
      have h1 := ih (l := r) (by simp at hl; omega) fun d hd' => hd d (List.mem_append_left _ hd')
      have h2 := hd c (by simp)
      unfold Dig at h2
      rw [val_snoc, Nat.pow_succ]
      omega

theorem str_get (l : List UInt8) (i : Nat) (h : i < (str l).size) : (str l)[i]'h = l.getD i 0 := by
  have h' : i < l.length := by rw [str_size] at h; exact h
  rw [List.getD_eq_getElem?_getD, List.getElem?_eq_getElem h']
  simp [str, ByteArray.getElem_eq_getElem_data]

set_option maxRecDepth 100000 in
set_option maxHeartbeats 1000000 in
theorem number_go {s : ByteArray} {l : List UInt8} {N : Nat} (hs : str l = s) (hN : l.length = N) (h1 : 1 ≤ N) (h2 : N ≤ 9) (h3 : 1 < N → (l.getD 0 0).toNat ≠ 48) : Calls Tryd.prog 68 #[.string s] w fun e w' => ∃ x, e = .returned (.int .i64 x) ∧ NumIs l x ∧ w' = w := by
  have hsz : s.size = N := by rw [← hs, str_size, hN]
  have HG : Hid (∀ i (h : i < s.size), s[i]'h = l.getD i 0) := by subst hs; exact str_get l
  have HN : Hid (l.length = N ∧ (1 < N → (l.getD 0 0).toNat ≠ 48)) := ⟨hN, h3⟩
  have h1' : ¬ (N : Int) < 1 := by omega
  have h2' : ¬ (9 : Int) < (N : Int) := by omega
  obtain ⟨c0, hc0⟩ : ∃ c, l.getD 0 0 = c := ⟨_, rfl⟩
  have g0 : ∀ h : 0 < s.size, s[0]'h = c0 := fun h => by rw [← hc0]; exact HG.out 0 h
  rw [hc0] at h3
  clear hs hN
  by_cases h4 : 1 < N
  · have h4' : (1 : Int) < (N : Int) := by omega
    have t0 : ((c0.toNat : Int) == 48) = false := by rw [beq_eq_false_iff_ne]; have := h3 h4; omega
    have t1 : (c0.toNat == 48) = false := by rw [beq_eq_false_iff_ne]; exact h3 h4
    clear h3 hc0
    go_enter Tryd.func68, Tryd.ntmps68
    go_wp2_with fail
    go_loopw [3, 4] (fun x i wr => ∃ j : Nat, j ≤ N ∧ i = .int .i64 (j : Nat) ∧ wr = w ∧ x = .int .i64 (val (l.take j) : Nat) ∧ ∀ c ∈ l.take j, Dig c) (fun _ i _ => N - (intOf i).toNat)
    case atStart => exact ⟨0, Nat.zero_le _, rfl, rfl, rfl, fun c hc => by simp at hc⟩
    case round =>
      obtain ⟨j, hj, rfl, rfl, rfl, hall⟩ := hrel
      have HAll : Hid (∀ c ∈ l.take j, Dig c) := hall
      by_cases hlt : j < N
      · obtain ⟨c, hc⟩ : ∃ c, l.getD j 0 = c := ⟨_, rfl⟩
        have gj : ∀ h : j < s.size, s[j]'h = c := fun h => by rw [← hc]; exact HG.out j h
        have hget : l[j]? = some c := by
          have q : j < l.length := by rw [HN.out.1]; exact hlt
          rw [List.getD_eq_getElem?_getD, List.getElem?_eq_getElem q] at hc
          rw [List.getElem?_eq_getElem q]
          exact congrArg some hc
        have hmem : c ∈ l := List.mem_of_getElem? hget
        have htk : l.take (j + 1) = l.take j ++ [c] := by rw [List.take_add_one, hget]; rfl
        have i0 : (0 : Int) ≤ (j : Int) := by omega
        have i1 : (j : Int) < (N : Int) := by omega
        by_cases hd : Dig c
        · have hv := val_lt 8 (l := l.take j) (by rw [List.length_take]; omega) hall
          obtain ⟨v, hvv⟩ : ∃ v, val (l.take j) = v := ⟨_, rfl⟩
          rw [hvv] at hv
          have HT : Hid (val (l.take (j + 1)) = v * 10 + (c.toNat - 48) ∧ ∀ d ∈ l.take (j + 1), Dig d) := ⟨by rw [htk, val_snoc, hvv], fun d hd' => by
            rw [htk] at hd'
            rcases List.mem_append.1 hd' with q | q
            · exact hall d q
            · rw [List.mem_singleton.1 q]; exact hd⟩
          unfold Dig at hd
          rw [hvv]
          obtain ⟨z, hz⟩ : ∃ z, c.toNat = z := ⟨_, rfl⟩
          rw [hz] at hd HT
          have hz' : (c.toNat : Int) = (z : Int) := by rw [hz]
          have a1 : ¬ (z : Int) < 48 := by omega
          have a2 : ¬ (57 : Int) < (z : Int) := by omega
          have w1 : IntKind.i64.wrap ((v : Int) * 10) = (v : Int) * 10 := by rw [IntKind.wrap_i64]; omega
          have w2 : IntKind.i64.wrap ((v : Int) * 10 + (z : Int)) = (v : Int) * 10 + (z : Int) := by rw [IntKind.wrap_i64]; omega
          have w3 : IntKind.i64.wrap ((v : Int) * 10 + (z : Int) - 48) = ((v * 10 + (z - 48) : Nat) : Int) := by rw [IntKind.wrap_i64]; omega
          clear hall hc hget hmem htk hvv
          go_wp2_with fail
          exact ⟨⟨j + 1, by omega, by go_num, trivial, by rw [HT.out.1]; exact congrArg (Value.int .i64) (by omega), HT.out.2⟩, by simp [intOf]; omega⟩
        · have HX : Hid (NumIs l (-1)) := Or.inr ⟨fun q => hd (q.all c hmem), rfl⟩
          unfold Dig at hd
          obtain ⟨z, hz⟩ : ∃ z, c.toNat = z := ⟨_, rfl⟩
          rw [hz] at hd
          clear hall hc hget hmem htk
          by_cases hz1 : z < 48
          · have a1 : (z : Int) < 48 := by omega
            go_wp2_with fail
            go_ret
            exact ⟨-1, rfl, HX.out, rfl⟩
          · have a1 : ¬ (z : Int) < 48 := by omega
            have a2 : (57 : Int) < (z : Int) := by omega
            go_wp2_with fail
            go_ret
            exact ⟨-1, rfl, HX.out, rfl⟩
      · obtain rfl : j = N := by omega
        have hfull : l.take j = l := List.take_of_length_le (by rw [HN.out.1]; exact Nat.le_refl _)
        rw [hfull] at hall ⊢
        have HX : Hid (NumIs l (val l : Nat)) := Or.inl ⟨⟨by rw [HN.out.1]; exact h1, by rw [HN.out.1]; exact h2, fun q => HN.out.2 (by rw [← HN.out.1]; exact q), hall⟩, rfl⟩
        clear hall hfull HAll
        go_wp2_with fail
        go_ret
        exact ⟨_, rfl, HX.out, rfl⟩
  · have h4' : ¬ (1 : Int) < (N : Int) := by omega
    clear h3 hc0 g0
    go_enter Tryd.func68, Tryd.ntmps68
    go_wp2_with fail
    go_loopw [3, 4] (fun x i wr => ∃ j : Nat, j ≤ N ∧ i = .int .i64 (j : Nat) ∧ wr = w ∧ x = .int .i64 (val (l.take j) : Nat) ∧ ∀ c ∈ l.take j, Dig c) (fun _ i _ => N - (intOf i).toNat)
    case atStart => exact ⟨0, Nat.zero_le _, rfl, rfl, rfl, fun c hc => by simp at hc⟩
    case round =>
      obtain ⟨j, hj, rfl, rfl, rfl, hall⟩ := hrel
      have HAll : Hid (∀ c ∈ l.take j, Dig c) := hall
      by_cases hlt : j < N
      · obtain ⟨c, hc⟩ : ∃ c, l.getD j 0 = c := ⟨_, rfl⟩
        have gj : ∀ h : j < s.size, s[j]'h = c := fun h => by rw [← hc]; exact HG.out j h
        have hget : l[j]? = some c := by
          have q : j < l.length := by rw [HN.out.1]; exact hlt
          rw [List.getD_eq_getElem?_getD, List.getElem?_eq_getElem q] at hc
          rw [List.getElem?_eq_getElem q]
          exact congrArg some hc
        have hmem : c ∈ l := List.mem_of_getElem? hget
        have htk : l.take (j + 1) = l.take j ++ [c] := by rw [List.take_add_one, hget]; rfl
        have i0 : (0 : Int) ≤ (j : Int) := by omega
        have i1 : (j : Int) < (N : Int) := by omega
        by_cases hd : Dig c
        · have hv := val_lt 8 (l := l.take j) (by rw [List.length_take]; omega) hall
          obtain ⟨v, hvv⟩ : ∃ v, val (l.take j) = v := ⟨_, rfl⟩
          rw [hvv] at hv
          have HT : Hid (val (l.take (j + 1)) = v * 10 + (c.toNat - 48) ∧ ∀ d ∈ l.take (j + 1), Dig d) := ⟨by rw [htk, val_snoc, hvv], fun d hd' => by
            rw [htk] at hd'
            rcases List.mem_append.1 hd' with q | q
            · exact hall d q
            · rw [List.mem_singleton.1 q]; exact hd⟩
          unfold Dig at hd
          rw [hvv]
          obtain ⟨z, hz⟩ : ∃ z, c.toNat = z := ⟨_, rfl⟩
          rw [hz] at hd HT
          have hz' : (c.toNat : Int) = (z : Int) := by rw [hz]
          have a1 : ¬ (z : Int) < 48 := by omega
          have a2 : ¬ (57 : Int) < (z : Int) := by omega
          have w1 : IntKind.i64.wrap ((v : Int) * 10) = (v : Int) * 10 := by rw [IntKind.wrap_i64]; omega
          have w2 : IntKind.i64.wrap ((v : Int) * 10 + (z : Int)) = (v : Int) * 10 + (z : Int) := by rw [IntKind.wrap_i64]; omega
          have w3 : IntKind.i64.wrap ((v : Int) * 10 + (z : Int) - 48) = ((v * 10 + (z - 48) : Nat) : Int) := by rw [IntKind.wrap_i64]; omega
          clear hall hc hget hmem htk hvv
          go_wp2_with fail
          exact ⟨⟨j + 1, by omega, by go_num, trivial, by rw [HT.out.1]; exact congrArg (Value.int .i64) (by omega), HT.out.2⟩, by simp [intOf]; omega⟩
        · have HX : Hid (NumIs l (-1)) := Or.inr ⟨fun q => hd (q.all c hmem), rfl⟩
          unfold Dig at hd
          obtain ⟨z, hz⟩ : ∃ z, c.toNat = z := ⟨_, rfl⟩
          rw [hz] at hd
          clear hall hc hget hmem htk
          by_cases hz1 : z < 48
          · have a1 : (z : Int) < 48 := by omega
            go_wp2_with fail
            go_ret
            exact ⟨-1, rfl, HX.out, rfl⟩
          · have a1 : ¬ (z : Int) < 48 := by omega
            have a2 : (57 : Int) < (z : Int) := by omega
            go_wp2_with fail
            go_ret
            exact ⟨-1, rfl, HX.out, rfl⟩
      · obtain rfl : j = N := by omega
        have hfull : l.take j = l := List.take_of_length_le (by rw [HN.out.1]; exact Nat.le_refl _)
        rw [hfull] at hall ⊢
        have HX : Hid (NumIs l (val l : Nat)) := Or.inl ⟨⟨by rw [HN.out.1]; exact h1, by rw [HN.out.1]; exact h2, fun q => HN.out.2 (by rw [← HN.out.1]; exact q), hall⟩, rfl⟩
        clear hall hfull HAll
        go_wp2_with fail
        go_ret
        exact ⟨_, rfl, HX.out, rfl⟩

set_option maxRecDepth 100000 in
set_option maxHeartbeats 1000000 in
theorem number_any (l : List UInt8) : Calls Tryd.prog 68 #[.string (str l)] w fun e w' => ∃ x, e = .returned (.int .i64 x) ∧ NumIs l x ∧ w' = w := by
  obtain ⟨N, hN⟩ : ∃ N, l.length = N := ⟨_, rfl⟩
  obtain ⟨s, hs⟩ : ∃ s, str l = s := ⟨_, rfl⟩
  by_cases hok : 1 ≤ N ∧ N ≤ 9 ∧ (1 < N → (l.getD 0 0).toNat ≠ 48)
  · rw [hs]
    exact number_go hs hN hok.1 hok.2.1 hok.2.2
  · have HX : Hid (NumIs l (-1)) := Or.inr ⟨fun q => hok ⟨by rw [← hN]; exact q.some, by rw [← hN]; exact q.few, fun z => q.lead (by rw [hN]; exact z)⟩, rfl⟩
    have hsz : s.size = N := by rw [← hs, str_size, hN]
    have HG : Hid (∀ i (h : i < s.size), s[i]'h = l.getD i 0) := by subst hs; exact str_get l
    rw [hs]
    by_cases h1 : N < 1
    · have h1' : (N : Int) < 1 := by omega
      clear hok hs hN
      go_enter Tryd.func68, Tryd.ntmps68
      go_wp2_with fail
      go_ret
      exact ⟨-1, rfl, HX.out, rfl⟩
    by_cases h2 : 9 < N
    · have h1' : ¬ (N : Int) < 1 := by omega
      have h2' : (9 : Int) < (N : Int) := by omega
      clear hok hs hN
      go_enter Tryd.func68, Tryd.ntmps68
      go_wp2_with fail
      go_ret
      exact ⟨-1, rfl, HX.out, rfl⟩
    have h3 : 1 < N ∧ (l.getD 0 0).toNat = 48 := by
      refine ⟨?_, ?_⟩
      · apply Classical.byContradiction
        intro q
        exact hok ⟨by omega, by omega, fun z => absurd z q⟩
      · apply Classical.byContradiction
        intro q
        exact hok ⟨by omega, by omega, fun _ => q⟩
    obtain ⟨c0, hc0⟩ : ∃ c, l.getD 0 0 = c := ⟨_, rfl⟩
    have g0 : ∀ h : 0 < s.size, s[0]'h = c0 := fun h => by rw [← hc0]; exact HG.out 0 h
    rw [hc0] at h3
    have h1' : ¬ (N : Int) < 1 := by omega
    have h2' : ¬ (9 : Int) < (N : Int) := by omega
    have h4' : (1 : Int) < (N : Int) := by omega
    have t0 : ((c0.toNat : Int) == 48) = true := by rw [h3.2]; rfl
    have t1 : (c0.toNat == 48) = true := by rw [h3.2]; rfl
    clear hok hs hN h3 hc0
    go_enter Tryd.func68, Tryd.ntmps68
    go_wp2_with fail
    go_ret
    exact ⟨-1, rfl, HX.out, rfl⟩

end Go.Proofs.YtgmadfiibaeleabDoor.Nt
