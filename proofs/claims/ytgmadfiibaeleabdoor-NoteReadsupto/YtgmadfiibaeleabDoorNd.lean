/-
  The statements' own events: Split, EventOf.
-/
import Derived.Test.YtgmadfiibaeleabDoorNc
namespace Go.Proofs.YtgmadfiibaeleabDoor.Nt
open Go.RowKit Go.Deep Go.Proofs.YtgmadfiibaeleabDoor.Br
open Go.RowKit (Below)
set_option linter.unusedVariables false

variable {w w' : World}

theorem Tryd.infoStr : (Tryd.prog.info? 9).map (fun i => (i.zero, i.size, i.bytes)) = some (some (.string (ByteArray.mk #[])), 1, 16) := by kernel_rfl

def strs (ps : List (List UInt8)) : List Value := ps.map fun p => Value.string (str p)
theorem strs_snoc (ps : List (List UInt8)) (p : List UInt8) : strs (ps ++ [p]) = strs ps ++ [.string (str p)] := by simp [strs]

theorem str_cut (l : List UInt8) (i j : Nat) : (str l).extract i j = str ((l.take j).drop i) := by
  unfold str
  rw [ByteArray.extract_mk]
  congr 1
  apply Array.ext'
  simp [List.drop_take]

theorem pieces_len (l : List UInt8) : (pieces l).length ≤ l.length + 1 := by
  induction l with
  | nil => simp [pieces_nil]
  | cons c r ih =>
    by_cases h : c = 32
    · subst h; rw [pieces_blank]; simp; omega
    · rw [pieces_cons r h]
      obtain ⟨p, ps, e⟩ := pieces_ne r
      rw [e] at ih ⊢
      simp [glue] at ih ⊢
      omega

set_option maxRecDepth 100000 in
set_option maxHeartbeats 2000000 in
theorem split_any (l : List UInt8) (hl : l.length ≤ 2000000) : Calls Tryd.prog 67 #[.string (str l), .int .u8 32] w fun e w' => ∃ v, e = .returned v ∧ w'.ownsRow w.heap.size 9 1 v (pieces l).length (strs (pieces l)) ∧ Below w.heap.size w w' := by
  obtain ⟨N, hN⟩ : ∃ N, l.length = N := ⟨_, rfl⟩
  obtain ⟨s, hs⟩ : ∃ s, str l = s := ⟨_, rfl⟩
  have hsz : s.size = N := by rw [← hs, str_size, hN]
  have HG : Hid (∀ i (h : i < s.size), s[i]'h = l.getD i 0) := by subst hs; exact str_get l
  have HC : Hid (∀ i j, s.extract i j = str ((l.take j).drop i)) := fun i j => by rw [← hs]; exact str_cut l i j
  have HN : Hid (l.length = N) := hN
  obtain ⟨z0, hi0, hz0, hz1, hz2⟩ := info_parts Tryd.infoStr
  rw [hN] at hl
  rw [hs]
  clear hs hN
  go_enter Tryd.func67, Tryd.ntmps67
  go_wp2_with fail
  go_loopw [5, 6, 7] (fun vo fr i wr => ∃ j f : Nat, ∃ ps, j ≤ N ∧ f ≤ j ∧ i = .int .i64 (j : Nat) ∧ fr = .int .i64 (f : Nat) ∧ pieces (l.take j) = ps ++ [(l.take j).drop f] ∧ Below w.heap.size w wr ∧ wr.ownsRow w.heap.size 9 1 vo ps.length (strs ps)) (fun _ _ i _ => N - (intOf i).toNat)
  case atStart => exact ⟨0, 0, [], Nat.zero_le _, Nat.zero_le _, rfl, rfl, by simp [pieces_nil], Below.refl _ _, World.ownsRow_nil ..⟩
  case round =>
    obtain ⟨j, f, ps, hj, hf, rfl, rfl, hp, hb, hown⟩ := hrel
    have HB : Hid (Below w.heap.size w wr) := hb
    obtain ⟨K, hK⟩ : ∃ K, ps.length = K := ⟨_, rfl⟩
    rw [hK] at hown
    have hKj : K ≤ 2000001 := by
      have h1 := pieces_len (l.take j)
      rw [hp, List.length_append, List.length_take, hK] at h1
      simp at h1
      omega
    have HO : Hid (wr.ownsRow w.heap.size 9 1 u5 K (strs ps) ∧ ps.length = K) := ⟨hown, hK⟩
    have hsw : w.heap.size ≤ wr.heap.size := hb.size
    clear hown hb hK
    by_cases hlt : j < N
    · obtain ⟨c, hc⟩ : ∃ c, l.getD j 0 = c := ⟨_, rfl⟩
      have gj : ∀ h : j < s.size, s[j]'h = c := fun h => by rw [← hc]; exact HG.out j h
      have hget : l[j]? = some c := by
        have q : j < l.length := by rw [HN.out]; exact hlt
        rw [List.getD_eq_getElem?_getD, List.getElem?_eq_getElem q] at hc
        rw [List.getElem?_eq_getElem q]
        exact congrArg some hc
      have htk : l.take (j + 1) = l.take j ++ [c] := by rw [List.take_add_one, hget]; rfl
      have hsn := pieces_snoc c _ _ _ hp
      rw [← htk] at hsn
      have htl : (l.take j).length = j := by rw [List.length_take, HN.out]; omega
      have i0 : (0 : Int) ≤ (j : Int) := by omega
      have i1 : (j : Int) < (N : Int) := by omega
      have i2 : (0 : Int) ≤ (f : Int) := by omega
      have i3 : (f : Int) ≤ (j : Int) := by omega
      have i4 : (j : Int) ≤ (N : Int) := by omega
      by_cases hc32 : c = 32
      · rw [if_pos hc32] at hsn
        have hnew : pieces (l.take (j + 1)) = (ps ++ [(l.take j).drop f]) ++ [(l.take (j + 1)).drop (j + 1)] := by
          have e0 : (l.take (j + 1)).drop (j + 1) = [] := List.drop_of_length_le (by rw [htk, List.length_append, htl]; simp)
          rw [e0, hsn, List.append_assoc]
          rfl
        have HNew : Hid (pieces (l.take (j + 1)) = (ps ++ [(l.take j).drop f]) ++ [(l.take (j + 1)).drop (j + 1)]) := hnew
        have t1 : ((c.toNat : Int) == 32) = true := by rw [hc32]; rfl
        have t2 : (c.toNat == 32) = true := by rw [hc32]; rfl
        have hce := HC.out f j
        obtain ⟨sp, hsp⟩ : ∃ sp, str ((l.take j).drop f) = sp := ⟨_, rfl⟩
        rw [hsp] at hce
        have HSp : Hid (str ((l.take j).drop f) = sp) := hsp
        clear hc hget htk hsn htl hc32 hnew hsp hp
        go_wp2_with (first
          | (at_builtin; refine wpList_append_lies _ rfl (.tmp 19) (.tmp 24) 116 rfl w.heap.size 9 z0 (.string (ByteArray.mk #[])) 1 16 Tryd.underlying116 hi0 hz0 hz1 hz2 rfl (by decide) u5 K (strs ps) rfl (HO.out.1.alloc _) ⟨wr.heap.size, 0, none⟩ 1 1 [.string sp] rfl rfl (cell_one_new _ _ _) ?c2 (by decide) ?c3 ?c4 ?c5 _ rfl ?_))
        case c2 => intro z hz; simp at hz; subst hz; rfl
        case c3 => unfold maxLen; omega
        case c4 => omega
        case c5 => first | omega | (simp; omega)
        intro g1 cap1 w6 hown hgrow hat hlt2
        have HB6 : Hid (Below w.heap.size w w6) := (HB.out.alloc hsw _).grown hgrow (by simp; omega) (fun k e => (HO.out.1.lt k e).1)
        have HO6 : Hid (w6.ownsRow w.heap.size 9 1 (.slice (some ⟨g1, 0, none⟩) (K + 1) cap1) (ps ++ [(l.take j).drop f]).length (strs (ps ++ [(l.take j).drop f]))) := show World.ownsRow .. by
          rw [strs_snoc, HSp.out, List.length_append, HO.out.2]; exact hown
        clear hown hgrow hat hlt2 gj
        go_wp2_with fail
        go_roundw
        case rel => exact ⟨j + 1, j + 1, _, by omega, by omega, by go_num, by go_num, HNew.out, HB6.out, HO6.out⟩
        case measure => simp [intOf]; omega
      · rw [if_neg hc32] at hsn
        have hnew : pieces (l.take (j + 1)) = ps ++ [(l.take (j + 1)).drop f] := by
          rw [hsn, htk, List.drop_append_of_le_length (by rw [htl]; exact hf)]
        have HNew : Hid (pieces (l.take (j + 1)) = ps ++ [(l.take (j + 1)).drop f]) := hnew
        have t2 : (c.toNat == 32) = false := by rw [beq_eq_false_iff_ne]; exact fun q => hc32 (u8_ext q)
        have t1 : ((c.toNat : Int) == 32) = false := by rw [beq_eq_false_iff_ne]; exact fun q => hc32 (u8_ext (by have : (32 : UInt8).toNat = 32 := rfl; omega))
        clear hc hget htk hsn htl hc32 hnew hp
        go_wp2_with fail
        go_roundw
        case rel => exact ⟨j + 1, f, ps, by omega, by omega, by go_num, rfl, HNew.out, HB.out, by rw [HO.out.2]; exact HO.out.1⟩
        case measure => simp [intOf]; omega
    · obtain rfl : j = N := by omega
      have hfull : l.take j = l := List.take_of_length_le (by rw [HN.out]; exact Nat.le_refl _)
      rw [hfull] at hp
      have HP : Hid (pieces l = ps ++ [l.drop f]) := hp
      have i2 : (0 : Int) ≤ (f : Int) := by omega
      have i3 : (f : Int) ≤ (j : Int) := by omega
      have hce := HC.out f j
      rw [hfull] at hce
      obtain ⟨sp, hsp⟩ : ∃ sp, str (l.drop f) = sp := ⟨_, rfl⟩
      rw [hsp] at hce
      have HSp : Hid (str (l.drop f) = sp) := hsp
      clear hp hfull hsp
      go_wp2_with (first
        | (at_builtin; refine wpList_append_lies _ rfl (.tmp 28) (.tmp 32) 116 rfl w.heap.size 9 z0 (.string (ByteArray.mk #[])) 1 16 Tryd.underlying116 hi0 hz0 hz1 hz2 rfl (by decide) u5 K (strs ps) rfl (HO.out.1.alloc _) ⟨wr.heap.size, 0, none⟩ 1 1 [.string sp] rfl rfl (cell_one_new _ _ _) ?c2 (by decide) ?c3 ?c4 ?c5 _ rfl ?_))
      case c2 => intro z hz; simp at hz; subst hz; rfl
      case c3 => unfold maxLen; omega
      case c4 => omega
      case c5 => first | omega | (simp; omega)
      intro g1 cap1 w6 hown hgrow hat hlt2
      have HB6 : Hid (Below w.heap.size w w6) := (HB.out.alloc hsw _).grown hgrow (by simp; omega) (fun k e => (HO.out.1.lt k e).1)
      have HO6 : Hid (w6.ownsRow w.heap.size 9 1 (.slice (some ⟨g1, 0, none⟩) (K + 1) cap1) (pieces l).length (strs (pieces l))) := show World.ownsRow .. by
        rw [HP.out, strs_snoc, HSp.out, List.length_append, HO.out.2]; exact hown
      clear hown hgrow hat hlt2
      go_wp2_with fail
      go_ret
      exact ⟨_, rfl, HO6.out, HB6.out⟩

end Go.Proofs.YtgmadfiibaeleabDoor.Nt
