/-
  The library's strings.Cut at a blank, strings.IndexByte at a mark, strconv.Atoi and strconv.Itoa, as package note asks them.
-/
import Derived.Test.YtgmadfiibaeleabDoorNf
import Derived.Test.YtgmadfiibaeleabDoorSh4
import Derived.Lib.IndexLaws
import Derived.Lib.AtoiErrMem
namespace Go.Proofs.YtgmadfiibaeleabDoor.Nt
open Go.RowKit Go.Deep Go.Proofs.YtgmadfiibaeleabDoor.Br
open Go.RowKit (Below)
set_option linter.unusedVariables false

variable {w w' : World}

theorem str_list (l : List UInt8) : (str l).data.toList = l := rfl

theorem dec_dgt {n : Nat} (h : n ≤ 59) : Lib.decDigits n = dgt n := by
  unfold dgt
  by_cases h9 : n ≤ 9
  · rw [if_pos h9, Lib.decDigits, dif_pos (by omega)]
  · rw [if_neg h9, Lib.decDigits, dif_neg (by omega), Lib.decDigits, dif_pos (by omega)]
    rfl

theorem atoi_dgt {n : Nat} (h : n ≤ 59) : Lib.atoiAll (dgt n) = .ok (n : Int) := by
  have : n < 60 := by omega
  have hall : ∀ k : Fin 60, Lib.atoiAll (dgt k.val) = .ok (k.val : Int) := by decide
  exact hall ⟨n, this⟩

theorem itoa_any {n : Nat} (h : n ≤ 59) : Calls Tryd.prog 66 #[.int .i64 (n : Nat)] w fun e w' => e = .returned (.string (str (dgt n))) ∧ w' = w := by
  have := Any.strconv_Itoa_small { Tryd.lays171 with } n (by omega) w
  rw [dec_dgt h] at this
  exact this

/-- The library's two errors of numbers are there. -/
def Senti (w : World) : Prop := (∃ t p, w.cell? ⟨3, 0, none⟩ = some (.iface t p)) ∧ ∃ t p, w.cell? ⟨4, 0, none⟩ = some (.iface t p)

theorem Senti.below (h : Senti w) (hb : Below w.heap.size w w') : Senti w' := by
  obtain ⟨⟨t, p, h1⟩, t', p', h2⟩ := h
  exact ⟨⟨t, p, cell_keep hb h1⟩, t', p', cell_keep hb h2⟩

/-- Atoi: whatever the text, a number and an error; the digits of a node are that node. -/
theorem atoi_any (l : List UInt8) (hl : l.length ≤ 281474976710656) (hs : Senti w) : Calls Tryd.prog 82 #[.string (str l)] w fun e w' => ∃ (v : Int) (x : Value), e = .returned (.tuple #[.int .i64 v, x]) ∧ (∀ n : Nat, n ≤ 59 → l = dgt n → v = (n : Int)) ∧ Below w.heap.size w w' := by
  have hz : (str l).size = l.length := str_size l
  obtain ⟨⟨t, p, h1⟩, t', p', h2⟩ := hs
  cases h : Lib.atoiAll l with
  | ok v =>
    refine (Any.strconv_Atoi_ok { Tryd.lays172 with } (str l) (by omega) v h w).mono fun e w' ⟨e1, e2⟩ => ⟨v, _, e1, fun n hn e => ?_, ?_⟩
    · rw [e, atoi_dgt hn] at h
      injection h with h
      exact h.symm
    · rcases e2 with rfl | ⟨t, rfl⟩
      · exact Below.refl _ _
      · exact Lib.bytesWorld_below _ _ _
  | range =>
    refine (Any.strconv_Atoi_range { Tryd.lays172 with } (str l) (by omega) h _ w h2 (Or.inr ⟨_, _, rfl⟩)).mono fun e w' ⟨N, e1, _, _, e4⟩ => ⟨_, _, e1, fun n hn e => ?_, e4⟩
    rw [e, atoi_dgt hn] at h
    cases h
  | _ =>
    refine (Any.strconv_Atoi_syntax { Tryd.lays172 with } (str l) (by omega) h _ w h1 (Or.inr ⟨_, _, rfl⟩)).mono fun e w' ⟨N, e1, _, _, e4⟩ => ⟨0, _, e1, fun n hn e => ?_, e4⟩
    rw [e, atoi_dgt hn] at h
    cases h

/-- Where a text is cut. -/
theorem cut_at {l a b : List UInt8} (ha : ∀ c ∈ a, c ≠ 32) (h : l = a ++ 32 :: b) : Lib.indexByte l 32 = (a.length : Int) ∧ l.take a.length = a ∧ l.drop (a.length + 1) = b := by
  have h1 : l[a.length]? = some 32 := by rw [h]; simp
  refine ⟨?_, by rw [h]; simp, by rw [h, List.drop_append]; simp⟩
  have hge := Lib.indexByte_ge l 32
  by_cases hn : Lib.indexByte l 32 = -1
  · exact absurd h1 (Lib.indexByte_none hn _)
  · obtain ⟨o, ho⟩ : ∃ o : Nat, Lib.indexByte l 32 = (o : Int) := ⟨(Lib.indexByte l 32).toNat, by omega⟩
    obtain ⟨q1, q2⟩ := Lib.indexByte_some ho
    rcases Nat.lt_trichotomy o a.length with q | q | q
    · rw [h, List.getElem?_append_left q] at q1
      exact absurd rfl (ha 32 (List.mem_of_getElem? q1))
    · rw [ho, q]
    · exact absurd h1 (q2 _ q)

set_option maxRecDepth 100000 in
set_option maxHeartbeats 1000000 in
theorem cut_in (l : List UInt8) (hl : l.length ≤ 281474976710656) : Calls Tryd.prog 97 #[.string (str l), .string (ByteArray.mk #[32])] w fun e w' => ∃ p q b, e = .returned (.tuple #[.string (str p), .string (str q), .bool b]) ∧ (∀ a c, (∀ d ∈ a, d ≠ 32) → l = a ++ 32 :: c → p = a ∧ q = c) ∧ p.length ≤ l.length ∧ q.length ≤ l.length ∧ Below w.heap.size w w' := by
  have hix : ∀ W : World, Calls Tryd.prog 112 #[.string (str l), .string (ByteArray.mk #[32])] W fun e w' => e = .returned (.int .i64 (Lib.indexByte l 32)) ∧ w' = W := fun W => Any.stringslite_Index_one { Tryd.lays219 with } (str l) 32 W
  have hge := Lib.indexByte_ge l 32
  obtain ⟨N, hN⟩ : ∃ N, l.length = N := ⟨_, rfl⟩
  obtain ⟨s, hs⟩ : ∃ s, str l = s := ⟨_, rfl⟩
  have hsz : s.size = N := by rw [← hs, str_size, hN]
  rw [hs] at hix ⊢
  by_cases hn : Lib.indexByte l 32 = -1
  · have HX : Hid ((∀ a c, (∀ d ∈ a, d ≠ 32) → l = a ++ 32 :: c → l = a ∧ [] = c) ∧ s = str l) := ⟨fun a c ha e => by
      have := (cut_at ha e).1
      omega, hs.symm⟩
    rw [hn] at hix
    clear hs hN hge hn
    go_enter Tryd.func97, Tryd.ntmps97
    go_wp2_with fail
    refine (hix _).mono ?_
    rintro e w1 ⟨rfl, rfl⟩
    clear hix
    go_wp2_with fail
    go_ret3
    exact ⟨l, [], _, by rw [HX.out.2]; rfl, HX.out.1, Nat.le_refl _, Nat.zero_le _, Below.refl _ _⟩
  · obtain ⟨o, ho⟩ : ∃ o : Nat, Lib.indexByte l 32 = (o : Int) := ⟨(Lib.indexByte l 32).toNat, by omega⟩
    have hlt : o < N := by
      obtain ⟨q1, _⟩ := Lib.indexByte_some ho
      rw [← hN]
      exact (List.getElem?_eq_some_iff.1 q1).1
    have HX : Hid (∀ a c, (∀ d ∈ a, d ≠ 32) → l = a ++ 32 :: c → l.take o = a ∧ l.drop (o + 1) = c) := fun a c ha e => by
      obtain ⟨q1, q2, q3⟩ := cut_at ha e
      have : o = a.length := by omega
      rw [this]
      exact ⟨q2, q3⟩
    have x1 : s.extract 0 o = str (l.take o) := by rw [← hs, str_cut]; simp
    have x2 : s.extract (o + 1) N = str (l.drop (o + 1)) := by rw [← hs, str_cut, ← hN, List.take_length]
    obtain ⟨sp, hsp⟩ : ∃ sp, str (l.take o) = sp := ⟨_, rfl⟩
    obtain ⟨sq, hsq⟩ : ∃ sq, str (l.drop (o + 1)) = sq := ⟨_, rfl⟩
    have HSp : Hid (str (l.take o) = sp ∧ str (l.drop (o + 1)) = sq) := ⟨hsp, hsq⟩
    rw [hsp] at x1
    rw [hsq] at x2
    rw [ho] at hix
    have j0 : (0 : Int) ≤ (o : Int) := by omega
    have j1 : (o : Int) ≤ (N : Int) := by omega
    have j2 : IntKind.i64.wrap ((o : Int) + 1) = (o : Int) + 1 := by rw [IntKind.wrap_i64]; omega
    have j3 : (0 : Int) ≤ (o : Int) + 1 := by omega
    have j4 : (o : Int) + 1 ≤ (N : Int) := by omega
    have j5 : ((o : Int) + 1).toNat = o + 1 := by omega
    clear hs hN hge hn ho hlt hsp hsq
    go_enter Tryd.func97, Tryd.ntmps97
    go_wp2_with fail
    refine (hix _).mono ?_
    rintro e w1 ⟨rfl, rfl⟩
    clear hix
    go_wp2_with fail
    go_quiet (fail)
    go_wp2_with fail
    go_ret3
    exact ⟨l.take o, l.drop (o + 1), _, by rw [HSp.out.1, HSp.out.2]; rfl, HX.out, by simp; omega, by simp, Br.below_drewN rfl⟩

set_option maxRecDepth 100000 in
set_option maxHeartbeats 1000000 in
theorem cut_any (l : List UInt8) (hl : l.length ≤ 281474976710656) : Calls Tryd.prog 81 #[.string (str l), .string (ByteArray.mk #[32])] w fun e w' => ∃ p q b, e = .returned (.tuple #[.string (str p), .string (str q), .bool b]) ∧ (∀ a c, (∀ d ∈ a, d ≠ 32) → l = a ++ 32 :: c → p = a ∧ q = c) ∧ p.length ≤ l.length ∧ q.length ≤ l.length ∧ Below w.heap.size w w' := by
  have hc := fun W => cut_in (w := W) l hl
  obtain ⟨s, hs⟩ : ∃ s, str l = s := ⟨_, rfl⟩
  rw [hs] at hc ⊢
  clear hs
  go_enter Tryd.func81, Tryd.ntmps81
  go_wp2_with fail
  refine (hc _).mono ?_
  rintro e w1 ⟨p, q, b, rfl, h1, h2, h3, h4⟩
  have HX : Hid ((∀ a c, (∀ d ∈ a, d ≠ 32) → l = a ++ 32 :: c → p = a ∧ q = c) ∧ p.length ≤ l.length ∧ q.length ≤ l.length ∧ Below w.heap.size w w1) := ⟨h1, h2, h3, h4⟩
  clear hc h1 h2 h3 h4
  go_wp2_with fail
  go_ret3
  exact ⟨p, q, b, rfl, HX.out⟩

/-- Where a mark stands. -/
theorem mark_index (c : UInt8) : ∃ k : Nat, k ≤ 3 ∧ Lib.indexByte [43, 45, 63] c = (k : Int) - 1 ∧ ∀ j, 1 ≤ j ∧ j ≤ 3 → c = mark j → k = j := by
  by_cases h1 : (43 : UInt8) = c
  · subst h1
    exact ⟨1, by omega, by decide, fun j hj e => mark_inj (j := 1) (by omega) hj e⟩
  by_cases h2 : (45 : UInt8) = c
  · subst h2
    exact ⟨2, by omega, by decide, fun j hj e => mark_inj (j := 2) (by omega) hj e⟩
  by_cases h3 : (63 : UInt8) = c
  · subst h3
    exact ⟨3, by omega, by decide, fun j hj e => mark_inj (j := 3) (by omega) hj e⟩
  refine ⟨0, by omega, ?_, fun j hj e => ?_⟩
  · simp [Lib.indexByte, h1, h2, h3]
  · have : j = 1 ∨ j = 2 ∨ j = 3 := by omega
    rcases this with rfl | rfl | rfl
    · exact absurd e.symm h1
    · exact absurd e.symm h2
    · exact absurd e.symm h3

theorem index_any (c : UInt8) : Calls Tryd.prog 83 #[.string (ByteArray.mk #[43, 45, 63]), .int .u8 (c.toNat : Int)] w fun e w' => e = .returned (.int .i64 (Lib.indexByte [43, 45, 63] c)) ∧ w' = w := by
  have := Any.strings_IndexByte { Tryd.lays137 with } (ByteArray.mk #[43, 45, 63]) (c.toNat : Int) w
  have e : ((c.toNat : Int)).toNat.toUInt8 = c := by
    rw [Int.toNat_natCast]
    exact UInt8.toNat_inj.1 (by simp)
  rw [e] at this
  exact this

end Go.Proofs.YtgmadfiibaeleabDoor.Nt
