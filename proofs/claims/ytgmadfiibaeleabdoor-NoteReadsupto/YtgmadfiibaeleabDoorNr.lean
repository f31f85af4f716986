/-
  What the statements want of package note: both sides by the same words.
-/
import Derived.Test.YtgmadfiibaeleabDoorNm
import Derived.Test.YtgmadfiibaeleabDoorNq
import Derived.Test.YtgmadfiibaeleabDoorTold
import Derived.Laws.IdiomStrings
namespace Go.Proofs.YtgmadfiibaeleabDoor.Nt
open Go.RowKit Go.Deep Go.Proofs.YtgmadfiibaeleabDoor.Br
open Go.RowKit (Below)
set_option linter.unusedVariables false

variable {w w' : World}

/-- An own row of bytes that is not empty. -/
theorem own_bytes {base n : Nat} {v : Value} {l : List UInt8} (h : w.ownsRow base 5 1 v n (bys l)) (h0 : 0 < n) : l.length = n ∧ ∃ k cap, v = .slice (some ⟨k, 0, none⟩) n cap ∧ n ≤ cap ∧ cap ≤ maxLen ∧ ∀ j (hj : j < l.length), w.cell? ⟨k, j, none⟩ = some (by1 l[j]) := by
  have hl : l.length = n := by have := h.1; rw [bys_len] at this; omega
  refine ⟨hl, ?_⟩
  rcases h.2 with ⟨hv, h1⟩ | ⟨k, cap, cur, hv, hb, hg, h1, h2, h3, h4⟩
  · omega
  · refine ⟨k, cap, hv, h1, h2, fun j hj => ?_⟩
    have e1 : (cur.toList.take (n * 1))[j]? = some (by1 l[j]) := by
      rw [h4, bys, List.getElem?_map, List.getElem?_eq_getElem hj]; rfl
    rw [List.getElem?_take, if_pos (by omega)] at e1
    simp only [World.cell?, hg]
    simpa using e1

theorem conv_own {n k cap : Nat} {l : List UInt8} (hl : l.length = n) (hc : ∀ j (hj : j < l.length), w.cell? ⟨k, j, none⟩ = some (by1 l[j])) :
    (convert 68 9 (.slice (some ⟨k, 0, none⟩) n cap)).run Tryd.prog w = .ok (.string (str l)) w := by
  have := run_convert_bytes_back (P := Tryd.prog) w 68 9 5 ⟨k, 0, none⟩ cap l Tryd.underlying68 Tryd.underlying5 Tryd.underlying9 (fun j hj => by rw [add_at, Nat.zero_add]; exact hc j hj)
  rw [hl] at this
  exact this

theorem conv_none (W : World) : (convert 68 9 (.slice none 0 0)).run Tryd.prog W = .ok (.string (ByteArray.mk #[])) W := by kernel_rfl

theorem edges_nil (w : World) (a : Option Addr) : EdgesAt w a [] := ⟨fun i hi => absurd hi (Nat.not_lt_zero _)⟩

/-- Bytes as edges, by both. -/
theorem dec_pair {a : Option Addr} {N c : Nat} {g : Nat → Nat} (hc : N ≤ c) (hc2 : c ≤ maxLen) : ∃ (p : Int) (M : Nat) (F : List (Nat × Nat)) (x : Int), F.length = M ∧ M < 1000000 ∧
    (∀ W, BtAt W a N g → Calls Tryd.prog 40 #[.slice a N c] W fun e w' => ∃ a' c', e = .returned (.tuple #[.int .i64 p, .slice a' M c', .int .i64 x]) ∧ EdgesAt w' a' F ∧ Below W.heap.size W w') ∧
    (∀ W, BtAt W a N g → Calls Tryd.prog 41 #[.slice a N c] W fun e w' => ∃ a' c' ev, e = .returned (.tuple #[.int .i64 p, .slice a' M c', ev]) ∧ ErrIs ev x ∧ EdgesAt w' a' F ∧ Below W.heap.size W w') := by
  by_cases hG : Good N g
  · have hm := hG.2.2.2.1
    refine ⟨(g 0 : Nat), g 1, edges (de g) (g 1), 0, edges_len _ _, by omega, fun W hW => (edgesof_any hW).mono fun e w' ⟨h1, h2⟩ => ?_, fun W hW => (decode_any hW hc hc2).mono fun e w' ⟨h1, h2⟩ => ?_⟩
    · rcases h1 with ⟨_, a', c', e1, e2⟩ | ⟨h, _⟩
      · exact ⟨a', c', e1, e2, h2⟩
      · exact absurd hG h
    · rcases h1 with ⟨_, a', c', e1, e2, _⟩ | ⟨h, _⟩
      · exact ⟨a', c', _, e1, ⟨Or.inl ⟨rfl, rfl⟩⟩, e2, h2⟩
      · exact absurd hG h
  · refine ⟨0, 0, [], 5, rfl, by omega, fun W hW => (edgesof_any hW).mono fun e w' ⟨h1, h2⟩ => ?_, fun W hW => (decode_any hW hc hc2).mono fun e w' ⟨h1, h2⟩ => ?_⟩
    · rcases h1 with ⟨h, _⟩ | ⟨_, e1⟩
      · exact absurd h hG
      · exact ⟨_, _, e1, edges_nil _ _, h2⟩
    · rcases h1 with ⟨h, _⟩ | ⟨_, e1⟩
      · exact absurd h hG
      · exact ⟨_, _, _, e1, ⟨Or.inr rfl⟩, edges_nil _ _, h2⟩

/-- A text as an event, by both. -/
theorem parse_pair (l : List UInt8) (hl : l.length ≤ 2000000) : ∃ k a b x : Int,
    (∀ W, Calls Tryd.prog 45 #[.string (str l)] W fun e w' => e = .returned (.tuple #[evv k a b, .int .i64 x]) ∧ Below W.heap.size W w') ∧
    (∀ W, Senti W → Calls Tryd.prog 46 #[.string (str l)] W fun e w' => ∃ ev, e = .returned (.tuple #[evv k a b, ev]) ∧ ErrIs ev x ∧ Below W.heap.size W w') := by
  by_cases hT : ∃ x, TextIs l x
  · obtain ⟨⟨k, a, b⟩, hx⟩ := hT
    refine ⟨k, a, b, 0, fun W => (eventof_any l hl).mono fun e w' ⟨h1, h2⟩ => ?_, fun W hS => (parse_any l (by omega) hS).mono fun e w' ⟨h1, h2⟩ => ?_⟩
    · rcases h1 with ⟨k', a', b', h3, e1⟩ | ⟨h3, _⟩
      · cases hx.one h3
        exact ⟨e1, h2⟩
      · exact absurd hx (h3 _)
    · rcases h1 with ⟨k', a', b', h3, e1⟩ | ⟨h3, _⟩
      · cases hx.one h3
        exact ⟨_, e1, ⟨Or.inl ⟨rfl, rfl⟩⟩, h2⟩
      · exact absurd hx (h3 _)
  · refine ⟨0, 0, 0, 5, fun W => (eventof_any l hl).mono fun e w' ⟨h1, h2⟩ => ?_, fun W hS => (parse_any l (by omega) hS).mono fun e w' ⟨h1, h2⟩ => ?_⟩
    · rcases h1 with ⟨k', a', b', h3, _⟩ | ⟨_, e1⟩
      · exact absurd ⟨_, h3⟩ hT
      · exact ⟨e1, h2⟩
    · rcases h1 with ⟨k', a', b', h3, _⟩ | ⟨_, e1⟩
      · exact absurd ⟨_, h3⟩ hT
      · exact ⟨_, e1, ⟨Or.inr rfl⟩, h2⟩

end Go.Proofs.YtgmadfiibaeleabDoor.Nt
