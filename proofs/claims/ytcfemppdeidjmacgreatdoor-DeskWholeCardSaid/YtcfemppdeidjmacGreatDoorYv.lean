/-
  Two desks side by side.
-/
import Derived.Test.YtcfemppdeidjmacGreatDoorYl
namespace Go.Proofs.YtcfemppdeidjmacGreatDoor.Ds
open Go.RowKit Go.Deep Go.Proofs.YtcfemppdeidjmacGreatDoor.Br
open Go.Proofs.YtcfemppdeidjmacGreatDoor.Dk (EvAt NumAt Er Same)
open Go.Proofs.YtcfemppdeidjmacGreatDoor.Sk (SW Apart Keeps Owns same_t)
open Go.RowKit (Below)
set_option linter.unusedVariables false

abbrev Pd := World → Nat → (Nat → Prop) → Prop
variable {w w' wr : World} {D : DFace} {P P' Q : Pd} {X : Nat → Prop} {d k : Value} {n t : Nat} {A S : List (Nat × Nat)} {g : Option Nat} {a : Option Addr} {m c : Nat}

/-- Two of them, apart from each other and from other memory. -/
structure DW (P Q : Pd) (w : World) (X : Nat → Prop) (wr : World) : Prop where
  at_ : ∃ B1 B2 F1 F2, P wr B1 F1 ∧ Q wr B2 F2 ∧ (∀ b, F1 b → ¬ F2 b) ∧ (∀ b, X b → ¬ F1 b ∧ ¬ F2 b ∧ b < wr.heap.size) ∧ (w.heap.size ≤ B1 ∧ B1 ≤ wr.heap.size) ∧ (w.heap.size ≤ B2 ∧ B2 ≤ wr.heap.size)
  below : Below w.heap.size w wr

theorem DW.swap (h : DW P Q w X wr) : DW Q P w X wr := by
  obtain ⟨B1, B2, F1, F2, h1, h2, h3, h4, h5, h6⟩ := h.at_
  exact ⟨⟨B2, B1, F2, F1, h2, h1, fun b q z => h3 b z q, fun b q => ⟨(h4 b q).2.1, (h4 b q).1, (h4 b q).2.2⟩, h6, h5⟩, h.below⟩

/-- The first one turns: the second stands. -/
theorem two_turn (hO : Owns P) (hK2 : Keeps Q) (hO2 : Owns Q) {B1 B2 : Nat} {F1 F2 F1' V : Nat → Prop} (h1 : P wr B1 F1) (h2 : Q wr B2 F2) (h3 : ∀ b, F1 b → ¬ F2 b) (h4 : ∀ b, X b → ¬ F1 b ∧ ¬ F2 b ∧ b < wr.heap.size) (h5 : w.heap.size ≤ B1 ∧ B1 ≤ wr.heap.size) (h6 : w.heap.size ≤ B2 ∧ B2 ≤ wr.heap.size) (hb : Below w.heap.size w wr)
    (g1 : P' w' B1 F1') (hs : Sk.Stands wr F1 w' F1') (hV : ∀ b, V b → X b ∨ (wr.heap.size ≤ b ∧ b < w'.heap.size ∧ ¬ F1' b)) : DW P' Q w V w' ∧ Same X wr w' := by
  have hsz := hs.2.size
  have hn : ∀ b, b < wr.heap.size → ¬ F1 b → ¬ F1' b := fun b q1 q2 q3 => (hs.1 b q3).elim q2 fun z => by omega
  refine ⟨⟨⟨B1, B2, F1', F2, g1, hK2 h2 hsz fun b q => hs.2.block b (hO2 h2 b q).2 fun z => h3 b z q, fun b q z => hn b (hO2 h2 b z).2 (fun y => h3 b y z) q, fun b q => ?_, ⟨h5.1, Nat.le_trans h5.2 hsz⟩, ⟨h6.1, Nat.le_trans h6.2 hsz⟩⟩, hs.2.below hb hb.size fun k q => Nat.le_trans h5.1 (hO h1 k q).1⟩, fun b q => hs.2.block b (h4 b q).2.2 (h4 b q).1⟩
  rcases hV b q with q | ⟨q1, q2, q3⟩
  · exact ⟨hn b (h4 b q).2.2 (h4 b q).1, (h4 b q).2.1, Nat.lt_of_lt_of_le (h4 b q).2.2 hsz⟩
  · exact ⟨q3, fun z => by have := (hO2 h2 b z).2; omega, q2⟩

theorem DW.step (hK : Keeps P) (hO : Owns P) (hK2 : Keeps Q) (hO2 : Owns Q) (h : DW P Q w X wr) (hb : Below wr.heap.size wr w') : DW P Q w X w' := by
  obtain ⟨B1, B2, F1, F2, h1, h2, h3, h4, h5, h6⟩ := h.at_
  exact ⟨⟨B1, B2, F1, F2, hK h1 hb.size fun b q => hb.block b (hO h1 b q).2, hK2 h2 hb.size fun b q => hb.block b (hO2 h2 b q).2, h3, fun b q => ⟨(h4 b q).1, (h4 b q).2.1, Nat.lt_of_lt_of_le (h4 b q).2.2 hb.size⟩, ⟨h5.1, Nat.le_trans h5.2 hb.size⟩, ⟨h6.1, Nat.le_trans h6.2 hb.size⟩⟩, Dk.below_step h.below hb⟩

/-- What has come since stands apart, too. -/
theorem DW.since (hK : Keeps P) (hO : Owns P) (hK2 : Keeps Q) (hO2 : Owns Q) (h : DW P Q w X wr) (hb : Below wr.heap.size wr w') : DW P Q w (fun b => X b ∨ (wr.heap.size ≤ b ∧ b < w'.heap.size)) w' := by
  obtain ⟨B1, B2, F1, F2, h1, h2, h3, h4, h5, h6⟩ := h.at_
  refine ⟨⟨B1, B2, F1, F2, hK h1 hb.size fun b q => hb.block b (hO h1 b q).2, hK2 h2 hb.size fun b q => hb.block b (hO2 h2 b q).2, h3, fun b q => ?_, ⟨h5.1, Nat.le_trans h5.2 hb.size⟩, ⟨h6.1, Nat.le_trans h6.2 hb.size⟩⟩, Dk.below_step h.below hb⟩
  rcases q with q | ⟨q1, q2⟩
  · exact ⟨(h4 b q).1, (h4 b q).2.1, Nat.lt_of_lt_of_le (h4 b q).2.2 hb.size⟩
  · exact ⟨fun z => by have := (hO h1 b z).2; omega, fun z => by have := (hO2 h2 b z).2; omega, q2⟩

theorem d2_new (O : DeskOk D) (h : Below w.heap.size w wr) : Calls Tryz.prog 6 #[.int .i64 62] wr fun e w' => ∃ d, e = .returned (.tuple #[d, .nilIface]) ∧ SW (raw D d) w wr.heap.size (fun _ => False) w' :=
  (dw_new O h).mono fun e w' ⟨d, h1, h2, _⟩ => ⟨d, h1, h2⟩
theorem d2_second (O : DeskOk D) {B : Nat} (h : SW (raw D d) w B X wr) : Calls Tryz.prog 6 #[.int .i64 62] wr fun e w' => ∃ d', e = .returned (.tuple #[d', .nilIface]) ∧ DW (raw D d) (raw D d') w X w' := by
  obtain ⟨F, hF, hX⟩ := h.at_
  refine O.new_ok.mono fun e w' ⟨d', F', e1, e2, e3⟩ => ⟨d', e1, ⟨B, wr.heap.size, F, F', O.raw_keep hF e3.size fun b q => e3.block b (O.raw_own hF b q).2, e2, fun b q z => ?_, fun b q => ⟨(hX b q).1, fun z => ?_, Nat.lt_of_lt_of_le (hX b q).2 e3.size⟩, ⟨h.b1, Nat.le_trans h.b2 e3.size⟩, ⟨h.below.size, e3.size⟩⟩, Dk.below_step h.below e3⟩
  · have := (O.raw_own e2 b z).1
    have := (O.raw_own hF b q).2
    omega
  · have := (O.raw_own e2 b z).1
    have := (hX b q).2
    omega

theorem d2_format (O : DeskOk D) (hK : Keeps Q) (hO : Owns Q) (h : DW (raw D d) Q w X wr) (n1 : 1 ≤ n) (n2 : n ≤ 60) : Calls Tryz.prog 9 #[d, .int .i64 (n : Nat)] wr fun e w' => e = .returned .nilIface ∧ DW (kept D d n [] 1) Q w X w' ∧ Same X wr w' := by
  obtain ⟨B1, B2, F1, F2, h1, h2, h3, h4, h5, h6⟩ := h.at_
  exact (O.format_ok h1 h5.2 n1 n2).mono fun e w' ⟨F', e1, e2, e3⟩ => ⟨e1, two_turn (P := raw D d) (Q := Q) (P' := kept D d n [] 1) O.raw_o hK hO h1 h2 h3 h4 h5 h6 h.below e2 e3 fun b q => Or.inl q⟩
theorem d2_format_bad (O : DeskOk D) (h : DW (raw D d) Q w X wr) (p : Int) (hp : p < 1 ∨ 60 < p) : Calls Tryz.prog 9 #[d, .int .i64 p] wr fun e w' => e = .returned (.iface 28 (.int .i64 1)) ∧ Below w.heap.size w w' := by
  obtain ⟨B1, B2, F1, F2, h1, h2, h3, h4, h5, h6⟩ := h.at_
  exact (O.format_bad p h1 h5.2 hp).mono fun e w' ⟨F', e1, e2⟩ => ⟨e1, e2.2.below h.below h.below.size fun q hq => Nat.le_trans h5.1 (O.raw_own h1 q hq).1⟩
theorem d2_open (O : DeskOk D) (hK : Keeps Q) (hO : Owns Q) (h : DW (kept D d n A t) Q w X wr) (ht : t ≤ 1000) : Calls Tryz.prog 10 #[d] wr fun e w' => ∃ k, e = .returned (.tuple #[k, .nilIface]) ∧ DW (on D d n k A A t none) Q w X w' ∧ Same X wr w' := by
  obtain ⟨B1, B2, F1, F2, h1, h2, h3, h4, h5, h6⟩ := h.at_
  exact (O.open_ok h1 h5.2 ht).mono fun e w' ⟨k, F', e1, e2, e3⟩ => ⟨k, e1, two_turn (P := kept D d n A t) (Q := Q) (P' := on D d n k A A t none) O.kept_o hK hO h1 h2 h3 h4 h5 h6 h.below e2 e3 fun b q => Or.inl q⟩
/-- Events are done; the answers stand apart. -/
theorem d2_do (O : DeskOk D) (hK : Keeps Q) (hO : Owns Q) (h : DW (on D d n k A S t g) Q w X wr) {f : Nat → Ev} (ha : EvAt wr a m f) (hc : m ≤ c) (hc2 : c ≤ maxLen) (hap : 0 < m → Apart w X a) :
    Calls Tryz.prog 14 #[k, .slice a m c] wr fun e w' => ∃ v x A' out a' c', e = .returned (.tuple #[.slice a' out.length c', v]) ∧ Er v x ∧ Does n A (evl f m) x A' out ∧ BlAt w' a' out ∧ out.length ≤ c' ∧ (a' = none → c' = 0) ∧ (∃ V, DW (on D d n k A' S t g) Q w V w' ∧ (∀ b, X b → V b) ∧ (out ≠ [] → ∀ b o, a' = some ⟨b, o, none⟩ → V b)) ∧ Same X wr w' ∧ wr.heap.size ≤ w'.heap.size := by
  obtain ⟨B1, B2, F1, F2, h1, h2, h3, h4, h5, h6⟩ := h.at_
  refine (O.does h1 h5.2 ha hc hc2 (fun q b o e z => ?_)).mono ?_
  · rcases hap q b o e with y | y
    · have := (O.on_own h1 b z).1
      have := h5.1
      omega
    · exact (h4 b y).1 z
  · rintro e w' ⟨v, x, A', out, a', c', F', e1, e2, e3, e4, e5, e6, e66, e7, e8, e9⟩
    obtain ⟨g1, g2⟩ := two_turn (P := on D d n k A S t g) (Q := Q) (P' := on D d n k A' S t g) (V := fun b => X b ∨ (out ≠ [] ∧ ∃ o, a' = some ⟨b, o, none⟩)) O.on_o hK hO h1 h2 h3 h4 h5 h6 h.below e8 e9 fun b q => q.imp id fun ⟨hne, o, e⟩ => by
      refine ⟨(e7 b o e).1, ?_, (e7 b o e).2⟩
      obtain ⟨b3, o3, e3, hc3⟩ := e4 0 (List.length_pos_iff.2 hne)
      rw [e] at e3
      simp only [Option.some.injEq, Addr.mk.injEq, and_true] at e3
      have := World.block_lt_of_cell? _ _ hc3
      simp at this
      omega
    exact ⟨v, x, A', out, a', c', e1, e2, e3, e4, e5, e66, ⟨_, g1, fun b q => Or.inl q, fun hne b o e => Or.inr ⟨hne, o, e⟩⟩, g2, e9.2.size⟩
theorem d2_graph (O : DeskOk D) (hK : Keeps Q) (hO : Owns Q) (h : DW (on D d n k A S t g) Q w X wr) : Calls Tryz.prog 19 #[k] wr fun e w' => ∃ v, e = .returned v ∧ D.gr w' v n A ∧ DW (on D d n k A S t g) Q w X w' ∧ Below wr.heap.size wr w' := by
  obtain ⟨B1, B2, F1, F2, h1, h2, h3, h4, h5, h6⟩ := h.at_
  exact (O.graph h1 h5.2).mono fun e w' ⟨v, e1, e2, e3⟩ => ⟨v, e1, e2, h.step O.on_k O.on_o hK hO e3, e3⟩
theorem d2_edges (O : DeskOk D) (hK : Keeps Q) (hO : Owns Q) (h : DW (on D d n k A S t g) Q w X wr) {v : Value} (hv : D.gr wr v n A) : Calls Tryz.prog 20 #[v] wr fun e w' => ∃ a c Y, e = .returned (.slice a A.length c) ∧ A.length ≤ c ∧ c ≤ maxLen ∧ DW (on D d n k A S t g) Q w Y w' ∧ Ap w w' Y a A ∧ (∀ b, X b → Y b) ∧ Below wr.heap.size wr w' :=
  (O.edges hv).mono fun e w' ⟨a, c, e1, e2, e3, e4, e5, e6⟩ => ⟨a, c, _, e1, e3, e4, h.since O.on_k O.on_o hK hO e6, ⟨e2, fun hne b o e => Or.inr (Or.inr (e5 hne b o e))⟩, fun b q => Or.inl q, e6⟩
theorem d2_fine (O : DeskOk D) (h : DW (on D d n k A S t g) Q w X wr) : Fine n A := by
  obtain ⟨B1, B2, F1, F2, h1, h2, h3, h4, h5, h6⟩ := h.at_
  exact (O.on_fine h1).1

/-- One event alone. -/
theorem does_one {e : Ev} {x : Int} {A' : List (Nat × Nat)} {out : List Bool} (h : Does n A [e] x A' out) : (x = 0 ∧ One n A e 0 A' out) ∨ (x ≠ 0 ∧ A' = A ∧ out = [] ∧ ∃ B o, One n A e x B o) := by
  rcases h with ⟨h, _⟩ | ⟨_, ⟨h1, h2, h3, B, o, h4⟩ | ⟨h1, h2⟩⟩
  · exact absurd (show 120 < 1 from h) (by decide)
  · refine Or.inr ⟨h1, h2, h3, ?_⟩
    rcases h4 with ⟨_, C, p, q⟩ | ⟨C, o1, o2, q1, q2, _⟩
    · exact ⟨C, p, q⟩
    · exact absurd q2.1 h1
  · refine Or.inl ⟨h1, ?_⟩
    rcases h2 with ⟨z, _⟩ | ⟨C, o1, o2, q1, ⟨_, q2, q3⟩, q4⟩
    · exact absurd rfl z
    · rw [q2, q4, q3, List.append_nil]
      exact q1

end Go.Proofs.YtcfemppdeidjmacGreatDoor.Ds
