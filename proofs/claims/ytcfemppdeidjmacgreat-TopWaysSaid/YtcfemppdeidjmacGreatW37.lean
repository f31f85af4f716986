/-
  Ze
-/
import Derived.Test.YtcfemppdeidjmacGreatW15
namespace Go.Proofs.YtcfemppdeidjmacGreat.Gr
open Go.RowKit Go.Deep Go.Maps
open Go.RowKit (Below)
set_option linter.unusedVariables false

variable {Z Z' : Zed} {w w' : World} {G : GPl} {A : List (Nat × Nat)} {lv : Nat × Nat → Nat} {tr : Nat × Nat → Bool} {L : Pl} {E : List (Nat × Nat)} {p : Nat → Nat}

structure Other (Z Z' : Zed) (w w' : World) : Prop where
  same : ∀ b, b < w.heap.size → (Tag w b 252 ∨ Tag w b 250) → @zin (inst Z) b → w'.heap[b]? = w.heap[b]? ∧ @zin (inst Z') b
  ok : Z'.n ≤ w'.heap.size

theorem lies_other (o : Other Z Z' w w') : ∀ {T : BT Int}, @Lies (inst Z) w T → @Lies (inst Z') w' T
  | .nil, _ => trivial
  | .node b _ a l r, ⟨⟨ht, hq⟩, h0, h1, h2, h3, h4, hl, hr⟩ => by
    obtain ⟨e, q⟩ := o.same b (@tag_lt (inst Z) _ _ _ ht) (Or.inr ht) hq
    have c : ∀ i v, w.cell? ⟨b, i, none⟩ = some v → w'.cell? ⟨b, i, none⟩ = some v := fun i v hc => (World.cell?_of_block (w := w) (a := ⟨b, i, none⟩) e).trans hc
    obtain ⟨x, z, hx⟩ := ht
    exact ⟨⟨⟨x, z, e.trans hx⟩, q⟩, c _ _ h0, c _ _ h1, c _ _ h2, c _ _ h3, c _ _ h4, lies_other o hl, lies_other o hr⟩

theorem row_other {v : Option Addr} {T : BT Int} (h : @RowAt (inst Z) w v T) (o : Other Z Z' w w') : @RowAt (inst Z') w' v T := by
  obtain ⟨hor, hz⟩ := h
  rcases hor with h | ⟨b, u, rfl, hc, ⟨ha1, ha2, ha3⟩, ht, hq⟩
  · letI := inst Z'
    exact ⟨Or.inl h, o.ok⟩
  · obtain ⟨e, q⟩ := o.same b (@tag_lt (inst Z) _ _ _ ht) (Or.inl ht) hq
    obtain ⟨x, z, hx⟩ := ht
    letI := inst Z'
    exact ⟨Or.inr ⟨b, u, rfl, (World.cell?_of_block (w := w) (a := ⟨b, 0, none⟩) e).trans hc, ⟨lies_other o ha1, ha2, o.ok⟩, ⟨x, z, e.trans hx⟩, q⟩, o.ok⟩

theorem fat_other (f : @FAt (inst Z) w L E p) (o : Other Z Z' w w') (hL : ∀ b, Foot L b ∨ b = L.g → w'.heap[b]? = w.heap[b]?) : @FAt (inst Z') w' L E p := by
  obtain ⟨hg, DW, DE, m, hw⟩ := f
  letI := inst Z'
  refine ⟨hg, DW, DE, m.keep (hL _ (Or.inr rfl)) (hL _ (Or.inl (Or.inl rfl))) (hL _ (Or.inl (Or.inr (Or.inl rfl)))) (hL _ (Or.inl (Or.inr (Or.inr rfl)))), fun r hr hp => ?_⟩
  obtain ⟨b, T, l, h1, h2, h3, h4, h5⟩ := hw r hr hp
  exact ⟨b, T, l, h1, row_other h2 o, h3, h4, h5⟩

theorem gok_other (h : @GOk (inst Z) w G A lv tr) (o : Other Z Z' w w') (hG : ∀ b, GAll G b → w'.heap[b]? = w.heap[b]?) : @GOk (inst Z') w' G A lv tr := by
  obtain ⟨h, hl⟩ := h
  obtain ⟨st, ⟨D, hD⟩, row, tag, fo, ln, h1, h2, h3, h4, h5, h6, h7, h8, h9⟩ := h
  have e3 := hG G.fb (Or.inr (Or.inr (Or.inl rfl)))
  letI := inst Z'
  refine ⟨⟨st.of_block (hG _ (Or.inr (Or.inl rfl))), ⟨D, hD.of_block (hG _ (Or.inl (Or.inl rfl)))⟩, fun k hk => (World.cell?_of_block (w := w) (a := ⟨G.fb, k, none⟩) e3).trans (row k hk), tag_of tag e3, fun k hk => ?_, ln, h1, h2, h3, h4, h5, h6, h7, h8, h9⟩, hl⟩
  obtain ⟨q, f⟩ := fo k hk
  exact ⟨q, fat_other f o fun b hb => hb.elim (fun hb => hG b (Or.inl (Or.inr ⟨k, hk, hb⟩))) fun e => hG b (Or.inr (Or.inr (Or.inr ⟨k, hk, e⟩)))⟩

theorem gall_lt (h : @GOk (inst Z) w G A lv tr) : ∀ b, GAll G b → b < w.heap.size := by
  letI := inst Z
  obtain ⟨⟨st, ⟨D, hD⟩, row, tag, fo, h1⟩, hl⟩ := h
  rintro b ((rfl | ⟨k, hk, hb⟩) | rfl | rfl | ⟨k, hk, rfl⟩)
  · exact map_lt hD.isMap
  · obtain ⟨q, -, DW, DE, m, -⟩ := fo k hk
    exact m.foot_lt hb
  · exact st.lt
  · exact tag_lt tag
  · obtain ⟨q, -, DW, DE, m, -⟩ := fo k hk
    exact m.st.lt

end Go.Proofs.YtcfemppdeidjmacGreat.Gr
