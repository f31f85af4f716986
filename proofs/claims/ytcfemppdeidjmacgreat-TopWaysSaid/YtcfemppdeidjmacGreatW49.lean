/-
  Zi Zj
-/
import Derived.Test.YtcfemppdeidjmacGreatW47
import Derived.Test.YtcfemppdeidjmacGreatW48
namespace Go.Proofs.YtcfemppdeidjmacGreat.Ds
open Go.RowKit Go.Deep

open Go.RowKit (Below)
set_option linter.unusedVariables false
set_option linter.unusedSectionVars false

section
variable [Inhabited Zed]
variable {w w' : World} {A : List (Nat × Nat)} {n : Nat} {G : Gr.GPl} {lv : Nat × Nat → Nat} {tr : Nat × Nat → Bool}

def Done (n : Nat) (G : Gr.GPl) (A : List (Nat × Nat)) (e : Ev) (v : Value) (w w' : World) : Prop :=
  ∃ err, Dk.Er v err ∧ Gr.Turns (Gr.GFoot G) w w' ∧ ((err ≠ 0 ∧ ∃ B o, One n A e err B o) ∨ (err = 0 ∧ ∃ (A' : List (Nat × Nat)) (lv : Nat × Nat → Nat) (tr : Nat × Nat → Bool), Gr.GOk w' G A' lv tr ∧ One n A e 0 A' []))

theorem add_done (h : Gr.GOk w G A lv tr) (hn : G.n = n) (x y : Int) :
    Calls Tryz.prog 29 #[.pointer (some ⟨G.g, 0, none⟩), .int .i64 x, .int .i64 y] w fun e w' => ∃ v, e = .returned v ∧ Done n G A (1, x, y) v w w' := by
  subst hn
  have no : ∀ {err : Int} {w' : World}, err ≠ 0 → (∃ B o, One G.n A (1, x, y) err B o) → Below w.heap.size w w' → Done G.n G A (1, x, y) (.iface 102 (.int .i64 err)) w w' := fun h1 h2 h3 => ⟨_, Or.inr ⟨rfl, h1⟩, Gr.Turns.of_below h3, Or.inl ⟨h1, h2⟩⟩
  by_cases hxy : (0 ≤ x ∧ x < G.n) ∧ 0 ≤ y ∧ y < G.n
  · obtain ⟨a, rfl⟩ := Int.eq_ofNat_of_zero_le hxy.1.1
    obtain ⟨b, rfl⟩ := Int.eq_ofNat_of_zero_le hxy.2.1
    by_cases hab : a = b
    · subst hab
      exact (Gr.add_shape h a (by omega)).mono fun e w' ⟨e1, e2⟩ => ⟨_, e1, no (by decide) ⟨[], [], Or.inr (Or.inl ⟨⟨rfl, hxy.1, hxy.2⟩, rfl, rfl⟩)⟩ e2⟩
    · have hne : ((a : Nat) : Int) ≠ ((b : Nat) : Int) := by omega
      by_cases hin : (min a b, max a b) ∈ A
      · exact (Gr.add_clash h a b (by omega) (by omega) hab hin).mono fun e w' ⟨e1, e2⟩ => ⟨_, e1, no (by decide) ⟨[], [], Or.inr (Or.inr (Or.inl ⟨⟨rfl, hxy.1, hxy.2⟩, hne, by rw [← pr_nat] at hin; exact hin, rfl⟩))⟩ e2⟩
      · by_cases hl : 200 ≤ A.length
        · exact (Gr.add_full h a b (by omega) (by omega) hab hin hl).mono fun e w' ⟨e1, e2⟩ => ⟨_, e1, no (by decide) ⟨[], [], Or.inr (Or.inr (Or.inr (Or.inl ⟨⟨rfl, hxy.1, hxy.2⟩, hne, by rw [← pr_nat] at hin; exact hin, hl, rfl⟩)))⟩ e2⟩
        · refine (Gr.add_any h a b (by omega) (by omega) hab hin (by omega)).mono ?_
          rintro e w' ⟨rfl, t1, P, Q, tr', hPQ, hok⟩
          refine ⟨_, rfl, 0, Or.inl ⟨rfl, rfl⟩, t1, Or.inr ⟨rfl, _, _, tr', hok, ?_⟩⟩
          refine Or.inr (Or.inr (Or.inr (Or.inr (Or.inl ⟨⟨rfl, hxy.1, hxy.2⟩, hne, by rw [← pr_nat] at hin; exact hin, by omega, rfl, hok.mem.rises, ?_, rfl⟩))))
          show (P ++ (min a b, max a b) :: Q).Perm (pr ((a : Nat) : Int) ((b : Nat) : Int) :: A)
          rw [pr_nat, hPQ]
          exact List.perm_middle
  · exact (Gr.add_no h x y hxy).mono fun e w' ⟨e1, e2⟩ => ⟨_, e1, no (by decide) ⟨[], [], Or.inl ⟨fun q => hxy q.2, rfl⟩⟩ e2⟩

theorem drop_done (h : Gr.GOk w G A lv tr) (hn : G.n = n) (x y : Int) :
    Calls Tryz.prog 28 #[.pointer (some ⟨G.g, 0, none⟩), .int .i64 x, .int .i64 y] w fun e w' => ∃ v, e = .returned v ∧ Done n G A (2, x, y) v w w' := by
  subst hn
  have no : ∀ {err : Int} {w' : World}, err ≠ 0 → (∃ B o, One G.n A (2, x, y) err B o) → Below w.heap.size w w' → Done G.n G A (2, x, y) (.iface 102 (.int .i64 err)) w w' := fun h1 h2 h3 => ⟨_, Or.inr ⟨rfl, h1⟩, Gr.Turns.of_below h3, Or.inl ⟨h1, h2⟩⟩
  by_cases hxy : (0 ≤ x ∧ x < G.n) ∧ 0 ≤ y ∧ y < G.n
  · obtain ⟨a, rfl⟩ := Int.eq_ofNat_of_zero_le hxy.1.1
    obtain ⟨b, rfl⟩ := Int.eq_ofNat_of_zero_le hxy.2.1
    by_cases hin : (min a b, max a b) ∈ A
    · refine (Gr.drop_any h a b (by omega) (by omega) hin).mono ?_
      rintro e w' ⟨rfl, t1, P, Q, lv', tr', hPQ, hok, -⟩
      refine ⟨_, rfl, 0, Or.inl ⟨rfl, rfl⟩, t1, Or.inr ⟨rfl, _, _, tr', hok, ?_⟩⟩
      refine Or.inr (Or.inr (Or.inr (Or.inr (Or.inr (Or.inr (Or.inl ⟨⟨rfl, hxy.1, hxy.2⟩, by rw [← pr_nat] at hin; exact hin, rfl, hok.mem.rises, ?_, rfl⟩))))))
      show A.Perm (pr ((a : Nat) : Int) ((b : Nat) : Int) :: (P ++ Q))
      rw [pr_nat, hPQ]
      exact List.perm_middle
    · exact (Gr.drop_none h a b (by omega) (by omega) hin).mono fun e w' ⟨e1, e2⟩ => ⟨_, e1, no (by decide) ⟨[], [], Or.inr (Or.inr (Or.inr (Or.inr (Or.inr (Or.inl ⟨⟨rfl, hxy.1, hxy.2⟩, by rw [← pr_nat] at hin; exact hin, rfl⟩)))))⟩ e2⟩
  · exact (Gr.drop_no h x y hxy).mono fun e w' ⟨e1, e2⟩ => ⟨_, e1, no (by decide) ⟨[], [], Or.inl ⟨fun q => hxy q.2, rfl⟩⟩ e2⟩

def Told3 (n : Nat) (A : List (Nat × Nat)) (e : Ev) (q : Bool) (v : Value) : Prop :=
  ∃ err, Dk.Er v err ∧ ((err ≠ 0 ∧ ∃ B o, One n A e err B o) ∨ (err = 0 ∧ One n A e 0 A [q]))

theorem joined_done (h : Gr.GOk w G A lv tr) (hn : G.n = n) (x y : Int) :
    Calls Tryz.prog 10 #[.pointer (some ⟨G.g, 0, none⟩), .int .i64 x, .int .i64 y] w fun e w' => ∃ q v, e = .returned (.tuple #[.bool q, v]) ∧ Told3 n A (3, x, y) q v ∧ Below w.heap.size w w' := by
  subst hn
  by_cases hxy : (0 ≤ x ∧ x < G.n) ∧ 0 ≤ y ∧ y < G.n
  · obtain ⟨a, rfl⟩ := Int.eq_ofNat_of_zero_le hxy.1.1
    obtain ⟨b, rfl⟩ := Int.eq_ofNat_of_zero_le hxy.2.1
    obtain ⟨p, f⟩ := h.mem.zero
    refine (Gr.joined_any h.mem f a b (by omega) (by omega)).mono ?_
    rintro e w' ⟨rfl, hb⟩
    refine ⟨_, _, rfl, ⟨0, Or.inl ⟨rfl, rfl⟩, Or.inr ⟨rfl, Or.inr (Or.inr (Or.inr (Or.inr (Or.inr (Or.inr (Or.inr ⟨⟨rfl, hxy.1, hxy.2⟩, rfl, rfl, _, ?_, rfl⟩))))))⟩⟩, hb⟩
    rw [decide_eq_true_iff, f.grown.rest.same]
    exact h.lev.tree a b
  · exact (Gr.joined_no h.mem x y hxy).mono fun e w' ⟨e1, e2⟩ => ⟨_, _, e1, ⟨1, Or.inr ⟨rfl, by decide⟩, Or.inl ⟨by decide, [], [], Or.inl ⟨fun q => hxy q.2, rfl⟩⟩⟩, e2⟩

end

variable {w w2 w3 w4 wr w' : World} {A A' S : List (Nat × Nat)} {n t B N kb base ab : Nat} {G G2 : Gr.GPl} {FT FG FZ F : Nat → Prop} {d s v : Value} {g : Option Nat} {lv : Nat × Nat → Nat} {tr : Nat × Nat → Bool} {out : List Bool} {Z : Zed}

theorem Tl.tags (h : Tl base ab v out w) : Tag w ab 60 ∧ ∀ k, v.ownBlock = some k → Tag w k 4 := by
  refine ⟨?_, fun k e => ?_⟩
  · obtain ⟨c, hb, _⟩ := h.row
    exact ⟨c, _, hb⟩
  · rcases h.own.2 with ⟨h0, _⟩ | ⟨g, cap, cur, hv, q1, q2, q3⟩
    · rw [h0] at e; cases e
    · rw [hv] at e
      cases e
      exact ⟨cur, _, q2⟩

theorem tag_two {b : Nat} {t t' : TypeId} (h : Tag w b t) (h' : Tag w b t') : t = t' := by
  obtain ⟨c, z, h⟩ := h
  obtain ⟨c', z', h'⟩ := h'
  rw [h] at h'
  cases h'
  rfl

theorem gok_told (h : @Gr.GOk (inst Z) w G A lv tr) (hz : Z.n ≤ w.heap.size) (tl : Tl base ab v out w) (tn : Gr.Turns (fun b => b = ab ∨ v.ownBlock = some b) w w') (hG : ∀ b, Gr.GAll G b → b < ab) : @Gr.GOk (inst Z) w' G A lv tr := by
  obtain ⟨h1, h2⟩ := tl.tags
  refine Gr.gok_other h ⟨fun b hb ht hq => ⟨tn.block b hb fun q => ?_, hq⟩, Nat.le_trans hz tn.size⟩ fun b hb => tn.block b (Gr.gall_lt h b hb) fun q => ?_
  · rcases q with rfl | q
    · rcases ht with ht | ht
      · exact absurd (tag_two h1 ht) (by decide)
      · exact absurd (tag_two h1 ht) (by decide)
    · rcases ht with ht | ht
      · exact absurd (tag_two (h2 b q) ht) (by decide)
      · exact absurd (tag_two (h2 b q) ht) (by decide)
  · have := hG b hb
    have := tl.ab
    rcases q with rfl | q
    · omega
    · have := (tl.own.lt b q).1
      omega

structure Dx (w2 wr : World) (Z : Zed) (n : Nat) (G : Gr.GPl) (A A' : List (Nat × Nat)) (f : Nat → Ev) (j base ab : Nat) (v : Value) (out : List Bool) : Prop where
  ok : ∃ lv tr, @Gr.GOk (inst Z) wr G A' lv tr
  tl : Tl base ab v out wr
  tn : Gr.Turns (fun b => Gr.GFoot G b ∨ b = ab) w2 wr
  all : All n (evl f j) A 0 A' out
  len : out.length ≤ j

theorem Dx.elder {f : Nat → Ev} {j b o : Nat} {u : Value} (h : Dx w2 wr Z n G A A' f j base ab v out) (hb : ¬ Gr.GFoot G b) (ha : b ≠ ab) (hc : w2.cell? ⟨b, o, none⟩ = some u) : wr.cell? ⟨b, o, none⟩ = some u :=
  (World.cell?_of_block (w := w2) (a := ⟨b, o, none⟩) (h.tn.block b (World.block_lt_of_cell? _ _ hc) fun q => q.elim hb ha)).trans hc

theorem fin_err (h : Kx w B d n kb s G A S t g FZ FT FG F) (hw : Below w.heap.size w w2) (tn : Gr.Turns (fun b => Gr.GFoot G b ∨ b = ab) w2 w3) (hab : w.heap.size ≤ ab) (hb4 : Below w3.heap.size w3 w4)
    (hok : @Gr.GOk (inst ⟨FT, w.heap.size⟩) w4 G2 A' lv tr) (hn : G2.n = n) (hG2 : ∀ b, Gr.GAll G2 b → w3.heap.size ≤ b) :
    w4.rowIs kb 147 3 (dc n G.g s) ∧ ∃ F', deskF.on (w4.setCell ⟨kb, 1, none⟩ (.pointer (some ⟨G2.g, 0, none⟩))) B d n (.pointer (some ⟨kb, 0, none⟩)) A' S t g F' ∧ Sk.Stands w F (w4.setCell ⟨kb, 1, none⟩ (.pointer (some ⟨G2.g, 0, none⟩))) F' := by
  have hkb := h.row.lt
  have t4 : Gr.Turns (fun b => FG b) w w4 := by
    refine ⟨hb4.os.trans (tn.os.trans hw.os), hb4.tape.trans (tn.tape.trans hw.tape), hb4.output.trans (tn.output.trans hw.output), Nat.le_trans hw.size (Nat.le_trans tn.size hb4.size), fun k hk hn => ?_⟩
    have k2 : k < w2.heap.size := Nat.lt_of_lt_of_le hk hw.size
    rw [hb4.block k (Nat.lt_of_lt_of_le k2 tn.size), tn.block k k2 (fun q => q.elim (fun z => hn ((h.gx.f k).2 (Or.inl (Or.inl z)))) fun e => by omega), hw.block k hk]
  have r4 : w4.rowIs kb 147 3 (dc n G.g s) := h.row.of_block (t4.block kb hkb h.kg)
  refine ⟨r4, ?_⟩
  have hset : ∀ k, k ≠ kb → (w4.setCell ⟨kb, 1, none⟩ (.pointer (some ⟨G2.g, 0, none⟩))).heap[k]? = w4.heap[k]? := fun k hk => Below.heap_setCell _ _ _ _ hk
  have hss : (w4.setCell ⟨kb, 1, none⟩ (.pointer (some ⟨G2.g, 0, none⟩))).heap.size = w4.heap.size := by simp [World.setCell]
  have h34 : w.heap.size ≤ w3.heap.size := Nat.le_trans hw.size tn.size
  have hgx := Gx.make (w' := w4.setCell ⟨kb, 1, none⟩ (.pointer (some ⟨G2.g, 0, none⟩))) (FT' := fun b => (FT b ∨ w.heap.size ≤ b) ∧ b < w4.heap.size) hok hn (Nat.le_of_eq hss.symm) (fun b hb => hset b fun e => by have := hG2 b hb; omega)
    (fun b hb ht hz => ⟨hset b fun e => by
      subst e
      have ht4 : Tag w4 b 147 := by
        obtain ⟨c, hc, _⟩ := r4
        exact ⟨c, _, hc⟩
      rcases ht with ht | ht
      · exact absurd (tag_two ht4 ht) (by decide)
      · exact absurd (tag_two ht4 ht) (by decide), hz, hb⟩) (fun b q => by rw [hss]; exact q.2)
  obtain ⟨F', k1, k2, -⟩ := h.after (w' := w4.setCell ⟨kb, 1, none⟩ (.pointer (some ⟨G2.g, 0, none⟩))) ⟨t4.os, t4.tape, t4.output, by rw [hss]; exact t4.size, fun k hk hn => (hset k fun e => hn (Or.inr e)).trans (t4.block k hk fun q => hn (Or.inl q))⟩
    ((r4.set 1 _).congr fun i hi => by
      have : i = 0 ∨ i = 1 ∨ i = 2 := by omega
      rcases this with rfl | rfl | rfl <;> rfl) hgx (fun b q => by
      rcases q with q | q
      · exact Or.inr (Nat.le_trans h34 (hG2 b q))
      · exact q.1.imp (fun z => (h.gx.f b).2 (Or.inr z)) id)
  exact ⟨F', ⟨kb, s, G2, _, _, _, rfl, k1⟩, k2⟩

theorem fin_ok (h : Kx w B d n kb s G A S t g FZ FT FG F) (hw : Below w.heap.size w w2) (tn : Gr.Turns (fun b => Gr.GFoot G b ∨ b = ab) w2 wr) (hab : w.heap.size ≤ ab) (hok : @Gr.GOk (inst ⟨FT, w.heap.size⟩) wr G A' lv tr) (tl : Tl base ab v out wr) :
    ∃ F', deskF.on wr B d n (.pointer (some ⟨kb, 0, none⟩)) A' S t g F' ∧ Sk.Stands w F wr F' ∧ ∀ k, v.ownBlock = some k → w.heap.size ≤ k ∧ ¬ F' k := by
  have hkb := h.row.lt
  have t4 : Gr.Turns (fun b => FG b ∨ b = kb) w wr := by
    refine ⟨tn.os.trans hw.os, tn.tape.trans hw.tape, tn.output.trans hw.output, Nat.le_trans hw.size tn.size, fun k hk hn => ?_⟩
    have k2 : k < w2.heap.size := Nat.lt_of_lt_of_le hk hw.size
    rw [tn.block k k2 (fun q => q.elim (fun z => hn (Or.inl ((h.gx.f k).2 (Or.inl (Or.inl z))))) fun e => by omega), hw.block k hk]
  have r4 : wr.rowIs kb 147 3 (dc n G.g s) := by
    have k2 : kb < w2.heap.size := Nat.lt_of_lt_of_le hkb hw.size
    refine h.row.of_block ?_
    rw [tn.block kb k2 (fun q => q.elim (fun z => h.kg ((h.gx.f kb).2 (Or.inl (Or.inl z)))) fun e => by omega), hw.block kb hkb]
  have hGl : ∀ b, Gr.GAll G b → b < w.heap.size := fun b q => h.gx.own b ((h.gx.f b).2 (Or.inl q))
  have hgx := Gx.make (w' := wr) (FT' := fun b => (FT b ∨ w.heap.size ≤ b) ∧ b < wr.heap.size ∧ v.ownBlock ≠ some b) hok h.gx.n (Nat.le_refl _) (fun b hb => rfl)
    (fun b hb ht hz => ⟨rfl, hz, hb, fun e => by
      rcases ht with ht | ht
      · exact absurd (tag_two (tl.tags.2 b e) ht) (by decide)
      · exact absurd (tag_two (tl.tags.2 b e) ht) (by decide)⟩) (fun b q => q.2.1)
  obtain ⟨F', k1, k2, k3⟩ := h.after t4 r4 hgx (fun b q => by
    rcases q with q | q
    · exact Or.inl ((h.gx.f b).2 (Or.inl q))
    · exact q.1.imp (fun z => (h.gx.f b).2 (Or.inr z)) id)
  refine ⟨F', ⟨kb, s, G, _, _, _, rfl, k1⟩, k2, fun k e => ?_⟩
  have hk : base ≤ k := (tl.own.lt k e).1
  have := tl.ab
  refine ⟨by omega, fun q => ?_⟩
  rcases k3 k q with q | (q | q) | q
  · have := (Sk.store_ok.on_own h.st k q).2; omega
  · have := hGl k q; omega
  · exact q.2.2 e
  · omega

end Go.Proofs.YtcfemppdeidjmacGreat.Ds

namespace Go.Proofs.YtcfemppdeidjmacGreat.Ds
open Go.RowKit Go.Deep
open Go.RowKit (Below)
set_option linter.unusedVariables false
set_option linter.unusedSectionVars false

variable {w w' W2 wr w3 Wb : World} {A A' S : List (Nat × Nat)} {n t B N kb base ab j m : Nat} {G : Gr.GPl} {FT FG FZ F : Nat → Prop} {d s v : Value} {g : Option Nat} {out : List Bool} {Z : Zed} {f : Nat → Ev}

def DoEnds (w : World) (B : Nat) (d : Value) (n kb : Nat) (A S : List (Nat × Nat)) (t : Nat) (g : Option Nat) (F : Nat → Prop) (f : Nat → Ev) (m : Nat) (e : Ending) (w' : World) : Prop :=
  ∃ v x A' out a' c' F', e = .returned (.tuple #[.slice a' (List.length (α := Bool) out) c', v]) ∧ Dk.Er v x ∧ Does n A (evl f m) x A' out ∧ BlAt w' a' out ∧ out.length ≤ c' ∧ c' ≤ maxLen ∧ (a' = none → c' = 0) ∧ (∀ b o, a' = some ⟨b, o, none⟩ → w.heap.size ≤ b ∧ ¬ F' b) ∧ deskF.on w' B d n (.pointer (some ⟨kb, 0, none⟩)) A' S t g F' ∧ Sk.Stands w F w' F'

theorem Tl.told (h : Tl base ab v out w) : ∃ a' c', v = .slice a' out.length c' ∧ BlAt w a' out ∧ out.length ≤ c' ∧ c' ≤ maxLen ∧ (a' = none → c' = 0) ∧ ∀ b o, a' = some ⟨b, o, none⟩ → v.ownBlock = some b := by
  rcases h.own.2 with ⟨hv, h0⟩ | ⟨g', cap', cur, hv, hb, hg, h1, h2, h3, h4⟩
  · exact ⟨none, 0, by rw [hv, h0], fun i hi => by omega, by omega, Nat.zero_le _, fun _ => rfl, fun b o e => by cases e⟩
  · refine ⟨_, _, hv, fun i hi => ⟨g', 0, rfl, ?_⟩, h1, h2, fun e => (by cases e), fun b o e => by cases e; rw [hv]; rfl⟩
    have e1 : (cur.toList.take (out.length * 1))[i]? = some (Value.bool (out.getD i false)) := by
      rw [h4, As.bools, List.getElem?_map, List.getElem?_eq_getElem hi, List.getD_eq_getElem?_getD, List.getElem?_eq_getElem hi]; rfl
    rw [List.getElem?_take, if_pos (by omega)] at e1
    simp only [World.cell?, hg, Nat.zero_add]
    simpa using e1

theorem Dx.below (h : Dx W2 wr Z n G A A' f j base ab v out) (hz : Z.n ≤ wr.heap.size) (hb : Below wr.heap.size wr w') : Dx W2 w' Z n G A A' f j base ab v out := by
  letI := inst Z
  obtain ⟨lv, tr, hok⟩ := h.ok
  exact ⟨⟨lv, tr, hok.below hb⟩, h.tl.below hb, h.tn.trans (Gr.Turns.of_below hb), h.all, h.len⟩

theorem Dx.turn (h : Dx W2 Wb Z n G A A' f j base ab v out) (hG : ∀ b, Gr.GFoot G b → b < ab) (t : Gr.Turns (Gr.GFoot G) Wb w3) : Tl base ab v out w3 ∧ Gr.Turns (fun b => Gr.GFoot G b ∨ b = ab) W2 w3 := by
  letI := inst Z
  refine ⟨h.tl.keep t.size (t.block ab h.tl.row.lt fun q => by have := hG ab q; omega) fun k e => t.block k (h.tl.own.lt k e).2 fun q => ?_, h.tn.trans (t.mono fun k q => Or.inl q)⟩
  have := hG k q
  have := (h.tl.own.lt k e).1
  have := h.tl.ab
  omega

theorem Dx.told (h : Dx W2 Wb Z n G A A' f j base ab v out) (h2 : W2.heap.size = base) (t : Gr.Turns (fun b => b = ab ∨ v.ownBlock = some b) Wb w3) : Gr.Turns (fun b => Gr.GFoot G b ∨ b = ab) W2 w3 := by
  refine ⟨t.os.trans h.tn.os, t.tape.trans h.tn.tape, t.output.trans h.tn.output, Nat.le_trans h.tn.size t.size, fun k hk hn => ?_⟩
  rw [t.block k (Nat.lt_of_lt_of_le hk h.tn.size) (fun q => q.elim (fun e => hn (Or.inr e)) fun e => by have := (h.tl.own.lt k e).1; omega), h.tn.block k hk hn]

set_option maxRecDepth 100000 in
set_option maxHeartbeats 16000000 in
theorem does_any (h : Kx w B d n kb s G A S t g FZ FT FG F) {a : Option Addr} {c : Nat} (he : Dk.EvAt w a m f) (hm : m ≤ c) (hc : c ≤ maxLen) (hF : 0 < m → ∀ b o, a = some ⟨b, o, none⟩ → ¬ F b) :
    Calls Tryz.prog 37 #[.pointer (some ⟨kb, 0, none⟩), .slice a m c] w (DoEnds w B d n kb A S t g F f m) := by
  unfold DoEnds
  have H : Hid (Kx w B d n kb s G A S t g FZ FT FG F ∧ Dk.EvAt w a m f ∧ (0 < m → ∀ b o, a = some ⟨b, o, none⟩ → ¬ F b)) := ⟨h, he, hF⟩
  by_cases hbig : 120 < m
  · have HG : Hid (120 < m) := hbig
    have i0 : (120 : Int) < (m : Int) := by omega
    clear h he hF hbig
    go_enter Tryz.func37, Tryz.ntmps37
    go_wp2_with fail
    go_ret2
    exact ⟨_, 3, A, [], none, 0, F, rfl, Or.inr ⟨rfl, by decide⟩, full_does HG.out, fun i hi => (by cases hi), Nat.le_refl _, Nat.zero_le _, fun _ => rfl, fun b o e => (by cases e), ⟨kb, s, G, FZ, FT, FG, rfl, H.out.1⟩, fun b q => Or.inl q, Dk.Turn.refl w⟩
  have HM : Hid (m ≤ 120) := show m ≤ 120 by omega
  have i0 : ¬ (120 : Int) < (m : Int) := by omega
  letI : Inhabited Zed := inst ⟨FT, w.heap.size⟩
  obtain ⟨lv0, tr0, hok⟩ := h.gx.ok
  obtain ⟨N, hN⟩ : ∃ N, A.length = N := ⟨_, rfl⟩
  have hp := Gr.gedges_any hok N hN
  have c1 : w.cell? ⟨kb, 1, none⟩ = some (.pointer (some ⟨G.g, 0, none⟩)) := h.row.cell (i := 1) (by omega)
  have hGl : ∀ b, Gr.GFoot G b → b < w.heap.size := fun b q => h.gx.own b ((h.gx.f b).2 (Or.inl (Or.inl q)))
  have HK : Hid (A.length = N ∧ (∀ b, Gr.GAll G b → b < w.heap.size) ∧ Sound n A ∧ G.n = n) := ⟨hN, fun b q => h.gx.own b ((h.gx.f b).2 (Or.inl q)), h.gx.sound, h.gx.n⟩
  have HO : Hid (Gr.GOk w G A lv0 tr0) := hok
  clear h he hF hN hok hbig hGl
  go_enter Tryz.func37, Tryz.ntmps37
  go_wp2_with fail
  refine hp.mono ?_
  rintro e w1 ⟨ad, cc, rfl, hb, hE, hf, h1, h2⟩
  have hT := Tl.start w1
  have hb2 : Below w1.heap.size w1 (w1.alloc (.cells #[.slice none 0 0] 60)) := (Below.refl _ _).alloc (Nat.le_refl _) _
  have hs2 : (w1.alloc (.cells #[.slice none 0 0] 60)).heap.size = w1.heap.size + 1 := by simp
  have hab1 : w.heap.size ≤ w1.heap.size := hb.size
  have hE2 : Br.EdgesAt w1 ad A := ⟨fun i hi => by
    obtain ⟨b, e, q1, q2⟩ := hE.cell i hi
    exact ⟨b, 0, e, by rw [Nat.zero_add]; exact q1, by rw [Nat.zero_add]; exact q2⟩⟩
  have hEl : ∀ b o, A ≠ [] → ad = some ⟨b, o, none⟩ → w.heap.size ≤ b ∧ b < w1.heap.size := fun b o hne e => by
    obtain ⟨b', e', q1, -⟩ := hE.cell 0 (List.length_pos_iff.2 hne)
    rw [e] at e'
    simp only [Option.some.injEq, Addr.mk.injEq, and_true] at e'
    obtain ⟨rfl, rfl⟩ := e'
    exact ⟨hf b e, World.block_lt_of_cell? _ _ q1⟩
  obtain ⟨W2, hW2⟩ : ∃ W2, w1.alloc (.cells #[.slice none 0 0] 60) = W2 := ⟨_, rfl⟩
  obtain ⟨ab, hab⟩ : ∃ ab, w1.heap.size = ab := ⟨_, rfl⟩
  rw [hW2] at hT hb2 hs2
  rw [hab] at hT hs2 hab1 hEl
  have H2 : Hid (Below w.heap.size w W2 ∧ Br.EdgesAt W2 ad A ∧ w.heap.size ≤ ab ∧ W2.heap.size = ab + 1 ∧ Tl (ab + 1) ab (.slice none 0 0) [] W2 ∧ (∀ b o, A ≠ [] → ad = some ⟨b, o, none⟩ → w.heap.size ≤ b ∧ b < ab)) := ⟨below_step hb hb2, hE2.below hb2, hab1, hs2, hT, hEl⟩
  clear hp hb hE hf h1 h2 hT hb2 hs2 hab1 hE2 hEl
  go_wp2_with (first | rw [hW2, hab] | rw [hW2])
  go_loopw [25] (fun i wr => ∃ (j : Nat) (A' : List (Nat × Nat)) (v : Value) (out : List Bool), j ≤ m ∧ i = .int .i64 (j : Nat) ∧ Dx W2 wr ⟨FT, w.heap.size⟩ n G A A' f j (ab + 1) ab v out) (fun i _ => m - (intOf i).toNat)
  case atStart => exact ⟨0, A, _, [], Nat.zero_le _, rfl, ⟨lv0, tr0, HO.out.below H2.out.1⟩, H2.out.2.2.2.2.1, Gr.Turns.refl _, ⟨rfl, rfl, rfl⟩, Nat.le_refl _⟩
  case round =>
    obtain ⟨j, A', v, out, hj, rfl, hD⟩ := hrel
    have HD : Hid (Dx W2 wr ⟨FT, w.heap.size⟩ n G A A' f j (ab + 1) ab v out) := hD
    have HW : Hid (w.heap.size ≤ wr.heap.size) := Nat.le_trans H2.out.1.size hD.tn.size
    clear hD hW2 hab
    have HGA : Hid (∀ b, Gr.GFoot G b → b < ab) := fun b q => Nat.lt_of_lt_of_le (HK.out.2.1 b (Or.inl q)) H2.out.2.2.1
    have HGA2 : Hid (∀ b, Gr.GAll G b → b < ab) := fun b q => Nat.lt_of_lt_of_le (HK.out.2.1 b q) H2.out.2.2.1
    by_cases hlt : j < m
    · obtain ⟨bl, o, rfl, q0, q1, q2⟩ := H.out.2.1 j hlt
      obtain ⟨x, hx⟩ : ∃ x, (f j).1 = x := ⟨_, rfl⟩
      obtain ⟨y, hy⟩ : ∃ y, (f j).2.1 = y := ⟨_, rfl⟩
      obtain ⟨z, hz⟩ : ∃ z, (f j).2.2 = z := ⟨_, rfl⟩
      rw [hx] at q0
      rw [hy] at q1
      rw [hz] at q2
      have HF : Hid (f j = (x, y, z)) := show f j = _ by rw [← hx, ← hy, ← hz]
      have hbl : bl < w.heap.size := World.block_lt_of_cell? _ _ q0
      have hnb : ¬ Gr.GFoot G bl := fun q => H.out.2.2 (by omega) bl o rfl ((H.out.1.f bl).2 (Or.inr (Or.inl ((H.out.1.gx.f bl).2 (Or.inl (Or.inl q))))))
      have hna : bl ≠ ab := by have := H2.out.2.2.1; omega
      replace q0 := HD.out.elder hnb hna (Br.cell_keep H2.out.1 q0)
      replace q1 := HD.out.elder hnb hna (Br.cell_keep H2.out.1 q1)
      replace q2 := HD.out.elder hnb hna (Br.cell_keep H2.out.1 q2)
      have hkn : ¬ Gr.GFoot G kb := fun q => H.out.1.kg ((H.out.1.gx.f kb).2 (Or.inl (Or.inl q)))
      have hka : kb ≠ ab := by have := H.out.1.row.lt; have := H2.out.2.2.1; omega
      have HKN : Hid (¬ Gr.GFoot G kb ∧ kb ≠ ab) := ⟨hkn, hka⟩
      have k1 := HD.out.elder hkn hka (Br.cell_keep H2.out.1 c1)
      clear hx hy hz hbl hnb hna hkn hka
      have i1 : (0 : Int) ≤ (j : Int) := by omega
      have i2 : (j : Int) < (m : Int) := by omega
      have j5 : IntKind.i64.wrap ((j : Int) + 1) = (j : Int) + 1 := by rw [IntKind.wrap_i64]; have := HM.out; omega
      have hb1 : Below wr.heap.size wr (wr.alloc (.cells #[.int .i64 x, .int .i64 y, .int .i64 z] 80)) := (Below.refl _ _).alloc (Nat.le_refl _) _
      have g0 : (wr.alloc (.cells #[.int .i64 x, .int .i64 y, .int .i64 z] 80)).cell? ⟨wr.heap.size, 0, none⟩ = some (.int .i64 x) := by simp
      have g1 : (wr.alloc (.cells #[.int .i64 x, .int .i64 y, .int .i64 z] 80)).cell? ⟨wr.heap.size, 1, none⟩ = some (.int .i64 y) := by simp
      have g2 : (wr.alloc (.cells #[.int .i64 x, .int .i64 y, .int .i64 z] 80)).cell? ⟨wr.heap.size, 2, none⟩ = some (.int .i64 z) := by simp
      obtain ⟨Wl, hWl⟩ : ∃ Wl, wr.alloc (.cells #[.int .i64 x, .int .i64 y, .int .i64 z] 80) = Wl := ⟨_, rfl⟩
      obtain ⟨E, hE⟩ : ∃ E, wr.heap.size = E := ⟨_, rfl⟩
      rw [hWl] at hb1 g0 g1 g2
      rw [hE] at g0 g1 g2
      replace k1 := Br.cell_keep hb1 k1
      have HDl : Hid (Dx W2 Wl ⟨FT, w.heap.size⟩ n G A A' f j (ab + 1) ab v out ∧ w.heap.size ≤ Wl.heap.size) := ⟨HD.out.below HW.out hb1, Nat.le_trans HW.out hb1.size⟩
      have hde := deed_any (w := Wl) (x := x) (a := y) (b := z) ab
      clear hb1
      go_wp2_with (first | rw [hWl, hE] | rw [hWl])
      clear hWl hE q0 q1 q2
      refine hde.mono ?_
      rintro e Wb ⟨rfl, hWb⟩
      clear hde
      have hbb : Below Wl.heap.size Wl Wb := by rw [hWb]; exact ((Below.refl _ _).alloc (Nat.le_refl _) _).alloc (by simp) _
      obtain ⟨E3, hE3⟩ : ∃ E3, Wl.heap.size = E3 := ⟨_, rfl⟩
      have d1 : Wb.cell? ⟨E3, 1, none⟩ = some (.int .i64 y) := by rw [hWb, ← hE3]; exact Br.cell_keep ((Below.refl _ _).alloc (Nat.le_refl _) _) (by simp)
      have d2 : Wb.cell? ⟨E3, 2, none⟩ = some (.int .i64 z) := by rw [hWb, ← hE3]; exact Br.cell_keep ((Below.refl _ _).alloc (Nat.le_refl _) _) (by simp)
      have d3 : Wb.cell? ⟨E3 + 1, 0, none⟩ = some (tellf ab) := by
        rw [hWb, ← hE3]
        have : Wl.heap.size + 1 = (Wl.alloc (.cells #[.int .i64 x, .int .i64 y, .int .i64 z] 80)).heap.size := by simp
        rw [this]
        simp
      have HDb : Hid (Dx W2 Wb ⟨FT, w.heap.size⟩ n G A A' f j (ab + 1) ab v out ∧ w.heap.size ≤ Wb.heap.size) := ⟨HDl.out.1.below HDl.out.2 hbb, Nat.le_trans HDl.out.2 hbb.size⟩
      replace k1 := Br.cell_keep hbb k1
      rw [hE3]
      clear hWb hbb hE3 HDl g0 g1 g2
      obtain ⟨lvb, trb, hokb⟩ := HDb.out.1.ok
      have HOb : Hid (Gr.GOk Wb G A' lvb trb) := hokb
      clear hokb
      by_cases c1 : x = 1
      · subst c1
        have hdf : deedf 1 E3 (E3 + 1) = .func (.func 120) #[] #[.pointer (some ⟨E3, 0, none⟩)] := by simp [deedf]
        rw [hdf]
        have hcl := deed1_any (g := some ⟨G.g, 0, none⟩) d1 d2 (add_done HOb.out HK.out.2.2.2 y z)
        clear d1 d2 d3 hdf
        go_wp2_with fail
        refine hcl.mono ?_
        rintro e w3 ⟨v3, rfl, err, her, t3, hor⟩
        have hT3 := HDb.out.1.turn HGA.out t3
        have HT3 : Hid (Tl (ab + 1) ab v out w3 ∧ Gr.Turns (fun b => Gr.GFoot G b ∨ b = ab) W2 w3) := hT3
        clear hcl t3 hT3
        rcases hor with ⟨hne, hone⟩ | ⟨rfl, A3, lv3, tr3, hok3, hone⟩
        · have HN3 : Hid (err ≠ 0 ∧ (∃ B o, One n A' (f j) err B o) ∧ Gr.Turns (fun b => Gr.GFoot G b ∨ b = ab) W2 w3) := ⟨hne, by rw [HF.out]; exact hone, HT3.out.2⟩
          obtain rfl : v3 = .iface 102 (.int .i64 err) := her.elim (fun q => absurd q.2 hne) fun q => q.1
          have e0 : w3.cell? ⟨kb, 0, none⟩ = some (.int .i64 (n : Nat)) := (World.cell?_of_block (w := W2) (a := ⟨kb, 0, none⟩) (HN3.out.2.2.block kb (Nat.lt_of_lt_of_le H.out.1.row.lt H2.out.1.size) fun q => q.elim HKN.out.1 HKN.out.2)).trans (Br.cell_keep H2.out.1 (H.out.1.row.cell (i := 0) (by omega)))
          have hE3 : Br.EdgesAt w3 ad A := ⟨fun i hi => by
            obtain ⟨b', o', e', q1, q2⟩ := H2.out.2.1.cell i hi
            have hbb := H2.out.2.2.2.2.2 b' o' (List.length_pos_iff.1 (by omega)) e'
            have hw := HN3.out.2.2.block b' (by have := H2.out.2.2.2.1; omega) fun q => q.elim (fun q => by have := HK.out.2.1 b' (Or.inl q); omega) fun e => by omega
            exact ⟨b', o', e', (World.cell?_of_block (w := W2) (a := ⟨b', o' + i * 2, none⟩) hw).trans q1, (World.cell?_of_block (w := W2) (a := ⟨b', o' + i * 2 + 1, none⟩) hw).trans q2⟩⟩
          have hnw := anew_any (c := cc) e0 hE3 HK.out.1 HK.out.2.2.1 (show w.heap.size ≤ w3.heap.size from Nat.le_trans H2.out.1.size HN3.out.2.2.size)
          clear her hone hE3 e0 hne
          go_wp2_with fail
          refine hnw.mono ?_
          rintro e w4 ⟨G2, rfl, ⟨lv2, tr2, hok2⟩, hn2, hG2, hb4⟩
          have hfin := fin_err H.out.1 H2.out.1 HN3.out.2.2 H2.out.2.2.1 hb4 hok2 hn2 hG2
          have c41 : w4.cell? ⟨kb, 1, none⟩ = some (.pointer (some ⟨G.g, 0, none⟩)) := hfin.1.cell (i := 1) (by omega)
          have f41 := hfin.1.frozen 1
          have HFn : Hid (∃ F', deskF.on (w4.setCell ⟨kb, 1, none⟩ (.pointer (some ⟨G2.g, 0, none⟩))) B d n (.pointer (some ⟨kb, 0, none⟩)) A S t g F' ∧ Sk.Stands w F (w4.setCell ⟨kb, 1, none⟩ (.pointer (some ⟨G2.g, 0, none⟩))) F') := hfin.2
          clear hnw hok2 hn2 hG2 hb4 hfin
          go_wp2_with fail
          go_ret2
          obtain ⟨F', z1, z2⟩ := HFn.out
          obtain ⟨B1, o1, hon⟩ := HN3.out.2.1
          exact ⟨_, err, A, [], none, 0, F', rfl, Or.inr ⟨rfl, HN3.out.1⟩, stop_does HD.out.all hlt HM.out HN3.out.1 hon, fun i hi => (by cases hi), Nat.le_refl _, Nat.zero_le _, fun _ => rfl, fun b o e => (by cases e), z1, z2⟩
        · have HOk3 : Hid ((∃ lv tr, Gr.GOk w3 G A3 lv tr) ∧ One n A' (f j) 0 A3 []) := ⟨⟨lv3, tr3, hok3⟩, by rw [HF.out]; exact hone⟩
          clear hok3
          obtain rfl : v3 = .nilIface := her.elim (fun q => q.1) fun q => absurd rfl q.2
          have HN3 : Hid (Dx W2 w3 ⟨FT, w.heap.size⟩ n G A A3 f (j + 1) (ab + 1) ab v out) := ⟨HOk3.out.1, HT3.out.1, HT3.out.2, by have := more_all HD.out.all HOk3.out.2; rw [List.append_nil] at this; exact this, Nat.le_succ_of_le HD.out.len⟩
          clear her hone
          go_wp2_with fail
          go_roundw
          case rel => exact ⟨j + 1, _, _, _, by omega, by go_num, HN3.out⟩
          case measure => simp [intOf]; omega
      by_cases c2 : x = 2
      · subst c2
        have hdf : deedf 2 E3 (E3 + 1) = .func (.func 121) #[] #[.pointer (some ⟨E3, 0, none⟩)] := by simp [deedf]
        rw [hdf]
        have hcl := deed2_any (g := some ⟨G.g, 0, none⟩) d1 d2 (drop_done HOb.out HK.out.2.2.2 y z)
        clear d1 d2 d3 hdf
        go_wp2_with fail
        refine hcl.mono ?_
        rintro e w3 ⟨v3, rfl, err, her, t3, hor⟩
        have hT3 := HDb.out.1.turn HGA.out t3
        have HT3 : Hid (Tl (ab + 1) ab v out w3 ∧ Gr.Turns (fun b => Gr.GFoot G b ∨ b = ab) W2 w3) := hT3
        clear hcl t3 hT3
        rcases hor with ⟨hne, hone⟩ | ⟨rfl, A3, lv3, tr3, hok3, hone⟩
        · have HN3 : Hid (err ≠ 0 ∧ (∃ B o, One n A' (f j) err B o) ∧ Gr.Turns (fun b => Gr.GFoot G b ∨ b = ab) W2 w3) := ⟨hne, by rw [HF.out]; exact hone, HT3.out.2⟩
          obtain rfl : v3 = .iface 102 (.int .i64 err) := her.elim (fun q => absurd q.2 hne) fun q => q.1
          have e0 : w3.cell? ⟨kb, 0, none⟩ = some (.int .i64 (n : Nat)) := (World.cell?_of_block (w := W2) (a := ⟨kb, 0, none⟩) (HN3.out.2.2.block kb (Nat.lt_of_lt_of_le H.out.1.row.lt H2.out.1.size) fun q => q.elim HKN.out.1 HKN.out.2)).trans (Br.cell_keep H2.out.1 (H.out.1.row.cell (i := 0) (by omega)))
          have hE3 : Br.EdgesAt w3 ad A := ⟨fun i hi => by
            obtain ⟨b', o', e', q1, q2⟩ := H2.out.2.1.cell i hi
            have hbb := H2.out.2.2.2.2.2 b' o' (List.length_pos_iff.1 (by omega)) e'
            have hw := HN3.out.2.2.block b' (by have := H2.out.2.2.2.1; omega) fun q => q.elim (fun q => by have := HK.out.2.1 b' (Or.inl q); omega) fun e => by omega
            exact ⟨b', o', e', (World.cell?_of_block (w := W2) (a := ⟨b', o' + i * 2, none⟩) hw).trans q1, (World.cell?_of_block (w := W2) (a := ⟨b', o' + i * 2 + 1, none⟩) hw).trans q2⟩⟩
          have hnw := anew_any (c := cc) e0 hE3 HK.out.1 HK.out.2.2.1 (show w.heap.size ≤ w3.heap.size from Nat.le_trans H2.out.1.size HN3.out.2.2.size)
          clear her hone hE3 e0 hne
          go_wp2_with fail
          refine hnw.mono ?_
          rintro e w4 ⟨G2, rfl, ⟨lv2, tr2, hok2⟩, hn2, hG2, hb4⟩
          have hfin := fin_err H.out.1 H2.out.1 HN3.out.2.2 H2.out.2.2.1 hb4 hok2 hn2 hG2
          have c41 : w4.cell? ⟨kb, 1, none⟩ = some (.pointer (some ⟨G.g, 0, none⟩)) := hfin.1.cell (i := 1) (by omega)
          have f41 := hfin.1.frozen 1
          have HFn : Hid (∃ F', deskF.on (w4.setCell ⟨kb, 1, none⟩ (.pointer (some ⟨G2.g, 0, none⟩))) B d n (.pointer (some ⟨kb, 0, none⟩)) A S t g F' ∧ Sk.Stands w F (w4.setCell ⟨kb, 1, none⟩ (.pointer (some ⟨G2.g, 0, none⟩))) F') := hfin.2
          clear hnw hok2 hn2 hG2 hb4 hfin
          go_wp2_with fail
          go_ret2
          obtain ⟨F', z1, z2⟩ := HFn.out
          obtain ⟨B1, o1, hon⟩ := HN3.out.2.1
          exact ⟨_, err, A, [], none, 0, F', rfl, Or.inr ⟨rfl, HN3.out.1⟩, stop_does HD.out.all hlt HM.out HN3.out.1 hon, fun i hi => (by cases hi), Nat.le_refl _, Nat.zero_le _, fun _ => rfl, fun b o e => (by cases e), z1, z2⟩
        · have HOk3 : Hid ((∃ lv tr, Gr.GOk w3 G A3 lv tr) ∧ One n A' (f j) 0 A3 []) := ⟨⟨lv3, tr3, hok3⟩, by rw [HF.out]; exact hone⟩
          clear hok3
          obtain rfl : v3 = .nilIface := her.elim (fun q => q.1) fun q => absurd rfl q.2
          have HN3 : Hid (Dx W2 w3 ⟨FT, w.heap.size⟩ n G A A3 f (j + 1) (ab + 1) ab v out) := ⟨HOk3.out.1, HT3.out.1, HT3.out.2, by have := more_all HD.out.all HOk3.out.2; rw [List.append_nil] at this; exact this, Nat.le_succ_of_le HD.out.len⟩
          clear her hone
          go_wp2_with fail
          go_roundw
          case rel => exact ⟨j + 1, _, _, _, by omega, by go_num, HN3.out⟩
          case measure => simp [intOf]; omega
      by_cases c3 : x = 3
      · subst c3
        have hdf : deedf 3 E3 (E3 + 1) = .func (.func 122) #[] #[.pointer (some ⟨E3, 0, none⟩), .pointer (some ⟨E3 + 1, 0, none⟩)] := by simp [deedf]
        rw [hdf]
        have hcl := deed3_any (g := some ⟨G.g, 0, none⟩) d1 d2 d3 HDb.out.1.tl (by have := HD.out.len; have := HM.out; omega) (joined_done HOb.out HK.out.2.2.2 y z)
        clear d1 d2 d3 hdf
        go_wp2_with fail
        refine hcl.mono ?_
        rintro e w3 ⟨v3, q, v4, rfl, ⟨err, her, hor⟩, htl, t3⟩
        have HT3 : Hid (Tl (ab + 1) ab v4 (out ++ [q]) w3 ∧ Gr.Turns (fun b => Gr.GFoot G b ∨ b = ab) W2 w3 ∧ Gr.GOk w3 G A' lvb trb) := ⟨htl, HDb.out.1.told H2.out.2.2.2.1 t3, gok_told (Z := ⟨FT, w.heap.size⟩) HOb.out HDb.out.2 HDb.out.1.tl t3 HGA2.out⟩
        clear hcl t3 htl
        rcases hor with ⟨hne, hone⟩ | ⟨rfl, hone⟩
        · have HN3 : Hid (err ≠ 0 ∧ (∃ B o, One n A' (f j) err B o) ∧ Gr.Turns (fun b => Gr.GFoot G b ∨ b = ab) W2 w3) := ⟨hne, by rw [HF.out]; exact hone, HT3.out.2.1⟩
          obtain rfl : v3 = .iface 102 (.int .i64 err) := her.elim (fun q => absurd q.2 hne) fun q => q.1
          have e0 : w3.cell? ⟨kb, 0, none⟩ = some (.int .i64 (n : Nat)) := (World.cell?_of_block (w := W2) (a := ⟨kb, 0, none⟩) (HN3.out.2.2.block kb (Nat.lt_of_lt_of_le H.out.1.row.lt H2.out.1.size) fun q => q.elim HKN.out.1 HKN.out.2)).trans (Br.cell_keep H2.out.1 (H.out.1.row.cell (i := 0) (by omega)))
          have hE3 : Br.EdgesAt w3 ad A := ⟨fun i hi => by
            obtain ⟨b', o', e', q1, q2⟩ := H2.out.2.1.cell i hi
            have hbb := H2.out.2.2.2.2.2 b' o' (List.length_pos_iff.1 (by omega)) e'
            have hw := HN3.out.2.2.block b' (by have := H2.out.2.2.2.1; omega) fun q => q.elim (fun q => by have := HK.out.2.1 b' (Or.inl q); omega) fun e => by omega
            exact ⟨b', o', e', (World.cell?_of_block (w := W2) (a := ⟨b', o' + i * 2, none⟩) hw).trans q1, (World.cell?_of_block (w := W2) (a := ⟨b', o' + i * 2 + 1, none⟩) hw).trans q2⟩⟩
          have hnw := anew_any (c := cc) e0 hE3 HK.out.1 HK.out.2.2.1 (show w.heap.size ≤ w3.heap.size from Nat.le_trans H2.out.1.size HN3.out.2.2.size)
          clear her hone hE3 e0 hne
          go_wp2_with fail
          refine hnw.mono ?_
          rintro e w4 ⟨G2, rfl, ⟨lv2, tr2, hok2⟩, hn2, hG2, hb4⟩
          have hfin := fin_err H.out.1 H2.out.1 HN3.out.2.2 H2.out.2.2.1 hb4 hok2 hn2 hG2
          have c41 : w4.cell? ⟨kb, 1, none⟩ = some (.pointer (some ⟨G.g, 0, none⟩)) := hfin.1.cell (i := 1) (by omega)
          have f41 := hfin.1.frozen 1
          have HFn : Hid (∃ F', deskF.on (w4.setCell ⟨kb, 1, none⟩ (.pointer (some ⟨G2.g, 0, none⟩))) B d n (.pointer (some ⟨kb, 0, none⟩)) A S t g F' ∧ Sk.Stands w F (w4.setCell ⟨kb, 1, none⟩ (.pointer (some ⟨G2.g, 0, none⟩))) F') := hfin.2
          clear hnw hok2 hn2 hG2 hb4 hfin
          go_wp2_with fail
          go_ret2
          obtain ⟨F', z1, z2⟩ := HFn.out
          obtain ⟨B1, o1, hon⟩ := HN3.out.2.1
          exact ⟨_, err, A, [], none, 0, F', rfl, Or.inr ⟨rfl, HN3.out.1⟩, stop_does HD.out.all hlt HM.out HN3.out.1 hon, fun i hi => (by cases hi), Nat.le_refl _, Nat.zero_le _, fun _ => rfl, fun b o e => (by cases e), z1, z2⟩
        · have HOk3 : Hid (One n A' (f j) 0 A' [q]) := show One _ _ _ _ _ _ by rw [HF.out]; exact hone
          obtain rfl : v3 = .nilIface := her.elim (fun q => q.1) fun q => absurd rfl q.2
          have HN3 : Hid (Dx W2 w3 ⟨FT, w.heap.size⟩ n G A A' f (j + 1) (ab + 1) ab v4 (out ++ [q])) := ⟨⟨lvb, trb, HT3.out.2.2⟩, HT3.out.1, HT3.out.2.1, more_all HD.out.all HOk3.out, by have := HD.out.len; simp; omega⟩
          clear her hone
          go_wp2_with fail
          go_roundw
          case rel => exact ⟨j + 1, _, _, _, by omega, by go_num, HN3.out⟩
          case measure => simp [intOf]; omega
      have hdf : deedf x E3 (E3 + 1) = .func (.func 123) #[] #[] := by simp [deedf, c1, c2, c3]
      rw [hdf]
      have hcl := deed4_any (w := Wb) (g := some ⟨G.g, 0, none⟩)
      have HNo : Hid (¬ x = 1 ∧ ¬ x = 2 ∧ ¬ x = 3) := ⟨c1, c2, c3⟩
      clear d1 d2 d3 hdf c1 c2 c3
      go_wp2_with fail
      refine hcl.mono ?_
      rintro e w3 ⟨rfl, hw3⟩
      obtain ⟨v3, hv3⟩ : ∃ v3 : Value, .iface 102 (.int .i64 1) = v3 := ⟨_, rfl⟩
      obtain ⟨err, herr⟩ : ∃ err : Int, err = 1 := ⟨_, rfl⟩
      have her : Dk.Er v3 err := Or.inr ⟨by rw [← hv3, herr], by rw [herr]; decide⟩
      have hne : err ≠ 0 := by rw [herr]; decide
      have hone : ∃ B o, One n A' (x, y, z) err B o := ⟨[], [], Or.inl ⟨fun q => by have h1 := q.1.1; have h2 := q.1.2; have := HNo.out; simp only at h1 h2; omega, herr⟩⟩
      have HT3 : Hid (Gr.Turns (fun b => Gr.GFoot G b ∨ b = ab) W2 w3) := by rw [hw3]; exact HDb.out.1.tn
      rw [hv3]
      clear hcl hw3 hv3 herr
      have HN3 : Hid (err ≠ 0 ∧ (∃ B o, One n A' (f j) err B o) ∧ Gr.Turns (fun b => Gr.GFoot G b ∨ b = ab) W2 w3) := ⟨hne, by rw [HF.out]; exact hone, HT3.out⟩
      obtain rfl : v3 = .iface 102 (.int .i64 err) := her.elim (fun q => absurd q.2 hne) fun q => q.1
      have e0 : w3.cell? ⟨kb, 0, none⟩ = some (.int .i64 (n : Nat)) := (World.cell?_of_block (w := W2) (a := ⟨kb, 0, none⟩) (HN3.out.2.2.block kb (Nat.lt_of_lt_of_le H.out.1.row.lt H2.out.1.size) fun q => q.elim HKN.out.1 HKN.out.2)).trans (Br.cell_keep H2.out.1 (H.out.1.row.cell (i := 0) (by omega)))
      have hE3 : Br.EdgesAt w3 ad A := ⟨fun i hi => by
        obtain ⟨b', o', e', q1, q2⟩ := H2.out.2.1.cell i hi
        have hbb := H2.out.2.2.2.2.2 b' o' (List.length_pos_iff.1 (by omega)) e'
        have hw := HN3.out.2.2.block b' (by have := H2.out.2.2.2.1; omega) fun q => q.elim (fun q => by have := HK.out.2.1 b' (Or.inl q); omega) fun e => by omega
        exact ⟨b', o', e', (World.cell?_of_block (w := W2) (a := ⟨b', o' + i * 2, none⟩) hw).trans q1, (World.cell?_of_block (w := W2) (a := ⟨b', o' + i * 2 + 1, none⟩) hw).trans q2⟩⟩
      have hnw := anew_any (c := cc) e0 hE3 HK.out.1 HK.out.2.2.1 (show w.heap.size ≤ w3.heap.size from Nat.le_trans H2.out.1.size HN3.out.2.2.size)
      clear her hone hE3 e0 hne
      go_wp2_with fail
      refine hnw.mono ?_
      rintro e w4 ⟨G2, rfl, ⟨lv2, tr2, hok2⟩, hn2, hG2, hb4⟩
      have hfin := fin_err H.out.1 H2.out.1 HN3.out.2.2 H2.out.2.2.1 hb4 hok2 hn2 hG2
      have c41 : w4.cell? ⟨kb, 1, none⟩ = some (.pointer (some ⟨G.g, 0, none⟩)) := hfin.1.cell (i := 1) (by omega)
      have f41 := hfin.1.frozen 1
      have HFn : Hid (∃ F', deskF.on (w4.setCell ⟨kb, 1, none⟩ (.pointer (some ⟨G2.g, 0, none⟩))) B d n (.pointer (some ⟨kb, 0, none⟩)) A S t g F' ∧ Sk.Stands w F (w4.setCell ⟨kb, 1, none⟩ (.pointer (some ⟨G2.g, 0, none⟩))) F') := hfin.2
      clear hnw hok2 hn2 hG2 hb4 hfin
      go_wp2_with fail
      go_ret2
      obtain ⟨F', z1, z2⟩ := HFn.out
      obtain ⟨B1, o1, hon⟩ := HN3.out.2.1
      exact ⟨_, err, A, [], none, 0, F', rfl, Or.inr ⟨rfl, HN3.out.1⟩, stop_does HD.out.all hlt HM.out HN3.out.1 hon, fun i hi => (by cases hi), Nat.le_refl _, Nat.zero_le _, fun _ => rfl, fun b o e => (by cases e), z1, z2⟩
    · obtain rfl : j = m := by omega
      have i1 : ¬ (j : Int) < (j : Int) := by omega
      have hca : wr.cell? ⟨ab, 0, none⟩ = some v := HD.out.tl.row.cell (i := 0) (by omega)
      obtain ⟨lv, tr, hok⟩ := HD.out.ok
      have HFn : Hid (∃ F', deskF.on wr B d n (.pointer (some ⟨kb, 0, none⟩)) A' S t g F' ∧ Sk.Stands w F wr F' ∧ ∀ k, v.ownBlock = some k → w.heap.size ≤ k ∧ ¬ F' k) := fin_ok H.out.1 H2.out.1 HD.out.tn H2.out.2.2.1 hok HD.out.tl
      clear hok
      obtain ⟨oa, oc, hv, ho1, ho2, ho3, ho4, ho5⟩ := HD.out.tl.told
      have HV : Hid (BlAt wr oa out ∧ out.length ≤ oc ∧ oc ≤ maxLen ∧ (oa = none → oc = 0) ∧ (∀ b o, oa = some ⟨b, o, none⟩ → v.ownBlock = some b) ∧ v = .slice oa out.length oc) := ⟨ho1, ho2, ho3, ho4, ho5, hv⟩
      clear ho1 ho2 ho3 ho4 ho5 hv
      go_wp2_with fail
      go_ret2
      obtain ⟨F', z1, z2, z3⟩ := HFn.out
      exact ⟨.nilIface, 0, A', out, oa, oc, by rw [← HV.out.2.2.2.2.2]; rfl, Or.inl ⟨rfl, rfl⟩, done_does HD.out.all HM.out, HV.out.1, HV.out.2.1, HV.out.2.2.1, HV.out.2.2.2.1, F', fun b o e => z3 b (HV.out.2.2.2.2.1 b o e), z1, z2⟩

end Go.Proofs.YtcfemppdeidjmacGreat.Ds
