/-
  Walks1 Walks2
-/
import Derived.WalkKit
import Derived.WalkSpells
import Derived.WalkLawsBesides
import Derived.Deep.RegionHeld3
import Derived.Test.YtcfemppdeidjmacGreatW1
import Derived.Test.YtcfemppdeidjmacGreatChecked
namespace Go.Proofs.YtcfemppdeidjmacGreat
set_option linter.unusedSectionVars false
variable [Inhabited Zed]
open Go.RowKit Go.Deep

def pt : BT Int → Option Addr
  | .nil => none
  | .node b _ _ _ _ => some ⟨b, 0, none⟩

def Tag (w : World) (b : Nat) (t : TypeId) : Prop := ∃ c z, w.heap[b]? = some (.cells c t z)

theorem Tag.below {w w' : World} {b : Nat} {t : TypeId} (h : Tag w b t) (hb : Below w.heap.size w w') : Tag w' b t := by
  obtain ⟨c, z, h⟩ := h
  have hlt : b < w.heap.size := by
    rcases Nat.lt_or_ge b w.heap.size with h1 | h1
    · exact h1
    · rw [Array.getElem?_eq_none h1] at h; cases h
  exact ⟨c, z, (hb.block b hlt).trans h⟩
theorem Tag.new (w : World) (c : Array Value) (t : TypeId) (z : Nat × Nat) : Tag (w.alloc (.cells c t z)) w.heap.size t := ⟨c, z, by show (w.heap.push _)[w.heap.size]? = _; simp⟩

def Lies (w : World) : BT Int → Prop
  | .nil => True
  | .node b _ a l r => (Tag w b 250 ∧ zin b) ∧ w.cell? ⟨b, 0, none⟩ = some (.pointer (pt l)) ∧ w.cell? ⟨b, 1, none⟩ = some (.pointer (pt r)) ∧ w.cell? ⟨b, 2, none⟩ = some (.int .i64 a) ∧
      w.cell? ⟨b, 3, none⟩ = some (.int .i64 (sz l + 1 + sz r : Nat)) ∧ w.cell? ⟨b, 4, none⟩ = some (.int .i64 (max (dp l) (dp r) + 1 : Nat)) ∧ Lies w l ∧ Lies w r

theorem lies_below {w w' : World} (hb : Below w.heap.size w w') : ∀ {T : BT Int}, Lies w T → Lies w' T
  | .nil, _ => trivial
  | .node b o a l r, ⟨ht, h0, h1, h2, h3, h4, hl, hr⟩ => by
    have hlt : b < w.heap.size := World.block_lt_of_cell? _ _ h0
    exact ⟨⟨ht.1.below hb, ht.2⟩, (hb.cell hlt).trans h0, (hb.cell hlt).trans h1, (hb.cell hlt).trans h2, (hb.cell hlt).trans h3, (hb.cell hlt).trans h4, lies_below hb hl, lies_below hb hr⟩

structure At (w : World) (u : Option Addr) (T : BT Int) : Prop where
  lies : Lies w T
  at_ : pt T = u
  zok : Zok w

theorem At.below {w w' : World} {u : Option Addr} {T : BT Int} (h : At w u T) (hb : Below w.heap.size w w') : At w' u T := ⟨lies_below hb h.lies, h.at_, h.zok.below hb⟩
theorem At.drew {w : World} {u : Option Addr} {T : BT Int} (h : At w u T) : At w.drew u T := h.below (Below.refl _ _).drew
theorem At.nil_ {w : World} (hz : Zok w) : At w none .nil := ⟨trivial, rfl, hz⟩

theorem At.open_nil {w : World} {u : Option Addr} (h : At w u .nil) : u = none := h.at_.symm
theorem At.open_node {w : World} {u : Option Addr} {b o : Nat} {a : Int} {l r : BT Int} (h : At w u (.node b o a l r)) :
    ∃ ul ur, u = some ⟨b, 0, none⟩ ∧ At w ul l ∧ At w ur r ∧ w.cell? ⟨b, 0, none⟩ = some (.pointer ul) ∧ w.cell? ⟨b, 1, none⟩ = some (.pointer ur) ∧ w.cell? ⟨b, 2, none⟩ = some (.int .i64 a) ∧
      w.cell? ⟨b, 3, none⟩ = some (.int .i64 (sz l + 1 + sz r : Nat)) ∧ w.cell? ⟨b, 4, none⟩ = some (.int .i64 (max (dp l) (dp r) + 1 : Nat)) :=
  ⟨pt l, pt r, h.at_.symm, ⟨h.lies.2.2.2.2.2.2.1, rfl, h.zok⟩, ⟨h.lies.2.2.2.2.2.2.2, rfl, h.zok⟩, h.lies.2.1, h.lies.2.2.1, h.lies.2.2.2.1, h.lies.2.2.2.2.1, h.lies.2.2.2.2.2.1⟩
theorem cell_keep {W w' : World} {p : Addr} {v : Value} (hb : Below W.heap.size W w') (h : W.cell? p = some v) : w'.cell? p = some v :=
  (hb.cell (World.block_lt_of_cell? _ _ h)).trans h

set_option maxHeartbeats 400000 in
theorem size_any {u : Option Addr} {T : BT Int} {w : World} (h : At w u T) :
    Calls Tryz.prog 138 #[.pointer u] w fun e w' => e = .returned (.int .i64 (sz T : Nat)) ∧ w' = w := by
  cases T with
  | nil =>
    obtain rfl := h.open_nil
    go_enter Tryz.func138, Tryz.ntmps138
    go_wp2
    go_ret
    exact ⟨rfl, rfl⟩
  | node b o a l r =>
    obtain ⟨ul, ur, rfl, hl, hr, h0, h1, h2, h3, h4⟩ := h.open_node
    clear h0 h1 h2 h4 hl hr h
    go_enter Tryz.func138, Tryz.ntmps138
    go_wp2
    go_ret
    exact ⟨rfl, rfl⟩

set_option maxHeartbeats 400000 in
theorem depth_any {u : Option Addr} {T : BT Int} {w : World} (h : At w u T) :
    Calls Tryz.prog 205 #[.pointer u] w fun e w' => e = .returned (.int .i64 (dp T : Nat)) ∧ w' = w := by
  cases T with
  | nil =>
    obtain rfl := h.open_nil
    go_enter Tryz.func205, Tryz.ntmps205
    go_wp2
    go_ret
    exact ⟨rfl, rfl⟩
  | node b o a l r =>
    obtain ⟨ul, ur, rfl, hl, hr, h0, h1, h2, h3, h4⟩ := h.open_node
    clear h0 h1 h2 h3 hl hr h
    go_enter Tryz.func205, Tryz.ntmps205
    go_wp2
    go_ret
    exact ⟨rfl, rfl⟩

theorem at_new {w : World} {ul ur : Option Addr} {l r : BT Int} {a : Int} (hl : At w ul l) (hr : At w ur r) (c3 c4 : Int) (e3 : c3 = (sz l + 1 + sz r : Nat)) (e4 : c4 = (max (dp l) (dp r) + 1 : Nat)) :
    At (w.alloc (.cells #[.pointer ul, .pointer ur, .int .i64 a, .int .i64 c3, .int .i64 c4] 250)) (some ⟨w.heap.size, 0, none⟩) (.node w.heap.size 0 a l r) := by
  subst e3 e4
  have hb : Below w.heap.size w (w.alloc (.cells #[.pointer ul, .pointer ur, .int .i64 a, .int .i64 (sz l + 1 + sz r : Nat), .int .i64 (max (dp l) (dp r) + 1 : Nat)] 250)) := (Below.refl _ _).alloc (Nat.le_refl _) _
  refine ⟨⟨⟨Tag.new _ _ _ _, hl.zok.new⟩, ?_, ?_, ?_, ?_, ?_, lies_below hb hl.lies, lies_below hb hr.lies⟩, rfl, hl.zok.below hb⟩
  · rw [hl.at_]; simp
  · rw [hr.at_]; simp
  all_goals simp

set_option maxHeartbeats 400000 in
theorem grow_any {ul ur : Option Addr} {l r : BT Int} (a : Int) {w : World} (hl : At w ul l) (hr : At w ur r) (hs : sz l + sz r < 1000000) :
    Calls Tryz.prog 182 #[.pointer ul, .int .i64 a, .pointer ur] w fun e w' => ∃ b, e = .returned (.pointer (some ⟨b, 0, none⟩)) ∧ Below w.heap.size w w' ∧ At w' (some ⟨b, 0, none⟩) (.node b 0 a l r) := by
  have d1 := dp_le_sz l
  have d2 := dp_le_sz r
  go_enter Tryz.func182, Tryz.ntmps182
  go_wp2_with fail
  refine (size_any hl).mono ?_
  rintro e w' ⟨rfl, rfl⟩
  go_wp2_with fail
  refine (size_any hr).mono ?_
  rintro e w' ⟨rfl, rfl⟩
  go_wp2_with fail
  refine (depth_any hl).mono ?_
  rintro e w' ⟨rfl, rfl⟩
  go_wp2_with fail
  refine (depth_any hr).mono ?_
  rintro e w' ⟨rfl, rfl⟩
  go_wp2_with fail
  all_goals
    go_ret
    exact ⟨_, rfl, (Below.refl _ _).alloc (Nat.le_refl _) _, at_new hl hr _ _ (by omega) (by omega)⟩

def Makes (w : World) (Q : BT Int → Prop) (e : Ending) (w' : World) : Prop := ∃ u T, e = .returned (.pointer u) ∧ Below w.heap.size w w' ∧ At w' u T ∧ Q T

theorem below_step {w a b : World} (h1 : Below w.heap.size w a) (h2 : Below a.heap.size a b) : Below w.heap.size w b := h1.trans (h2.mono h1.size)
theorem below_drew {w a : World} (h : Below w.drew.heap.size w.drew a) : Below w.heap.size w a := (Below.refl _ w).drew.trans h

set_option maxHeartbeats 1000000 in
theorem leanRight_any {u ur : Option Addr} {l r : BT Int} (a : Int) {w : World} (hl : At w u l) (hr : At w ur r) (bl : Bal l) (br : Bal r) (hd : dp l = dp r + 2) (hs : sz l + sz r < 1000000) :
    Calls Tryz.prog 217 #[.pointer u, .int .i64 a, .pointer ur] w (Makes w (Evened l a r)) := by
  cases l with
  | nil => simp only [dp] at hd; omega
  | node b o la ll lr =>
    obtain ⟨u1, u2, rfl, h1, h2, c0, c1, c2, c3, c4⟩ := hl.open_node
    clear c3 c4 hl
    simp only [sz] at hs
    by_cases hge : dp lr ≤ dp ll
    · have HE := fun b1 o1 b2 o2 => evened_right1 (a := a) (b1 := b1) (o1 := o1) (b2 := b2) (o2 := o2) bl br hd hge
      clear hd
      go_enter Tryz.func217, Tryz.ntmps217
      go_wp2_with fail
      refine (depth_any h1).mono ?_
      rintro e w' ⟨rfl, rfl⟩
      go_wp2_with fail
      refine (depth_any h2).mono ?_
      rintro e w' ⟨rfl, rfl⟩
      go_wp2_with fail
      go_region_held3 (fun W => W.cell? ⟨b, 0, none⟩ = some (.pointer u1) ∧ W.cell? ⟨b, 2, none⟩ = some (.int .i64 la)) (first | go_keep | (refine ⟨?_, ?_⟩ <;> (repeat (refine cell_keep (by assumption) ?_)) <;> simp [c0, c2]))
        (first
          | (go_at_call_of 182 (Value.pointer ur); refine (grow_any _ h2.drew hr.drew ?_).mono ?_; (omega); rintro e w1 ⟨b1, rfl, hb1, ha1⟩)
          | (go_at_call_of 182 (Value.pointer u1); refine (grow_any _ (h1.drew.below hb1) ha1 ?_).mono ?_; (simp only [sz]; omega); rintro e w2 ⟨b2, rfl, hb2, ha2⟩))
      go_wp2_with fail
      go_ret
      exact ⟨_, _, rfl, below_step (below_drew hb1) hb2, ha2, HE _ _ _ _⟩
    · cases lr with
      | nil => simp only [dp] at hge; omega
      | node c p ia il ir =>
        have HE := fun b1 o1 b2 o2 b3 o3 => evened_right2 (a := a) (b1 := b1) (o1 := o1) (b2 := b2) (o2 := o2) (b3 := b3) (o3 := o3) bl br hd (by omega)
        clear hd
        obtain ⟨v1, v2, rfl, k1, k2, e0, e1, e2, e3, e4⟩ := h2.open_node
        clear e3 e4
        simp only [sz] at hs
        go_enter Tryz.func217, Tryz.ntmps217
        go_wp2_with fail
        refine (depth_any h1).mono ?_
        rintro e w' ⟨rfl, rfl⟩
        go_wp2_with fail
        refine (depth_any h2).mono ?_
        rintro e w' ⟨rfl, rfl⟩
        go_wp2_with fail
        go_region_held3 (fun W => W.cell? ⟨b, 0, none⟩ = some (.pointer u1) ∧ W.cell? ⟨b, 2, none⟩ = some (.int .i64 la) ∧ W.cell? ⟨c, 0, none⟩ = some (.pointer v1) ∧ W.cell? ⟨c, 1, none⟩ = some (.pointer v2) ∧ W.cell? ⟨c, 2, none⟩ = some (.int .i64 ia)) (first | go_keep | (refine ⟨?_, ?_, ?_, ?_, ?_⟩ <;> (repeat (refine cell_keep (by assumption) ?_)) <;> simp [c0, c2, e0, e1, e2]))
          (first
            | (go_at_call_of 182 (Value.pointer u1); refine (grow_any _ h1.drew k1.drew ?_).mono ?_; (omega); rintro e w1 ⟨b1, rfl, hb1, ha1⟩)
            | (go_at_call_of 182 (Value.pointer ur); refine (grow_any _ (k2.drew.below hb1) (hr.drew.below hb1) ?_).mono ?_; (omega); rintro e w2 ⟨b2, rfl, hb2, ha2⟩)
            | (go_at_call 182; refine (grow_any _ (ha1.below hb2) ha2 ?_).mono ?_; (simp only [sz]; omega); rintro e w3 ⟨b3, rfl, hb3, ha3⟩))
        go_wp2_with fail
        go_ret
        exact ⟨_, _, rfl, below_step (below_step (below_drew hb1) hb2) hb3, ha3, HE _ _ _ _ _ _⟩

set_option maxHeartbeats 1000000 in
theorem leanLeft_any {u ul : Option Addr} {l r : BT Int} (a : Int) {w : World} (hl : At w ul l) (hr : At w u r) (bl : Bal l) (br : Bal r) (hd : dp r = dp l + 2) (hs : sz l + sz r < 1000000) :
    Calls Tryz.prog 218 #[.pointer ul, .int .i64 a, .pointer u] w (Makes w (Evened l a r)) := by
  cases r with
  | nil => simp only [dp] at hd; omega
  | node b o ra rl rr =>
    obtain ⟨u1, u2, rfl, h1, h2, c0, c1, c2, c3, c4⟩ := hr.open_node
    clear c3 c4 hr
    simp only [sz] at hs
    by_cases hge : dp rl ≤ dp rr
    · have HE := fun b1 o1 b2 o2 => evened_left1 (a := a) (b1 := b1) (o1 := o1) (b2 := b2) (o2 := o2) bl br hd hge
      clear hd
      go_enter Tryz.func218, Tryz.ntmps218
      go_wp2_with fail
      refine (depth_any h2).mono ?_
      rintro e w' ⟨rfl, rfl⟩
      go_wp2_with fail
      refine (depth_any h1).mono ?_
      rintro e w' ⟨rfl, rfl⟩
      go_wp2_with fail
      go_region_held3 (fun W => W.cell? ⟨b, 1, none⟩ = some (.pointer u2) ∧ W.cell? ⟨b, 2, none⟩ = some (.int .i64 ra)) (first | go_keep | (refine ⟨?_, ?_⟩ <;> (repeat (refine cell_keep (by assumption) ?_)) <;> simp [c1, c2]))
        (first
          | (go_at_call_of 182 (Value.pointer ul); refine (grow_any _ hl.drew h1.drew ?_).mono ?_; (omega); rintro e w1 ⟨b1, rfl, hb1, ha1⟩)
          | (go_at_call_of 182 (Value.pointer u2); refine (grow_any _ ha1 (h2.drew.below hb1) ?_).mono ?_; (simp only [sz]; omega); rintro e w2 ⟨b2, rfl, hb2, ha2⟩))
      go_wp2_with fail
      go_ret
      exact ⟨_, _, rfl, below_step (below_drew hb1) hb2, ha2, HE _ _ _ _⟩
    · cases rl with
      | nil => simp only [dp] at hge; omega
      | node c p ia il ir =>
        have HE := fun b1 o1 b2 o2 b3 o3 => evened_left2 (a := a) (b1 := b1) (o1 := o1) (b2 := b2) (o2 := o2) (b3 := b3) (o3 := o3) bl br hd (by omega)
        clear hd
        obtain ⟨v1, v2, rfl, k1, k2, e0, e1, e2, e3, e4⟩ := h1.open_node
        clear e3 e4
        simp only [sz] at hs
        go_enter Tryz.func218, Tryz.ntmps218
        go_wp2_with fail
        refine (depth_any h2).mono ?_
        rintro e w' ⟨rfl, rfl⟩
        go_wp2_with fail
        refine (depth_any h1).mono ?_
        rintro e w' ⟨rfl, rfl⟩
        go_wp2_with fail
        go_region_held3 (fun W => W.cell? ⟨b, 1, none⟩ = some (.pointer u2) ∧ W.cell? ⟨b, 2, none⟩ = some (.int .i64 ra) ∧ W.cell? ⟨c, 0, none⟩ = some (.pointer v1) ∧ W.cell? ⟨c, 1, none⟩ = some (.pointer v2) ∧ W.cell? ⟨c, 2, none⟩ = some (.int .i64 ia)) (first | go_keep | (refine ⟨?_, ?_, ?_, ?_, ?_⟩ <;> (repeat (refine cell_keep (by assumption) ?_)) <;> simp [c1, c2, e0, e1, e2]))
          (first
            | (go_at_call_of 182 (Value.pointer ul); refine (grow_any _ hl.drew k1.drew ?_).mono ?_; (omega); rintro e w1 ⟨b1, rfl, hb1, ha1⟩)
            | (go_at_call_of 182 (Value.pointer u2); refine (grow_any _ (k2.drew.below hb1) (h2.drew.below hb1) ?_).mono ?_; (omega); rintro e w2 ⟨b2, rfl, hb2, ha2⟩)
            | (go_at_call 182; refine (grow_any _ (ha1.below hb2) ha2 ?_).mono ?_; (simp only [sz]; omega); rintro e w3 ⟨b3, rfl, hb3, ha3⟩))
        go_wp2_with fail
        go_ret
        exact ⟨_, _, rfl, below_step (below_step (below_drew hb1) hb2) hb3, ha3, HE _ _ _ _ _ _⟩

set_option maxHeartbeats 1000000 in
theorem even_any {ul ur : Option Addr} {l r : BT Int} (a : Int) {w : World} (hl : At w ul l) (hr : At w ur r) (bl : Bal l) (br : Bal r) (hd1 : dp l ≤ dp r + 2) (hd2 : dp r ≤ dp l + 2) (hs : sz l + sz r < 1000000) :
    Calls Tryz.prog 206 #[.pointer ul, .int .i64 a, .pointer ur] w (Makes w (Evened l a r)) := by
  have d1 := dp_le_sz l
  have d2 := dp_le_sz r
  by_cases e2 : dp l = dp r + 2
  · have t1 : ((dp l : Int) - dp r == 2) = true := by rw [beq_iff_eq]; omega
    have HD : Hid (dp l = dp r + 2) := e2
    clear e2
    go_enter Tryz.func206, Tryz.ntmps206
    go_wp2_with fail
    refine (depth_any hl).mono ?_
    rintro e w' ⟨rfl, rfl⟩
    go_wp2_with fail
    refine (depth_any hr).mono ?_
    rintro e w' ⟨rfl, rfl⟩
    go_wp2_with fail
    refine (leanRight_any a hl hr bl br HD.out hs).mono ?_
    rintro e w' ⟨u, T, rfl, hb, hT, hq⟩
    go_wp2_with fail
    go_ret
    exact ⟨_, _, rfl, hb, hT, hq⟩
  · have t1 : ((dp l : Int) - dp r == 2) = false := by rw [beq_eq_false_iff_ne]; omega
    by_cases e3 : dp r = dp l + 2
    · have t2 : ((dp l : Int) - dp r == -2) = true := by rw [beq_iff_eq]; omega
      have HD : Hid (dp r = dp l + 2) := e3
      clear e2 e3
      go_enter Tryz.func206, Tryz.ntmps206
      go_wp2_with fail
      refine (depth_any hl).mono ?_
      rintro e w' ⟨rfl, rfl⟩
      go_wp2_with fail
      refine (depth_any hr).mono ?_
      rintro e w' ⟨rfl, rfl⟩
      go_wp2_with fail
      refine (leanLeft_any a hl hr bl br HD.out hs).mono ?_
      rintro e w' ⟨u, T, rfl, hb, hT, hq⟩
      go_wp2_with fail
      go_ret
      exact ⟨_, _, rfl, hb, hT, hq⟩
    · have t2 : ((dp l : Int) - dp r == -2) = false := by rw [beq_eq_false_iff_ne]; omega
      have HE := fun b o => evened_grow (a := a) (b := b) (o := o) bl br (by omega) (by omega)
      clear e2 e3
      go_enter Tryz.func206, Tryz.ntmps206
      go_wp2_with fail
      refine (depth_any hl).mono ?_
      rintro e w' ⟨rfl, rfl⟩
      go_wp2_with fail
      refine (depth_any hr).mono ?_
      rintro e w' ⟨rfl, rfl⟩
      go_wp2_with fail
      refine (grow_any a hl hr hs).mono ?_
      rintro e w' ⟨b, rfl, hb, hT⟩
      go_wp2_with fail
      go_ret
      exact ⟨_, _, rfl, hb, hT, HE _ _⟩

end Go.Proofs.YtcfemppdeidjmacGreat

namespace Go.Proofs.YtcfemppdeidjmacGreat
set_option linter.unusedSectionVars false
variable [Inhabited Zed]
open Go.RowKit Go.Deep

def LinkSaid (n : Nat) : Prop := ∀ {ul ur : Option Addr} {l r : BT Int} (a : Int) {w : World}, At w ul l → At w ur r → Bal l → Bal r → sz l + sz r ≤ n → sz l + sz r < 1000000 →
  Calls Tryz.prog 184 #[.pointer ul, .int .i64 a, .pointer ur] w (Makes w (Linked l a r))

set_option maxHeartbeats 1000000 in
theorem link_grow {ul ur : Option Addr} {l r : BT Int} (a : Int) {w : World} (hl : At w ul l) (hr : At w ur r) (bl : Bal l) (br : Bal r) (h1 : dp l ≤ dp r + 1) (h2 : dp r ≤ dp l + 1) (hs : sz l + sz r < 1000000) :
    Calls Tryz.prog 184 #[.pointer ul, .int .i64 a, .pointer ur] w (Makes w (Linked l a r)) := by
  have d1 := dp_le_sz l
  have d2 := dp_le_sz r
  have HE := fun b o => linked_of_evened (evened_grow (a := a) (b := b) (o := o) bl br h1 h2)
  go_enter Tryz.func184, Tryz.ntmps184
  go_wp2_with fail
  refine (depth_any hl).mono ?_
  rintro e w' ⟨rfl, rfl⟩
  go_wp2_with fail
  refine (depth_any hr).mono ?_
  rintro e w' ⟨rfl, rfl⟩
  go_wp2_with fail
  refine (depth_any hr).mono ?_
  rintro e w' ⟨rfl, rfl⟩
  go_wp2_with fail
  refine (depth_any hl).mono ?_
  rintro e w' ⟨rfl, rfl⟩
  go_wp2_with fail
  refine (grow_any a hl hr hs).mono ?_
  rintro e w' ⟨b, rfl, hb, hT⟩
  go_wp2_with fail
  go_ret
  exact ⟨_, _, rfl, hb, hT, HE _ _⟩

set_option maxHeartbeats 1000000 in
theorem link_left {n : Nat} (ih : LinkSaid n) {ul ur : Option Addr} {b o : Nat} {la : Int} {ll lr r : BT Int} (a : Int) {w : World} (hl : At w ul (.node b o la ll lr)) (hr : At w ur r) (bl : Bal (.node b o la ll lr)) (br : Bal r)
    (hd : dp r + 1 < dp (.node b o la ll lr)) (hn : sz (.node b o la ll lr) + sz r ≤ n + 1) (hs : sz (.node b o la ll lr) + sz r < 1000000) :
    Calls Tryz.prog 184 #[.pointer ul, .int .i64 a, .pointer ur] w (Makes w (Linked (.node b o la ll lr) a r)) := by
  have d1 := dp_le_sz (.node b o la ll lr)
  have d2 := dp_le_sz r
  have HL : Hid (∀ T1 T, Linked lr a r T1 → Evened ll la T1 T → Linked (.node b o la ll lr) a r T) := fun T1 T => linked_left bl hd
  have HN : Hid (∀ T1, Linked lr a r T1 → dp ll ≤ dp T1 + 2 ∧ dp T1 ≤ dp ll + 2) := fun T1 => linked_left_near bl hd
  obtain ⟨u1, u2, rfl, h1, h2, c0, c1, c2, c3, c4⟩ := hl.open_node
  clear c3 c4
  obtain ⟨b1, b2, _, _⟩ := bl
  simp only [sz] at hn hs d1
  go_enter Tryz.func184, Tryz.ntmps184
  go_wp2_with fail
  refine (depth_any hl).mono ?_
  rintro e w' ⟨rfl, rfl⟩
  go_wp2_with fail
  refine (depth_any hr).mono ?_
  rintro e w' ⟨rfl, rfl⟩
  go_wp2_with fail
  go_region_held3 (fun W => W.cell? ⟨b, 0, none⟩ = some (.pointer u1) ∧ W.cell? ⟨b, 1, none⟩ = some (.pointer u2) ∧ W.cell? ⟨b, 2, none⟩ = some (.int .i64 la)) (first | go_keep | (refine ⟨?_, ?_, ?_⟩ <;> (repeat (refine cell_keep (by assumption) ?_)) <;> simp [c0, c1, c2]))
    (first
      | (go_at_call 184; refine (ih _ h2.drew hr.drew b2 br ?_ ?_).mono ?_; (omega); (omega); rintro e w1 ⟨v1, T1, rfl, hb1, ha1, hq1⟩)
      | (go_at_call 206; refine (even_any _ (h1.drew.below hb1) ha1 b1 hq1.bal (HN.out _ hq1).1 (HN.out _ hq1).2 ?_).mono ?_; (have := hq1.sz; omega); rintro e w2 ⟨v2, T2, rfl, hb2, ha2, hq2⟩))
  go_wp2_with fail
  go_ret
  exact ⟨_, _, rfl, below_step (below_drew hb1) hb2, ha2, HL.out _ _ hq1 hq2⟩

set_option maxHeartbeats 1000000 in
theorem link_right {n : Nat} (ih : LinkSaid n) {ul ur : Option Addr} {b o : Nat} {ra : Int} {l rl rr : BT Int} (a : Int) {w : World} (hl : At w ul l) (hr : At w ur (.node b o ra rl rr)) (bl : Bal l) (br : Bal (.node b o ra rl rr))
    (hd : dp l + 1 < dp (.node b o ra rl rr)) (hn : sz l + sz (.node b o ra rl rr) ≤ n + 1) (hs : sz l + sz (.node b o ra rl rr) < 1000000) :
    Calls Tryz.prog 184 #[.pointer ul, .int .i64 a, .pointer ur] w (Makes w (Linked l a (.node b o ra rl rr))) := by
  have d1 := dp_le_sz (.node b o ra rl rr)
  have d2 := dp_le_sz l
  have HL : Hid (∀ T1 T, Linked l a rl T1 → Evened T1 ra rr T → Linked l a (.node b o ra rl rr) T) := fun T1 T => linked_right br hd
  have HN : Hid (∀ T1, Linked l a rl T1 → dp T1 ≤ dp rr + 2 ∧ dp rr ≤ dp T1 + 2) := fun T1 => linked_right_near br hd
  obtain ⟨u1, u2, rfl, h1, h2, c0, c1, c2, c3, c4⟩ := hr.open_node
  clear c3 c4
  obtain ⟨b1, b2, _, _⟩ := br
  simp only [sz] at hn hs d1
  go_enter Tryz.func184, Tryz.ntmps184
  go_wp2_with fail
  refine (depth_any hl).mono ?_
  rintro e w' ⟨rfl, rfl⟩
  go_wp2_with fail
  refine (depth_any hr).mono ?_
  rintro e w' ⟨rfl, rfl⟩
  go_wp2_with fail
  refine (depth_any hr).mono ?_
  rintro e w' ⟨rfl, rfl⟩
  go_wp2_with fail
  refine (depth_any hl).mono ?_
  rintro e w' ⟨rfl, rfl⟩
  go_wp2_with fail
  go_region_held3 (fun W => W.cell? ⟨b, 0, none⟩ = some (.pointer u1) ∧ W.cell? ⟨b, 1, none⟩ = some (.pointer u2) ∧ W.cell? ⟨b, 2, none⟩ = some (.int .i64 ra)) (first | go_keep | (refine ⟨?_, ?_, ?_⟩ <;> (repeat (refine cell_keep (by assumption) ?_)) <;> simp [c0, c1, c2]))
    (first
      | (go_at_call 184; refine (ih _ hl.drew h1.drew bl b1 ?_ ?_).mono ?_; (omega); (omega); rintro e w1 ⟨v1, T1, rfl, hb1, ha1, hq1⟩)
      | (go_at_call 206; refine (even_any _ ha1 (h2.drew.below hb1) hq1.bal b2 (HN.out _ hq1).1 (HN.out _ hq1).2 ?_).mono ?_; (have := hq1.sz; omega); rintro e w2 ⟨v2, T2, rfl, hb2, ha2, hq2⟩))
  go_wp2_with fail
  go_ret
  exact ⟨_, _, rfl, below_step (below_drew hb1) hb2, ha2, HL.out _ _ hq1 hq2⟩

theorem link_all (n : Nat) : LinkSaid n := by
  induction n with
  | zero =>
    intro ul ur l r a w hl hr bl br hn hs
    have d1 := dp_le_sz l
    have d2 := dp_le_sz r
    exact link_grow a hl hr bl br (by omega) (by omega) hs
  | succ n ih =>
    intro ul ur l r a w hl hr bl br hn hs
    by_cases c1 : dp r + 1 < dp l
    · cases l with
      | nil => simp only [dp] at c1; omega
      | node b o la ll lr => exact link_left ih a hl hr bl br c1 hn hs
    · by_cases c2 : dp l + 1 < dp r
      · cases r with
        | nil => simp only [dp] at c2; omega
        | node b o ra rl rr => exact link_right ih a hl hr bl br c2 hn hs
      · exact link_grow a hl hr bl br (by omega) (by omega) hs

theorem link_any {ul ur : Option Addr} {l r : BT Int} (a : Int) {w : World} (hl : At w ul l) (hr : At w ur r) (bl : Bal l) (br : Bal r) (hs : sz l + sz r < 1000000) :
    Calls Tryz.prog 184 #[.pointer ul, .int .i64 a, .pointer ur] w (Makes w (Linked l a r)) := link_all _ a hl hr bl br (Nat.le_refl _) hs

structure Beheaded (T : BT Int) (a : Int) (T' : BT Int) : Prop where
  bal : Bal T'
  items : items T = a :: items T'
  lo : dp T ≤ dp T' + 1
  hi : dp T' ≤ dp T

theorem Beheaded.sz {T T' : BT Int} {a : Int} (h : Beheaded T a T') : sz T = sz T' + 1 := by rw [sz_of_items h.items]; simp [items_len]

theorem beheaded_last {b o : Nat} {a : Int} {r : BT Int} (h : Bal (.node b o a .nil r)) : Beheaded (.node b o a .nil r) a r :=
  ⟨h.2.1, by simp [Go.Proofs.YtcfemppdeidjmacGreat.items], by simp only [dp]; omega, by simp only [dp]; omega⟩

theorem beheaded_near {b o : Nat} {a x : Int} {l r T1 : BT Int} (h : Bal (.node b o a l r)) (h1 : Beheaded l x T1) : dp T1 ≤ dp r + 2 ∧ dp r ≤ dp T1 + 2 := by
  obtain ⟨_, _, c1, c2⟩ := h
  have e1 := h1.lo
  have e2 := h1.hi
  omega

theorem beheaded_step {b o : Nat} {a x : Int} {l r T1 T2 : BT Int} (h : Bal (.node b o a l r)) (h1 : Beheaded l x T1) (h2 : Evened T1 a r T2) : Beheaded (.node b o a l r) x T2 := by
  obtain ⟨_, _, c1, c2⟩ := h
  have e1 := h1.lo
  have e2 := h1.hi
  have e3 := h2.lo
  have e4 := h2.hi
  have e5 := h2.one
  refine ⟨h2.bal, by rw [h2.items]; simp [Go.Proofs.YtcfemppdeidjmacGreat.items, h1.items], ?_, ?_⟩
  · simp only [dp]
    by_cases c : dp T1 ≤ dp r + 1 ∧ dp r ≤ dp T1 + 1
    · have := e5 c.1 c.2; omega
    · omega
  · simp only [dp]
    by_cases c : dp T1 ≤ dp r + 1 ∧ dp r ≤ dp T1 + 1
    · have := e5 c.1 c.2; omega
    · omega

def BeheadSaid (T : BT Int) : Prop := ∀ {u : Option Addr} {w : World}, At w u T → Bal T → T ≠ .nil → sz T < 1000000 →
  Calls Tryz.prog 183 #[.pointer u] w fun e w' => ∃ a u' T', e = .returned (.tuple #[.int .i64 a, .pointer u']) ∧ Below w.heap.size w w' ∧ At w' u' T' ∧ Beheaded T a T'

set_option maxHeartbeats 1000000 in
theorem behead_last {u : Option Addr} {b o : Nat} {a : Int} {r : BT Int} {w : World} (h : At w u (.node b o a .nil r)) (hb : Bal (.node b o a .nil r)) :
    Calls Tryz.prog 183 #[.pointer u] w fun e w' => ∃ a' u' T', e = .returned (.tuple #[.int .i64 a', .pointer u']) ∧ Below w.heap.size w w' ∧ At w' u' T' ∧ Beheaded (.node b o a .nil r) a' T' := by
  have HB := beheaded_last hb
  obtain ⟨u1, u2, rfl, h1, h2, c0, c1, c2, c3, c4⟩ := h.open_node
  obtain rfl := h1.open_nil
  clear c3 c4 h
  go_enter Tryz.func183, Tryz.ntmps183
  go_wp2_with fail
  go_region_held3 (fun W => W.cell? ⟨b, 1, none⟩ = some (.pointer u2) ∧ W.cell? ⟨b, 2, none⟩ = some (.int .i64 a)) (go_keep) (fail)
  go_wp2_with fail
  go_ret2
  exact ⟨_, _, _, rfl, (Below.refl _ _).drew, h2.drew, HB⟩

set_option maxHeartbeats 1000000 in
theorem behead_step {u : Option Addr} {b o c p : Nat} {a x : Int} {l1 l2 r : BT Int} {w : World} (ih : BeheadSaid (.node c p x l1 l2)) (h : At w u (.node b o a (.node c p x l1 l2) r)) (hb : Bal (.node b o a (.node c p x l1 l2) r)) (hs : sz (.node b o a (.node c p x l1 l2) r) < 1000000) :
    Calls Tryz.prog 183 #[.pointer u] w fun e w' => ∃ a' u' T', e = .returned (.tuple #[.int .i64 a', .pointer u']) ∧ Below w.heap.size w w' ∧ At w' u' T' ∧ Beheaded (.node b o a (.node c p x l1 l2) r) a' T' := by
  have HN : Hid (∀ y T1, Beheaded (.node c p x l1 l2) y T1 → dp T1 ≤ dp r + 2 ∧ dp r ≤ dp T1 + 2) := fun _ _ => beheaded_near hb
  have HS : Hid (∀ y T1 T2, Beheaded (.node c p x l1 l2) y T1 → Evened T1 a r T2 → Beheaded (.node b o a (.node c p x l1 l2) r) y T2) := fun _ _ _ => beheaded_step hb
  obtain ⟨u1, u2, rfl, h1, h2, c0, c1, c2, c3, c4⟩ := h.open_node
  clear c3 c4 h
  have hu1 : u1 = some ⟨c, 0, none⟩ := h1.at_.symm
  subst hu1
  obtain ⟨b1, b2, _, _⟩ := hb
  simp only [sz] at hs
  go_enter Tryz.func183, Tryz.ntmps183
  go_wp2_with fail
  refine (ih h1 b1 (by simp) (by simp only [sz]; omega)).mono ?_
  rintro e w1 ⟨y, v1, T1, rfl, hb1, ha1, hq1⟩
  have c1' := cell_keep hb1 c1
  have c2' := cell_keep hb1 c2
  have hsz := hq1.sz
  simp only [sz] at hsz
  have HSZ : Hid (sz l1 + 1 + sz l2 = sz T1 + 1) := hsz
  clear hsz c0 c1 c2
  go_wp2_with fail
  go_region_held3 (fun W => W.cell? ⟨b, 1, none⟩ = some (.pointer u2) ∧ W.cell? ⟨b, 2, none⟩ = some (.int .i64 a)) (first | go_keep | (refine ⟨?_, ?_⟩ <;> (repeat (refine cell_keep (by assumption) ?_)) <;> simp [c1', c2']))
    (first
      | (go_at_call 206; refine (even_any _ ha1.drew (h2.below hb1).drew hq1.bal b2 (HN.out _ _ hq1).1 (HN.out _ _ hq1).2 ?_).mono ?_; (have := HSZ.out; omega); rintro e w2 ⟨v2, T2, rfl, hb2, ha2, hq2⟩))
  go_wp2_with fail
  go_ret2
  exact ⟨_, _, _, rfl, below_step hb1 (below_drew hb2), ha2, HS.out _ _ _ hq1 hq2⟩

theorem behead_any (T : BT Int) : BeheadSaid T := by
  induction T with
  | nil => intro u w _ _ h; exact absurd rfl h
  | node b o a l r ihl ihr =>
    intro u w h hb _ hs
    cases l with
    | nil => exact behead_last h hb
    | node c p x l1 l2 => exact behead_step ihl h hb hs

structure Joined (l r T : BT Int) : Prop where
  bal : Bal T
  items : items T = items l ++ items r

set_option maxHeartbeats 1000000 in
theorem concat_any {ul ur : Option Addr} {l r : BT Int} {w : World} (hl : At w ul l) (hr : At w ur r) (bl : Bal l) (br : Bal r) (hs : sz l + sz r < 1000000) :
    Calls Tryz.prog 134 #[.pointer ul, .pointer ur] w (Makes w (Joined l r)) := by
  cases l with
  | nil =>
    obtain rfl := hl.open_nil
    go_enter Tryz.func134, Tryz.ntmps134
    go_wp2_with fail
    go_ret
    exact ⟨_, _, rfl, Below.refl _ _, hr, br, rfl⟩
  | node b o la ll lr =>
    have hu : ul = some ⟨b, 0, none⟩ := hl.at_.symm
    subst hu
    cases r with
    | nil =>
      obtain rfl := hr.open_nil
      go_enter Tryz.func134, Tryz.ntmps134
      go_wp2_with fail
      go_ret
      exact ⟨_, _, rfl, Below.refl _ _, hl, bl, by simp [items]⟩
    | node c p ra rl rr =>
      have hv : ur = some ⟨c, 0, none⟩ := hr.at_.symm
      subst hv
      go_enter Tryz.func134, Tryz.ntmps134
      go_wp2_with fail
      refine (behead_any _ hr br (by simp) (by omega)).mono ?_
      rintro e w1 ⟨y, v1, T1, rfl, hb1, ha1, hq1⟩
      have hsz : sz (.node b o la ll lr) + sz T1 < 1000000 := by have := hq1.sz; omega
      go_wp2_with fail
      refine (link_any _ (hl.below hb1) ha1 bl hq1.bal hsz).mono ?_
      rintro e w2 ⟨v2, T2, rfl, hb2, ha2, hq2⟩
      go_wp2_with fail
      go_ret
      exact ⟨_, _, rfl, below_step hb1 hb2, ha2, hq2.bal, by rw [hq2.items, hq1.items]⟩

structure Parted (T : BT Int) (k : Nat) (L H : BT Int) : Prop where
  bl : Bal L
  bh : Bal H
  low : items L = (items T).take k
  high : items H = (items T).drop k

def CutSaid (T : BT Int) : Prop := ∀ {u : Option Addr} {w : World} (i : Int) (k : Nat), At w u T → Bal T → sz T < 1000000 → i = k → k ≤ sz T →
  Calls Tryz.prog 185 #[.pointer u, .int .i64 i] w fun e w' => ∃ u1 u2 L H, e = .returned (.tuple #[.pointer u1, .pointer u2]) ∧ Below w.heap.size w w' ∧ At w' u1 L ∧ At w' u2 H ∧ Parted T k L H

theorem parted_left {b o k : Nat} {a : Int} {l r L H T : BT Int} (hk : k ≤ sz l) (h : Parted l k L H) (hq : Linked H a r T) : Parted (.node b o a l r) k L T := by
  refine ⟨h.bl, hq.bal, ?_, ?_⟩
  · rw [h.low]; simp only [items]; rw [List.take_append_of_le_length (by rw [items_len]; exact hk)]
  · rw [hq.items, h.high]; simp only [items]; rw [List.drop_append_of_le_length (by rw [items_len]; exact hk)]

theorem parted_right {b o k : Nat} {a : Int} {l r L H T : BT Int} (hk : sz l < k) (h : Parted r (k - sz l - 1) L H) (hq : Linked l a L T) : Parted (.node b o a l r) k T H := by
  obtain ⟨j, rfl⟩ : ∃ j, k = sz l + (j + 1) := ⟨k - sz l - 1, by omega⟩
  have e : sz l + (j + 1) - sz l - 1 = j := by omega
  rw [e] at h
  have e2 : sz l + (j + 1) = (items l).length + (j + 1) := by rw [items_len]
  refine ⟨hq.bal, h.bh, ?_, ?_⟩
  · rw [hq.items, h.low, e2]; simp only [items]; rw [List.take_length_add_append]; simp
  · rw [h.high, e2]; simp only [items]; rw [List.drop_length_add_append]; simp

theorem Parted.sizes {T L H : BT Int} {k : Nat} (h : Parted T k L H) (hk : k ≤ sz T) : sz L = k ∧ sz H = sz T - k := by
  refine ⟨?_, ?_⟩
  · rw [sz_of_items h.low, List.length_take, items_len]; omega
  · rw [sz_of_items h.high, List.length_drop, items_len]

set_option maxHeartbeats 1000000 in
theorem cut_left {u : Option Addr} {b o : Nat} {a : Int} {l r : BT Int} {w : World} (ih : CutSaid l) (i : Int) (k : Nat) (h : At w u (.node b o a l r)) (hb : Bal (.node b o a l r)) (hs : sz (.node b o a l r) < 1000000) (hik : i = k) (hk : k ≤ sz l) :
    Calls Tryz.prog 185 #[.pointer u, .int .i64 i] w fun e w' => ∃ u1 u2 L H, e = .returned (.tuple #[.pointer u1, .pointer u2]) ∧ Below w.heap.size w w' ∧ At w' u1 L ∧ At w' u2 H ∧ Parted (.node b o a l r) k L H := by
  subst hik
  obtain ⟨u1, u2, rfl, h1, h2, c0, c1, c2, c3, c4⟩ := h.open_node
  clear c3 c4 h
  obtain ⟨b1, b2, _, _⟩ := hb
  simp only [sz] at hs
  go_enter Tryz.func185, Tryz.ntmps185
  go_wp2_with fail
  refine (size_any h1).mono ?_
  rintro e w' ⟨rfl, rfl⟩
  go_wp2_with fail
  refine (ih _ k h1 b1 (by omega) rfl hk).mono ?_
  rintro e w1 ⟨v1, v2, L, H, rfl, hb1, haL, haH, hq1⟩
  have c1' := cell_keep hb1 c1
  have c2' := cell_keep hb1 c2
  have hsz : sz H + sz r < 1000000 := by have := hq1.sizes hk; omega
  clear c0 c1 c2
  go_wp2_with fail
  go_region_held3 (fun W => W.cell? ⟨b, 1, none⟩ = some (.pointer u2) ∧ W.cell? ⟨b, 2, none⟩ = some (.int .i64 a)) (first | go_keep | (refine ⟨?_, ?_⟩ <;> (repeat (refine cell_keep (by assumption) ?_)) <;> simp [c1', c2']))
    (first
      | (go_at_call 184; refine (link_any _ haH.drew (h2.below hb1).drew hq1.bh b2 hsz).mono ?_; rintro e w2 ⟨v3, T3, rfl, hb2, ha2, hq2⟩))
  go_wp2_with fail
  go_ret2
  exact ⟨_, _, _, _, rfl, below_step hb1 (below_drew hb2), haL.drew.below hb2, ha2, parted_left hk hq1 hq2⟩

set_option maxHeartbeats 1000000 in
theorem cut_right {u : Option Addr} {b o : Nat} {a : Int} {l r : BT Int} {w : World} (ih : CutSaid r) (i : Int) (k : Nat) (h : At w u (.node b o a l r)) (hb : Bal (.node b o a l r)) (hs : sz (.node b o a l r) < 1000000) (hik : i = k) (hk : sz l < k) (hk2 : k ≤ sz (.node b o a l r)) :
    Calls Tryz.prog 185 #[.pointer u, .int .i64 i] w fun e w' => ∃ u1 u2 L H, e = .returned (.tuple #[.pointer u1, .pointer u2]) ∧ Below w.heap.size w w' ∧ At w' u1 L ∧ At w' u2 H ∧ Parted (.node b o a l r) k L H := by
  subst hik
  obtain ⟨u1, u2, rfl, h1, h2, c0, c1, c2, c3, c4⟩ := h.open_node
  clear c3 c4 h
  obtain ⟨b1, b2, _, _⟩ := hb
  simp only [sz] at hs hk2
  go_enter Tryz.func185, Tryz.ntmps185
  go_wp2_with fail
  refine (size_any h1).mono ?_
  rintro e w' ⟨rfl, rfl⟩
  go_wp2_with fail
  refine (ih _ (k - sz l - 1) h2 b2 (by omega) (by omega) (by omega)).mono ?_
  rintro e w1 ⟨v1, v2, L, H, rfl, hb1, haL, haH, hq1⟩
  have c0' := cell_keep hb1 c0
  have c2' := cell_keep hb1 c2
  have hsz : sz l + sz L < 1000000 := by have := hq1.sizes (by omega); omega
  clear c0 c1 c2
  go_wp2_with fail
  go_region_held3 (fun W => W.cell? ⟨b, 0, none⟩ = some (.pointer u1) ∧ W.cell? ⟨b, 2, none⟩ = some (.int .i64 a)) (first | go_keep | (refine ⟨?_, ?_⟩ <;> (repeat (refine cell_keep (by assumption) ?_)) <;> simp [c0', c2']))
    (first
      | (go_at_call 184; refine (link_any _ (h1.below hb1).drew haL.drew b1 hq1.bl hsz).mono ?_; rintro e w2 ⟨v3, T3, rfl, hb2, ha2, hq2⟩))
  go_wp2_with fail
  go_ret2
  exact ⟨_, _, _, _, rfl, below_step hb1 (below_drew hb2), ha2, haH.drew.below hb2, parted_right hk hq1 hq2⟩

set_option maxHeartbeats 1000000 in
theorem cut_nil : CutSaid .nil := by
  intro u w i k h _ _ hi hk
  have hk0 : k = 0 := by simp only [sz] at hk; omega
  obtain rfl := h.open_nil
  have hz := h.zok
  clear hi hk
  go_enter Tryz.func185, Tryz.ntmps185
  go_wp2_with fail
  go_ret2
  exact ⟨_, _, _, _, rfl, Below.refl _ _, At.nil_ hz, At.nil_ hz, trivial, trivial, by simp [items], by simp [items]⟩

theorem cut_any (T : BT Int) : CutSaid T := by
  induction T with
  | nil => exact cut_nil
  | node b o a l r ihl ihr =>
    intro u w i k h hb hs hi hk
    by_cases c : k ≤ sz l
    · exact cut_left ihl i k h hb hs hi c
    · exact cut_right ihr i k h hb hs hi (by omega) hk

end Go.Proofs.YtcfemppdeidjmacGreat
