/-
  The small functions of package seq (size, depth, grow, the turns, even): what each call answers and leaves, of whatever tree that lies in memory.
-/
import Derived.Test.YthhojlbfnffdeabGreatTree
import Derived.Test.YthhojlbfnffdeabGreatChecked
import Derived.WalkKit
import Derived.WalkSpells
import Derived.WalkLawsBesides
import Derived.Deep.RegionHeld3
namespace Go.Proofs.YthhojlbfnffdeabGreat
open Go.RowKit Go.Deep

/-- Where a tree's first node is. -/
def pt : BT Int → Option Addr
  | .nil => none
  | .node b _ _ _ _ => some ⟨b, 0, none⟩

/-- A block is a row of cells of a type. -/
def Tag (w : World) (b : Nat) (t : TypeId) : Prop := ∃ c z, w.heap[b]? = some (.cells c t z)

theorem Tag.below {w w' : World} {b : Nat} {t : TypeId} (h : Tag w b t) (hb : Below w.heap.size w w') : Tag w' b t := by
  obtain ⟨c, z, h⟩ := h
  have hlt : b < w.heap.size := by
    rcases Nat.lt_or_ge b w.heap.size with h1 | h1
    · exact h1
    · rw [Array.getElem?_eq_none h1] at h; cases h
  exact ⟨c, z, (hb.block b hlt).trans h⟩
theorem Tag.new (w : World) (c : Array Value) (t : TypeId) (z : Nat × Nat) : Tag (w.alloc (.cells c t z)) w.heap.size t := ⟨c, z, by show (w.heap.push _)[w.heap.size]? = _; simp⟩

/-- The nodes of a tree lie in memory, each with its two branches, its item, how many items it has and how deep it is. -/
def Lies (w : World) : BT Int → Prop
  | .nil => True
  | .node b _ a l r => Tag w b 126 ∧ w.cell? ⟨b, 0, none⟩ = some (.pointer (pt l)) ∧ w.cell? ⟨b, 1, none⟩ = some (.pointer (pt r)) ∧ w.cell? ⟨b, 2, none⟩ = some (.int .i64 a) ∧
      w.cell? ⟨b, 3, none⟩ = some (.int .i64 (sz l + 1 + sz r : Nat)) ∧ w.cell? ⟨b, 4, none⟩ = some (.int .i64 (max (dp l) (dp r) + 1 : Nat)) ∧ Lies w l ∧ Lies w r

theorem lies_below {w w' : World} (hb : Below w.heap.size w w') : ∀ {T : BT Int}, Lies w T → Lies w' T
  | .nil, _ => trivial
  | .node b o a l r, ⟨ht, h0, h1, h2, h3, h4, hl, hr⟩ => by
    have hlt : b < w.heap.size := World.block_lt_of_cell? _ _ h0
    exact ⟨ht.below hb, (hb.cell hlt).trans h0, (hb.cell hlt).trans h1, (hb.cell hlt).trans h2, (hb.cell hlt).trans h3, (hb.cell hlt).trans h4, lies_below hb hl, lies_below hb hr⟩

/-- A tree lies at a place. -/
structure At (w : World) (u : Option Addr) (T : BT Int) : Prop where
  lies : Lies w T
  at_ : pt T = u

theorem At.below {w w' : World} {u : Option Addr} {T : BT Int} (h : At w u T) (hb : Below w.heap.size w w') : At w' u T := ⟨lies_below hb h.lies, h.at_⟩
theorem At.drew {w : World} {u : Option Addr} {T : BT Int} (h : At w u T) : At w.drew u T := h.below (Below.refl _ _).drew
theorem At.nil_ (w : World) : At w none .nil := ⟨trivial, rfl⟩

theorem At.open_nil {w : World} {u : Option Addr} (h : At w u .nil) : u = none := h.at_.symm
theorem At.open_node {w : World} {u : Option Addr} {b o : Nat} {a : Int} {l r : BT Int} (h : At w u (.node b o a l r)) :
    ∃ ul ur, u = some ⟨b, 0, none⟩ ∧ At w ul l ∧ At w ur r ∧ w.cell? ⟨b, 0, none⟩ = some (.pointer ul) ∧ w.cell? ⟨b, 1, none⟩ = some (.pointer ur) ∧ w.cell? ⟨b, 2, none⟩ = some (.int .i64 a) ∧
      w.cell? ⟨b, 3, none⟩ = some (.int .i64 (sz l + 1 + sz r : Nat)) ∧ w.cell? ⟨b, 4, none⟩ = some (.int .i64 (max (dp l) (dp r) + 1 : Nat)) :=
  ⟨pt l, pt r, h.at_.symm, ⟨h.lies.2.2.2.2.2.2.1, rfl⟩, ⟨h.lies.2.2.2.2.2.2.2, rfl⟩, h.lies.2.1, h.lies.2.2.1, h.lies.2.2.2.1, h.lies.2.2.2.2.1, h.lies.2.2.2.2.2.1⟩
theorem At.none_ {w : World} {T : BT Int} (h : At w none T) : T = .nil := by
  cases T with
  | nil => rfl
  | node b o a l r => exact absurd h.at_ (by simp [pt])

theorem cell_keep {W w' : World} {p : Addr} {v : Value} (hb : Below W.heap.size W w') (h : W.cell? p = some v) : w'.cell? p = some v :=
  (hb.cell (World.block_lt_of_cell? _ _ h)).trans h

set_option maxHeartbeats 400000 in
theorem size_any {u : Option Addr} {T : BT Int} {w : World} (h : At w u T) :
    Calls Tryz.prog 55 #[.pointer u] w fun e w' => e = .returned (.int .i64 (sz T : Nat)) ∧ w' = w := by
  cases T with
  | nil =>
    obtain rfl := h.open_nil
    go_enter Tryz.func55, Tryz.ntmps55
    go_wp2
    go_ret
    exact ⟨rfl, rfl⟩
  | node b o a l r =>
    obtain ⟨ul, ur, rfl, hl, hr, h0, h1, h2, h3, h4⟩ := h.open_node
    clear h0 h1 h2 h4 hl hr h
    go_enter Tryz.func55, Tryz.ntmps55
    go_wp2
    go_ret
    exact ⟨rfl, rfl⟩

set_option maxHeartbeats 400000 in
theorem depth_any {u : Option Addr} {T : BT Int} {w : World} (h : At w u T) :
    Calls Tryz.prog 118 #[.pointer u] w fun e w' => e = .returned (.int .i64 (dp T : Nat)) ∧ w' = w := by
  cases T with
  | nil =>
    obtain rfl := h.open_nil
    go_enter Tryz.func118, Tryz.ntmps118
    go_wp2
    go_ret
    exact ⟨rfl, rfl⟩
  | node b o a l r =>
    obtain ⟨ul, ur, rfl, hl, hr, h0, h1, h2, h3, h4⟩ := h.open_node
    clear h0 h1 h2 h3 hl hr h
    go_enter Tryz.func118, Tryz.ntmps118
    go_wp2
    go_ret
    exact ⟨rfl, rfl⟩

theorem at_new {w : World} {ul ur : Option Addr} {l r : BT Int} {a : Int} (hl : At w ul l) (hr : At w ur r) (c3 c4 : Int) (e3 : c3 = (sz l + 1 + sz r : Nat)) (e4 : c4 = (max (dp l) (dp r) + 1 : Nat)) :
    At (w.alloc (.cells #[.pointer ul, .pointer ur, .int .i64 a, .int .i64 c3, .int .i64 c4] 126)) (some ⟨w.heap.size, 0, none⟩) (.node w.heap.size 0 a l r) := by
  subst e3 e4
  have hb : Below w.heap.size w (w.alloc (.cells #[.pointer ul, .pointer ur, .int .i64 a, .int .i64 (sz l + 1 + sz r : Nat), .int .i64 (max (dp l) (dp r) + 1 : Nat)] 126)) := (Below.refl _ _).alloc (Nat.le_refl _) _
  refine ⟨⟨Tag.new _ _ _ _, ?_, ?_, ?_, ?_, ?_, lies_below hb hl.lies, lies_below hb hr.lies⟩, rfl⟩
  · rw [hl.at_]; simp
  · rw [hr.at_]; simp
  all_goals simp

set_option maxHeartbeats 400000 in
theorem grow_any {ul ur : Option Addr} {l r : BT Int} (a : Int) {w : World} (hl : At w ul l) (hr : At w ur r) (hs : sz l + sz r < 1000000) :
    Calls Tryz.prog 96 #[.pointer ul, .int .i64 a, .pointer ur] w fun e w' => ∃ b, e = .returned (.pointer (some ⟨b, 0, none⟩)) ∧ Below w.heap.size w w' ∧ At w' (some ⟨b, 0, none⟩) (.node b 0 a l r) := by
  have d1 := dp_le_sz l
  have d2 := dp_le_sz r
  go_enter Tryz.func96, Tryz.ntmps96
  go_wp2_with fail
  refine (size_any hl).mono ?_
  rintro e w' ⟨rfl, rfl⟩
  go_wp2_with fail
  refine (size_any hr).mono ?_
  rintro e w' ⟨rfl, rfl⟩
  go_wp2_with fail
  refine (depth_any hl).mono ?_
  rintro e w' ⟨rfl, rfl⟩
  go_wp2_with fail
  refine (depth_any hr).mono ?_
  rintro e w' ⟨rfl, rfl⟩
  go_wp2_with fail
  all_goals
    go_ret
    exact ⟨_, rfl, (Below.refl _ _).alloc (Nat.le_refl _) _, at_new hl hr _ _ (by omega) (by omega)⟩

/-- What leanRight, leanLeft and even answer. -/
def Makes (w : World) (Q : BT Int → Prop) (e : Ending) (w' : World) : Prop := ∃ u T, e = .returned (.pointer u) ∧ Below w.heap.size w w' ∧ At w' u T ∧ Q T

theorem below_step {w a b : World} (h1 : Below w.heap.size w a) (h2 : Below a.heap.size a b) : Below w.heap.size w b := h1.trans (h2.mono h1.size)
theorem below_drew {w a : World} (h : Below w.drew.heap.size w.drew a) : Below w.heap.size w a := (Below.refl _ w).drew.trans h

set_option maxHeartbeats 1000000 in
theorem leanRight_any {u ur : Option Addr} {l r : BT Int} (a : Int) {w : World} (hl : At w u l) (hr : At w ur r) (bl : Bal l) (br : Bal r) (hd : dp l = dp r + 2) (hs : sz l + sz r < 1000000) :
    Calls Tryz.prog 126 #[.pointer u, .int .i64 a, .pointer ur] w (Makes w (Evened l a r)) := by
  cases l with
  | nil => simp only [dp] at hd; omega
  | node b o la ll lr =>
    obtain ⟨u1, u2, rfl, h1, h2, c0, c1, c2, c3, c4⟩ := hl.open_node
    clear c3 c4 hl
    simp only [sz] at hs
    by_cases hge : dp lr ≤ dp ll
    · have HE := fun b1 o1 b2 o2 => evened_right1 (a := a) (b1 := b1) (o1 := o1) (b2 := b2) (o2 := o2) bl br hd hge
      clear hd
      go_enter Tryz.func126, Tryz.ntmps126
      go_wp2_with fail
      refine (depth_any h1).mono ?_
      rintro e w' ⟨rfl, rfl⟩
      go_wp2_with fail
      refine (depth_any h2).mono ?_
      rintro e w' ⟨rfl, rfl⟩
      go_wp2_with fail
      go_region_held3 (fun W => W.cell? ⟨b, 0, none⟩ = some (.pointer u1) ∧ W.cell? ⟨b, 2, none⟩ = some (.int .i64 la)) (first | go_keep | (refine ⟨?_, ?_⟩ <;> (repeat (refine cell_keep (by assumption) ?_)) <;> simp [c0, c2]))
        (first
          | (go_at_call_of 96 (Value.pointer ur); refine (grow_any _ h2.drew hr.drew ?_).mono ?_; (omega); rintro e w1 ⟨b1, rfl, hb1, ha1⟩)
          | (go_at_call_of 96 (Value.pointer u1); refine (grow_any _ (h1.drew.below hb1) ha1 ?_).mono ?_; (simp only [sz]; omega); rintro e w2 ⟨b2, rfl, hb2, ha2⟩))
      go_wp2_with fail
      go_ret
      exact ⟨_, _, rfl, below_step (below_drew hb1) hb2, ha2, HE _ _ _ _⟩
    · cases lr with
      | nil => simp only [dp] at hge; omega
      | node c p ia il ir =>
        have HE := fun b1 o1 b2 o2 b3 o3 => evened_right2 (a := a) (b1 := b1) (o1 := o1) (b2 := b2) (o2 := o2) (b3 := b3) (o3 := o3) bl br hd (by omega)
        clear hd
        obtain ⟨v1, v2, rfl, k1, k2, e0, e1, e2, e3, e4⟩ := h2.open_node
        clear e3 e4
        simp only [sz] at hs
        go_enter Tryz.func126, Tryz.ntmps126
        go_wp2_with fail
        refine (depth_any h1).mono ?_
        rintro e w' ⟨rfl, rfl⟩
        go_wp2_with fail
        refine (depth_any h2).mono ?_
        rintro e w' ⟨rfl, rfl⟩
        go_wp2_with fail
        go_region_held3 (fun W => W.cell? ⟨b, 0, none⟩ = some (.pointer u1) ∧ W.cell? ⟨b, 2, none⟩ = some (.int .i64 la) ∧ W.cell? ⟨c, 0, none⟩ = some (.pointer v1) ∧ W.cell? ⟨c, 1, none⟩ = some (.pointer v2) ∧ W.cell? ⟨c, 2, none⟩ = some (.int .i64 ia)) (first | go_keep | (refine ⟨?_, ?_, ?_, ?_, ?_⟩ <;> (repeat (refine cell_keep (by assumption) ?_)) <;> simp [c0, c2, e0, e1, e2]))
          (first
            | (go_at_call_of 96 (Value.pointer u1); refine (grow_any _ h1.drew k1.drew ?_).mono ?_; (omega); rintro e w1 ⟨b1, rfl, hb1, ha1⟩)
            | (go_at_call_of 96 (Value.pointer ur); refine (grow_any _ (k2.drew.below hb1) (hr.drew.below hb1) ?_).mono ?_; (omega); rintro e w2 ⟨b2, rfl, hb2, ha2⟩)
            | (go_at_call 96; refine (grow_any _ (ha1.below hb2) ha2 ?_).mono ?_; (simp only [sz]; omega); rintro e w3 ⟨b3, rfl, hb3, ha3⟩))
        go_wp2_with fail
        go_ret
        exact ⟨_, _, rfl, below_step (below_step (below_drew hb1) hb2) hb3, ha3, HE _ _ _ _ _ _⟩

set_option maxHeartbeats 1000000 in
theorem leanLeft_any {u ul : Option Addr} {l r : BT Int} (a : Int) {w : World} (hl : At w ul l) (hr : At w u r) (bl : Bal l) (br : Bal r) (hd : dp r = dp l + 2) (hs : sz l + sz r < 1000000) :
    Calls Tryz.prog 127 #[.pointer ul, .int .i64 a, .pointer u] w (Makes w (Evened l a r)) := by
  cases r with
  | nil => simp only [dp] at hd; omega
  | node b o ra rl rr =>
    obtain ⟨u1, u2, rfl, h1, h2, c0, c1, c2, c3, c4⟩ := hr.open_node
    clear c3 c4 hr
    simp only [sz] at hs
    by_cases hge : dp rl ≤ dp rr
    · have HE := fun b1 o1 b2 o2 => evened_left1 (a := a) (b1 := b1) (o1 := o1) (b2 := b2) (o2 := o2) bl br hd hge
      clear hd
      go_enter Tryz.func127, Tryz.ntmps127
      go_wp2_with fail
      refine (depth_any h2).mono ?_
      rintro e w' ⟨rfl, rfl⟩
      go_wp2_with fail
      refine (depth_any h1).mono ?_
      rintro e w' ⟨rfl, rfl⟩
      go_wp2_with fail
      go_region_held3 (fun W => W.cell? ⟨b, 1, none⟩ = some (.pointer u2) ∧ W.cell? ⟨b, 2, none⟩ = some (.int .i64 ra)) (first | go_keep | (refine ⟨?_, ?_⟩ <;> (repeat (refine cell_keep (by assumption) ?_)) <;> simp [c1, c2]))
        (first
          | (go_at_call_of 96 (Value.pointer ul); refine (grow_any _ hl.drew h1.drew ?_).mono ?_; (omega); rintro e w1 ⟨b1, rfl, hb1, ha1⟩)
          | (go_at_call_of 96 (Value.pointer u2); refine (grow_any _ ha1 (h2.drew.below hb1) ?_).mono ?_; (simp only [sz]; omega); rintro e w2 ⟨b2, rfl, hb2, ha2⟩))
      go_wp2_with fail
      go_ret
      exact ⟨_, _, rfl, below_step (below_drew hb1) hb2, ha2, HE _ _ _ _⟩
    · cases rl with
      | nil => simp only [dp] at hge; omega
      | node c p ia il ir =>
        have HE := fun b1 o1 b2 o2 b3 o3 => evened_left2 (a := a) (b1 := b1) (o1 := o1) (b2 := b2) (o2 := o2) (b3 := b3) (o3 := o3) bl br hd (by omega)
        clear hd
        obtain ⟨v1, v2, rfl, k1, k2, e0, e1, e2, e3, e4⟩ := h1.open_node
        clear e3 e4
        simp only [sz] at hs
        go_enter Tryz.func127, Tryz.ntmps127
        go_wp2_with fail
        refine (depth_any h2).mono ?_
        rintro e w' ⟨rfl, rfl⟩
        go_wp2_with fail
        refine (depth_any h1).mono ?_
        rintro e w' ⟨rfl, rfl⟩
        go_wp2_with fail
        go_region_held3 (fun W => W.cell? ⟨b, 1, none⟩ = some (.pointer u2) ∧ W.cell? ⟨b, 2, none⟩ = some (.int .i64 ra) ∧ W.cell? ⟨c, 0, none⟩ = some (.pointer v1) ∧ W.cell? ⟨c, 1, none⟩ = some (.pointer v2) ∧ W.cell? ⟨c, 2, none⟩ = some (.int .i64 ia)) (first | go_keep | (refine ⟨?_, ?_, ?_, ?_, ?_⟩ <;> (repeat (refine cell_keep (by assumption) ?_)) <;> simp [c1, c2, e0, e1, e2]))
          (first
            | (go_at_call_of 96 (Value.pointer ul); refine (grow_any _ hl.drew k1.drew ?_).mono ?_; (omega); rintro e w1 ⟨b1, rfl, hb1, ha1⟩)
            | (go_at_call_of 96 (Value.pointer u2); refine (grow_any _ (k2.drew.below hb1) (h2.drew.below hb1) ?_).mono ?_; (omega); rintro e w2 ⟨b2, rfl, hb2, ha2⟩)
            | (go_at_call 96; refine (grow_any _ (ha1.below hb2) ha2 ?_).mono ?_; (simp only [sz]; omega); rintro e w3 ⟨b3, rfl, hb3, ha3⟩))
        go_wp2_with fail
        go_ret
        exact ⟨_, _, rfl, below_step (below_step (below_drew hb1) hb2) hb3, ha3, HE _ _ _ _ _ _⟩

set_option maxHeartbeats 1000000 in
theorem even_any {ul ur : Option Addr} {l r : BT Int} (a : Int) {w : World} (hl : At w ul l) (hr : At w ur r) (bl : Bal l) (br : Bal r) (hd1 : dp l ≤ dp r + 2) (hd2 : dp r ≤ dp l + 2) (hs : sz l + sz r < 1000000) :
    Calls Tryz.prog 119 #[.pointer ul, .int .i64 a, .pointer ur] w (Makes w (Evened l a r)) := by
  have d1 := dp_le_sz l
  have d2 := dp_le_sz r
  by_cases e2 : dp l = dp r + 2
  · have t1 : ((dp l : Int) - dp r == 2) = true := by rw [beq_iff_eq]; omega
    have HD : Hid (dp l = dp r + 2) := e2
    clear e2
    go_enter Tryz.func119, Tryz.ntmps119
    go_wp2_with fail
    refine (depth_any hl).mono ?_
    rintro e w' ⟨rfl, rfl⟩
    go_wp2_with fail
    refine (depth_any hr).mono ?_
    rintro e w' ⟨rfl, rfl⟩
    go_wp2_with fail
    refine (leanRight_any a hl hr bl br HD.out hs).mono ?_
    rintro e w' ⟨u, T, rfl, hb, hT, hq⟩
    go_wp2_with fail
    go_ret
    exact ⟨_, _, rfl, hb, hT, hq⟩
  · have t1 : ((dp l : Int) - dp r == 2) = false := by rw [beq_eq_false_iff_ne]; omega
    by_cases e3 : dp r = dp l + 2
    · have t2 : ((dp l : Int) - dp r == -2) = true := by rw [beq_iff_eq]; omega
      have HD : Hid (dp r = dp l + 2) := e3
      clear e2 e3
      go_enter Tryz.func119, Tryz.ntmps119
      go_wp2_with fail
      refine (depth_any hl).mono ?_
      rintro e w' ⟨rfl, rfl⟩
      go_wp2_with fail
      refine (depth_any hr).mono ?_
      rintro e w' ⟨rfl, rfl⟩
      go_wp2_with fail
      refine (leanLeft_any a hl hr bl br HD.out hs).mono ?_
      rintro e w' ⟨u, T, rfl, hb, hT, hq⟩
      go_wp2_with fail
      go_ret
      exact ⟨_, _, rfl, hb, hT, hq⟩
    · have t2 : ((dp l : Int) - dp r == -2) = false := by rw [beq_eq_false_iff_ne]; omega
      have HE := fun b o => evened_grow (a := a) (b := b) (o := o) bl br (by omega) (by omega)
      clear e2 e3
      go_enter Tryz.func119, Tryz.ntmps119
      go_wp2_with fail
      refine (depth_any hl).mono ?_
      rintro e w' ⟨rfl, rfl⟩
      go_wp2_with fail
      refine (depth_any hr).mono ?_
      rintro e w' ⟨rfl, rfl⟩
      go_wp2_with fail
      refine (grow_any a hl hr hs).mono ?_
      rintro e w' ⟨b, rfl, hb, hT⟩
      go_wp2_with fail
      go_ret
      exact ⟨_, _, rfl, hb, hT, HE _ _⟩

end Go.Proofs.YthhojlbfnffdeabGreat
