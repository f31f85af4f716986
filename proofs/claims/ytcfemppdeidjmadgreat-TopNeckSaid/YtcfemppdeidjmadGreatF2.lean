/-
  The small functions of package seq (size, depth, grow, the turns, even): what each call answers and leaves, of whatever tree that lies in memory.
  link, behead, concat and cut of package seq: what each call answers and leaves, of whatever trees with even branches that lie in memory.
  The faces of package seq that make rows: rowOf, tree, Len, Depth, spread, Of, Join, Split; and the statements' own look whether two lists are the same.
  List of package seq: all items of a row in a new list, by a closure that calls itself.
  The statements' own look whether two lists of numbers are the same: where they are, it says so.
-/
import Derived.Test.YtcfemppdeidjmadGreatF1
import Derived.Test.YtcfemppdeidjmadGreatChecked
import Derived.WalkKit
import Derived.WalkSpells
import Derived.WalkLawsBesides
import Derived.Deep.RegionHeld3
import Derived.BigQuiet
import Derived.Deep.QuietTactic
import Derived.Deep.RegionLaw
import Derived.Laws.EntriesVeiled
namespace Go.Proofs.YtcfemppdeidjmadGreat
set_option linter.unusedSectionVars false
variable [Inhabited Zed]
open Go.RowKit Go.Deep

/-- Where a tree's first node is. -/
def pt : BT Int → Option Addr
  | .nil => none
  | .node b _ _ _ _ => some ⟨b, 0, none⟩

/-- A block is a row of cells of a type. -/
def Tag (w : World) (b : Nat) (t : TypeId) : Prop := ∃ c z, w.heap[b]? = some (.cells c t z)

theorem Tag.below {w w' : World} {b : Nat} {t : TypeId} (h : Tag w b t) (hb : Below w.heap.size w w') : Tag w' b t := by
  obtain ⟨c, z, h⟩ := h
  have hlt : b < w.heap.size := by
    rcases Nat.lt_or_ge b w.heap.size with h1 | h1
    · exact h1
    · rw [Array.getElem?_eq_none h1] at h; cases h
  exact ⟨c, z, (hb.block b hlt).trans h⟩
theorem Tag.new (w : World) (c : Array Value) (t : TypeId) (z : Nat × Nat) : Tag (w.alloc (.cells c t z)) w.heap.size t := ⟨c, z, by show (w.heap.push _)[w.heap.size]? = _; simp⟩

/-- The nodes of a tree lie in memory, each with its two branches, its item, how many items it has and how deep it is. -/
def Lies (w : World) : BT Int → Prop
  | .nil => True
  | .node b _ a l r => (Tag w b 192 ∧ zin b) ∧ w.cell? ⟨b, 0, none⟩ = some (.pointer (pt l)) ∧ w.cell? ⟨b, 1, none⟩ = some (.pointer (pt r)) ∧ w.cell? ⟨b, 2, none⟩ = some (.int .i64 a) ∧
      w.cell? ⟨b, 3, none⟩ = some (.int .i64 (sz l + 1 + sz r : Nat)) ∧ w.cell? ⟨b, 4, none⟩ = some (.int .i64 (max (dp l) (dp r) + 1 : Nat)) ∧ Lies w l ∧ Lies w r

theorem lies_below {w w' : World} (hb : Below w.heap.size w w') : ∀ {T : BT Int}, Lies w T → Lies w' T
  | .nil, _ => trivial
  | .node b o a l r, ⟨ht, h0, h1, h2, h3, h4, hl, hr⟩ => by
    have hlt : b < w.heap.size := World.block_lt_of_cell? _ _ h0
    exact ⟨⟨ht.1.below hb, ht.2⟩, (hb.cell hlt).trans h0, (hb.cell hlt).trans h1, (hb.cell hlt).trans h2, (hb.cell hlt).trans h3, (hb.cell hlt).trans h4, lies_below hb hl, lies_below hb hr⟩

/-- A tree lies at a place. -/
structure At (w : World) (u : Option Addr) (T : BT Int) : Prop where
  lies : Lies w T
  at_ : pt T = u
  zok : Zok w

theorem At.below {w w' : World} {u : Option Addr} {T : BT Int} (h : At w u T) (hb : Below w.heap.size w w') : At w' u T := ⟨lies_below hb h.lies, h.at_, h.zok.below hb⟩
theorem At.drew {w : World} {u : Option Addr} {T : BT Int} (h : At w u T) : At w.drew u T := h.below (Below.refl _ _).drew
theorem At.nil_ {w : World} (hz : Zok w) : At w none .nil := ⟨trivial, rfl, hz⟩

theorem At.open_nil {w : World} {u : Option Addr} (h : At w u .nil) : u = none := h.at_.symm
theorem At.open_node {w : World} {u : Option Addr} {b o : Nat} {a : Int} {l r : BT Int} (h : At w u (.node b o a l r)) :
    ∃ ul ur, u = some ⟨b, 0, none⟩ ∧ At w ul l ∧ At w ur r ∧ w.cell? ⟨b, 0, none⟩ = some (.pointer ul) ∧ w.cell? ⟨b, 1, none⟩ = some (.pointer ur) ∧ w.cell? ⟨b, 2, none⟩ = some (.int .i64 a) ∧
      w.cell? ⟨b, 3, none⟩ = some (.int .i64 (sz l + 1 + sz r : Nat)) ∧ w.cell? ⟨b, 4, none⟩ = some (.int .i64 (max (dp l) (dp r) + 1 : Nat)) :=
  ⟨pt l, pt r, h.at_.symm, ⟨h.lies.2.2.2.2.2.2.1, rfl, h.zok⟩, ⟨h.lies.2.2.2.2.2.2.2, rfl, h.zok⟩, h.lies.2.1, h.lies.2.2.1, h.lies.2.2.2.1, h.lies.2.2.2.2.1, h.lies.2.2.2.2.2.1⟩
theorem At.none_ {w : World} {T : BT Int} (h : At w none T) : T = .nil := by
  cases T with
  | nil => rfl
  | node b o a l r => exact absurd h.at_ (by simp [pt])

theorem cell_keep {W w' : World} {p : Addr} {v : Value} (hb : Below W.heap.size W w') (h : W.cell? p = some v) : w'.cell? p = some v :=
  (hb.cell (World.block_lt_of_cell? _ _ h)).trans h

set_option maxHeartbeats 400000 in
theorem size_any {u : Option Addr} {T : BT Int} {w : World} (h : At w u T) :
    Calls Tryz.prog 100 #[.pointer u] w fun e w' => e = .returned (.int .i64 (sz T : Nat)) ∧ w' = w := by
  cases T with
  | nil =>
    obtain rfl := h.open_nil
    go_enter Tryz.func100, Tryz.ntmps100
    go_wp2
    go_ret
    exact ⟨rfl, rfl⟩
  | node b o a l r =>
    obtain ⟨ul, ur, rfl, hl, hr, h0, h1, h2, h3, h4⟩ := h.open_node
    clear h0 h1 h2 h4 hl hr h
    go_enter Tryz.func100, Tryz.ntmps100
    go_wp2
    go_ret
    exact ⟨rfl, rfl⟩

set_option maxHeartbeats 400000 in
theorem depth_any {u : Option Addr} {T : BT Int} {w : World} (h : At w u T) :
    Calls Tryz.prog 173 #[.pointer u] w fun e w' => e = .returned (.int .i64 (dp T : Nat)) ∧ w' = w := by
  cases T with
  | nil =>
    obtain rfl := h.open_nil
    go_enter Tryz.func173, Tryz.ntmps173
    go_wp2
    go_ret
    exact ⟨rfl, rfl⟩
  | node b o a l r =>
    obtain ⟨ul, ur, rfl, hl, hr, h0, h1, h2, h3, h4⟩ := h.open_node
    clear h0 h1 h2 h3 hl hr h
    go_enter Tryz.func173, Tryz.ntmps173
    go_wp2
    go_ret
    exact ⟨rfl, rfl⟩

theorem at_new {w : World} {ul ur : Option Addr} {l r : BT Int} {a : Int} (hl : At w ul l) (hr : At w ur r) (c3 c4 : Int) (e3 : c3 = (sz l + 1 + sz r : Nat)) (e4 : c4 = (max (dp l) (dp r) + 1 : Nat)) :
    At (w.alloc (.cells #[.pointer ul, .pointer ur, .int .i64 a, .int .i64 c3, .int .i64 c4] 192)) (some ⟨w.heap.size, 0, none⟩) (.node w.heap.size 0 a l r) := by
  subst e3 e4
  have hb : Below w.heap.size w (w.alloc (.cells #[.pointer ul, .pointer ur, .int .i64 a, .int .i64 (sz l + 1 + sz r : Nat), .int .i64 (max (dp l) (dp r) + 1 : Nat)] 192)) := (Below.refl _ _).alloc (Nat.le_refl _) _
  refine ⟨⟨⟨Tag.new _ _ _ _, hl.zok.new⟩, ?_, ?_, ?_, ?_, ?_, lies_below hb hl.lies, lies_below hb hr.lies⟩, rfl, hl.zok.below hb⟩
  · rw [hl.at_]; simp
  · rw [hr.at_]; simp
  all_goals simp

set_option maxHeartbeats 400000 in
theorem grow_any {ul ur : Option Addr} {l r : BT Int} (a : Int) {w : World} (hl : At w ul l) (hr : At w ur r) (hs : sz l + sz r < 1000000) :
    Calls Tryz.prog 159 #[.pointer ul, .int .i64 a, .pointer ur] w fun e w' => ∃ b, e = .returned (.pointer (some ⟨b, 0, none⟩)) ∧ Below w.heap.size w w' ∧ At w' (some ⟨b, 0, none⟩) (.node b 0 a l r) := by
  have d1 := dp_le_sz l
  have d2 := dp_le_sz r
  go_enter Tryz.func159, Tryz.ntmps159
  go_wp2_with fail
  refine (size_any hl).mono ?_
  rintro e w' ⟨rfl, rfl⟩
  go_wp2_with fail
  refine (size_any hr).mono ?_
  rintro e w' ⟨rfl, rfl⟩
  go_wp2_with fail
  refine (depth_any hl).mono ?_
  rintro e w' ⟨rfl, rfl⟩
  go_wp2_with fail
  refine (depth_any hr).mono ?_
  rintro e w' ⟨rfl, rfl⟩
  go_wp2_with fail
  all_goals
    go_ret
    exact ⟨_, rfl, (Below.refl _ _).alloc (Nat.le_refl _) _, at_new hl hr _ _ (by omega) (by omega)⟩

/-- What leanRight, leanLeft and even answer. -/
def Makes (w : World) (Q : BT Int → Prop) (e : Ending) (w' : World) : Prop := ∃ u T, e = .returned (.pointer u) ∧ Below w.heap.size w w' ∧ At w' u T ∧ Q T

theorem below_step {w a b : World} (h1 : Below w.heap.size w a) (h2 : Below a.heap.size a b) : Below w.heap.size w b := h1.trans (h2.mono h1.size)
theorem below_drew {w a : World} (h : Below w.drew.heap.size w.drew a) : Below w.heap.size w a := (Below.refl _ w).drew.trans h

set_option maxHeartbeats 1000000 in
theorem leanRight_any {u ur : Option Addr} {l r : BT Int} (a : Int) {w : World} (hl : At w u l) (hr : At w ur r) (bl : Bal l) (br : Bal r) (hd : dp l = dp r + 2) (hs : sz l + sz r < 1000000) :
    Calls Tryz.prog 178 #[.pointer u, .int .i64 a, .pointer ur] w (Makes w (Evened l a r)) := by
  cases l with
  | nil => simp only [dp] at hd; omega
  | node b o la ll lr =>
    obtain ⟨u1, u2, rfl, h1, h2, c0, c1, c2, c3, c4⟩ := hl.open_node
    clear c3 c4 hl
    simp only [sz] at hs
    by_cases hge : dp lr ≤ dp ll
    · have HE := fun b1 o1 b2 o2 => evened_right1 (a := a) (b1 := b1) (o1 := o1) (b2 := b2) (o2 := o2) bl br hd hge
      clear hd
      go_enter Tryz.func178, Tryz.ntmps178
      go_wp2_with fail
      refine (depth_any h1).mono ?_
      rintro e w' ⟨rfl, rfl⟩
      go_wp2_with fail
      refine (depth_any h2).mono ?_
      rintro e w' ⟨rfl, rfl⟩
      go_wp2_with fail
      go_region_held3 (fun W => W.cell? ⟨b, 0, none⟩ = some (.pointer u1) ∧ W.cell? ⟨b, 2, none⟩ = some (.int .i64 la)) (first | go_keep | (refine ⟨?_, ?_⟩ <;> (repeat (refine cell_keep (by assumption) ?_)) <;> simp [c0, c2]))
        (first
          | (go_at_call_of 159 (Value.pointer ur); refine (grow_any _ h2.drew hr.drew ?_).mono ?_; (omega); rintro e w1 ⟨b1, rfl, hb1, ha1⟩)
          | (go_at_call_of 159 (Value.pointer u1); refine (grow_any _ (h1.drew.below hb1) ha1 ?_).mono ?_; (simp only [sz]; omega); rintro e w2 ⟨b2, rfl, hb2, ha2⟩))
      go_wp2_with fail
      go_ret
      exact ⟨_, _, rfl, below_step (below_drew hb1) hb2, ha2, HE _ _ _ _⟩
    · cases lr with
      | nil => simp only [dp] at hge; omega
      | node c p ia il ir =>
        have HE := fun b1 o1 b2 o2 b3 o3 => evened_right2 (a := a) (b1 := b1) (o1 := o1) (b2 := b2) (o2 := o2) (b3 := b3) (o3 := o3) bl br hd (by omega)
        clear hd
        obtain ⟨v1, v2, rfl, k1, k2, e0, e1, e2, e3, e4⟩ := h2.open_node
        clear e3 e4
        simp only [sz] at hs
        go_enter Tryz.func178, Tryz.ntmps178
        go_wp2_with fail
        refine (depth_any h1).mono ?_
        rintro e w' ⟨rfl, rfl⟩
        go_wp2_with fail
        refine (depth_any h2).mono ?_
        rintro e w' ⟨rfl, rfl⟩
        go_wp2_with fail
        go_region_held3 (fun W => W.cell? ⟨b, 0, none⟩ = some (.pointer u1) ∧ W.cell? ⟨b, 2, none⟩ = some (.int .i64 la) ∧ W.cell? ⟨c, 0, none⟩ = some (.pointer v1) ∧ W.cell? ⟨c, 1, none⟩ = some (.pointer v2) ∧ W.cell? ⟨c, 2, none⟩ = some (.int .i64 ia)) (first | go_keep | (refine ⟨?_, ?_, ?_, ?_, ?_⟩ <;> (repeat (refine cell_keep (by assumption) ?_)) <;> simp [c0, c2, e0, e1, e2]))
          (first
            | (go_at_call_of 159 (Value.pointer u1); refine (grow_any _ h1.drew k1.drew ?_).mono ?_; (omega); rintro e w1 ⟨b1, rfl, hb1, ha1⟩)
            | (go_at_call_of 159 (Value.pointer ur); refine (grow_any _ (k2.drew.below hb1) (hr.drew.below hb1) ?_).mono ?_; (omega); rintro e w2 ⟨b2, rfl, hb2, ha2⟩)
            | (go_at_call 159; refine (grow_any _ (ha1.below hb2) ha2 ?_).mono ?_; (simp only [sz]; omega); rintro e w3 ⟨b3, rfl, hb3, ha3⟩))
        go_wp2_with fail
        go_ret
        exact ⟨_, _, rfl, below_step (below_step (below_drew hb1) hb2) hb3, ha3, HE _ _ _ _ _ _⟩

set_option maxHeartbeats 1000000 in
theorem leanLeft_any {u ul : Option Addr} {l r : BT Int} (a : Int) {w : World} (hl : At w ul l) (hr : At w u r) (bl : Bal l) (br : Bal r) (hd : dp r = dp l + 2) (hs : sz l + sz r < 1000000) :
    Calls Tryz.prog 179 #[.pointer ul, .int .i64 a, .pointer u] w (Makes w (Evened l a r)) := by
  cases r with
  | nil => simp only [dp] at hd; omega
  | node b o ra rl rr =>
    obtain ⟨u1, u2, rfl, h1, h2, c0, c1, c2, c3, c4⟩ := hr.open_node
    clear c3 c4 hr
    simp only [sz] at hs
    by_cases hge : dp rl ≤ dp rr
    · have HE := fun b1 o1 b2 o2 => evened_left1 (a := a) (b1 := b1) (o1 := o1) (b2 := b2) (o2 := o2) bl br hd hge
      clear hd
      go_enter Tryz.func179, Tryz.ntmps179
      go_wp2_with fail
      refine (depth_any h2).mono ?_
      rintro e w' ⟨rfl, rfl⟩
      go_wp2_with fail
      refine (depth_any h1).mono ?_
      rintro e w' ⟨rfl, rfl⟩
      go_wp2_with fail
      go_region_held3 (fun W => W.cell? ⟨b, 1, none⟩ = some (.pointer u2) ∧ W.cell? ⟨b, 2, none⟩ = some (.int .i64 ra)) (first | go_keep | (refine ⟨?_, ?_⟩ <;> (repeat (refine cell_keep (by assumption) ?_)) <;> simp [c1, c2]))
        (first
          | (go_at_call_of 159 (Value.pointer ul); refine (grow_any _ hl.drew h1.drew ?_).mono ?_; (omega); rintro e w1 ⟨b1, rfl, hb1, ha1⟩)
          | (go_at_call_of 159 (Value.pointer u2); refine (grow_any _ ha1 (h2.drew.below hb1) ?_).mono ?_; (simp only [sz]; omega); rintro e w2 ⟨b2, rfl, hb2, ha2⟩))
      go_wp2_with fail
      go_ret
      exact ⟨_, _, rfl, below_step (below_drew hb1) hb2, ha2, HE _ _ _ _⟩
    · cases rl with
      | nil => simp only [dp] at hge; omega
      | node c p ia il ir =>
        have HE := fun b1 o1 b2 o2 b3 o3 => evened_left2 (a := a) (b1 := b1) (o1 := o1) (b2 := b2) (o2 := o2) (b3 := b3) (o3 := o3) bl br hd (by omega)
        clear hd
        obtain ⟨v1, v2, rfl, k1, k2, e0, e1, e2, e3, e4⟩ := h1.open_node
        clear e3 e4
        simp only [sz] at hs
        go_enter Tryz.func179, Tryz.ntmps179
        go_wp2_with fail
        refine (depth_any h2).mono ?_
        rintro e w' ⟨rfl, rfl⟩
        go_wp2_with fail
        refine (depth_any h1).mono ?_
        rintro e w' ⟨rfl, rfl⟩
        go_wp2_with fail
        go_region_held3 (fun W => W.cell? ⟨b, 1, none⟩ = some (.pointer u2) ∧ W.cell? ⟨b, 2, none⟩ = some (.int .i64 ra) ∧ W.cell? ⟨c, 0, none⟩ = some (.pointer v1) ∧ W.cell? ⟨c, 1, none⟩ = some (.pointer v2) ∧ W.cell? ⟨c, 2, none⟩ = some (.int .i64 ia)) (first | go_keep | (refine ⟨?_, ?_, ?_, ?_, ?_⟩ <;> (repeat (refine cell_keep (by assumption) ?_)) <;> simp [c1, c2, e0, e1, e2]))
          (first
            | (go_at_call_of 159 (Value.pointer ul); refine (grow_any _ hl.drew k1.drew ?_).mono ?_; (omega); rintro e w1 ⟨b1, rfl, hb1, ha1⟩)
            | (go_at_call_of 159 (Value.pointer u2); refine (grow_any _ (k2.drew.below hb1) (h2.drew.below hb1) ?_).mono ?_; (omega); rintro e w2 ⟨b2, rfl, hb2, ha2⟩)
            | (go_at_call 159; refine (grow_any _ (ha1.below hb2) ha2 ?_).mono ?_; (simp only [sz]; omega); rintro e w3 ⟨b3, rfl, hb3, ha3⟩))
        go_wp2_with fail
        go_ret
        exact ⟨_, _, rfl, below_step (below_step (below_drew hb1) hb2) hb3, ha3, HE _ _ _ _ _ _⟩

set_option maxHeartbeats 1000000 in
theorem even_any {ul ur : Option Addr} {l r : BT Int} (a : Int) {w : World} (hl : At w ul l) (hr : At w ur r) (bl : Bal l) (br : Bal r) (hd1 : dp l ≤ dp r + 2) (hd2 : dp r ≤ dp l + 2) (hs : sz l + sz r < 1000000) :
    Calls Tryz.prog 174 #[.pointer ul, .int .i64 a, .pointer ur] w (Makes w (Evened l a r)) := by
  have d1 := dp_le_sz l
  have d2 := dp_le_sz r
  by_cases e2 : dp l = dp r + 2
  · have t1 : ((dp l : Int) - dp r == 2) = true := by rw [beq_iff_eq]; omega
    have HD : Hid (dp l = dp r + 2) := e2
    clear e2
    go_enter Tryz.func174, Tryz.ntmps174
    go_wp2_with fail
    refine (depth_any hl).mono ?_
    rintro e w' ⟨rfl, rfl⟩
    go_wp2_with fail
    refine (depth_any hr).mono ?_
    rintro e w' ⟨rfl, rfl⟩
    go_wp2_with fail
    refine (leanRight_any a hl hr bl br HD.out hs).mono ?_
    rintro e w' ⟨u, T, rfl, hb, hT, hq⟩
    go_wp2_with fail
    go_ret
    exact ⟨_, _, rfl, hb, hT, hq⟩
  · have t1 : ((dp l : Int) - dp r == 2) = false := by rw [beq_eq_false_iff_ne]; omega
    by_cases e3 : dp r = dp l + 2
    · have t2 : ((dp l : Int) - dp r == -2) = true := by rw [beq_iff_eq]; omega
      have HD : Hid (dp r = dp l + 2) := e3
      clear e2 e3
      go_enter Tryz.func174, Tryz.ntmps174
      go_wp2_with fail
      refine (depth_any hl).mono ?_
      rintro e w' ⟨rfl, rfl⟩
      go_wp2_with fail
      refine (depth_any hr).mono ?_
      rintro e w' ⟨rfl, rfl⟩
      go_wp2_with fail
      refine (leanLeft_any a hl hr bl br HD.out hs).mono ?_
      rintro e w' ⟨u, T, rfl, hb, hT, hq⟩
      go_wp2_with fail
      go_ret
      exact ⟨_, _, rfl, hb, hT, hq⟩
    · have t2 : ((dp l : Int) - dp r == -2) = false := by rw [beq_eq_false_iff_ne]; omega
      have HE := fun b o => evened_grow (a := a) (b := b) (o := o) bl br (by omega) (by omega)
      clear e2 e3
      go_enter Tryz.func174, Tryz.ntmps174
      go_wp2_with fail
      refine (depth_any hl).mono ?_
      rintro e w' ⟨rfl, rfl⟩
      go_wp2_with fail
      refine (depth_any hr).mono ?_
      rintro e w' ⟨rfl, rfl⟩
      go_wp2_with fail
      refine (grow_any a hl hr hs).mono ?_
      rintro e w' ⟨b, rfl, hb, hT⟩
      go_wp2_with fail
      go_ret
      exact ⟨_, _, rfl, hb, hT, HE _ _⟩

end Go.Proofs.YtcfemppdeidjmadGreat

namespace Go.Proofs.YtcfemppdeidjmadGreat
set_option linter.unusedSectionVars false
variable [Inhabited Zed]
open Go.RowKit Go.Deep

def LinkSaid (n : Nat) : Prop := ∀ {ul ur : Option Addr} {l r : BT Int} (a : Int) {w : World}, At w ul l → At w ur r → Bal l → Bal r → sz l + sz r ≤ n → sz l + sz r < 1000000 →
  Calls Tryz.prog 161 #[.pointer ul, .int .i64 a, .pointer ur] w (Makes w (Linked l a r))

set_option maxHeartbeats 1000000 in
theorem link_grow {ul ur : Option Addr} {l r : BT Int} (a : Int) {w : World} (hl : At w ul l) (hr : At w ur r) (bl : Bal l) (br : Bal r) (h1 : dp l ≤ dp r + 1) (h2 : dp r ≤ dp l + 1) (hs : sz l + sz r < 1000000) :
    Calls Tryz.prog 161 #[.pointer ul, .int .i64 a, .pointer ur] w (Makes w (Linked l a r)) := by
  have d1 := dp_le_sz l
  have d2 := dp_le_sz r
  have HE := fun b o => linked_of_evened (evened_grow (a := a) (b := b) (o := o) bl br h1 h2)
  go_enter Tryz.func161, Tryz.ntmps161
  go_wp2_with fail
  refine (depth_any hl).mono ?_
  rintro e w' ⟨rfl, rfl⟩
  go_wp2_with fail
  refine (depth_any hr).mono ?_
  rintro e w' ⟨rfl, rfl⟩
  go_wp2_with fail
  refine (depth_any hr).mono ?_
  rintro e w' ⟨rfl, rfl⟩
  go_wp2_with fail
  refine (depth_any hl).mono ?_
  rintro e w' ⟨rfl, rfl⟩
  go_wp2_with fail
  refine (grow_any a hl hr hs).mono ?_
  rintro e w' ⟨b, rfl, hb, hT⟩
  go_wp2_with fail
  go_ret
  exact ⟨_, _, rfl, hb, hT, HE _ _⟩

set_option maxHeartbeats 1000000 in
theorem link_left {n : Nat} (ih : LinkSaid n) {ul ur : Option Addr} {b o : Nat} {la : Int} {ll lr r : BT Int} (a : Int) {w : World} (hl : At w ul (.node b o la ll lr)) (hr : At w ur r) (bl : Bal (.node b o la ll lr)) (br : Bal r)
    (hd : dp r + 1 < dp (.node b o la ll lr)) (hn : sz (.node b o la ll lr) + sz r ≤ n + 1) (hs : sz (.node b o la ll lr) + sz r < 1000000) :
    Calls Tryz.prog 161 #[.pointer ul, .int .i64 a, .pointer ur] w (Makes w (Linked (.node b o la ll lr) a r)) := by
  have d1 := dp_le_sz (.node b o la ll lr)
  have d2 := dp_le_sz r
  have HL : Hid (∀ T1 T, Linked lr a r T1 → Evened ll la T1 T → Linked (.node b o la ll lr) a r T) := fun T1 T => linked_left bl hd
  have HN : Hid (∀ T1, Linked lr a r T1 → dp ll ≤ dp T1 + 2 ∧ dp T1 ≤ dp ll + 2) := fun T1 => linked_left_near bl hd
  obtain ⟨u1, u2, rfl, h1, h2, c0, c1, c2, c3, c4⟩ := hl.open_node
  clear c3 c4
  obtain ⟨b1, b2, _, _⟩ := bl
  simp only [sz] at hn hs d1
  go_enter Tryz.func161, Tryz.ntmps161
  go_wp2_with fail
  refine (depth_any hl).mono ?_
  rintro e w' ⟨rfl, rfl⟩
  go_wp2_with fail
  refine (depth_any hr).mono ?_
  rintro e w' ⟨rfl, rfl⟩
  go_wp2_with fail
  go_region_held3 (fun W => W.cell? ⟨b, 0, none⟩ = some (.pointer u1) ∧ W.cell? ⟨b, 1, none⟩ = some (.pointer u2) ∧ W.cell? ⟨b, 2, none⟩ = some (.int .i64 la)) (first | go_keep | (refine ⟨?_, ?_, ?_⟩ <;> (repeat (refine cell_keep (by assumption) ?_)) <;> simp [c0, c1, c2]))
    (first
      | (go_at_call 161; refine (ih _ h2.drew hr.drew b2 br ?_ ?_).mono ?_; (omega); (omega); rintro e w1 ⟨v1, T1, rfl, hb1, ha1, hq1⟩)
      | (go_at_call 174; refine (even_any _ (h1.drew.below hb1) ha1 b1 hq1.bal (HN.out _ hq1).1 (HN.out _ hq1).2 ?_).mono ?_; (have := hq1.sz; omega); rintro e w2 ⟨v2, T2, rfl, hb2, ha2, hq2⟩))
  go_wp2_with fail
  go_ret
  exact ⟨_, _, rfl, below_step (below_drew hb1) hb2, ha2, HL.out _ _ hq1 hq2⟩

set_option maxHeartbeats 1000000 in
theorem link_right {n : Nat} (ih : LinkSaid n) {ul ur : Option Addr} {b o : Nat} {ra : Int} {l rl rr : BT Int} (a : Int) {w : World} (hl : At w ul l) (hr : At w ur (.node b o ra rl rr)) (bl : Bal l) (br : Bal (.node b o ra rl rr))
    (hd : dp l + 1 < dp (.node b o ra rl rr)) (hn : sz l + sz (.node b o ra rl rr) ≤ n + 1) (hs : sz l + sz (.node b o ra rl rr) < 1000000) :
    Calls Tryz.prog 161 #[.pointer ul, .int .i64 a, .pointer ur] w (Makes w (Linked l a (.node b o ra rl rr))) := by
  have d1 := dp_le_sz (.node b o ra rl rr)
  have d2 := dp_le_sz l
  have HL : Hid (∀ T1 T, Linked l a rl T1 → Evened T1 ra rr T → Linked l a (.node b o ra rl rr) T) := fun T1 T => linked_right br hd
  have HN : Hid (∀ T1, Linked l a rl T1 → dp T1 ≤ dp rr + 2 ∧ dp rr ≤ dp T1 + 2) := fun T1 => linked_right_near br hd
  obtain ⟨u1, u2, rfl, h1, h2, c0, c1, c2, c3, c4⟩ := hr.open_node
  clear c3 c4
  obtain ⟨b1, b2, _, _⟩ := br
  simp only [sz] at hn hs d1
  go_enter Tryz.func161, Tryz.ntmps161
  go_wp2_with fail
  refine (depth_any hl).mono ?_
  rintro e w' ⟨rfl, rfl⟩
  go_wp2_with fail
  refine (depth_any hr).mono ?_
  rintro e w' ⟨rfl, rfl⟩
  go_wp2_with fail
  refine (depth_any hr).mono ?_
  rintro e w' ⟨rfl, rfl⟩
  go_wp2_with fail
  refine (depth_any hl).mono ?_
  rintro e w' ⟨rfl, rfl⟩
  go_wp2_with fail
  go_region_held3 (fun W => W.cell? ⟨b, 0, none⟩ = some (.pointer u1) ∧ W.cell? ⟨b, 1, none⟩ = some (.pointer u2) ∧ W.cell? ⟨b, 2, none⟩ = some (.int .i64 ra)) (first | go_keep | (refine ⟨?_, ?_, ?_⟩ <;> (repeat (refine cell_keep (by assumption) ?_)) <;> simp [c0, c1, c2]))
    (first
      | (go_at_call 161; refine (ih _ hl.drew h1.drew bl b1 ?_ ?_).mono ?_; (omega); (omega); rintro e w1 ⟨v1, T1, rfl, hb1, ha1, hq1⟩)
      | (go_at_call 174; refine (even_any _ ha1 (h2.drew.below hb1) hq1.bal b2 (HN.out _ hq1).1 (HN.out _ hq1).2 ?_).mono ?_; (have := hq1.sz; omega); rintro e w2 ⟨v2, T2, rfl, hb2, ha2, hq2⟩))
  go_wp2_with fail
  go_ret
  exact ⟨_, _, rfl, below_step (below_drew hb1) hb2, ha2, HL.out _ _ hq1 hq2⟩

theorem link_all (n : Nat) : LinkSaid n := by
  induction n with
  | zero =>
    intro ul ur l r a w hl hr bl br hn hs
    have d1 := dp_le_sz l
    have d2 := dp_le_sz r
    exact link_grow a hl hr bl br (by omega) (by omega) hs
  | succ n ih =>
    intro ul ur l r a w hl hr bl br hn hs
    by_cases c1 : dp r + 1 < dp l
    · cases l with
      | nil => simp only [dp] at c1; omega
      | node b o la ll lr => exact link_left ih a hl hr bl br c1 hn hs
    · by_cases c2 : dp l + 1 < dp r
      · cases r with
        | nil => simp only [dp] at c2; omega
        | node b o ra rl rr => exact link_right ih a hl hr bl br c2 hn hs
      · exact link_grow a hl hr bl br (by omega) (by omega) hs

theorem link_any {ul ur : Option Addr} {l r : BT Int} (a : Int) {w : World} (hl : At w ul l) (hr : At w ur r) (bl : Bal l) (br : Bal r) (hs : sz l + sz r < 1000000) :
    Calls Tryz.prog 161 #[.pointer ul, .int .i64 a, .pointer ur] w (Makes w (Linked l a r)) := link_all _ a hl hr bl br (Nat.le_refl _) hs

/-- What is left of a tree without its first item. -/
structure Beheaded (T : BT Int) (a : Int) (T' : BT Int) : Prop where
  bal : Bal T'
  items : items T = a :: items T'
  lo : dp T ≤ dp T' + 1
  hi : dp T' ≤ dp T

theorem Beheaded.sz {T T' : BT Int} {a : Int} (h : Beheaded T a T') : sz T = sz T' + 1 := by rw [sz_of_items h.items]; simp [items_len]

theorem beheaded_last {b o : Nat} {a : Int} {r : BT Int} (h : Bal (.node b o a .nil r)) : Beheaded (.node b o a .nil r) a r :=
  ⟨h.2.1, by simp [Go.Proofs.YtcfemppdeidjmadGreat.items], by simp only [dp]; omega, by simp only [dp]; omega⟩

theorem beheaded_near {b o : Nat} {a x : Int} {l r T1 : BT Int} (h : Bal (.node b o a l r)) (h1 : Beheaded l x T1) : dp T1 ≤ dp r + 2 ∧ dp r ≤ dp T1 + 2 := by
  obtain ⟨_, _, c1, c2⟩ := h
  have e1 := h1.lo
  have e2 := h1.hi
  omega

theorem beheaded_step {b o : Nat} {a x : Int} {l r T1 T2 : BT Int} (h : Bal (.node b o a l r)) (h1 : Beheaded l x T1) (h2 : Evened T1 a r T2) : Beheaded (.node b o a l r) x T2 := by
  obtain ⟨_, _, c1, c2⟩ := h
  have e1 := h1.lo
  have e2 := h1.hi
  have e3 := h2.lo
  have e4 := h2.hi
  have e5 := h2.one
  refine ⟨h2.bal, by rw [h2.items]; simp [Go.Proofs.YtcfemppdeidjmadGreat.items, h1.items], ?_, ?_⟩
  · simp only [dp]
    by_cases c : dp T1 ≤ dp r + 1 ∧ dp r ≤ dp T1 + 1
    · have := e5 c.1 c.2; omega
    · omega
  · simp only [dp]
    by_cases c : dp T1 ≤ dp r + 1 ∧ dp r ≤ dp T1 + 1
    · have := e5 c.1 c.2; omega
    · omega

def BeheadSaid (T : BT Int) : Prop := ∀ {u : Option Addr} {w : World}, At w u T → Bal T → T ≠ .nil → sz T < 1000000 →
  Calls Tryz.prog 162 #[.pointer u] w fun e w' => ∃ a u' T', e = .returned (.tuple #[.int .i64 a, .pointer u']) ∧ Below w.heap.size w w' ∧ At w' u' T' ∧ Beheaded T a T'

set_option maxHeartbeats 1000000 in
theorem behead_last {u : Option Addr} {b o : Nat} {a : Int} {r : BT Int} {w : World} (h : At w u (.node b o a .nil r)) (hb : Bal (.node b o a .nil r)) :
    Calls Tryz.prog 162 #[.pointer u] w fun e w' => ∃ a' u' T', e = .returned (.tuple #[.int .i64 a', .pointer u']) ∧ Below w.heap.size w w' ∧ At w' u' T' ∧ Beheaded (.node b o a .nil r) a' T' := by
  have HB := beheaded_last hb
  obtain ⟨u1, u2, rfl, h1, h2, c0, c1, c2, c3, c4⟩ := h.open_node
  obtain rfl := h1.open_nil
  clear c3 c4 h
  go_enter Tryz.func162, Tryz.ntmps162
  go_wp2_with fail
  go_region_held3 (fun W => W.cell? ⟨b, 1, none⟩ = some (.pointer u2) ∧ W.cell? ⟨b, 2, none⟩ = some (.int .i64 a)) (go_keep) (fail)
  go_wp2_with fail
  go_ret2
  exact ⟨_, _, _, rfl, (Below.refl _ _).drew, h2.drew, HB⟩

set_option maxHeartbeats 1000000 in
theorem behead_step {u : Option Addr} {b o c p : Nat} {a x : Int} {l1 l2 r : BT Int} {w : World} (ih : BeheadSaid (.node c p x l1 l2)) (h : At w u (.node b o a (.node c p x l1 l2) r)) (hb : Bal (.node b o a (.node c p x l1 l2) r)) (hs : sz (.node b o a (.node c p x l1 l2) r) < 1000000) :
    Calls Tryz.prog 162 #[.pointer u] w fun e w' => ∃ a' u' T', e = .returned (.tuple #[.int .i64 a', .pointer u']) ∧ Below w.heap.size w w' ∧ At w' u' T' ∧ Beheaded (.node b o a (.node c p x l1 l2) r) a' T' := by
  have HN : Hid (∀ y T1, Beheaded (.node c p x l1 l2) y T1 → dp T1 ≤ dp r + 2 ∧ dp r ≤ dp T1 + 2) := fun _ _ => beheaded_near hb
  have HS : Hid (∀ y T1 T2, Beheaded (.node c p x l1 l2) y T1 → Evened T1 a r T2 → Beheaded (.node b o a (.node c p x l1 l2) r) y T2) := fun _ _ _ => beheaded_step hb
  obtain ⟨u1, u2, rfl, h1, h2, c0, c1, c2, c3, c4⟩ := h.open_node
  clear c3 c4 h
  have hu1 : u1 = some ⟨c, 0, none⟩ := h1.at_.symm
  subst hu1
  obtain ⟨b1, b2, _, _⟩ := hb
  simp only [sz] at hs
  go_enter Tryz.func162, Tryz.ntmps162
  go_wp2_with fail
  refine (ih h1 b1 (by simp) (by simp only [sz]; omega)).mono ?_
  rintro e w1 ⟨y, v1, T1, rfl, hb1, ha1, hq1⟩
  have c1' := cell_keep hb1 c1
  have c2' := cell_keep hb1 c2
  have hsz := hq1.sz
  simp only [sz] at hsz
  have HSZ : Hid (sz l1 + 1 + sz l2 = sz T1 + 1) := hsz
  clear hsz c0 c1 c2
  go_wp2_with fail
  go_region_held3 (fun W => W.cell? ⟨b, 1, none⟩ = some (.pointer u2) ∧ W.cell? ⟨b, 2, none⟩ = some (.int .i64 a)) (first | go_keep | (refine ⟨?_, ?_⟩ <;> (repeat (refine cell_keep (by assumption) ?_)) <;> simp [c1', c2']))
    (first
      | (go_at_call 174; refine (even_any _ ha1.drew (h2.below hb1).drew hq1.bal b2 (HN.out _ _ hq1).1 (HN.out _ _ hq1).2 ?_).mono ?_; (have := HSZ.out; omega); rintro e w2 ⟨v2, T2, rfl, hb2, ha2, hq2⟩))
  go_wp2_with fail
  go_ret2
  exact ⟨_, _, _, rfl, below_step hb1 (below_drew hb2), ha2, HS.out _ _ _ hq1 hq2⟩

theorem behead_any (T : BT Int) : BeheadSaid T := by
  induction T with
  | nil => intro u w _ _ h; exact absurd rfl h
  | node b o a l r ihl ihr =>
    intro u w h hb _ hs
    cases l with
    | nil => exact behead_last h hb
    | node c p x l1 l2 => exact behead_step ihl h hb hs

/-- One tree behind another. -/
structure Joined (l r T : BT Int) : Prop where
  bal : Bal T
  items : items T = items l ++ items r

theorem Joined.sz {l r T : BT Int} (h : Joined l r T) : sz T = sz l + sz r := by rw [sz_of_items h.items]; simp [items_len]

set_option maxHeartbeats 1000000 in
theorem concat_any {ul ur : Option Addr} {l r : BT Int} {w : World} (hl : At w ul l) (hr : At w ur r) (bl : Bal l) (br : Bal r) (hs : sz l + sz r < 1000000) :
    Calls Tryz.prog 153 #[.pointer ul, .pointer ur] w (Makes w (Joined l r)) := by
  cases l with
  | nil =>
    obtain rfl := hl.open_nil
    go_enter Tryz.func153, Tryz.ntmps153
    go_wp2_with fail
    go_ret
    exact ⟨_, _, rfl, Below.refl _ _, hr, br, rfl⟩
  | node b o la ll lr =>
    have hu : ul = some ⟨b, 0, none⟩ := hl.at_.symm
    subst hu
    cases r with
    | nil =>
      obtain rfl := hr.open_nil
      go_enter Tryz.func153, Tryz.ntmps153
      go_wp2_with fail
      go_ret
      exact ⟨_, _, rfl, Below.refl _ _, hl, bl, by simp [items]⟩
    | node c p ra rl rr =>
      have hv : ur = some ⟨c, 0, none⟩ := hr.at_.symm
      subst hv
      go_enter Tryz.func153, Tryz.ntmps153
      go_wp2_with fail
      refine (behead_any _ hr br (by simp) (by omega)).mono ?_
      rintro e w1 ⟨y, v1, T1, rfl, hb1, ha1, hq1⟩
      have hsz : sz (.node b o la ll lr) + sz T1 < 1000000 := by have := hq1.sz; omega
      go_wp2_with fail
      refine (link_any _ (hl.below hb1) ha1 bl hq1.bal hsz).mono ?_
      rintro e w2 ⟨v2, T2, rfl, hb2, ha2, hq2⟩
      go_wp2_with fail
      go_ret
      exact ⟨_, _, rfl, below_step hb1 hb2, ha2, hq2.bal, by rw [hq2.items, hq1.items]⟩

/-- The first k items, and the others. -/
structure Parted (T : BT Int) (k : Nat) (L H : BT Int) : Prop where
  bl : Bal L
  bh : Bal H
  low : items L = (items T).take k
  high : items H = (items T).drop k

def CutSaid (T : BT Int) : Prop := ∀ {u : Option Addr} {w : World} (i : Int) (k : Nat), At w u T → Bal T → sz T < 1000000 → i = k → k ≤ sz T →
  Calls Tryz.prog 152 #[.pointer u, .int .i64 i] w fun e w' => ∃ u1 u2 L H, e = .returned (.tuple #[.pointer u1, .pointer u2]) ∧ Below w.heap.size w w' ∧ At w' u1 L ∧ At w' u2 H ∧ Parted T k L H

theorem parted_left {b o k : Nat} {a : Int} {l r L H T : BT Int} (hk : k ≤ sz l) (h : Parted l k L H) (hq : Linked H a r T) : Parted (.node b o a l r) k L T := by
  refine ⟨h.bl, hq.bal, ?_, ?_⟩
  · rw [h.low]; simp only [items]; rw [List.take_append_of_le_length (by rw [items_len]; exact hk)]
  · rw [hq.items, h.high]; simp only [items]; rw [List.drop_append_of_le_length (by rw [items_len]; exact hk)]

theorem parted_right {b o k : Nat} {a : Int} {l r L H T : BT Int} (hk : sz l < k) (h : Parted r (k - sz l - 1) L H) (hq : Linked l a L T) : Parted (.node b o a l r) k T H := by
  obtain ⟨j, rfl⟩ : ∃ j, k = sz l + (j + 1) := ⟨k - sz l - 1, by omega⟩
  have e : sz l + (j + 1) - sz l - 1 = j := by omega
  rw [e] at h
  have e2 : sz l + (j + 1) = (items l).length + (j + 1) := by rw [items_len]
  refine ⟨hq.bal, h.bh, ?_, ?_⟩
  · rw [hq.items, h.low, e2]; simp only [items]; rw [List.take_length_add_append]; simp
  · rw [h.high, e2]; simp only [items]; rw [List.drop_length_add_append]; simp

theorem Parted.sizes {T L H : BT Int} {k : Nat} (h : Parted T k L H) (hk : k ≤ sz T) : sz L = k ∧ sz H = sz T - k := by
  refine ⟨?_, ?_⟩
  · rw [sz_of_items h.low, List.length_take, items_len]; omega
  · rw [sz_of_items h.high, List.length_drop, items_len]

set_option maxHeartbeats 1000000 in
theorem cut_left {u : Option Addr} {b o : Nat} {a : Int} {l r : BT Int} {w : World} (ih : CutSaid l) (i : Int) (k : Nat) (h : At w u (.node b o a l r)) (hb : Bal (.node b o a l r)) (hs : sz (.node b o a l r) < 1000000) (hik : i = k) (hk : k ≤ sz l) :
    Calls Tryz.prog 152 #[.pointer u, .int .i64 i] w fun e w' => ∃ u1 u2 L H, e = .returned (.tuple #[.pointer u1, .pointer u2]) ∧ Below w.heap.size w w' ∧ At w' u1 L ∧ At w' u2 H ∧ Parted (.node b o a l r) k L H := by
  subst hik
  obtain ⟨u1, u2, rfl, h1, h2, c0, c1, c2, c3, c4⟩ := h.open_node
  clear c3 c4 h
  obtain ⟨b1, b2, _, _⟩ := hb
  simp only [sz] at hs
  go_enter Tryz.func152, Tryz.ntmps152
  go_wp2_with fail
  refine (size_any h1).mono ?_
  rintro e w' ⟨rfl, rfl⟩
  go_wp2_with fail
  refine (ih _ k h1 b1 (by omega) rfl hk).mono ?_
  rintro e w1 ⟨v1, v2, L, H, rfl, hb1, haL, haH, hq1⟩
  have c1' := cell_keep hb1 c1
  have c2' := cell_keep hb1 c2
  have hsz : sz H + sz r < 1000000 := by have := hq1.sizes hk; omega
  clear c0 c1 c2
  go_wp2_with fail
  go_region_held3 (fun W => W.cell? ⟨b, 1, none⟩ = some (.pointer u2) ∧ W.cell? ⟨b, 2, none⟩ = some (.int .i64 a)) (first | go_keep | (refine ⟨?_, ?_⟩ <;> (repeat (refine cell_keep (by assumption) ?_)) <;> simp [c1', c2']))
    (first
      | (go_at_call 161; refine (link_any _ haH.drew (h2.below hb1).drew hq1.bh b2 hsz).mono ?_; rintro e w2 ⟨v3, T3, rfl, hb2, ha2, hq2⟩))
  go_wp2_with fail
  go_ret2
  exact ⟨_, _, _, _, rfl, below_step hb1 (below_drew hb2), haL.drew.below hb2, ha2, parted_left hk hq1 hq2⟩

set_option maxHeartbeats 1000000 in
theorem cut_right {u : Option Addr} {b o : Nat} {a : Int} {l r : BT Int} {w : World} (ih : CutSaid r) (i : Int) (k : Nat) (h : At w u (.node b o a l r)) (hb : Bal (.node b o a l r)) (hs : sz (.node b o a l r) < 1000000) (hik : i = k) (hk : sz l < k) (hk2 : k ≤ sz (.node b o a l r)) :
    Calls Tryz.prog 152 #[.pointer u, .int .i64 i] w fun e w' => ∃ u1 u2 L H, e = .returned (.tuple #[.pointer u1, .pointer u2]) ∧ Below w.heap.size w w' ∧ At w' u1 L ∧ At w' u2 H ∧ Parted (.node b o a l r) k L H := by
  subst hik
  obtain ⟨u1, u2, rfl, h1, h2, c0, c1, c2, c3, c4⟩ := h.open_node
  clear c3 c4 h
  obtain ⟨b1, b2, _, _⟩ := hb
  simp only [sz] at hs hk2
  go_enter Tryz.func152, Tryz.ntmps152
  go_wp2_with fail
  refine (size_any h1).mono ?_
  rintro e w' ⟨rfl, rfl⟩
  go_wp2_with fail
  refine (ih _ (k - sz l - 1) h2 b2 (by omega) (by omega) (by omega)).mono ?_
  rintro e w1 ⟨v1, v2, L, H, rfl, hb1, haL, haH, hq1⟩
  have c0' := cell_keep hb1 c0
  have c2' := cell_keep hb1 c2
  have hsz : sz l + sz L < 1000000 := by have := hq1.sizes (by omega); omega
  clear c0 c1 c2
  go_wp2_with fail
  go_region_held3 (fun W => W.cell? ⟨b, 0, none⟩ = some (.pointer u1) ∧ W.cell? ⟨b, 2, none⟩ = some (.int .i64 a)) (first | go_keep | (refine ⟨?_, ?_⟩ <;> (repeat (refine cell_keep (by assumption) ?_)) <;> simp [c0', c2']))
    (first
      | (go_at_call 161; refine (link_any _ (h1.below hb1).drew haL.drew b1 hq1.bl hsz).mono ?_; rintro e w2 ⟨v3, T3, rfl, hb2, ha2, hq2⟩))
  go_wp2_with fail
  go_ret2
  exact ⟨_, _, _, _, rfl, below_step hb1 (below_drew hb2), ha2, haH.drew.below hb2, parted_right hk hq1 hq2⟩

set_option maxHeartbeats 1000000 in
theorem cut_nil : CutSaid .nil := by
  intro u w i k h _ _ hi hk
  have hk0 : k = 0 := by simp only [sz] at hk; omega
  obtain rfl := h.open_nil
  have hz := h.zok
  clear hi hk
  go_enter Tryz.func152, Tryz.ntmps152
  go_wp2_with fail
  go_ret2
  exact ⟨_, _, _, _, rfl, Below.refl _ _, At.nil_ hz, At.nil_ hz, trivial, trivial, by simp [items], by simp [items]⟩

theorem cut_any (T : BT Int) : CutSaid T := by
  induction T with
  | nil => exact cut_nil
  | node b o a l r ihl ihr =>
    intro u w i k h hb hs hi hk
    by_cases c : k ≤ sz l
    · exact cut_left ihl i k h hb hs hi c
    · exact cut_right ihr i k h hb hs hi (by omega) hk

end Go.Proofs.YtcfemppdeidjmadGreat

namespace Go.Proofs.YtcfemppdeidjmadGreat
set_option linter.unusedSectionVars false
variable [Inhabited Zed]
open Go.RowKit Go.Deep

/-- A row lies at a place: nil has none, any other points at its tree. -/
structure RowAt (w : World) (v : Option Addr) (T : BT Int) : Prop where
  or : (v = none ∧ T = .nil) ∨ ∃ b u, v = some ⟨b, 0, none⟩ ∧ w.cell? ⟨b, 0, none⟩ = some (.pointer u) ∧ At w u T ∧ (Tag w b 194 ∧ zin b)
  zok : Zok w

theorem RowAt.below {w w' : World} {v : Option Addr} {T : BT Int} (h : RowAt w v T) (hb : Below w.heap.size w w') : RowAt w' v T := by
  have hz := h.zok
  rcases h.or with h | ⟨b, u, rfl, hc, ha, ht⟩
  · exact ⟨Or.inl h, hz.below hb⟩
  · exact ⟨Or.inr ⟨b, u, rfl, cell_keep hb hc, ha.below hb, ht.1.below hb, ht.2⟩, hz.below hb⟩
theorem RowAt.drew {w : World} {v : Option Addr} {T : BT Int} (h : RowAt w v T) : RowAt w.drew v T := h.below (Below.refl _ _).drew
theorem RowAt.nil_ {w : World} (hz : Zok w) : RowAt w none .nil := ⟨Or.inl ⟨rfl, rfl⟩, hz⟩

set_option maxHeartbeats 400000 in
theorem tree_any {v : Option Addr} {T : BT Int} {w : World} (h : RowAt w v T) :
    Calls Tryz.prog 101 #[.pointer v] w fun e w' => ∃ u, e = .returned (.pointer u) ∧ w' = w ∧ At w u T := by
  have hz := h.zok
  rcases h.or with ⟨rfl, rfl⟩ | ⟨b, u, rfl, hc, ha, ht⟩
  · go_enter Tryz.func101, Tryz.ntmps101
    go_wp2
    go_ret
    exact ⟨_, rfl, rfl, At.nil_ hz⟩
  · go_enter Tryz.func101, Tryz.ntmps101
    go_wp2
    go_ret
    exact ⟨_, rfl, rfl, ha⟩

set_option maxHeartbeats 400000 in
theorem rowOf_any {u : Option Addr} {T : BT Int} {w : World} (h : At w u T) :
    Calls Tryz.prog 144 #[.pointer u] w fun e w' => ∃ v, e = .returned (.pointer v) ∧ Below w.heap.size w w' ∧ RowAt w' v T := by
  cases T with
  | nil =>
    obtain rfl := h.open_nil
    go_enter Tryz.func144, Tryz.ntmps144
    go_wp2
    go_ret
    exact ⟨_, rfl, Below.refl _ _, RowAt.nil_ h.zok⟩
  | node b o a l r =>
    have hu : u = some ⟨b, 0, none⟩ := h.at_.symm
    subst hu
    go_enter Tryz.func144, Tryz.ntmps144
    go_wp2
    go_ret
    refine ⟨_, rfl, (Below.refl _ _).alloc (Nat.le_refl _) _, ⟨Or.inr ⟨_, _, rfl, ?_, h.below ((Below.refl _ _).alloc (Nat.le_refl _) _), Tag.new _ _ _ _, h.zok.new⟩, h.zok.below ((Below.refl _ _).alloc (Nat.le_refl _) _)⟩⟩
    simp

set_option maxHeartbeats 400000 in
theorem len_any {v : Option Addr} {T : BT Int} {w : World} (h : RowAt w v T) :
    Calls Tryz.prog 66 #[.pointer v] w fun e w' => e = .returned (.int .i64 (sz T : Nat)) ∧ w' = w := by
  go_enter Tryz.func66, Tryz.ntmps66
  go_wp2_with fail
  refine (tree_any h).mono ?_
  rintro e w' ⟨u, rfl, rfl, ha⟩
  go_wp2_with fail
  refine (size_any ha).mono ?_
  rintro e w' ⟨rfl, rfl⟩
  go_wp2_with fail
  go_ret
  exact ⟨rfl, rfl⟩

/-- A list of numbers lies in memory. -/
structure IntsAt (w : World) (a : Option Addr) (n cap : Nat) (xs : List Int) : Prop where
  len : xs.length = n
  le : n ≤ cap
  cell : ∀ i, i < n → ∃ b o, a = some ⟨b, o, none⟩ ∧ w.cell? ⟨b, o + i, none⟩ = some (.int .i64 (xs.getD i 0))

theorem IntsAt.below {w w' : World} {a : Option Addr} {n cap : Nat} {xs : List Int} (h : IntsAt w a n cap xs) (hb : Below w.heap.size w w') : IntsAt w' a n cap xs :=
  ⟨h.len, h.le, fun i hi => by obtain ⟨b, o, e, hc⟩ := h.cell i hi; exact ⟨b, o, e, cell_keep hb hc⟩⟩
theorem IntsAt.drew {w : World} {a : Option Addr} {n cap : Nat} {xs : List Int} (h : IntsAt w a n cap xs) : IntsAt w.drew a n cap xs := h.below (Below.refl _ _).drew

theorem IntsAt.take {w : World} {b o n cap : Nat} {xs : List Int} (h : IntsAt w (some ⟨b, o, none⟩) n cap xs) (m : Nat) (hm : m ≤ n) : IntsAt w (some ⟨b, o, none⟩) m cap (xs.take m) := by
  refine ⟨by rw [List.length_take, h.len]; omega, by have := h.le; omega, fun i hi => ?_⟩
  obtain ⟨b', o', e, hc⟩ := h.cell i (by omega)
  refine ⟨b', o', e, ?_⟩
  rw [hc]
  simp only [List.getD_eq_getElem?_getD, List.getElem?_take, if_pos hi]

theorem IntsAt.drop {w : World} {b o n cap : Nat} {xs : List Int} (h : IntsAt w (some ⟨b, o, none⟩) n cap xs) (m : Nat) (hm : m ≤ n) : IntsAt w (some ⟨b, o + m, none⟩) (n - m) (cap - m) (xs.drop m) := by
  refine ⟨by rw [List.length_drop, h.len], by have := h.le; omega, fun i hi => ?_⟩
  obtain ⟨b', o', e, hc⟩ := h.cell (m + i) (by omega)
  simp only [Option.some.injEq, Addr.mk.injEq, and_true] at e
  obtain ⟨rfl, rfl⟩ := e
  refine ⟨b, o + m, rfl, ?_⟩
  rw [Nat.add_assoc, hc]
  simp only [List.getD_eq_getElem?_getD, List.getElem?_drop]

theorem split_at (xs : List Int) (m : Nat) (h : m < xs.length) : xs = xs.take m ++ xs.getD m 0 :: xs.drop (m + 1) := by
  rw [List.getD_eq_getElem?_getD, List.getElem?_eq_getElem h, Option.getD_some, List.getElem_cons_drop, List.take_append_drop]

set_option maxRecDepth 100000 in
theorem slice_tail {w : World} {b o n cap : Nat} {xs : List Int} (h : IntsAt w (some ⟨b, o, none⟩) n cap xs) (m : Nat) (hm : m < n) :
    ∃ a2, (∀ W, (Instr.slice 44 (.slice (some ⟨b, o, none⟩) n cap) (some (.int .i64 ((m : Int) + 1))) none none).run Tryz.prog W = .ok (.slice a2 (n - (m + 1)) (cap - (m + 1))) W) ∧
      IntsAt w a2 (n - (m + 1)) (cap - (m + 1)) (xs.drop (m + 1)) := by
  have e : ((m : Int) + 1).toNat = m + 1 := by omega
  have hle := h.le
  have hd := h.drop (m + 1) (by omega)
  by_cases hc : cap = m + 1
  · refine ⟨some ⟨b, o, none⟩, fun W => ?_, ⟨hd.len, hd.le, fun i hi => by omega⟩⟩
    rw [run_slice_l (w := W) 44 _ n cap Tryz.underlying44 .i64 _ (by omega) (by omega), e]
    go_simp
  · refine ⟨some ⟨b, o + (m + 1), none⟩, fun W => ?_, hd⟩
    rw [run_slice_l (w := W) 44 _ n cap Tryz.underlying44 .i64 _ (by omega) (by omega), e]
    go_simp

def SpreadSaid (k : Nat) : Prop := ∀ {a : Option Addr} {n cap : Nat} {xs : List Int} {w : World}, IntsAt w a n cap xs → Zok w → n ≤ k → n < 1000000 → cap ≤ maxLen →
  Calls Tryz.prog 145 #[.slice a n cap] w (Makes w (Spread xs))

set_option maxHeartbeats 400000 in
theorem spread_none {a : Option Addr} {cap : Nat} {xs : List Int} {w : World} (h : IntsAt w a 0 cap xs) (hz : Zok w) : Calls Tryz.prog 145 #[.slice a 0 cap] w (Makes w (Spread xs)) := by
  have hx : xs = [] := List.eq_nil_of_length_eq_zero h.len
  subst hx
  go_enter Tryz.func145, Tryz.ntmps145
  go_wp2_with fail
  go_ret
  exact ⟨_, _, rfl, Below.refl _ _, At.nil_ hz, spread_nil⟩

set_option maxHeartbeats 1000000 in
theorem spread_some {k : Nat} (ih : SpreadSaid k) {a : Option Addr} {n cap : Nat} {xs : List Int} {w : World} (h : IntsAt w a n cap xs) (hz : Zok w) (hn0 : 0 < n) (hk : n ≤ k + 1) (hn : n < 1000000) (hc : cap ≤ maxLen) :
    Calls Tryz.prog 145 #[.slice a n cap] w (Makes w (Spread xs)) := by
  obtain ⟨b, o, rfl, _⟩ := h.cell 0 hn0
  obtain ⟨b', o', e, hcell⟩ := h.cell (n / 2) (by omega)
  simp only [Option.some.injEq, Addr.mk.injEq, and_true] at e
  obtain ⟨rfl, rfl⟩ := e
  have hle := h.le
  have h1 := h.take (n / 2) (by omega)
  obtain ⟨a2, hsl, h2⟩ := slice_tail h (n / 2) (by omega)
  have hsp : Hid (xs = xs.take (n / 2) ++ xs.getD (n / 2) 0 :: xs.drop (n / 2 + 1)) := split_at xs (n / 2) (by rw [h.len]; omega)
  have hc' : cap ≤ 2 ^ 63 - 1 := hc
  generalize hm : n / 2 = m at *
  have HM : Hid (n / 2 = m) := hm
  have hm1 : m < n := by omega
  have hm2 : 2 * m ≤ n := by omega
  have hm3 : n ≤ 2 * m + 1 := by omega
  have hne : ((n : Int) == 0) = false := by rw [beq_eq_false_iff_ne]; omega
  have hcc : cap - (m + 1) ≤ maxLen := by unfold maxLen at *; omega
  have HC : Hid (cap ≤ maxLen) := hc
  clear hm hc
  go_enter Tryz.func145, Tryz.ntmps145
  go_wp2_with fail
  rw [show ((n : Int) / 2) = (m : Int) from by have := HM.out; omega]
  have i0 : (0 : Int) ≤ (m : Int) := by omega
  have i1 : (m : Int) < (n : Int) := by omega
  have i2 : (n : Int) ≤ (cap : Int) := by omega
  have i3 : (m : Int) ≤ (cap : Int) := by omega
  have i4 : (0 : Int) ≤ (m : Int) + 1 := by omega
  have i5 : (m : Int) + 1 ≤ (n : Int) := by omega
  have i6 : IntKind.i64.wrap ((m : Int) + 1) = (m : Int) + 1 := by rw [IntKind.wrap_i64]; omega
  go_region_held3 (fun W => W.cell? ⟨b, o + m, none⟩ = some (.int .i64 (xs.getD m 0))) (first | (go_keep; done) | exact cell_keep hb1 hcell | exact cell_keep hb2 (cell_keep hb1 hcell) | exact cell_keep hb3 (cell_keep hb2 (cell_keep hb1 hcell)))
    (first
      | (go_at_call_of 145 a2; refine (ih (h2.drew.below hb1) (hz.drew.below hb1) ?_ ?_ hcc).mono ?_; (omega); (omega); rintro e w2 ⟨v2, T2, rfl, hb2, ha2, hq2⟩)
      | (go_at_call 145; refine (ih h1.drew hz.drew ?_ ?_ HC.out).mono ?_; (omega); (omega); rintro e w1 ⟨v1, T1, rfl, hb1, ha1, hq1⟩)
      | (go_at_call 159; refine (grow_any _ (ha1.below hb2) ha2 ?_).mono ?_; (rw [sz_of_items hq1.items, sz_of_items hq2.items, h1.len, h2.len]; omega); rintro e w3 ⟨b3, rfl, hb3, ha3⟩))
  go_wp2_with fail
  go_ret
  refine ⟨_, _, rfl, below_step (below_step (below_drew hb1) hb2) hb3, ha3, ?_⟩
  have hsn := (spread_node (a := xs.getD m 0) (b := b3) (o := 0) hq1 hq2 (by rw [h1.len, h2.len]; omega) (by rw [h1.len, h2.len]; omega)).1
  rw [← hsp.out, List.getD_eq_getElem?_getD] at hsn
  exact hsn

theorem spread_all (k : Nat) : SpreadSaid k := by
  induction k with
  | zero =>
    intro a n cap xs w h hz hk hn hc
    obtain rfl : n = 0 := by omega
    exact spread_none h hz
  | succ k ih =>
    intro a n cap xs w h hz hk hn hc
    by_cases h0 : n = 0
    · subst h0; exact spread_none h hz
    · exact spread_some ih h hz (by omega) hk hn hc

theorem spread_any {a : Option Addr} {n cap : Nat} {xs : List Int} {w : World} (h : IntsAt w a n cap xs) (hz : Zok w) (hn : n < 1000000) (hc : cap ≤ maxLen) : Calls Tryz.prog 145 #[.slice a n cap] w (Makes w (Spread xs)) := spread_all n h hz (Nat.le_refl _) hn hc

set_option maxHeartbeats 400000 in
theorem of_full {a : Option Addr} {n cap : Nat} {w : World} (hn : 400 < n) (hc : n ≤ 2 ^ 63 - 1) :
    Calls Tryz.prog 111 #[.slice a n cap] w fun e w' => e = .returned (.tuple #[.pointer none, .iface 66 (.int .i64 3)]) ∧ w' = w := by
  go_enter Tryz.func111, Tryz.ntmps111
  go_wp2_with fail
  go_ret2
  exact ⟨rfl, rfl⟩

set_option maxHeartbeats 400000 in
theorem of_any {a : Option Addr} {n cap : Nat} {xs : List Int} {w : World} (h : IntsAt w a n cap xs) (hz : Zok w) (hn : n ≤ 400) (hc : cap ≤ maxLen) :
    Calls Tryz.prog 111 #[.slice a n cap] w fun e w' => ∃ v T, e = .returned (.tuple #[.pointer v, .nilIface]) ∧ Below w.heap.size w w' ∧ RowAt w' v T ∧ Bal T ∧ items T = xs := by
  go_enter Tryz.func111, Tryz.ntmps111
  go_wp2_with fail
  refine (spread_any h hz (by omega) hc).mono ?_
  rintro e w1 ⟨u, T, rfl, hb1, ha1, hq1⟩
  go_wp2_with fail
  refine (rowOf_any ha1).mono ?_
  rintro e w2 ⟨v, rfl, hb2, ha2⟩
  go_wp2_with fail
  go_ret2
  exact ⟨_, _, rfl, below_step hb1 hb2, ha2, hq1.bal, hq1.items⟩

set_option maxHeartbeats 400000 in
theorem join_full {v1 v2 : Option Addr} {T1 T2 : BT Int} {w : World} (h1 : RowAt w v1 T1) (h2 : RowAt w v2 T2) (hn : 400 < sz T1 + sz T2) (hs1 : sz T1 ≤ 400) (hs2 : sz T2 ≤ 400) :
    Calls Tryz.prog 126 #[.pointer v1, .pointer v2] w fun e w' => e = .returned (.tuple #[.pointer none, .iface 66 (.int .i64 3)]) ∧ w' = w := by
  go_enter Tryz.func126, Tryz.ntmps126
  go_wp2_with fail
  refine (len_any h1).mono ?_
  rintro e w' ⟨rfl, rfl⟩
  go_wp2_with fail
  refine (len_any h2).mono ?_
  rintro e w' ⟨rfl, rfl⟩
  go_wp2_with fail
  go_ret2
  exact ⟨rfl, rfl⟩

set_option maxHeartbeats 400000 in
theorem join_any {v1 v2 : Option Addr} {T1 T2 : BT Int} {w : World} (h1 : RowAt w v1 T1) (h2 : RowAt w v2 T2) (b1 : Bal T1) (b2 : Bal T2) (hn : sz T1 + sz T2 ≤ 400) :
    Calls Tryz.prog 126 #[.pointer v1, .pointer v2] w fun e w' => ∃ v T, e = .returned (.tuple #[.pointer v, .nilIface]) ∧ Below w.heap.size w w' ∧ RowAt w' v T ∧ Bal T ∧ items T = items T1 ++ items T2 := by
  go_enter Tryz.func126, Tryz.ntmps126
  go_wp2_with fail
  refine (len_any h1).mono ?_
  rintro e w' ⟨rfl, rfl⟩
  go_wp2_with fail
  refine (len_any h2).mono ?_
  rintro e w' ⟨rfl, rfl⟩
  go_wp2_with fail
  refine (tree_any h1).mono ?_
  rintro e w' ⟨u1, rfl, rfl, a1⟩
  go_wp2_with fail
  refine (tree_any h2).mono ?_
  rintro e w' ⟨u2, rfl, rfl, a2⟩
  go_wp2_with fail
  refine (concat_any a1 a2 b1 b2 (by omega)).mono ?_
  rintro e w1 ⟨u, T, rfl, hb1, ha1, hq1⟩
  go_wp2_with fail
  refine (rowOf_any ha1).mono ?_
  rintro e w2 ⟨v, rfl, hb2, ha2⟩
  go_wp2_with fail
  go_ret2
  exact ⟨_, _, rfl, below_step hb1 hb2, ha2, hq1.bal, hq1.items⟩

set_option maxHeartbeats 400000 in
theorem split_low {v : Option Addr} {w : World} (i : Int) (hi : i < 0) :
    Calls Tryz.prog 125 #[.pointer v, .int .i64 i] w fun e w' => e = .returned (.tuple #[.pointer none, .pointer none, .iface 66 (.int .i64 1)]) ∧ w' = w := by
  go_enter Tryz.func125, Tryz.ntmps125
  go_wp2_with fail
  go_ret3
  exact ⟨rfl, rfl⟩

set_option maxHeartbeats 400000 in
theorem split_high {v : Option Addr} {T : BT Int} {w : World} (h : RowAt w v T) (i : Int) (hi0 : 0 ≤ i) (hi : sz T < i) :
    Calls Tryz.prog 125 #[.pointer v, .int .i64 i] w fun e w' => e = .returned (.tuple #[.pointer none, .pointer none, .iface 66 (.int .i64 1)]) ∧ w' = w := by
  go_enter Tryz.func125, Tryz.ntmps125
  go_wp2_with fail
  refine (len_any h).mono ?_
  rintro e w' ⟨rfl, rfl⟩
  go_wp2_with fail
  go_ret3
  exact ⟨rfl, rfl⟩

set_option maxHeartbeats 400000 in
theorem split_any {v : Option Addr} {T : BT Int} {w : World} (h : RowAt w v T) (hb : Bal T) (hs : sz T ≤ 400) (k : Nat) (hk : k ≤ sz T) :
    Calls Tryz.prog 125 #[.pointer v, .int .i64 (k : Int)] w fun e w' => ∃ v1 v2 L H, e = .returned (.tuple #[.pointer v1, .pointer v2, .nilIface]) ∧ Below w.heap.size w w' ∧ RowAt w' v1 L ∧ RowAt w' v2 H ∧ Parted T k L H := by
  go_enter Tryz.func125, Tryz.ntmps125
  go_wp2_with fail
  refine (len_any h).mono ?_
  rintro e w' ⟨rfl, rfl⟩
  go_wp2_with fail
  refine (tree_any h).mono ?_
  rintro e w' ⟨u, rfl, rfl, ha⟩
  go_wp2_with fail
  refine (cut_any T _ k ha hb (by omega) rfl hk).mono ?_
  rintro e w1 ⟨u1, u2, L, H, rfl, hb1, haL, haH, hq⟩
  go_wp2_with fail
  refine (rowOf_any haL).mono ?_
  rintro e w2 ⟨v1, rfl, hb2, hr1⟩
  go_wp2_with fail
  refine (rowOf_any (haH.below hb2)).mono ?_
  rintro e w3 ⟨v2, rfl, hb3, hr2⟩
  go_wp2_with fail
  go_ret3
  exact ⟨_, _, _, _, rfl, below_step (below_step hb1 hb2) hb3, hr1.below hb3, hr2, hq⟩

end Go.Proofs.YtcfemppdeidjmadGreat

namespace Go.Proofs.YtcfemppdeidjmadGreat
set_option linter.unusedSectionVars false
variable [Inhabited Zed]
open Go.RowKit Go.Deep

theorem Tryz.infoInt : (Tryz.prog.info? 3).map (fun i => (i.zero, i.size, i.bytes)) = some (some (.int .i64 0), 1, 8) := by kernel_rfl

theorem make_row (n : Nat) (hn : n ≤ 1000000) : ∃ CC : Array Value, CC.size = n ∧
    ∀ W : World, (Instr.makeSlice 44 (.int .i64 0) (.int .i64 (n : Int))).run Tryz.prog W = .ok (.slice (some ⟨W.heap.size, 0, none⟩) 0 n) (W.alloc (.cells CC 3)) := by
  obtain ⟨i0, hi, hz0, hz1, hz2⟩ := info_parts Tryz.infoInt
  refine ⟨madeCells #[.int .i64 0] n, size_madeCells _ _, fun W => ?_⟩
  have h := run_make (P := Tryz.prog) W 44 3 i0 (.int .i64 0) Tryz.underlying44 hi hz0 .i64 .i64 0 n (Int.le_refl _) (by omega) (by rw [hz2]; omega) (by omega)
  rw [hz1, Nat.mul_one] at h
  simpa [Value.cells] using h

/-- The function value that goes through a tree, with its two variables. -/
def walkFn (gw go : Nat) : Value := Value.func (Fn.func 151) #[] #[Value.pointer (some ⟨gw, 0, none⟩), Value.pointer (some ⟨go, 0, none⟩)]

/-- What holds while a tree is gone through: all that was there is as it was; the two variables, and the list so far. -/
structure Gone (w0 w : World) (gw go g cap : Nat) (xs : List Int) : Prop where
  below : Below w0.heap.size w0 w
  n1 : w0.heap.size ≤ gw
  n2 : w0.heap.size ≤ go
  n3 : w0.heap.size ≤ g
  d1 : g ≠ gw
  d2 : g ≠ go
  d3 : gw ≠ go
  fcell : w.cell? ⟨gw, 0, none⟩ = some (Value.func (Fn.func 151) #[] #[Value.pointer (some ⟨gw, 0, none⟩), Value.pointer (some ⟨go, 0, none⟩)])
  ocell : w.cell? ⟨go, 0, none⟩ = some (.slice (some ⟨g, 0, none⟩) xs.length cap)
  ofro : w.frozen? ⟨go, 0, none⟩ = false
  there : ∀ j, j < cap → (w.cell? ⟨g, j, none⟩).isSome = true ∧ w.frozen? ⟨g, j, none⟩ = false
  cells : ∀ j, j < xs.length → w.cell? ⟨g, j, none⟩ = some (.int .i64 (xs.getD j 0))

theorem Gone.drew {w0 w : World} {gw go g cap : Nat} {xs : List Int} (h : Gone w0 w gw go g cap xs) : Gone w0 w.drew gw go g cap xs :=
  ⟨h.below.drew, h.n1, h.n2, h.n3, h.d1, h.d2, h.d3, h.fcell, h.ocell, h.ofro, h.there, h.cells⟩

theorem Gone.grown {w0 w w' : World} {gw go g cap : Nat} {xs : List Int} (h : Gone w0 w gw go g cap xs) (hb : Below w.heap.size w w') : Gone w0 w' gw go g cap xs := by
  have z1 : gw < w.heap.size := World.block_lt_of_cell? _ _ h.fcell
  have z2 : go < w.heap.size := World.block_lt_of_cell? _ _ h.ocell
  have z3 : ∀ j, j < cap → g < w.heap.size := fun j hj => by
    obtain ⟨v, hv⟩ := Option.isSome_iff_exists.1 (h.there j hj).1
    exact World.block_lt_of_cell? _ _ hv
  refine ⟨below_step h.below hb, h.n1, h.n2, h.n3, h.d1, h.d2, h.d3, cell_keep hb h.fcell, cell_keep hb h.ocell, (hb.frozen (p := ⟨go, 0, none⟩) z2).trans h.ofro, fun j hj => ?_, fun j hj => cell_keep hb (h.cells j hj)⟩
  rw [hb.cell (p := ⟨g, j, none⟩) (z3 j hj), hb.frozen (p := ⟨g, j, none⟩) (z3 j hj)]
  exact h.there j hj

theorem cs_other {w : World} {a b : Addr} {v : Value} (h : a ≠ b) : (w.setCell a v).cell? b = w.cell? b := World.cell?_setCell_other (h := h) ..
theorem cs_same {w : World} {a : Addr} {v u : Value} (h : w.cell? a = some u) : (w.setCell a v).cell? a = some v := World.cell?_setCell_same (h := h) ..

theorem Gone.push {w0 w : World} {gw go g cap : Nat} {ys : List Int} (h : Gone w0 w gw go g cap ys) (hr : ys.length + 1 ≤ cap) (a : Int) :
    Gone w0 ((w.setCells g ys.length [Value.int IntKind.i64 a]).setCell ⟨go, 0, none⟩ (Value.slice (some ⟨g, 0, none⟩) (ys.length + 1) cap)) gw go g cap (ys ++ [a]) := by
  show Gone w0 ((w.setCell ⟨g, ys.length, none⟩ (Value.int IntKind.i64 a)).setCell ⟨go, 0, none⟩ (Value.slice (some ⟨g, 0, none⟩) (ys.length + 1) cap)) gw go g cap (ys ++ [a])
  obtain ⟨old, hold⟩ := Option.isSome_iff_exists.1 (h.there ys.length (by omega)).1
  have d1 := h.d1
  have d2 := h.d2
  have d3 := h.d3
  have off : ∀ (p : Addr), p.block ≠ g → p.block ≠ go → ((w.setCell ⟨g, ys.length, none⟩ (Value.int IntKind.i64 a)).setCell ⟨go, 0, none⟩ (Value.slice (some ⟨g, 0, none⟩) (ys.length + 1) cap)).cell? p = w.cell? p := fun p h1 h2 => by
    rw [cs_other (fun e => h2 (by rw [← e])), cs_other (fun e => h1 (by rw [← e]))]
  have inG : ∀ j, ((w.setCell ⟨g, ys.length, none⟩ (Value.int IntKind.i64 a)).setCell ⟨go, 0, none⟩ (Value.slice (some ⟨g, 0, none⟩) (ys.length + 1) cap)).cell? ⟨g, j, none⟩ = if j = ys.length then some (Value.int IntKind.i64 a) else w.cell? ⟨g, j, none⟩ := fun j => by
    rw [cs_other (by simp only [ne_eq, Addr.mk.injEq, not_and]; omega)]
    split
    · rename_i e; subst e; exact cs_same hold
    · exact cs_other (by simp only [ne_eq, Addr.mk.injEq, not_and]; omega)
  refine ⟨(h.below.setCell (p := ⟨g, ys.length, none⟩) h.n3 _).setCell (p := ⟨go, 0, none⟩) h.n2 _, h.n1, h.n2, h.n3, d1, d2, d3, ?_, ?_, ?_, fun j hj => ⟨?_, ?_⟩, fun j hj => ?_⟩
  · rw [off _ (by show gw ≠ g; omega) (by show gw ≠ go; omega)]; exact h.fcell
  · rw [List.length_append, List.length_singleton]
    exact cs_same (u := _) (by rw [cs_other (by simp only [ne_eq, Addr.mk.injEq, not_and]; omega)]; exact h.ocell)
  · rw [World.frozen?_setCell, World.frozen?_setCell]; exact h.ofro
  · rw [inG]; split
    · rfl
    · exact (h.there j hj).1
  · rw [World.frozen?_setCell, World.frozen?_setCell]; exact (h.there j hj).2
  · rw [List.length_append, List.length_singleton] at hj
    rw [inG]
    split
    · rename_i e; subst e; simp
    · rw [h.cells j (by omega)]
      simp only [List.getD_eq_getElem?_getD]
      rw [List.getElem?_append_left (by omega)]

def WalkSaid (T : BT Int) : Prop := ∀ {u : Option Addr} {w0 w : World} {gw go g cap : Nat} {xs : List Int}, At w0 u T → Gone w0 w gw go g cap xs → xs.length + sz T ≤ cap → cap < 1000000 →
  Calls Tryz.prog 151 #[.pointer u, .pointer (some ⟨gw, 0, none⟩), .pointer (some ⟨go, 0, none⟩)] w fun e w' => e = .returned (.tuple #[]) ∧ Gone w0 w' gw go g cap (xs ++ items T)

set_option maxHeartbeats 400000 in
theorem walk_nil : WalkSaid .nil := by
  intro u w0 w gw go g cap xs h hg _ _
  obtain rfl := h.open_nil
  go_enter Tryz.func151, Tryz.ntmps151
  go_wp2_with fail
  refine bodyPost_ret (results_none rfl _ _ _) rfl ?_
  exact ⟨rfl, by simpa [items] using hg⟩

set_option maxHeartbeats 1000000 in
theorem walk_node {b o : Nat} {a : Int} {l r : BT Int} (ihl : WalkSaid l) (ihr : WalkSaid r) : WalkSaid (.node b o a l r) := by
  intro u w0 w gw go g cap xs h hg hcap hm
  obtain ⟨u1, u2, rfl, h1, h2, c0, c1, c2, c3, c4⟩ := h.open_node
  clear c3 c4 h
  simp only [sz] at hcap
  have f0 := hg.fcell
  have k0 := (hg.below.cell (p := ⟨b, 0, none⟩) (World.block_lt_of_cell? _ _ c0)).trans c0
  go_enter Tryz.func151, Tryz.ntmps151
  go_wp2_with fail
  go_region_held3 (fun W => W.cell? ⟨gw, 0, none⟩ = some (Value.func (Fn.func 151) #[] #[Value.pointer (some ⟨gw, 0, none⟩), Value.pointer (some ⟨go, 0, none⟩)])  ∧ W.cell? ⟨b, 0, none⟩ = some (.pointer u1))
    (first | (go_keep; done) | exact ⟨hg1.fcell, (hg1.below.cell (p := ⟨b, 0, none⟩) (World.block_lt_of_cell? _ _ c0)).trans c0⟩)
    (first
      | (go_at_call 151; refine (ihl h1 hg.drew ?_ hm).mono ?_; (omega); rintro e w1 ⟨rfl, hg1⟩))
  go_wp2_with fail
  clear f0 k0
  have o1 := hg1.ocell
  have o2 := hg1.ofro
  have k2 := (hg1.below.cell (p := ⟨b, 2, none⟩) (World.block_lt_of_cell? _ _ c2)).trans c2
  have z1 : go < w1.heap.size := World.block_lt_of_cell? _ _ o1
  have z2 : b < w1.heap.size := World.block_lt_of_cell? _ _ k2
  have hroom : (xs ++ items l).length + 1 ≤ cap := by rw [List.length_append, items_len]; omega
  generalize hys : xs ++ items l = ys at *
  have HY : Hid (xs ++ items l = ys) := hys
  clear hys
  obtain ⟨i0, hi, hz0, hz1, hz2⟩ := info_parts Tryz.infoInt
  have s1 : Hid (([Value.int IntKind.i64 a] : List Value).length = 1 * 1) := rfl
  have s2 : Hid (∀ u ∈ [Value.int IntKind.i64 a], u.oneCell' = true) := by
    intro u hu
    simp only [List.mem_singleton] at hu
    subst hu
    rfl
  have s3 : ∀ (o : Obj), Hid (∀ j, j < ([Value.int IntKind.i64 a] : List Value).length → ((w1.alloc o).drew.cell? ⟨g, 0 + ys.length * 1 + j, none⟩).isSome = true ∧ (w1.alloc o).drew.frozen? ⟨g, 0 + ys.length * 1 + j, none⟩ = false) := by
    intro o j hj
    simp only [List.length_singleton] at hj
    have ht := hg1.there (ys.length) (by omega)
    have hlt : g < w1.heap.size := by
      obtain ⟨v, hv⟩ := Option.isSome_iff_exists.1 ht.1
      exact World.block_lt_of_cell? _ _ hv
    have hb : Below w1.heap.size w1 (w1.alloc o).drew := ((Below.refl _ _).alloc (Nat.le_refl _) _).drew
    have e : 0 + ys.length * 1 + j = ys.length := by omega
    rw [e, hb.cell (p := ⟨g, ys.length, none⟩) hlt, hb.frozen (p := ⟨g, ys.length, none⟩) hlt]
    exact ht
  have s4 : ∀ (t : TypeId), Hid (∀ j u, ([Value.int IntKind.i64 a] : List Value)[j]? = some u → (w1.alloc (.cells #[Value.int IntKind.i64 a] t)).drew.cell? ((⟨w1.heap.size, 0, none⟩ : Addr).add j) = some u) := by
    intro t j u hj
    match j, hj with
    | 0, hj => simp at hj; subst hj; simp [Addr.add]
  have q1 : ∀ o : Obj, ((w1.alloc o).drew.setCells g ys.length [Value.int IntKind.i64 a]).cell? ⟨go, 0, none⟩ = some (.slice (some ⟨g, 0, none⟩) ys.length cap) := fun o => by
    rw [World.cell?_setCells_out g _ _ _ _ (fun e => absurd e.symm hg1.d2)]
    exact (hg1.grown (((Below.refl _ _).alloc (Nat.le_refl _) _).drew)).ocell
  have q2 : ∀ o : Obj, ((w1.alloc o).drew.setCells g ys.length [Value.int IntKind.i64 a]).frozen? ⟨go, 0, none⟩ = false := fun o => by
    rw [World.frozen?_setCells]
    exact (hg1.grown (((Below.refl _ _).alloc (Nat.le_refl _) _).drew)).ofro
  go_region_law (refine step_append_room rfl (.tmp 12) (.tmp 17) 44 rfl 3 i0 1 Tryz.underlying44 hi hz1 g 0 ys.length cap (by simp [Act.eval]) ⟨w1.heap.size, 0, none⟩ 1 1 [Value.int IntKind.i64 a] (by simp [Act.eval]) s1.out (s4 _).out s2.out hroom (s3 _).out ?_)
  all_goals
    have hg2 := (hg1.grown (((Below.refl _ _).alloc (Nat.le_refl _) (Obj.cells #[Value.int IntKind.i64 a] 3)).drew)).push hroom a
    go_wp2_with fail
    generalize ((w1.alloc (Obj.cells #[Value.int IntKind.i64 a] 3)).drew.setCells g ys.length [Value.int IntKind.i64 a]).setCell ⟨go, 0, none⟩ (Value.slice (some ⟨g, 0, none⟩) (ys.length + 1) cap) = w2 at hg2 ⊢
    have f2 := hg2.fcell
    have k1 := (hg2.below.cell (p := ⟨b, 1, none⟩) (World.block_lt_of_cell? _ _ c1)).trans c1
    clear o1 o2 k2 s1 s2 s3 s4 q1 q2 hg1
    go_region_held3 (fun W => W.cell? ⟨gw, 0, none⟩ = some (Value.func (Fn.func 151) #[] #[Value.pointer (some ⟨gw, 0, none⟩), Value.pointer (some ⟨go, 0, none⟩)])  ∧ W.cell? ⟨b, 1, none⟩ = some (.pointer u2))
      (first | (go_keep; done) | exact ⟨hg3.fcell, (hg3.below.cell (p := ⟨b, 1, none⟩) (World.block_lt_of_cell? _ _ c1)).trans c1⟩)
      (first
        | (go_at_call 151; refine (ihr h2 hg2.drew ?_ hm).mono ?_; (rw [← HY.out, List.length_append, List.length_append, items_len, List.length_singleton]; omega); rintro e w3 ⟨rfl, hg3⟩))
    go_wp2_with fail
    go_end0
    refine ⟨rfl, ?_⟩
    rw [← HY.out] at hg3
    simpa [items] using hg3

theorem walk_any (T : BT Int) : WalkSaid T := by
  induction T with
  | nil => exact walk_nil
  | node b o a l r ihl ihr => exact walk_node ihl ihr

theorem RowAt.lies {w : World} {v : Option Addr} {T : BT Int} (h : RowAt w v T) : Lies w T := by
  rcases h.or with ⟨_, rfl⟩ | ⟨b, u, _, _, ha, _⟩
  · trivial
  · exact ha.lies

theorem gone_start {w : World} {CC : Array Value} {n : Nat} (h : CC.size = n) :
    Gone w (((w.alloc (Obj.cells CC 3)).alloc (Obj.cells #[Value.slice (some ⟨w.heap.size, 0, none⟩) 0 n] 44)).alloc (Obj.cells #[Value.func (Fn.func 151) #[] #[Value.pointer (some ⟨w.heap.size + 1 + 1, 0, none⟩), Value.pointer (some ⟨w.heap.size + 1, 0, none⟩)]] 217))
      (w.heap.size + 1 + 1) (w.heap.size + 1) w.heap.size n [] := by
  refine ⟨(((Below.refl _ _).alloc (Nat.le_refl _) _).alloc (by simp) _).alloc (by simp; omega) _, by omega, by omega, by omega, by omega, by omega, by omega, ?_, ?_, ?_, fun j hj => ⟨?_, ?_⟩, fun j hj => absurd hj (by simp)⟩
  · go_simp
  · go_simp
  · go_simp
  · go_simp
  · go_simp

set_option maxHeartbeats 1000000 in
theorem list_any {v : Option Addr} {T : BT Int} {w : World} (h : RowAt w v T) (hs : sz T < 1000000) :
    Calls Tryz.prog 124 #[.pointer v] w fun e w' => ∃ a cap, e = .returned (.slice a (sz T) cap) ∧ Below w.heap.size w w' ∧ IntsAt w' a (sz T) cap (items T) := by
  obtain ⟨CC, hCC, hmk⟩ := make_row (sz T) (by omega)
  have hg := gone_start (w := w) hCC
  have HG : Hid (Gone _ _ _ _ _ _ _) := hg
  clear hCC hg
  go_enter Tryz.func124, Tryz.ntmps124
  go_wp2_with fail
  refine (len_any h).mono ?_
  rintro e w' ⟨rfl, rfl⟩
  go_wp2_with fail
  have hg := HG.out
  clear HG hmk
  generalize (((w'.alloc (Obj.cells CC 3)).alloc (Obj.cells #[Value.slice (some ⟨w'.heap.size, 0, none⟩) 0 (sz T)] 44)).alloc (Obj.cells #[Value.func (Fn.func 151) #[] #[Value.pointer (some ⟨w'.heap.size + 1 + 1, 0, none⟩), Value.pointer (some ⟨w'.heap.size + 1, 0, none⟩)]] 217)) = W0 at hg ⊢
  generalize w'.heap.size + 1 + 1 = gw at hg ⊢
  generalize w'.heap.size + 1 = go at hg ⊢
  have f0 := hg.fcell
  have hbW := hg.below
  go_region_held3 (fun W => W.cell? ⟨gw, 0, none⟩ = some (Value.func (Fn.func 151) #[] #[Value.pointer (some ⟨gw, 0, none⟩), Value.pointer (some ⟨go, 0, none⟩)])) (first | (go_keep; done) | exact hg1.fcell)
    (first
      | (go_at_call 101; refine (tree_any (h.below hbW).drew).mono ?_; rintro e w2 ⟨u, rfl, rfl, ha⟩)
      | (go_at_call 151; refine (walk_any T (⟨h.lies, ha.at_, h.zok⟩ : At w' u T) hg.drew ?_ ?_).mono ?_; (simp); (omega); rintro e w3 ⟨rfl, hg1⟩))
  rw [List.nil_append] at hg1
  have o1 := hg1.ocell
  rw [items_len] at o1
  go_wp2_with fail
  go_ret
  exact ⟨_, _, rfl, hg1.below, items_len T, Nat.le_refl _, fun i hi => ⟨_, 0, rfl, by rw [Nat.zero_add]; exact hg1.cells i (by rw [items_len]; exact hi)⟩⟩

end Go.Proofs.YtcfemppdeidjmadGreat

namespace Go.Proofs.YtcfemppdeidjmadGreat
set_option linter.unusedSectionVars false
variable [Inhabited Zed]
open Go.RowKit Go.Deep

theorem below_drewN {w a : World} {n : Nat} (h : a = w.drewN n) : Below w.heap.size w a := by
  subst h
  induction n with
  | zero => exact Below.refl _ _
  | succ n ih => exact ih.drew

end Go.Proofs.YtcfemppdeidjmadGreat
