/-
  Fl Dt Fm
-/
import Derived.Test.YtcfemppdeidjmacGreatW43
import Derived.Test.YtcfemppdeidjmacGreatW41
import Derived.Test.YtcfemppdeidjmacGreatW36
namespace Go.Proofs.YtcfemppdeidjmacGreat.Sk
open Go.RowKit Go.Deep Go.Proofs.YtcfemppdeidjmacGreat.Dk
open Go.RowKit (Below)
set_option linter.unusedVariables false

variable {w w' : World} {D : Dk.Face} {B n ks bc t : Nat} {d : Value} {S S' : St} {F F' FD FD' : Nat → Prop} {l x : List UInt8} {ba : Option Addr} {dn : Bool}

set_option maxRecDepth 100000 in
set_option maxHeartbeats 2000000 in
theorem save_full {a : Option Addr} {c : Nat} (hx : 960 < x.length) : Calls Tryz.prog 83 #[.pointer (some ⟨ks, 0, none⟩), .slice a x.length c] w fun e w' => e = .returned (.iface 102 (.int .i64 3)) ∧ w' = w := by
  obtain ⟨N, hN⟩ : ∃ N, x.length = N := ⟨_, rfl⟩
  rw [hN] at hx
  rw [hN]
  have i0 : (960 : Int) < (N : Int) := by omega
  clear hN hx
  go_enter Tryz.func83, Tryz.ntmps83
  go_wp2_with fail
  go_ret
  exact ⟨rfl, rfl⟩

set_option maxRecDepth 100000 in
set_option maxHeartbeats 2000000 in
theorem save_down (h : SEx D w B d n ks ba bc l t true S FD F) : Calls Tryz.prog 83 #[.pointer (some ⟨ks, 0, none⟩), .slice none 0 0] w fun e w' => e = .returned (.iface 102 (.int .i64 8)) ∧ w' = w := by
  have c3 : w.cell? ⟨ks, 3, none⟩ = some (.bool true) := h.row.cell (i := 3) (by omega)
  clear h
  go_enter Tryz.func83, Tryz.ntmps83
  go_wp2_with fail
  go_ret
  exact ⟨rfl, rfl⟩

set_option maxRecDepth 100000 in
set_option maxHeartbeats 8000000 in
theorem save_any {h : Nat} (O : DiskOk D) (hX : SEx D w B d n ks ba bc l t false S FD F) (hB : B ≤ w.heap.size) (hn : 62 ≤ n) (R : Rest S h l t) (ht : t ≤ 1000) {a : Option Addr} {c : Nat} (ha : BtAt w a x) (hc : x.length ≤ c) (hc2 : c ≤ maxLen) (hnil : a = none → c = 0)
    (hF : x ≠ [] → ∀ b o, a = some ⟨b, o, none⟩ → ¬ F b) (hx : x.length ≤ 960) :
    Calls Tryz.prog 83 #[.pointer (some ⟨ks, 0, none⟩), .slice a x.length c] w fun e w' => ∃ v, e = .returned v ∧ ∃ S' FD' F' ba' bc', ((v = .nilIface ∧ Rest S' (1 - h) x (t + 1) ∧ (S.left = -1 → S'.left = -1) ∧ SEx D w' B d n ks ba' bc' x (t + 1) false S' FD' F') ∨
      (v = .iface 102 (.int .i64 8) ∧ S.left ≠ -1 ∧ Torn S' l t x ∧ SEx D w' B d n ks ba' bc' l t true S' FD' F')) ∧ (∀ b, F' b → F b ∨ w.heap.size ≤ b) ∧ Turn F w w' := by
  have hlk := look_any O hX.disk hB (x := h) (l := l.length) (t := t) (by rw [R.good.1]; exact page0_head R.h1 hX.len (by omega)) (by omega)
  have HP : Hid (DiskOk D ∧ SEx D w B d n ks ba bc l t false S FD F ∧ B ≤ w.heap.size ∧ 62 ≤ n ∧ Rest S h l t ∧ t ≤ 1000) := ⟨O, hX, hB, hn, R, ht⟩
  have HA : Hid (BtAt w a x ∧ x.length ≤ c ∧ c ≤ maxLen ∧ (a = none → c = 0) ∧ (x ≠ [] → ∀ b o, a = some ⟨b, o, none⟩ → ¬ F b) ∧ x.length ≤ 960) := ⟨ha, hc, hc2, hnil, hF, hx⟩
  obtain ⟨N, hN⟩ : ∃ N, x.length = N := ⟨_, rfl⟩
  obtain ⟨M, hM⟩ : ∃ M, l.length = M := ⟨_, rfl⟩
  obtain ⟨k, hk⟩ : ∃ k, 1 - h = k := ⟨_, rfl⟩
  obtain ⟨u, hu⟩ : ∃ u, t + 1 = u := ⟨_, rfl⟩
  have HN : Hid (x.length = N ∧ l.length = M ∧ 1 - h = k ∧ t + 1 = u) := ⟨hN, hM, hk, hu⟩
  have i0 : ¬ (960 : Int) < (N : Int) := by omega
  have i1 : IntKind.i64.wrap (1 - (h : Int)) = (k : Int) := by rw [IntKind.wrap_i64]; have := R.h1; omega
  have i2 : IntKind.i64.wrap ((t : Int) + 1) = (u : Int) := by rw [IntKind.wrap_i64]; omega
  have c0 : w.cell? ⟨ks, 0, none⟩ = some d := hX.row.cell (i := 0) (by omega)
  have c2 : w.cell? ⟨ks, 2, none⟩ = some (.int .i64 (t : Nat)) := hX.row.cell (i := 2) (by omega)
  have c3 : w.cell? ⟨ks, 3, none⟩ = some (.bool false) := hX.row.cell (i := 3) (by omega)
  rw [hN]
  rw [hM] at hlk
  clear O hX hB hn R ht ha hc hc2 hnil hF hx hN hM hk hu
  go_enter Tryz.func83, Tryz.ntmps83
  go_wp2_with fail
  refine hlk.mono ?_
  rintro e W1 ⟨⟨x', l', t', ok, rfl, hok, -⟩, hb⟩
  obtain ⟨rfl, rfl, rfl, rfl⟩ := hok HP.out.2.2.2.1 (by rw [← HN.out.2.1]; exact HP.out.2.2.2.2.1.good.1)
  have hr := row3_new W1 (h : Nat) (M : Nat) (t : Nat)
  have hb2 : Below w.heap.size w (W1.alloc (.cells #[.int .i64 (h : Nat), .int .i64 (M : Nat), .int .i64 (t : Nat)] 189)) := hb.alloc hb.size _
  obtain ⟨W2, hW2⟩ : ∃ W2, W1.alloc (.cells #[.int .i64 (h : Nat), .int .i64 (M : Nat), .int .i64 (t : Nat)] 189) = W2 := ⟨_, rfl⟩
  rw [hW2] at hr hb2
  obtain ⟨E1, hE1⟩ : ∃ E1, W1.heap.size = E1 := ⟨_, rfl⟩
  rw [hE1] at hr
  have d0 : W2.drew.cell? ⟨E1, 0, none⟩ = some (.int .i64 (h : Nat)) := hr.drew.cell (i := 0) (by omega)
  have d2 : W2.drew.cell? ⟨E1, 2, none⟩ = some (.int .i64 (t : Nat)) := hr.drew.cell (i := 2) (by omega)
  have HS0 : Hid (W2.drew.cell? ⟨E1, 0, none⟩ = some (.int .i64 (h : Nat)) ∧ W2.drew.cell? ⟨E1, 2, none⟩ = some (.int .i64 (t : Nat)) ∧ W2.drew.cell? ⟨ks, 2, none⟩ = some (.int .i64 (t : Nat))) := ⟨d0, d2, cell_keep hb2.drew c2⟩
  have HB2 : Hid (Below w.heap.size w W2) := hb2
  obtain ⟨E2, hE2⟩ : ∃ E2, W2.heap.size = E2 := ⟨_, rfl⟩
  have hr3 := row3_new W2 (k : Nat) (N : Nat) (u : Nat)
  have hb3 : Below w.heap.size w (W2.alloc (.cells #[.int .i64 (k : Nat), .int .i64 (N : Nat), .int .i64 (u : Nat)] 189)) := hb2.alloc hb2.size _
  obtain ⟨W3, hW3⟩ : ∃ W3, W2.alloc (.cells #[.int .i64 (k : Nat), .int .i64 (N : Nat), .int .i64 (u : Nat)] 189) = W3 := ⟨_, rfl⟩
  rw [hW3] at hr3 hb3
  rw [hE2] at hr3
  have HR3 : Hid (W3.rowIs E2 189 3 (cells3 (k : Nat) (N : Nat) (u : Nat)) ∧ Below w.heap.size w W3 ∧ w.heap.size ≤ E2 ∧ E2 < W3.heap.size) := ⟨hr3, hb3, hE2 ▸ hb2.size, hr3.lt⟩
  have hr1 : W3.rowIs E1 189 3 (cells3 (h : Nat) (M : Nat) (t : Nat)) := hW3 ▸ hr.alloc _
  have HS3 : Hid (W3.drew.cell? ⟨E1, 0, none⟩ = some (.int .i64 (h : Nat)) ∧ W3.drew.cell? ⟨E1, 2, none⟩ = some (.int .i64 (t : Nat)) ∧ W3.drew.cell? ⟨ks, 2, none⟩ = some (.int .i64 (t : Nat))) := ⟨hr1.drew.cell (i := 0) (by omega), hr1.drew.cell (i := 2) (by omega), cell_keep hb3.drew c2⟩
  have HW4 : Hid (Below w.heap.size w W3.drew.drew ∧ W3.drew.drew.heap.size = W3.heap.size ∧ W3.drew.drew.cell? ⟨ks, 0, none⟩ = some d ∧ W3.drew.drew.cell? ⟨E2, 0, none⟩ = some (.int .i64 (k : Nat)) ∧ W3.drew.drew.cell? ⟨E2, 1, none⟩ = some (.int .i64 (N : Nat)) ∧ W3.drew.drew.cell? ⟨E2, 2, none⟩ = some (.int .i64 (u : Nat))) :=
    ⟨hb3.drew.drew, rfl, cell_keep hb3.drew.drew c0, hr3.drew.drew.cell (i := 0) (by omega), hr3.drew.drew.cell (i := 1) (by omega), hr3.drew.drew.cell (i := 2) (by omega)⟩
  have q0 := HW4.out.2.2.1
  have q1 := HW4.out.2.2.2.1
  have q2 := HW4.out.2.2.2.2.1
  have q3 := HW4.out.2.2.2.2.2
  have HC : Hid (w.cell? ⟨ks, 0, none⟩ = some d ∧ w.cell? ⟨ks, 2, none⟩ = some (.int .i64 (t : Nat))) := ⟨c0, c2⟩
  clear hlk hok hr hb hb2 d0 d2 hr3 hb3 c0 c2 c3 hr1
  go_wp2_with (first | rw [hW2, hE1] | rw [hW2])
  clear hW2 hE1
  refine wp_region_noPanic ?_
  refine wp_region_held_drew (S := fun V => V.cell? ⟨E1, 0, none⟩ = some (.int .i64 (h : Nat)) ∧ V.cell? ⟨E1, 2, none⟩ = some (.int .i64 (t : Nat)) ∧ V.cell? ⟨ks, 2, none⟩ = some (.int .i64 (t : Nat))) (by kernel_rfl) HS0.out (fun hHeld => ?_)
  refine wpAnyH_take (i := 0) (oi := { dst := some 26, op := Go.Op.fieldAddr 189 (Go.Operand.tmp 5) 0, type := 0, pos := _, after := #[], guard := none }) (v := ?vb1) rfl (by kernel_rfl) (by kernel_rfl) (by kernel_rfl) (fun _ _ _ h => h) (Or.inl ⟨by rfl, ?yb1⟩) (by assumption) ?_
  case yb1 =>
    intro w hSw
    (try dsimp only at hSw)
    go_simp
    (try with_reducible rfl)
  simp only [Act.put, List.setIfInBounds_toArray, List.set_cons_zero, List.set_cons_succ]
  refine wpAnyH_take (i := 1) (oi := { dst := some 27, op := Go.Op.load 3 (Go.Operand.tmp 26), type := 3, pos := _, after := #[{ on := 0, ground := Go.Ground.data }], guard := none }) (v := ?vb2) rfl (by kernel_rfl) (by kernel_rfl) (by kernel_rfl) (fun _ _ _ h => h) (Or.inl ⟨by rfl, ?yb2⟩) (by assumption) ?_
  case yb2 =>
    intro w hSw
    (try dsimp only at hSw)
    go_simp
    (try with_reducible rfl)
  simp only [Act.put, List.setIfInBounds_toArray, List.set_cons_zero, List.set_cons_succ]
  refine wpAnyH_take (i := 2) (oi := { dst := some 28, op := Go.Op.binOp Go.BinOp.sub 3 (Go.Operand.const (Go.Value.int Go.IntKind.i64 1)) (Go.Operand.tmp 27) 3, type := 3, pos := _, after := #[{ on := 1, ground := Go.Ground.data }], guard := none }) (v := ?vb3) rfl (by kernel_rfl) (by kernel_rfl) (by kernel_rfl) (fun _ _ _ h => h) (Or.inl ⟨by rfl, ?yb3⟩) (by assumption) ?_
  case yb3 =>
    intro w hSw
    (try dsimp only at hSw)
    go_simp
    (try with_reducible rfl)
  simp only [Act.put, List.setIfInBounds_toArray, List.set_cons_zero, List.set_cons_succ]
  refine wpAnyH_take (i := 3) (oi := { dst := some 29, op := Go.Op.move (Go.Operand.tmp 1), type := 74, pos := _, after := #[], guard := none }) (v := ?vb4) rfl (by kernel_rfl) (by kernel_rfl) (by kernel_rfl) (fun _ _ _ h => h) (Or.inl ⟨by rfl, ?yb4⟩) (by assumption) ?_
  case yb4 =>
    intro w hSw
    (try dsimp only at hSw)
    go_simp
    (try with_reducible rfl)
  simp only [Act.put, List.setIfInBounds_toArray, List.set_cons_zero, List.set_cons_succ]
  refine wpAnyH_take (i := 4) (oi := { dst := some 30, op := Go.Op.call { callee := Go.Callee.builtin Go.Builtin.len, args := #[Go.Operand.tmp 29], argTypes := #[74] }, type := 3, pos := _, after := #[{ on := 3, ground := Go.Ground.data }], guard := none }) (v := ?vb5) rfl (by kernel_rfl) (by kernel_rfl) (by kernel_rfl) (fun _ _ _ h => h) (Or.inl ⟨by rfl, ?yb5⟩) (by assumption) ?_
  case yb5 =>
    intro w hSw
    (try dsimp only at hSw)
    go_simp
    (try with_reducible rfl)
  simp only [Act.put, List.setIfInBounds_toArray, List.set_cons_zero, List.set_cons_succ]
  refine wpAnyH_take (i := 5) (oi := { dst := some 31, op := Go.Op.fieldAddr 189 (Go.Operand.tmp 5) 2, type := 0, pos := _, after := #[], guard := none }) (v := ?vb6) rfl (by kernel_rfl) (by kernel_rfl) (by kernel_rfl) (fun _ _ _ h => h) (Or.inl ⟨by rfl, ?yb6⟩) (by assumption) ?_
  case yb6 =>
    intro w hSw
    (try dsimp only at hSw)
    go_simp
    (try with_reducible rfl)
  simp only [Act.put, List.setIfInBounds_toArray, List.set_cons_zero, List.set_cons_succ]
  refine wpAnyH_take (i := 6) (oi := { dst := some 32, op := Go.Op.load 3 (Go.Operand.tmp 31), type := 3, pos := _, after := #[{ on := 5, ground := Go.Ground.data }], guard := none }) (v := ?vb7) rfl (by kernel_rfl) (by kernel_rfl) (by kernel_rfl) (fun _ _ _ h => h) (Or.inl ⟨by rfl, ?yb7⟩) (by assumption) ?_
  case yb7 =>
    intro w hSw
    (try dsimp only at hSw)
    go_simp
    (try with_reducible rfl)
  simp only [Act.put, List.setIfInBounds_toArray, List.set_cons_zero, List.set_cons_succ]
  refine wpAnyH_take (i := 7) (oi := { dst := some 33, op := Go.Op.move (Go.Operand.tmp 0), type := 140, pos := _, after := #[], guard := none }) (v := ?vb8) rfl (by kernel_rfl) (by kernel_rfl) (by kernel_rfl) (fun _ _ _ h => h) (Or.inl ⟨by rfl, ?yb8⟩) (by assumption) ?_
  case yb8 =>
    intro w hSw
    (try dsimp only at hSw)
    go_simp
    (try with_reducible rfl)
  simp only [Act.put, List.setIfInBounds_toArray, List.set_cons_zero, List.set_cons_succ]
  refine wpAnyH_take (i := 8) (oi := { dst := some 34, op := Go.Op.nilCheck (Go.Operand.tmp 33), type := 0, pos := _, after := #[{ on := 7, ground := Go.Ground.data }], guard := none }) (v := ?vb9) rfl (by kernel_rfl) (by kernel_rfl) (by kernel_rfl) (fun _ _ _ h => h) (Or.inl ⟨by rfl, ?yb9⟩) (by assumption) ?_
  case yb9 =>
    intro w hSw
    (try dsimp only at hSw)
    go_simp
    (try with_reducible rfl)
  simp only [Act.put, List.setIfInBounds_toArray, List.set_cons_zero, List.set_cons_succ]
  refine wpAnyH_take (i := 9) (oi := { dst := some 35, op := Go.Op.fieldAddr 194 (Go.Operand.tmp 34) 2, type := 0, pos := _, after := #[{ on := 8, ground := Go.Ground.data }], guard := none }) (v := ?vb10) rfl (by kernel_rfl) (by kernel_rfl) (by kernel_rfl) (fun _ _ _ h => h) (Or.inl ⟨by rfl, ?yb10⟩) (by assumption) ?_
  case yb10 =>
    intro w hSw
    (try dsimp only at hSw)
    go_simp
    (try with_reducible rfl)
  simp only [Act.put, List.setIfInBounds_toArray, List.set_cons_zero, List.set_cons_succ]
  refine wpAnyH_take (i := 10) (oi := { dst := some 36, op := Go.Op.load 3 (Go.Operand.tmp 35), type := 3, pos := _, after := #[{ on := 9, ground := Go.Ground.data }], guard := none }) (v := ?vb11) rfl (by kernel_rfl) (by kernel_rfl) (by kernel_rfl) (fun _ _ _ h => h) (Or.inl ⟨by rfl, ?yb11⟩) (by assumption) ?_
  case yb11 =>
    intro w hSw
    (try dsimp only at hSw)
    go_simp
    (try with_reducible rfl)
  simp only [Act.put, List.setIfInBounds_toArray, List.set_cons_zero, List.set_cons_succ]
  refine wpAnyH_take (i := 11) (oi := { dst := some 37, op := Go.Op.call { callee := Go.Callee.builtin Go.Builtin.max, args := #[Go.Operand.tmp 32, Go.Operand.tmp 36], argTypes := #[3, 3] }, type := 3, pos := _, after := #[{ on := 6, ground := Go.Ground.data }, { on := 10, ground := Go.Ground.data }], guard := none }) (v := ?vb12) rfl (by kernel_rfl) (by kernel_rfl) (by kernel_rfl) (fun _ _ _ h => h) (Or.inl ⟨by rfl, ?yb12⟩) (by assumption) ?_
  case yb12 =>
    intro w hSw
    (try dsimp only at hSw)
    go_simp
    (try with_reducible rfl)
  simp only [Act.put, List.setIfInBounds_toArray, List.set_cons_zero, List.set_cons_succ]
  refine wpAnyH_take (i := 12) (oi := { dst := some 38, op := Go.Op.binOp Go.BinOp.add 3 (Go.Operand.tmp 37) (Go.Operand.const (Go.Value.int Go.IntKind.i64 1)) 3, type := 3, pos := _, after := #[{ on := 11, ground := Go.Ground.data }], guard := none }) (v := ?vb13) rfl (by kernel_rfl) (by kernel_rfl) (by kernel_rfl) (fun _ _ _ h => h) (Or.inl ⟨by rfl, ?yb13⟩) (by assumption) ?_
  case yb13 =>
    intro w hSw
    (try dsimp only at hSw)
    go_simp
    (try with_reducible rfl)
  simp only [Act.put, List.setIfInBounds_toArray, List.set_cons_zero, List.set_cons_succ]
  refine wpAnyH_take (i := 13) (oi := { dst := some 39, op := Go.Op.build 189 #[(0, Go.Operand.tmp 28), (1, Go.Operand.tmp 30), (2, Go.Operand.tmp 38)], type := 189, pos := _, after := #[{ on := 2, ground := Go.Ground.data }, { on := 4, ground := Go.Ground.data }, { on := 12, ground := Go.Ground.data }], guard := none }) (v := .agg #[.int .i64 (k : Nat), .int .i64 (N : Nat), .int .i64 (u : Nat)]) rfl (by kernel_rfl) (by kernel_rfl) (by kernel_rfl) (fun _ _ _ h => h) ?yb14 (by assumption) ?_
  case yb14 => exact Or.inl ⟨by rfl, fun w _ => by simp only [execOp, List.map_toArray, List.map_cons, List.map_nil]; exact Dk.L.run_val (run_build w 189 _ _ (by kernel_rfl))⟩
  simp only [Act.put, List.setIfInBounds_toArray, List.set_cons_zero, List.set_cons_succ]
  refine wpAnyH_ready (rs := [14]) (by kernel_rfl) (by simp) ?_
  refine (AllReadyH.cons rfl (fun K9 hK9 => ?cb16) AllReadyH.nil)
  case cb16 =>
    go_simp
    refine hK9.out _ _ ⟨cell_keep ((Below.refl _ _).alloc (Nat.le_refl _) _) HS0.out.1, cell_keep ((Below.refl _ _).alloc (Nat.le_refl _) _) HS0.out.2.1, cell_keep ((Below.refl _ _).alloc (Nat.le_refl _) _) HS0.out.2.2⟩ (fun hHeld => ?_)
    clear hK9
    (try simp only [Act.put, List.setIfInBounds_toArray, List.set_cons_zero, List.set_cons_succ])
    refine wpAnyH_ready (rs := [15]) (by kernel_rfl) (by simp) ?_
    refine (AllReadyH.cons rfl (fun K9 hK9 => ?cb15) AllReadyH.nil)
    case cb15 =>
      go_simp
      refine hK9.out _ _ HS3.out (fun hHeld => ?_)
      clear hK9
      refine wpAnyH_done (by kernel_rfl) ?_ _
      refine NoPanic.normal ?_
      obtain ⟨W4, hW4⟩ : ∃ W4, W3.drew.drew = W4 := ⟨_, rfl⟩
      rw [hW4] at q0 q1 q2 q3
      have H4 : Hid (Below w.heap.size w W4 ∧ SEx D W4 B d n ks ba bc l t false S FD F) := ⟨hW4 ▸ HW4.out.1, HP.out.2.1.keep HP.out.1 (hW4 ▸ HW4.out.1.size) fun b q => by rw [← hW4]; exact HW4.out.1.block b (HP.out.2.1.owns HP.out.1 b q).2⟩
      have HE : Hid (w.heap.size ≤ E2 ∧ E2 < W4.heap.size) := ⟨HR3.out.2.2.1, by rw [← hW4, HW4.out.2.1]; exact HR3.out.2.2.2⟩
      clear HS0 HS3 HR3 hW3 hE2
      go_wp2_with fail
      refine wp_region_noPanic ?_
      refine wp_region_held_drew (S := fun V => V.cell? ⟨ks, 0, none⟩ = some d ∧ V.cell? ⟨E2, 0, none⟩ = some (.int .i64 (k : Nat)) ∧ V.cell? ⟨E2, 1, none⟩ = some (.int .i64 (N : Nat)) ∧ V.cell? ⟨E2, 2, none⟩ = some (.int .i64 (u : Nat))) (by kernel_rfl) HW4.out.2.2 (fun hHeld => ?_)
      rw [hW4] at hHeld ⊢
      refine wpAnyH_take (i := 0) (oi := { dst := some 40, op := Go.Op.move (Go.Operand.tmp 0), type := 140, pos := _, after := #[], guard := none }) (v := ?vc1) rfl (by kernel_rfl) (by kernel_rfl) (by kernel_rfl) (fun _ _ _ h => h) (Or.inl ⟨by rfl, ?yc1⟩) (by assumption) ?_
      case yc1 =>
        intro w hSw
        (try dsimp only at hSw)
        go_simp
        (try with_reducible rfl)
      simp only [Act.put, List.setIfInBounds_toArray, List.set_cons_zero, List.set_cons_succ]
      refine wpAnyH_take (i := 1) (oi := { dst := some 41, op := Go.Op.nilCheck (Go.Operand.tmp 40), type := 0, pos := _, after := #[{ on := 0, ground := Go.Ground.data }], guard := none }) (v := ?vc2) rfl (by kernel_rfl) (by kernel_rfl) (by kernel_rfl) (fun _ _ _ h => h) (Or.inl ⟨by rfl, ?yc2⟩) (by assumption) ?_
      case yc2 =>
        intro w hSw
        (try dsimp only at hSw)
        go_simp
        (try with_reducible rfl)
      simp only [Act.put, List.setIfInBounds_toArray, List.set_cons_zero, List.set_cons_succ]
      refine wpAnyH_take (i := 2) (oi := { dst := some 42, op := Go.Op.fieldAddr 194 (Go.Operand.tmp 41) 0, type := 0, pos := _, after := #[{ on := 1, ground := Go.Ground.data }], guard := none }) (v := ?vc3) rfl (by kernel_rfl) (by kernel_rfl) (by kernel_rfl) (fun _ _ _ h => h) (Or.inl ⟨by rfl, ?yc3⟩) (by assumption) ?_
      case yc3 =>
        intro w hSw
        (try dsimp only at hSw)
        go_simp
        (try with_reducible rfl)
      simp only [Act.put, List.setIfInBounds_toArray, List.set_cons_zero, List.set_cons_succ]
      refine wpAnyH_take (i := 3) (oi := { dst := some 43, op := Go.Op.load 63 (Go.Operand.tmp 42), type := 63, pos := _, after := #[{ on := 2, ground := Go.Ground.data }], guard := none }) (v := ?vc4) rfl (by kernel_rfl) (by kernel_rfl) (by kernel_rfl) (fun _ _ _ h => h) (Or.inl ⟨by rfl, ?yc4⟩) (by assumption) ?_
      case yc4 =>
        intro w hSw
        (try dsimp only at hSw)
        go_simp
        (try with_reducible rfl)
      simp only [Act.put, List.setIfInBounds_toArray, List.set_cons_zero, List.set_cons_succ]
      refine wpAnyH_take (i := 4) (oi := { dst := some 44, op := Go.Op.load 189 (Go.Operand.tmp 7), type := 189, pos := _, after := #[], guard := none }) (v := ?vc5) rfl (by kernel_rfl) (by kernel_rfl) (by kernel_rfl) (fun _ _ _ h => h) (Or.inl ⟨by rfl, ?yc5⟩) (by assumption) ?_
      case yc5 =>
        intro w hSw
        (try dsimp only at hSw)
        go_simp
        (try with_reducible rfl)
      simp only [Act.put, List.setIfInBounds_toArray, List.set_cons_zero, List.set_cons_succ]
      refine wpAnyH_take (i := 5) (oi := { dst := some 45, op := Go.Op.move (Go.Operand.tmp 1), type := 74, pos := _, after := #[], guard := none }) (v := ?vc6) rfl (by kernel_rfl) (by kernel_rfl) (by kernel_rfl) (fun _ _ _ h => h) (Or.inl ⟨by rfl, ?yc6⟩) (by assumption) ?_
      case yc6 =>
        intro w hSw
        (try dsimp only at hSw)
        go_simp
        (try with_reducible rfl)
      simp only [Act.put, List.setIfInBounds_toArray, List.set_cons_zero, List.set_cons_succ]
      refine wpAnyH_ready (rs := [6]) (by kernel_rfl) (by simp) ?_
      refine (AllReadyH.cons rfl (fun K9 hK9 => ?cc8) AllReadyH.nil)
      case cc8 =>
        try rw [hW4]
        have hre := replace_any (w := W4) (k := k) (u := u) (c := c) (x := x) (a := a) HP.out.1 H4.out.2.disk (Nat.le_trans HP.out.2.2.1 H4.out.1.size) HP.out.2.2.2.2.1.wr HP.out.2.2.2.1 (by have := HN.out; omega) (by have := HN.out; have := HP.out.2.2.2.2.2; omega) (HA.out.1.below H4.out.1) HA.out.2.1 HA.out.2.2.1 (fun q b o e z => HA.out.2.2.2.2.1 q b o e ((HP.out.2.1.f b).2 (Or.inl z))) HA.out.2.2.2.2.2
        rw [HN.out.1] at hre
        go_simp
        go_wp2_with (go_at_call 118; refine hre.mono ?_; clear hre; rintro e W5 ⟨v, y, S5, FD5, rfl, her, hrp, hd, hf, ht⟩)
        have HR5 : Hid ((v = .nilIface ∧ Rest S5 (1 - h) x (t + 1) ∧ (S.left = -1 → S5.left = -1)) ∨ (v = .iface 102 (.int .i64 8) ∧ S.left ≠ -1 ∧ Torn S5 l t x)) := by
          rw [← HN.out.2.2.1, ← HN.out.2.2.2] at hrp
          rcases repl_ends HP.out.2.2.2.2.1 HP.out.2.1.len hrp with ⟨rfl, g1, g2⟩ | ⟨rfl, g1, g2⟩
          · exact Or.inl ⟨Dk.Er.nil her, g1, g2⟩
          · exact Or.inr ⟨Dk.Er.some her (by decide), g1, g2⟩
        obtain ⟨F5, hs5, hf5, ht5⟩ := H4.out.2.turn HP.out.1 hd hf ht
        have H5 : Hid (SEx D W5 B d n ks ba bc l t false S5 FD5 F5 ∧ (∀ b, F5 b → F b ∨ W4.heap.size ≤ b) ∧ Turn F W4 W5) := ⟨hs5, hf5, ht5⟩
        have p0 : W5.cell? ⟨ks, 0, none⟩ = some d := hs5.row.cell (i := 0) (by omega)
        have hE2 : ¬ F E2 := fun q => by have := (HP.out.2.1.owns HP.out.1 _ q).2; have := HE.out; omega
        have p1 := ht5.cell hE2 q1
        have p2 := ht5.cell hE2 q2
        have p3 := ht5.cell hE2 q3
        clear her hrp hd hf ht hs5 hf5 ht5 q0 q1 q2 q3 hE2
        refine hK9.out _ _ ⟨p0, p1, p2, p3⟩ (fun hHeld => ?_)
        clear hK9
        (try simp only [Act.put, List.setIfInBounds_toArray, List.set_cons_zero, List.set_cons_succ])
        refine wpAnyH_take (i := 7) (oi := { dst := some 8, op := Go.Op.assign (Go.Operand.tmp 46), type := 28, pos := _, after := #[{ on := 6, ground := Go.Ground.data }, { on := 6, ground := Go.Ground.chain }, { on := 0, ground := Go.Ground.phase }, { on := 1, ground := Go.Ground.phase }, { on := 2, ground := Go.Ground.phase }, { on := 3, ground := Go.Ground.phase }, { on := 4, ground := Go.Ground.phase }, { on := 5, ground := Go.Ground.phase }, { on := 6, ground := Go.Ground.phase }], guard := none }) (v := ?vc7) rfl (by kernel_rfl) (by kernel_rfl) (by kernel_rfl) (fun _ _ _ h => h) (Or.inl ⟨by rfl, ?yc7⟩) (by assumption) ?_
        case yc7 =>
          intro w hSw
          (try dsimp only at hSw)
          go_simp
          (try with_reducible rfl)
        simp only [Act.put, List.setIfInBounds_toArray, List.set_cons_zero, List.set_cons_succ]
        refine wpAnyH_done (by kernel_rfl) ?_ _
        refine NoPanic.normal ?_
        clear p0 p1 p2
        rcases HR5.out with ⟨rfl, g1, g2⟩ | ⟨rfl, g1, g2⟩
        · have HG : Hid (Rest S5 (1 - h) x (t + 1) ∧ (S.left = -1 → S5.left = -1)) := ⟨g1, g2⟩
          have HQ : Hid (W5.drew.cell? ⟨E2, 2, none⟩ = some (.int .i64 (u : Nat))) := p3
          clear HR5 g1 g2
          go_wp2_with fail
          refine wp_region_noPanic ?_
          refine wp_region_held_drew (S := fun V => V.cell? ⟨E2, 2, none⟩ = some (.int .i64 (u : Nat))) (by kernel_rfl) HQ.out (fun hHeld => ?_)
          refine wpAnyH_take (i := 0) (oi := { dst := some 53, op := Go.Op.move (Go.Operand.tmp 0), type := 140, pos := _, after := #[], guard := none }) (v := ?vd1) rfl (by kernel_rfl) (by kernel_rfl) (by kernel_rfl) (fun _ _ _ h => h) (Or.inl ⟨by rfl, ?yd1⟩) (by assumption) ?_
          case yd1 =>
            intro w hSw
            (try dsimp only at hSw)
            go_simp
            (try with_reducible rfl)
          simp only [Act.put, List.setIfInBounds_toArray, List.set_cons_zero, List.set_cons_succ]
          refine wpAnyH_take (i := 1) (oi := { dst := some 54, op := Go.Op.move (Go.Operand.tmp 0), type := 140, pos := _, after := #[{ on := 8, ground := Go.Ground.gcOnly Go.Departure.lateStores }], guard := none }) (v := ?vd2) rfl (by kernel_rfl) (by kernel_rfl) (by kernel_rfl) (fun _ _ _ h => h) (Or.inl ⟨by rfl, ?yd2⟩) (by assumption) ?_
          case yd2 =>
            intro w hSw
            (try dsimp only at hSw)
            go_simp
            (try with_reducible rfl)
          simp only [Act.put, List.setIfInBounds_toArray, List.set_cons_zero, List.set_cons_succ]
          refine wpAnyH_take (i := 2) (oi := { dst := some 55, op := Go.Op.move (Go.Operand.tmp 1), type := 74, pos := _, after := #[], guard := none }) (v := ?vd3) rfl (by kernel_rfl) (by kernel_rfl) (by kernel_rfl) (fun _ _ _ h => h) (Or.inl ⟨by rfl, ?yd3⟩) (by assumption) ?_
          case yd3 =>
            intro w hSw
            (try dsimp only at hSw)
            go_simp
            (try with_reducible rfl)
          simp only [Act.put, List.setIfInBounds_toArray, List.set_cons_zero, List.set_cons_succ]
          refine wpAnyH_take (i := 4) (oi := { dst := some 57, op := Go.Op.fieldAddr 189 (Go.Operand.tmp 7) 2, type := 0, pos := _, after := #[{ on := 8, ground := Go.Ground.gcOnly Go.Departure.lateStores }], guard := none }) (v := ?vd4) rfl (by kernel_rfl) (by kernel_rfl) (by kernel_rfl) (fun _ _ _ h => h) (Or.inl ⟨by rfl, ?yd4⟩) (by assumption) ?_
          case yd4 =>
            intro w hSw
            (try dsimp only at hSw)
            go_simp
            (try with_reducible rfl)
          simp only [Act.put, List.setIfInBounds_toArray, List.set_cons_zero, List.set_cons_succ]
          refine wpAnyH_take (i := 5) (oi := { dst := some 58, op := Go.Op.load 3 (Go.Operand.tmp 57), type := 3, pos := _, after := #[{ on := 4, ground := Go.Ground.data }, { on := 8, ground := Go.Ground.gcOnly Go.Departure.lateStores }], guard := none }) (v := ?vd5) rfl (by kernel_rfl) (by kernel_rfl) (by kernel_rfl) (fun _ _ _ h => h) (Or.inl ⟨by rfl, ?yd5⟩) (by assumption) ?_
          case yd5 =>
            intro w hSw
            (try dsimp only at hSw)
            go_simp
            (try with_reducible rfl)
          simp only [Act.put, List.setIfInBounds_toArray, List.set_cons_zero, List.set_cons_succ]
          refine wpAnyH_ready (rs := [3]) (by kernel_rfl) (by simp) ?_
          refine (AllReadyH.cons rfl (fun K9 hK9 => ?cd12) AllReadyH.nil)
          case cd12 =>
            have hcl := clone_any (w := W5.drew) (c := c) (l := x) (a := a) (Dk.L.bt_turn (HA.out.1.below H4.out.1) (H5.out.2.2.trans (Turn.of_below (Below.refl _ _).drew)) HA.out.2.2.2.2.1) HA.out.2.1 (by have := HA.out.2.2.2.2.2; omega) HA.out.2.2.2.1
            rw [HN.out.1] at hcl
            go_simp
            go_wp2_with (go_at_call 119; refine hcl.mono ?_; clear hcl; rintro e W6 ⟨a6, c6, rfl, f1, f2, f3, f4, f5, f6⟩)
            have h6 : SEx D W6 B d n ks ba bc l t false S5 FD5 F5 := H5.out.1.keep HP.out.1 f6.size fun b q => f6.block b (H5.out.1.owns HP.out.1 b q).2
            have H6 : Hid (BtAt W6 a6 x ∧ x.length ≤ c6 ∧ (a6 = none → c6 = 0) ∧ (∀ b o, a6 = some ⟨b, o, none⟩ → W5.heap.size ≤ b ∧ b < W6.heap.size) ∧ SEx D W6 B d n ks ba bc l t false S5 FD5 F5 ∧ Below W5.heap.size W5.drew W6) := ⟨f1, by rw [HN.out.1]; exact f2, f4, f5, h6, f6⟩
            have e1 := h6.row.cell (i := 1) (by omega)
            have z1 := h6.row.frozen 1
            have e2 : (W6.setCell ⟨ks, 1, none⟩ (.slice a6 N c6)).cell? ⟨ks, 2, none⟩ = some (.int .i64 (t : Nat)) := (h6.row.set 1 (.slice a6 N c6)).cell (i := 2) (by omega)
            have z2 := (h6.row.set 1 (.slice a6 N c6)).frozen 2
            have hk2 : ¬ (fun b => b = ks) E2 := fun e => by have h1 := h6.row.lt; have h2 := (HP.out.2.1.owns HP.out.1 ks ((HP.out.2.1.f ks).2 (Or.inr (Or.inl rfl)))).2; have h3 := HE.out.1; have h4 : E2 = ks := e; omega
            have HK6 : Hid (W6.cell? ⟨E2, 2, none⟩ = some (.int .i64 (u : Nat)) ∧ (W6.setCell ⟨ks, 1, none⟩ (.slice a6 N c6)).cell? ⟨E2, 2, none⟩ = some (.int .i64 (u : Nat)) ∧ ((W6.setCell ⟨ks, 1, none⟩ (.slice a6 N c6)).setCell ⟨ks, 2, none⟩ (.int .i64 (u : Nat))).cell? ⟨E2, 2, none⟩ = some (.int .i64 (u : Nat))) := by
              have g0 := cell_keep f6 HQ.out
              exact ⟨g0, (set_turn (Turn.refl W6)).cell hk2 g0, (set_turn (set_turn (Turn.refl W6))).cell hk2 g0⟩
            clear f1 f2 f3 f4 f5 f6 h6 hk2
            refine hK9.out _ _ HK6.out.1 (fun hHeld => ?_)
            clear hK9
            (try simp only [Act.put, List.setIfInBounds_toArray, List.set_cons_zero, List.set_cons_succ])
            refine wpAnyH_take (i := 6) (oi := { dst := some 59, op := Go.Op.nilCheck (Go.Operand.tmp 53), type := 0, pos := _, after := #[{ on := 0, ground := Go.Ground.data }, { on := 0, ground := Go.Ground.phase }, { on := 1, ground := Go.Ground.textOnly Go.Departure.lateStores }, { on := 2, ground := Go.Ground.phase }, { on := 3, ground := Go.Ground.phase }, { on := 4, ground := Go.Ground.textOnly Go.Departure.lateStores }, { on := 5, ground := Go.Ground.textOnly Go.Departure.lateStores }], guard := none }) (v := ?vd6) rfl (by kernel_rfl) (by kernel_rfl) (by kernel_rfl) (fun _ _ _ h => h) (Or.inl ⟨by rfl, ?yd6⟩) (by assumption) ?_
            case yd6 =>
              intro w hSw
              (try dsimp only at hSw)
              go_simp
              (try with_reducible rfl)
            simp only [Act.put, List.setIfInBounds_toArray, List.set_cons_zero, List.set_cons_succ]
            refine wpAnyH_take (i := 7) (oi := { dst := some 60, op := Go.Op.fieldAddr 194 (Go.Operand.tmp 59) 1, type := 0, pos := _, after := #[{ on := 6, ground := Go.Ground.data }, { on := 0, ground := Go.Ground.phase }, { on := 1, ground := Go.Ground.textOnly Go.Departure.lateStores }, { on := 2, ground := Go.Ground.phase }, { on := 3, ground := Go.Ground.phase }, { on := 4, ground := Go.Ground.textOnly Go.Departure.lateStores }, { on := 5, ground := Go.Ground.textOnly Go.Departure.lateStores }], guard := none }) (v := ?vd7) rfl (by kernel_rfl) (by kernel_rfl) (by kernel_rfl) (fun _ _ _ h => h) (Or.inl ⟨by rfl, ?yd7⟩) (by assumption) ?_
            case yd7 =>
              intro w hSw
              (try dsimp only at hSw)
              go_simp
              (try with_reducible rfl)
            simp only [Act.put, List.setIfInBounds_toArray, List.set_cons_zero, List.set_cons_succ]
            refine wpAnyH_ready (rs := [8]) (by kernel_rfl) (by simp) ?_
            refine (AllReadyH.cons rfl (fun K9 hK9 => ?cd11) AllReadyH.nil)
            case cd11 =>
              go_simp
              refine hK9.out _ _ HK6.out.2.1 (fun hHeld => ?_)
              clear hK9
              refine wpAnyH_take (i := 9) (oi := { dst := some 61, op := Go.Op.nilCheck (Go.Operand.tmp 54), type := 0, pos := _, after := #[{ on := 1, ground := Go.Ground.data }, { on := 0, ground := Go.Ground.phase }, { on := 1, ground := Go.Ground.phase }, { on := 2, ground := Go.Ground.phase }, { on := 3, ground := Go.Ground.phase }, { on := 4, ground := Go.Ground.phase }, { on := 5, ground := Go.Ground.phase }, { on := 6, ground := Go.Ground.phase }, { on := 7, ground := Go.Ground.phase }, { on := 8, ground := Go.Ground.phase }], guard := none }) (v := ?vd8) rfl (by kernel_rfl) (by kernel_rfl) (by kernel_rfl) (fun _ _ _ h => h) (Or.inl ⟨by rfl, ?yd8⟩) (by assumption) ?_
              case yd8 =>
                intro w hSw
                (try dsimp only at hSw)
                go_simp
                (try with_reducible rfl)
              refine wpAnyH_take (i := 10) (oi := { dst := some 62, op := Go.Op.fieldAddr 194 (Go.Operand.tmp 61) 2, type := 0, pos := _, after := #[{ on := 9, ground := Go.Ground.data }, { on := 0, ground := Go.Ground.phase }, { on := 1, ground := Go.Ground.phase }, { on := 2, ground := Go.Ground.phase }, { on := 3, ground := Go.Ground.phase }, { on := 4, ground := Go.Ground.phase }, { on := 5, ground := Go.Ground.phase }, { on := 6, ground := Go.Ground.phase }, { on := 7, ground := Go.Ground.phase }, { on := 8, ground := Go.Ground.phase }], guard := none }) (v := ?vd9) rfl (by kernel_rfl) (by kernel_rfl) (by kernel_rfl) (fun _ _ _ h => h) (Or.inl ⟨by rfl, ?yd9⟩) (by assumption) ?_
              case yd9 =>
                intro w hSw
                (try dsimp only at hSw)
                go_simp
                (try with_reducible rfl)
              refine wpAnyH_ready (rs := [11]) (by kernel_rfl) (by simp) ?_
              refine (AllReadyH.cons rfl (fun K9 hK9 => ?cd10) AllReadyH.nil)
              case cd10 =>
                go_simp
                refine hK9.out _ _ HK6.out.2.2 (fun hHeld => ?_)
                clear hK9
                refine wpAnyH_done (by kernel_rfl) ?_ _
                refine NoPanic.normal ?_
                go_wp2_with fail
                go_ret
                obtain ⟨F7, s7, f7, t7⟩ := H6.out.2.2.2.2.1.setBytes HP.out.1 H6.out.1 H6.out.2.1 HA.out.2.2.2.2.2 H6.out.2.2.1 (fun b o e => by
                  have h1 := H6.out.2.2.2.1 b o e
                  have h2 := (HP.out.1.own H5.out.1.disk)
                  exact ⟨⟨Nat.le_trans (Nat.le_trans HP.out.2.2.1 H4.out.1.size) (Nat.le_trans H5.out.2.2.size h1.1), h1.2⟩, fun q => by have := (h2 b q).2; omega, fun q => by have := H5.out.1.row.lt; omega⟩) u
                rw [HN.out.1] at s7 t7
                have hb5 : w.heap.size ≤ W5.heap.size := Nat.le_trans H4.out.1.size H5.out.2.2.size
                have hfin5 : ∀ b, F5 b → F b ∨ w.heap.size ≤ b := fun b q => (H5.out.2.1 b q).imp id fun q => Nat.le_trans H4.out.1.size q
                have hfin : ∀ b, F7 b → F b ∨ w.heap.size ≤ b := fun b q => (f7 b q).elim (hfin5 b) fun ⟨o, e⟩ => Or.inr (Nat.le_trans hb5 (H6.out.2.2.2.1 b o e).1)
                have htw : Turn F w W6 := (((Turn.of_below H4.out.1).trans H5.out.2.2).trans (Turn.of_below (Below.refl _ _).drew)).trans (Turn.of_below (F := F) H6.out.2.2.2.2.2)
                rw [← HN.out.2.2.2] at s7 t7
                exact ⟨_, rfl, S5, FD5, F7, a6, c6, Or.inl ⟨rfl, HG.out.1, HG.out.2, by rw [← HN.out.1] at s7; rw [← HN.out.2.2.2, ← HN.out.1]; exact s7⟩, hfin, by rw [← HN.out.2.2.2]; exact turn_step htw t7 hfin5⟩
        · have HG : Hid (S.left ≠ -1 ∧ Torn S5 l t x) := ⟨g1, g2⟩
          have t3 : W5.cell? ⟨ks, 3, none⟩ = some (.bool false) := H5.out.1.row.cell (i := 3) (by omega)
          have z3 := H5.out.1.row.frozen 3
          clear HR5 g1 g2 p3
          go_wp2_with fail
          go_ret
          obtain ⟨s6, t6⟩ := H5.out.1.setDown HP.out.1
          have hfin : ∀ b, F5 b → F b ∨ w.heap.size ≤ b := fun b q => (H5.out.2.1 b q).imp id fun q => Nat.le_trans H4.out.1.size q
          exact ⟨_, rfl, S5, FD5, F5, ba, bc, Or.inr ⟨rfl, HG.out.1, HG.out.2, s6⟩, hfin, turn_step ((Turn.of_below H4.out.1).trans H5.out.2.2) t6 hfin⟩

end Go.Proofs.YtcfemppdeidjmacGreat.Sk

namespace Go.Proofs.YtcfemppdeidjmacGreat.Dk.L
open Go.RowKit Go.Deep
open Go.RowKit (Below)
set_option linter.unusedVariables false

variable {w w' : World} {B n kd g gn gk i j N : Nat} {F F' : Nat → Prop} {s : St} {v u R : Value} {l p : List UInt8} {x : Int}

theorem Tryz.infoPg : (Tryz.prog.info? 153).map (fun i => (i.zero, i.size, i.bytes)) = some (some (.agg #[.int .u8 0, .int .u8 0, .int .u8 0, .int .u8 0, .int .u8 0, .int .u8 0, .int .u8 0, .int .u8 0, .int .u8 0, .int .u8 0, .int .u8 0, .int .u8 0, .int .u8 0, .int .u8 0, .int .u8 0, .int .u8 0, .int .u8 0, .int .u8 0, .int .u8 0, .int .u8 0, .int .u8 0, .int .u8 0, .int .u8 0, .int .u8 0, .int .u8 0, .int .u8 0, .int .u8 0, .int .u8 0, .int .u8 0, .int .u8 0, .int .u8 0, .int .u8 0]), 32, 32) := by kernel_rfl

abbrev nilPgs (n : Nat) : Obj := .cells (madeCells #[.int .u8 0, .int .u8 0, .int .u8 0, .int .u8 0, .int .u8 0, .int .u8 0, .int .u8 0, .int .u8 0, .int .u8 0, .int .u8 0, .int .u8 0, .int .u8 0, .int .u8 0, .int .u8 0, .int .u8 0, .int .u8 0, .int .u8 0, .int .u8 0, .int .u8 0, .int .u8 0, .int .u8 0, .int .u8 0, .int .u8 0, .int .u8 0, .int .u8 0, .int .u8 0, .int .u8 0, .int .u8 0, .int .u8 0, .int .u8 0, .int .u8 0, .int .u8 0] (n * 32)) 153

theorem run_pages (n : Nat) (hn : n ≤ 80) (w : World) : (Instr.makeSlice 135 (.int .i64 (n : Nat)) (.int .i64 (n : Nat))).run Tryz.prog w = .ok (.slice (some ⟨w.heap.size, 0, none⟩) n n) (w.alloc (nilPgs n)) := by
  obtain ⟨z0, hi0, hz0, hz1, hz2⟩ := info_parts Tryz.infoPg
  have := run_make (P := Tryz.prog) w 135 153 z0 _ Tryz.underlying135 hi0 hz0 .i64 .i64 (n : Nat) (n : Nat) (by omega) (Int.le_refl _) (by rw [hz2]; omega) (by omega)
  rw [hz1, Int.toNat_natCast] at this
  exact this

theorem pages_at (n : Nat) : PgsAt (w.alloc (nilPgs n)) w.heap.size n (fun _ => blank) := by
  refine ⟨fun i _ => blank_len, ⟨_, blk_alloc_new _ _, size_madeCells _ _, fun i hi => ?_⟩⟩
  have e : (madeCells #[.int .u8 0, .int .u8 0, .int .u8 0, .int .u8 0, .int .u8 0, .int .u8 0, .int .u8 0, .int .u8 0, .int .u8 0, .int .u8 0, .int .u8 0, .int .u8 0, .int .u8 0, .int .u8 0, .int .u8 0, .int .u8 0, .int .u8 0, .int .u8 0, .int .u8 0, .int .u8 0, .int .u8 0, .int .u8 0, .int .u8 0, .int .u8 0, .int .u8 0, .int .u8 0, .int .u8 0, .int .u8 0, .int .u8 0, .int .u8 0, .int .u8 0, .int .u8 0] (n * 32))[i]? = some ((#[.int .u8 0, .int .u8 0, .int .u8 0, .int .u8 0, .int .u8 0, .int .u8 0, .int .u8 0, .int .u8 0, .int .u8 0, .int .u8 0, .int .u8 0, .int .u8 0, .int .u8 0, .int .u8 0, .int .u8 0, .int .u8 0, .int .u8 0, .int .u8 0, .int .u8 0, .int .u8 0, .int .u8 0, .int .u8 0, .int .u8 0, .int .u8 0, .int .u8 0, .int .u8 0, .int .u8 0, .int .u8 0, .int .u8 0, .int .u8 0, .int .u8 0, .int .u8 0] : Array Value)[i % 32]!) := by
    simp [madeCells, hi]
  rw [e]
  have hb : (blank.getD (i % 32) 0) = 0 := by
    rw [List.getD_eq_getElem?_getD, blank, List.getElem?_replicate]
    split <;> rfl
  show _ = some (by1 (blank.getD (i % 32) 0))
  rw [hb]
  have hlt : i % 32 < 32 := Nat.mod_lt _ (by decide)
  have hz : (#[.int .u8 0, .int .u8 0, .int .u8 0, .int .u8 0, .int .u8 0, .int .u8 0, .int .u8 0, .int .u8 0, .int .u8 0, .int .u8 0, .int .u8 0, .int .u8 0, .int .u8 0, .int .u8 0, .int .u8 0, .int .u8 0, .int .u8 0, .int .u8 0, .int .u8 0, .int .u8 0, .int .u8 0, .int .u8 0, .int .u8 0, .int .u8 0, .int .u8 0, .int .u8 0, .int .u8 0, .int .u8 0, .int .u8 0, .int .u8 0, .int .u8 0, .int .u8 0] : Array Value) = Array.replicate 32 (.int .u8 0) := rfl
  rw [hz]
  simp [hlt, by1]

set_option maxRecDepth 100000 in
set_option maxHeartbeats 4000000 in
theorem l_new_no (k : Int) (hk : k < 1 ∨ 80 < k) : Calls Tryz.prog 34 #[.int .i64 k] w fun e w' => e = .returned (.tuple #[.pointer none, .iface 102 (.int .i64 1)]) ∧ w' = w := by
  by_cases h1 : k < 1
  · clear hk
    go_enter Tryz.func34, Tryz.ntmps34
    go_wp2_with fail
    go_ret2
    exact ⟨rfl, rfl⟩
  · have h2 : 80 < k := by omega
    clear hk
    go_enter Tryz.func34, Tryz.ntmps34
    go_wp2_with fail
    go_ret2
    exact ⟨rfl, rfl⟩

theorem made_at (hn : 1 ≤ n ∧ n ≤ 80) {gn gk : Nat} (hg : (gn = w.heap.size ∧ gk = w.heap.size + 1) ∨ (gk = w.heap.size ∧ gn = w.heap.size + 1)) :
    ∃ F, Ex (((w.drew.alloc (nilPgs n)).alloc (nilPgs n)).alloc (.cells #[.slice (some ⟨gn, 0, none⟩) n n, .slice (some ⟨gk, 0, none⟩) n n, .slice none 0 0, .int .i64 (-1), .bool false] 138)) w.heap.size (w.heap.size + 2) n fresh F gn gk (.slice none 0 0) (-1) ∧
      Below w.heap.size w (((w.drew.alloc (nilPgs n)).alloc (nilPgs n)).alloc (.cells #[.slice (some ⟨gn, 0, none⟩) n n, .slice (some ⟨gk, 0, none⟩) n n, .slice none 0 0, .int .i64 (-1), .bool false] 138)) := by
  have p1 : PgsAt (w.drew.alloc (nilPgs n)) w.heap.size n (fun _ => blank) := pages_at (w := w.drew) n
  have p2 : PgsAt ((w.drew.alloc (nilPgs n)).alloc (nilPgs n)) (w.heap.size + 1) n (fun _ => blank) := by
    have := pages_at (w := w.drew.alloc (nilPgs n)) n
    rwa [show (w.drew.alloc (nilPgs n)).heap.size = w.heap.size + 1 by simp] at this
  obtain ⟨D, hD⟩ : ∃ D : Array Value, #[.slice (some ⟨gn, 0, none⟩) n n, .slice (some ⟨gk, 0, none⟩) n n, .slice none 0 0, .int .i64 (-1), .bool false] = D := ⟨_, rfl⟩
  have q1 : PgsAt (((w.drew.alloc (nilPgs n)).alloc (nilPgs n)).alloc (.cells D 138)) w.heap.size n (fun _ => blank) := ⟨p1.1, (p1.2.alloc _).alloc _⟩
  have q2 : PgsAt (((w.drew.alloc (nilPgs n)).alloc (nilPgs n)).alloc (.cells D 138)) (w.heap.size + 1) n (fun _ => blank) := ⟨p2.1, p2.2.alloc _⟩
  have hr : (((w.drew.alloc (nilPgs n)).alloc (nilPgs n)).alloc (.cells D 138)).rowIs (w.heap.size + 2) 138 5 (dcs gn gk n (.slice none 0 0) (-1) false) := by
    have := World.rowIs_alloc ((w.drew.alloc (nilPgs n)).alloc (nilPgs n)) D 138 (dcs gn gk n (.slice none 0 0) (-1) false) (fun i hi => by
      subst hD
      have : i = 0 ∨ i = 1 ∨ i = 2 ∨ i = 3 ∨ i = 4 := by simp at hi; omega
      rcases this with rfl | rfl | rfl | rfl | rfl <;> rfl)
    rwa [show D.size = 5 by subst hD; rfl, show ((w.drew.alloc (nilPgs n)).alloc (nilPgs n)).heap.size = w.heap.size + 2 by simp] at this
  have hb : Below w.heap.size w (((w.drew.alloc (nilPgs n)).alloc (nilPgs n)).alloc (.cells D 138)) := (((Below.refl _ _).drew.alloc (by simp) _).alloc (by simp) _).alloc (by simp; omega) _
  rw [hD]
  refine ⟨fun b => b = w.heap.size ∨ b = w.heap.size + 1 ∨ b = w.heap.size + 2, ⟨hr, ?_, ?_, ⟨World.ownsRow_nil .., fun y hy => by cases hy⟩, by omega, Or.inl rfl, by omega, by omega, fun k e => (by cases e), by omega, fun b e => ?_, hn, by omega⟩, hb⟩
  · rcases hg with ⟨e, _⟩ | ⟨_, e⟩ <;> rw [e]
    · exact q1
    · exact q2
  · rcases hg with ⟨_, e⟩ | ⟨e, _⟩ <;> rw [e]
    · exact q2
    · exact q1
  · simp
    omega

set_option maxRecDepth 100000 in
set_option maxHeartbeats 4000000 in
theorem l_new (n : Nat) (h1 : 1 ≤ n) (h2 : n ≤ 80) : Calls Tryz.prog 34 #[.int .i64 (n : Nat)] w fun e w' => ∃ kd, e = .returned (.tuple #[.pointer (some ⟨kd, 0, none⟩), .nilIface]) ∧ ∃ F gn gk, Ex w' w.heap.size kd n fresh F gn gk (.slice none 0 0) (-1) ∧ Below w.heap.size w w' := by
  have HP : Hid (∀ w, (Instr.makeSlice 135 (.int .i64 (n : Nat)) (.int .i64 (n : Nat))).run Tryz.prog w = .ok (.slice (some ⟨w.heap.size, 0, none⟩) n n) (w.alloc (nilPgs n))) := run_pages n h2
  have HA : Hid (∃ F, Ex (((w.drew.alloc (nilPgs n)).alloc (nilPgs n)).alloc (.cells #[.slice (some ⟨w.heap.size, 0, none⟩) n n, .slice (some ⟨w.heap.size + 1, 0, none⟩) n n, .slice none 0 0, .int .i64 (-1), .bool false] 138)) w.heap.size (w.heap.size + 2) n fresh F w.heap.size (w.heap.size + 1) (.slice none 0 0) (-1) ∧
      Below w.heap.size w (((w.drew.alloc (nilPgs n)).alloc (nilPgs n)).alloc (.cells #[.slice (some ⟨w.heap.size, 0, none⟩) n n, .slice (some ⟨w.heap.size + 1, 0, none⟩) n n, .slice none 0 0, .int .i64 (-1), .bool false] 138))) := made_at ⟨h1, h2⟩ (Or.inl ⟨rfl, rfl⟩)
  have HB : Hid (∃ F, Ex (((w.drew.alloc (nilPgs n)).alloc (nilPgs n)).alloc (.cells #[.slice (some ⟨w.heap.size + 1, 0, none⟩) n n, .slice (some ⟨w.heap.size, 0, none⟩) n n, .slice none 0 0, .int .i64 (-1), .bool false] 138)) w.heap.size (w.heap.size + 2) n fresh F (w.heap.size + 1) w.heap.size (.slice none 0 0) (-1) ∧
      Below w.heap.size w (((w.drew.alloc (nilPgs n)).alloc (nilPgs n)).alloc (.cells #[.slice (some ⟨w.heap.size + 1, 0, none⟩) n n, .slice (some ⟨w.heap.size, 0, none⟩) n n, .slice none 0 0, .int .i64 (-1), .bool false] 138))) := made_at ⟨h1, h2⟩ (Or.inr ⟨rfl, rfl⟩)
  have i0 : ¬ (n : Int) < 1 := by omega
  have i1 : ¬ (80 : Int) < (n : Int) := by omega
  obtain ⟨Z, hZ⟩ : ∃ Z, nilPgs n = Z := ⟨_, rfl⟩
  rw [hZ] at HP HA HB
  have hbd : ∀ (v1 v2 : Value), v1.cells.size = 1 → v2.cells.size = 1 → True := fun _ _ _ _ => trivial
  clear h1 h2 hZ hbd
  go_enter Tryz.func34, Tryz.ntmps34
  go_wp2_with fail
  clear i0 i1
  refine wp_region_noPanic ?_
  refine wp_region_held_drew (S := fun _ => True) (by kernel_rfl) trivial (fun hHeld => ?_)
  refine wpAnyH_take (i := 0) (oi := { dst := some 11, op := Go.Op.move (Go.Operand.tmp 0), type := 3, pos := _, after := #[], guard := none }) (v := ?va1) rfl (by kernel_rfl) (by kernel_rfl) (by kernel_rfl) (fun _ _ _ h => h) (Or.inl ⟨by rfl, ?ya1⟩) (by assumption) ?_
  case ya1 =>
    intro w hSw
    (try dsimp only at hSw)
    go_simp
    (try with_reducible rfl)
  simp only [Act.put, List.setIfInBounds_toArray, List.set_cons_zero, List.set_cons_succ]
  refine wpAnyH_take (i := 2) (oi := { dst := some 13, op := Go.Op.move (Go.Operand.tmp 0), type := 3, pos := _, after := #[], guard := none }) (v := ?va2) rfl (by kernel_rfl) (by kernel_rfl) (by kernel_rfl) (fun _ _ _ h => h) (Or.inl ⟨by rfl, ?ya2⟩) (by assumption) ?_
  case ya2 =>
    intro w hSw
    (try dsimp only at hSw)
    go_simp
    (try with_reducible rfl)
  simp only [Act.put, List.setIfInBounds_toArray, List.set_cons_zero, List.set_cons_succ]
  refine wpAnyH_ready (rs := [1, 3]) (by kernel_rfl) (by simp) ?_
  refine (AllReadyH.cons rfl (fun K9 hK9 => ?ca17) (AllReadyH.cons rfl (fun K9 hK9 => ?ca18) AllReadyH.nil))
  case ca17 =>
    refine step_run (v := .slice (some ⟨w.heap.size, 0, none⟩) n n) (w' := w.drew.alloc Z) ?ga3 ?ba3 ?_
    case ga3 => rfl
    case ba3 =>
      exact run_val (HP.out _)
    refine hK9.out _ _ trivial (fun hHeld => ?_)
    clear hK9
    (try simp only [List.getElem_toArray, List.getElem_cons_succ, List.getElem_cons_zero])
    (try simp only [Act.put, List.setIfInBounds_toArray, List.set_cons_zero, List.set_cons_succ])
    refine wpAnyH_ready (rs := [3]) (by kernel_rfl) (by simp) ?_
    refine (AllReadyH.cons rfl (fun K9 hK9 => ?ca9) AllReadyH.nil)
    case ca9 =>
      refine step_run (v := .slice (some ⟨w.heap.size + 1, 0, none⟩) n n) (w' := (w.drew.alloc Z).alloc Z) ?ga4 ?ba4 ?_
      case ga4 => rfl
      case ba4 =>
        have := HP.out (w.drew.alloc Z)
        rw [show (w.drew.alloc Z).heap.size = w.heap.size + 1 by simp] at this
        exact run_val this
      refine hK9.out _ _ trivial (fun hHeld => ?_)
      clear hK9
      (try simp only [List.getElem_toArray, List.getElem_cons_succ, List.getElem_cons_zero])
      (try simp only [Act.put, List.setIfInBounds_toArray, List.set_cons_zero, List.set_cons_succ])
      refine wpAnyH_take (i := 4) (oi := { dst := some 15, op := Go.Op.build 138 #[(0, Go.Operand.tmp 12), (1, Go.Operand.tmp 14), (3, Go.Operand.const (Go.Value.int Go.IntKind.i64 (-1)))], type := 138, pos := _, after := #[{ on := 1, ground := Go.Ground.data }, { on := 3, ground := Go.Ground.data }], guard := none }) (v := .agg #[.slice (some ⟨w.heap.size, 0, none⟩) n n, .slice (some ⟨w.heap.size + 1, 0, none⟩) n n, .slice none 0 0, .int .i64 (-1), .bool false]) rfl (by kernel_rfl) (by kernel_rfl) (by kernel_rfl) (fun _ _ _ h => h) ?ya5 (by assumption) ?_
      case ya5 => exact Or.inl ⟨by rfl, fun w _ => by simp only [execOp, List.map_toArray, List.map_cons, List.map_nil]; exact run_val (run_build w 138 _ _ (by kernel_rfl))⟩
      simp only [Act.put, List.setIfInBounds_toArray, List.set_cons_zero, List.set_cons_succ]
      refine wpAnyH_ready (rs := [5]) (by kernel_rfl) (by simp) ?_
      refine (AllReadyH.cons rfl (fun K9 hK9 => ?ca8) AllReadyH.nil)
      case ca8 =>
        go_simp
        refine hK9.out _ _ trivial (fun hHeld => ?_)
        clear hK9
        (try simp only [Act.put, List.setIfInBounds_toArray, List.set_cons_zero, List.set_cons_succ])
        refine wpAnyH_take (i := 6) (oi := { dst := some 2, op := Go.Op.assign (Go.Operand.tmp 16), type := 63, pos := _, after := #[{ on := 5, ground := Go.Ground.data }, { on := 0, ground := Go.Ground.phase }, { on := 1, ground := Go.Ground.phase }, { on := 2, ground := Go.Ground.phase }, { on := 3, ground := Go.Ground.phase }, { on := 4, ground := Go.Ground.phase }, { on := 5, ground := Go.Ground.phase }], guard := none }) (v := ?va6) rfl (by kernel_rfl) (by kernel_rfl) (by kernel_rfl) (fun _ _ _ h => h) (Or.inl ⟨by rfl, ?ya6⟩) (by assumption) ?_
        case ya6 =>
          intro w hSw
          (try dsimp only at hSw)
          go_simp
          (try with_reducible rfl)
        simp only [Act.put, List.setIfInBounds_toArray, List.set_cons_zero, List.set_cons_succ]
        refine wpAnyH_take (i := 7) (oi := { dst := some 3, op := Go.Op.assign (Go.Operand.const Go.Value.nilIface), type := 28, pos := _, after := #[{ on := 6, ground := Go.Ground.chain }, { on := 0, ground := Go.Ground.phase }, { on := 1, ground := Go.Ground.phase }, { on := 2, ground := Go.Ground.phase }, { on := 3, ground := Go.Ground.phase }, { on := 4, ground := Go.Ground.phase }, { on := 5, ground := Go.Ground.phase }, { on := 6, ground := Go.Ground.phase }], guard := none }) (v := ?va7) rfl (by kernel_rfl) (by kernel_rfl) (by kernel_rfl) (fun _ _ _ h => h) (Or.inl ⟨by rfl, ?ya7⟩) (by assumption) ?_
        case ya7 =>
          intro w hSw
          (try dsimp only at hSw)
          go_simp
          (try with_reducible rfl)
        simp only [Act.put, List.setIfInBounds_toArray, List.set_cons_zero, List.set_cons_succ]
        refine wpAnyH_done (by kernel_rfl) ?_ _
        refine NoPanic.normal ?_
        go_wp2_with fail
        go_ret2
        exact ⟨_, rfl, by obtain ⟨F, e1, e2⟩ := HA.out; exact ⟨F, _, _, e1, e2⟩⟩
  case ca18 =>
    refine step_run (v := .slice (some ⟨w.heap.size, 0, none⟩) n n) (w' := w.drew.alloc Z) ?ga10 ?ba10 ?_
    case ga10 => rfl
    case ba10 =>
      exact run_val (HP.out _)
    refine hK9.out _ _ trivial (fun hHeld => ?_)
    clear hK9
    (try simp only [List.getElem_toArray, List.getElem_cons_succ, List.getElem_cons_zero])
    (try simp only [Act.put, List.setIfInBounds_toArray, List.set_cons_zero, List.set_cons_succ])
    refine wpAnyH_ready (rs := [1]) (by kernel_rfl) (by simp) ?_
    refine (AllReadyH.cons rfl (fun K9 hK9 => ?ca16) AllReadyH.nil)
    case ca16 =>
      refine step_run (v := .slice (some ⟨w.heap.size + 1, 0, none⟩) n n) (w' := (w.drew.alloc Z).alloc Z) ?ga11 ?ba11 ?_
      case ga11 => rfl
      case ba11 =>
        have := HP.out (w.drew.alloc Z)
        rw [show (w.drew.alloc Z).heap.size = w.heap.size + 1 by simp] at this
        exact run_val this
      refine hK9.out _ _ trivial (fun hHeld => ?_)
      clear hK9
      (try simp only [List.getElem_toArray, List.getElem_cons_succ, List.getElem_cons_zero])
      (try simp only [Act.put, List.setIfInBounds_toArray, List.set_cons_zero, List.set_cons_succ])
      refine wpAnyH_take (i := 4) (oi := { dst := some 15, op := Go.Op.build 138 #[(0, Go.Operand.tmp 12), (1, Go.Operand.tmp 14), (3, Go.Operand.const (Go.Value.int Go.IntKind.i64 (-1)))], type := 138, pos := _, after := #[{ on := 1, ground := Go.Ground.data }, { on := 3, ground := Go.Ground.data }], guard := none }) (v := .agg #[.slice (some ⟨w.heap.size + 1, 0, none⟩) n n, .slice (some ⟨w.heap.size, 0, none⟩) n n, .slice none 0 0, .int .i64 (-1), .bool false]) rfl (by kernel_rfl) (by kernel_rfl) (by kernel_rfl) (fun _ _ _ h => h) ?ya12 (by assumption) ?_
      case ya12 => exact Or.inl ⟨by rfl, fun w _ => by simp only [execOp, List.map_toArray, List.map_cons, List.map_nil]; exact run_val (run_build w 138 _ _ (by kernel_rfl))⟩
      simp only [Act.put, List.setIfInBounds_toArray, List.set_cons_zero, List.set_cons_succ]
      refine wpAnyH_ready (rs := [5]) (by kernel_rfl) (by simp) ?_
      refine (AllReadyH.cons rfl (fun K9 hK9 => ?ca15) AllReadyH.nil)
      case ca15 =>
        go_simp
        refine hK9.out _ _ trivial (fun hHeld => ?_)
        clear hK9
        (try simp only [Act.put, List.setIfInBounds_toArray, List.set_cons_zero, List.set_cons_succ])
        refine wpAnyH_take (i := 6) (oi := { dst := some 2, op := Go.Op.assign (Go.Operand.tmp 16), type := 63, pos := _, after := #[{ on := 5, ground := Go.Ground.data }, { on := 0, ground := Go.Ground.phase }, { on := 1, ground := Go.Ground.phase }, { on := 2, ground := Go.Ground.phase }, { on := 3, ground := Go.Ground.phase }, { on := 4, ground := Go.Ground.phase }, { on := 5, ground := Go.Ground.phase }], guard := none }) (v := ?va13) rfl (by kernel_rfl) (by kernel_rfl) (by kernel_rfl) (fun _ _ _ h => h) (Or.inl ⟨by rfl, ?ya13⟩) (by assumption) ?_
        case ya13 =>
          intro w hSw
          (try dsimp only at hSw)
          go_simp
          (try with_reducible rfl)
        simp only [Act.put, List.setIfInBounds_toArray, List.set_cons_zero, List.set_cons_succ]
        refine wpAnyH_take (i := 7) (oi := { dst := some 3, op := Go.Op.assign (Go.Operand.const Go.Value.nilIface), type := 28, pos := _, after := #[{ on := 6, ground := Go.Ground.chain }, { on := 0, ground := Go.Ground.phase }, { on := 1, ground := Go.Ground.phase }, { on := 2, ground := Go.Ground.phase }, { on := 3, ground := Go.Ground.phase }, { on := 4, ground := Go.Ground.phase }, { on := 5, ground := Go.Ground.phase }, { on := 6, ground := Go.Ground.phase }], guard := none }) (v := ?va14) rfl (by kernel_rfl) (by kernel_rfl) (by kernel_rfl) (fun _ _ _ h => h) (Or.inl ⟨by rfl, ?ya14⟩) (by assumption) ?_
        case ya14 =>
          intro w hSw
          (try dsimp only at hSw)
          go_simp
          (try with_reducible rfl)
        simp only [Act.put, List.setIfInBounds_toArray, List.set_cons_zero, List.set_cons_succ]
        refine wpAnyH_done (by kernel_rfl) ?_ _
        refine NoPanic.normal ?_
        go_wp2_with fail
        go_ret2
        exact ⟨_, rfl, by obtain ⟨F, e1, e2⟩ := HB.out; exact ⟨F, _, _, e1, e2⟩⟩

def Fc : Face := fun w B d n s F => ∃ kd, d = .pointer (some ⟨kd, 0, none⟩) ∧ ∃ gn gk R x, Ex w B kd n s F gn gk R x

theorem disk_ok : DiskOk Fc where
  keep := fun ⟨kd, e, gn, gk, R, x, h⟩ hs hb => ⟨kd, e, gn, gk, R, x, h.keep hs hb⟩
  own := fun ⟨kd, e, gn, gk, R, x, h⟩ => h.own
  new_no := fun k hk => (l_new_no k hk).mono fun e w' ⟨h1, h2⟩ => ⟨h1, h2 ▸ Below.refl _ _⟩
  new_ok := fun n h1 h2 => (l_new n h1 h2).mono fun e w' ⟨kd, e1, F, gn, gk, e2, e3⟩ => ⟨_, F, e1, ⟨kd, rfl, gn, gk, _, _, e2⟩, e3⟩
  write := by
    rintro w B n d s F a l c k ⟨kd, rfl, gn, gk, R, x, h⟩ hB ha hc hc2 hF hnil hw
    exact (l_write h hB hw k ha hc hc2 hnil hF).mono fun e w' ⟨v, e1, x', e2, s', e3, F', ⟨R', y, e4⟩, e5, e6⟩ => ⟨v, x', s', F', e1, e2, e3, ⟨kd, rfl, gn, gk, R', y, e4⟩, e5, e6⟩
  sync := by
    rintro w B n d s F ⟨kd, rfl, gn, gk, R, x, h⟩ hB
    exact (l_sync h).mono fun e w' ⟨v, e1, x', e2, s', e3, ⟨R', y, e4⟩, e6⟩ => ⟨v, x', s', F, e1, e2, e3, ⟨kd, rfl, gn, gk, R', y, e4⟩, fun b q => Or.inl q, e6⟩
  crash := by
    rintro w B n d s F a m c f ⟨kd, rfl, gn, gk, R, x, h⟩ hB ha hc hc2 hF hw
    exact (l_crash h hw ha hc hc2 hF).mono fun e w' ⟨e1, ⟨R', y, e4⟩, e6⟩ => ⟨F, e1, ⟨kd, rfl, gn, gk, R', y, e4⟩, fun b q => Or.inl q, e6⟩
  read_ok := by
    rintro w B n d s F i ⟨kd, rfl, gn, gk, R, x, h⟩ hB hi
    exact l_read h hi
  read_32 := by
    rintro w B n d s F i ⟨kd, rfl, gn, gk, R, x, h⟩ hB hi
    exact l_read32 h hi
  pages := by
    rintro w B n d s F ⟨kd, rfl, gn, gk, R, x, h⟩
    exact (l_pages h).mono fun e w' ⟨h1, h2⟩ => ⟨h1, h2 ▸ Below.refl _ _⟩

end Go.Proofs.YtcfemppdeidjmacGreat.Dk.L

namespace Go.Proofs.YtcfemppdeidjmacGreat.Sk
open Go.RowKit Go.Deep Go.Proofs.YtcfemppdeidjmacGreat.Dk
open Go.RowKit (Below)
set_option linter.unusedVariables false

variable {w w' : World} {B n t : Nat} {d s : Value} {S S' : St} {F F' FD : Nat → Prop} {l x : List UInt8} {g : Option Nat}

def lf : Option Nat → Int
  | none => -1
  | some k => (k : Int)
def gl (z : Int) : Option Nat := if z < 0 then none else some z.toNat
theorem lf_gl {z : Int} (h : -1 ≤ z) : lf (gl z) = z := by
  unfold gl
  split
  · show (-1 : Int) = z; omega
  · show ((z.toNat : Nat) : Int) = z; omega
theorem gl_none {z : Int} (h : z = -1) : gl z = none := by rw [h]; rfl
def rawF (w : World) (B : Nat) (d : Value) (n : Nat) (F : Nat → Prop) : Prop := Dk.L.Fc w B d n fresh F ∧ 1 ≤ n
def keptF (w : World) (B : Nat) (d : Value) (n : Nat) (l : List UInt8) (t : Nat) (F : Nat → Prop) : Prop :=
  ∃ S h, Dk.L.Fc w B d n S F ∧ Rest S h l t ∧ S.left = -1 ∧ 62 ≤ n
def onF (w : World) (B : Nat) (d : Value) (n : Nat) (s : Value) (l : List UInt8) (t : Nat) (g : Option Nat) (F : Nat → Prop) : Prop :=
  ∃ ks ba bc S h FD, s = .pointer (some ⟨ks, 0, none⟩) ∧ SEx Dk.L.Fc w B d n ks ba bc l t false S FD F ∧ Rest S h l t ∧ S.left = lf g ∧ 62 ≤ n
def offF (w : World) (B : Nat) (d : Value) (n : Nat) (s : Value) (l : List UInt8) (t : Nat) (x : List UInt8) (F : Nat → Prop) : Prop :=
  ∃ ks ba bc S FD, s = .pointer (some ⟨ks, 0, none⟩) ∧ SEx Dk.L.Fc w B d n ks ba bc l t true S FD F ∧ Torn S l t x ∧ 62 ≤ n

def face : Face := ⟨rawF, keptF, onF, offF⟩

theorem rest_crashed {h : Nat} (R : Rest S h l t) (q : Nat → Bool) : Rest (crashed S q) h l t := by
  have e : play q 0 S.wr S.kept = S.now := by rw [R.wr, ← R.kept]; rfl
  exact ⟨rfl, rfl, by show Good (play q 0 S.wr S.kept) h l t; rw [e]; exact R.good, R.h1, rfl, by show (-1 : Int) ≤ -1; omega⟩

theorem store_ok : StoreOk face where
  raw_keep := fun h h1 h2 => ⟨Dk.L.disk_ok.keep h.1 h1 h2, h.2⟩
  kept_keep := fun ⟨S, h, h1, h2⟩ q1 q2 => ⟨S, h, Dk.L.disk_ok.keep h1 q1 q2, h2⟩
  on_keep := fun ⟨ks, ba, bc, S, h, FD, e, h1, h2⟩ q1 q2 => ⟨ks, ba, bc, S, h, FD, e, h1.keep Dk.L.disk_ok q1 q2, h2⟩
  off_keep := fun ⟨ks, ba, bc, S, FD, e, h1, h2⟩ q1 q2 => ⟨ks, ba, bc, S, FD, e, h1.keep Dk.L.disk_ok q1 q2, h2⟩
  raw_own := fun h => Dk.L.disk_ok.own h.1
  kept_own := fun ⟨S, h, h1, h2⟩ => Dk.L.disk_ok.own h1
  on_own := fun ⟨ks, ba, bc, S, h, FD, e, h1, h2⟩ => h1.owns Dk.L.disk_ok
  off_own := fun ⟨ks, ba, bc, S, FD, e, h1, h2⟩ => h1.owns Dk.L.disk_ok
  new_no := fun k hk => Dk.L.disk_ok.new_no k hk
  new_ok := fun n h1 h2 => (Dk.L.disk_ok.new_ok n h1 h2).mono fun e w' ⟨d, F, e1, e2, e3⟩ => ⟨d, F, e1, ⟨e2, h1⟩, e3⟩
  open_no := fun h hB => open_none Dk.L.disk_ok h.1 hB h.2
  format_no := fun h hB hn => format_few Dk.L.disk_ok h.1 hn
  format_ok := fun h hB hn => (format_any Dk.L.disk_ok h.1 ⟨rfl, rfl, rfl⟩ hB hn).mono fun e w' ⟨S', F', e1, e2, e3, e4, e5⟩ => ⟨F', e1, ⟨S', 0, e2, e3.1, e3.2, hn⟩, e4, e5⟩
  format_kept := fun ⟨S, h, h1, h2, h3, h4⟩ hB => (format_any Dk.L.disk_ok h1 ⟨h2.wr, h2.down, h3⟩ hB h4).mono fun e w' ⟨S', F', e1, e2, e3, e4, e5⟩ => ⟨F', e1, ⟨S', 0, e2, e3.1, e3.2, h4⟩, e4, e5⟩
  rest := fun ⟨ks, ba, bc, S, h, FD, e, h1, h2, h3, h4⟩ => ⟨FD, ⟨S, h, h1.disk, h2, h3, h4⟩, fun b q => (h1.f b).2 (Or.inl q)⟩
  open_ok := by
    rintro w B n t d l F ⟨S, h, h1, h2, h3, h4⟩ hB hl ht
    obtain ⟨kd, rfl⟩ : ∃ kd, d = .pointer (some ⟨kd, 0, none⟩) := by
      obtain ⟨kd, e, _⟩ := h1
      exact ⟨kd, e⟩
    exact (open_any Dk.L.disk_ok h1 hB h4 h2 hl (by omega)).mono fun e w' ⟨ks, e1, ba, bc, F', e2, e3, e4⟩ => ⟨_, F', e1, ⟨ks, ba, bc, S, h, F, rfl, e2, h2, h3, h4⟩, e3, e4⟩
  save_full := by
    rintro w B n t d s l g F a x c ⟨ks, ba, bc, S, h, FD, rfl, h1, h2, h3, h4⟩ hB ha hc hc2 hx
    exact (save_full hx).mono fun e w' ⟨e1, e2⟩ => ⟨F, e1, e2 ▸ ⟨ks, ba, bc, S, h, FD, rfl, h1, h2, h3, h4⟩, fun b q => Or.inl q, by rw [e2]; exact Turn.refl w⟩
  save := by
    rintro w B n t d s l g F a x c ⟨ks, ba, bc, S, h, FD, rfl, h1, h2, h3, h4⟩ hB ha hc hc2 hnil hF hx hl ht
    refine (save_any Dk.L.disk_ok h1 hB h4 h2 ht ha hc hc2 hnil hF hx).mono ?_
    rintro e w' ⟨v, rfl, S', FD', F', ba', bc', hor, hf, htn⟩
    refine ⟨F', ?_, hf, htn⟩
    rcases hor with ⟨rfl, g1, g2, g3⟩ | ⟨rfl, g1, g2, g3⟩
    · refine Or.inl ⟨gl S'.left, rfl, ⟨ks, ba', bc', S', 1 - h, FD', rfl, g3, g1, (lf_gl g1.left).symm, h4⟩, fun q => gl_none (g2 (by rw [h3, q]; rfl))⟩
    · exact Or.inr ⟨rfl, fun q => g1 (by rw [h3, q]; rfl), ⟨ks, ba', bc', S', FD', rfl, g3, g2, h4⟩⟩
  save_off := by
    rintro w B n t d s l x F ⟨ks, ba, bc, S, FD, rfl, h1, h2, h4⟩ hB
    exact (save_down h1).mono fun e w' ⟨e1, e2⟩ => ⟨F, e1, e2 ▸ ⟨ks, ba, bc, S, FD, rfl, h1, h2, h4⟩, fun b q => Or.inl q, by rw [e2]; exact Turn.refl w⟩
  load_on := by
    rintro w B n t d s l g F ⟨ks, ba, bc, S, h, FD, rfl, h1, h2⟩ hB
    exact load_any h1
  load_off := by
    rintro w B n t d s l x F ⟨ks, ba, bc, S, FD, rfl, h1, h2⟩ hB
    exact (load_any h1).mono fun e w' ⟨a, c, e1, e2, _, e3⟩ => ⟨a, c, e1, e2, e3⟩
  turn_on := by
    rintro w B n t d s l g F ⟨ks, ba, bc, S, h, FD, rfl, h1, h2⟩ hB
    exact (turn_any h1).mono fun e w' ⟨e1, e2⟩ => ⟨e1, e2 ▸ Below.refl _ _⟩
  turn_off := by
    rintro w B n t d s l x F ⟨ks, ba, bc, S, FD, rfl, h1, h2⟩ hB
    exact (turn_any h1).mono fun e w' ⟨e1, e2⟩ => ⟨e1, e2 ▸ Below.refl _ _⟩
  crash_on := by
    rintro w B n t d s l g F a m c f ⟨ks, ba, bc, S, h, FD, rfl, h1, h2, h3, h4⟩ hB ha hc hc2 hF
    refine (Dk.L.disk_ok.crash h1.disk hB ha hc hc2 (fun hm b o e q => hF hm b o e ((h1.f b).2 (Or.inl q))) (by rw [h2.wr]; simp)).mono ?_
    rintro e w' ⟨F', rfl, hd, hf, ht⟩
    exact ⟨F', rfl, ⟨_, h, hd, rest_crashed h2 _, rfl, h4⟩, fun b q => (hf b q).imp (fun q => (h1.f b).2 (Or.inl q)) id, ht.mono fun b _ q => (h1.f b).2 (Or.inl q)⟩
  crash_off := by
    rintro w B n t d s l x F a m c f ⟨ks, ba, bc, S, FD, rfl, h1, h2, h4⟩ hB ha hc hc2 hF
    refine (Dk.L.disk_ok.crash h1.disk hB ha hc hc2 (fun hm b o e q => hF hm b o e ((h1.f b).2 (Or.inl q))) (by have := h2.wr; omega)).mono ?_
    rintro e w' ⟨F', rfl, hd, hf, ht⟩
    refine ⟨F', rfl, ?_, fun b q => (hf b q).imp (fun q => (h1.f b).2 (Or.inl q)) id, ht.mono fun b _ q => (h1.f b).2 (Or.inl q)⟩
    rcases h2.any (among m f) with ⟨h, q1, q2⟩ | ⟨h, q1, q2⟩
    · exact Or.inl ⟨_, h, hd, ⟨rfl, rfl, q2, q1, rfl, by show (-1 : Int) ≤ -1; omega⟩, rfl, h4⟩
    · exact Or.inr ⟨_, h, hd, ⟨rfl, rfl, q2, q1, rfl, by show (-1 : Int) ≤ -1; omega⟩, rfl, h4⟩

end Go.Proofs.YtcfemppdeidjmacGreat.Sk
