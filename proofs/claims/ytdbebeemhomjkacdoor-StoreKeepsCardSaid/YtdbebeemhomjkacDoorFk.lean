/-
  The landed store: Open.
-/
import Derived.Test.YtdbebeemhomjkacDoorFj
namespace Go.Proofs.YtdbebeemhomjkacDoor.Sk
open Go.RowKit Go.Deep Go.Proofs.YtdbebeemhomjkacDoor.Dk
open Go.RowKit (Below)
set_option linter.unusedVariables false

variable {w w' : World} {D : Dk.Face} {B n ks bc t : Nat} {d : Value} {S S' : St} {F F' FD FD' : Nat → Prop} {l x : List UInt8} {ba : Option Addr} {dn : Bool}

set_option maxRecDepth 100000 in
set_option maxHeartbeats 4000000 in
theorem open_none (O : DiskOk D) (h : D w B d n fresh F) (hB : B ≤ w.heap.size) (hn : 1 ≤ n) : Calls Tryd.prog 25 #[d] w fun e w' => ∃ v, e = .returned (.tuple #[v, .iface 39 (.int .i64 5)]) ∧ Below w.heap.size w w' := by
  have hl := look_any O h hB page0_blank hn
  clear h hB hn
  go_enter Tryd.func25, Tryd.ntmps25
  go_wp2_with fail
  refine hl.mono ?_
  rintro e W1 ⟨⟨x', l', t', ok, rfl, -, hok⟩, hb⟩
  obtain rfl := hok (Or.inr (headP_not_blank 0 0 0))
  have HB : Hid (∀ o, Below w.heap.size w (W1.alloc o)) := fun o => hb.alloc hb.size o
  clear hl hok hb
  go_wp2_with fail
  go_ret2
  exact ⟨_, rfl, HB.out _⟩

set_option maxRecDepth 100000 in
set_option maxHeartbeats 4000000 in
theorem open_any {kd h : Nat} (O : DiskOk D) (hD : D w B (.pointer (some ⟨kd, 0, none⟩)) n S F) (hB : B ≤ w.heap.size) (hn : 62 ≤ n) (R : Rest S h l t) (hl : l.length ≤ 960) (ht : t ≤ 100000) :
    Calls Tryd.prog 25 #[.pointer (some ⟨kd, 0, none⟩)] w fun e w' => ∃ ks, e = .returned (.tuple #[.pointer (some ⟨ks, 0, none⟩), .nilIface]) ∧ ∃ ba bc F', SEx D w' B (.pointer (some ⟨kd, 0, none⟩)) n ks ba bc l t false S F F' ∧ (∀ b, F' b → F b ∨ w.heap.size ≤ b) ∧ Turn F w w' := by
  have hlk := look_any O hD hB (x := h) (l := l.length) (t := t) (by rw [R.good.1]; exact page0_head R.h1 hl ht) (by omega)
  have HP : Hid (DiskOk D ∧ D w B (.pointer (some ⟨kd, 0, none⟩)) n S F ∧ B ≤ w.heap.size ∧ 62 ≤ n ∧ Rest S h l t ∧ l.length ≤ 960) := ⟨O, hD, hB, hn, R, hl⟩
  obtain ⟨N, hN⟩ : ∃ N, l.length = N := ⟨_, rfl⟩
  have HN : Hid (l.length = N) := hN
  clear O hD hB hn R hl ht
  go_enter Tryd.func25, Tryd.ntmps25
  go_wp2_with fail
  refine hlk.mono ?_
  rintro e W1 ⟨⟨x', l', t', ok, rfl, hok, -⟩, hb⟩
  obtain ⟨rfl, rfl, rfl, rfl⟩ := hok HP.out.2.2.2.1 HP.out.2.2.2.2.1.good.1
  rw [hN]
  have hr := row3_new W1 (h : Nat) (N : Nat) (t : Nat)
  have hb2 : Below w.heap.size w (W1.alloc (.cells #[.int .i64 (h : Nat), .int .i64 (N : Nat), .int .i64 (t : Nat)] 93)) := hb.alloc hb.size _
  obtain ⟨W2, hW2⟩ : ∃ W2, W1.alloc (.cells #[.int .i64 (h : Nat), .int .i64 (N : Nat), .int .i64 (t : Nat)] 93) = W2 := ⟨_, rfl⟩
  rw [hW2] at hr hb2
  obtain ⟨E, hE⟩ : ∃ E, W1.heap.size = E := ⟨_, rfl⟩
  rw [hE] at hr
  have d0 : W2.cell? ⟨E, 0, none⟩ = some (.int .i64 (h : Nat)) := hr.cell (i := 0) (by omega)
  have d1 : W2.cell? ⟨E, 1, none⟩ = some (.int .i64 (N : Nat)) := hr.cell (i := 1) (by omega)
  have d2 : W2.cell? ⟨E, 2, none⟩ = some (.int .i64 (t : Nat)) := hr.cell (i := 2) (by omega)
  have HB : Hid (Below w.heap.size w W2.drew) := hb2.drew
  have HS0 : Hid (W2.drew.cell? ⟨E, 0, none⟩ = some (.int .i64 (h : Nat)) ∧ W2.drew.cell? ⟨E, 1, none⟩ = some (.int .i64 (N : Nat)) ∧ W2.drew.cell? ⟨E, 2, none⟩ = some (.int .i64 (t : Nat))) := ⟨d0, d1, d2⟩
  clear hlk hok hr hb hb2 hN
  go_wp2_with (first | rw [hW2, hE] | rw [hW2])
  refine wp_region_noPanic ?_
  refine wp_region_held_drew (S := fun V => V.cell? ⟨E, 0, none⟩ = some (.int .i64 (h : Nat)) ∧ V.cell? ⟨E, 1, none⟩ = some (.int .i64 (N : Nat)) ∧ V.cell? ⟨E, 2, none⟩ = some (.int .i64 (t : Nat))) (by kernel_rfl) HS0.out (fun hHeld => ?_)
  refine wpAnyH_take (i := 0) (oi := { dst := some 14, op := Go.Op.move (Go.Operand.tmp 0), type := 42, pos := _, after := #[], guard := none }) (v := ?va1) rfl (by kernel_rfl) (by kernel_rfl) (by kernel_rfl) (fun _ _ _ h => h) (Or.inl ⟨by rfl, ?ya1⟩) (by assumption) ?_
  case ya1 =>
    intro w hSw
    (try dsimp only at hSw)
    go_simp
    (try with_reducible rfl)
  simp only [Act.put, List.setIfInBounds_toArray, List.set_cons_zero, List.set_cons_succ]
  refine wpAnyH_take (i := 1) (oi := { dst := some 15, op := Go.Op.move (Go.Operand.tmp 0), type := 42, pos := _, after := #[], guard := none }) (v := ?va2) rfl (by kernel_rfl) (by kernel_rfl) (by kernel_rfl) (fun _ _ _ h => h) (Or.inl ⟨by rfl, ?ya2⟩) (by assumption) ?_
  case ya2 =>
    intro w hSw
    (try dsimp only at hSw)
    go_simp
    (try with_reducible rfl)
  simp only [Act.put, List.setIfInBounds_toArray, List.set_cons_zero, List.set_cons_succ]
  refine wpAnyH_take (i := 4) (oi := { dst := some 18, op := Go.Op.fieldAddr 93 (Go.Operand.tmp 4) 2, type := 0, pos := _, after := #[], guard := none }) (v := ?va3) rfl (by kernel_rfl) (by kernel_rfl) (by kernel_rfl) (fun _ _ _ h => h) (Or.inl ⟨by rfl, ?ya3⟩) (by assumption) ?_
  case ya3 =>
    intro w hSw
    (try dsimp only at hSw)
    go_simp
    (try with_reducible rfl)
  simp only [Act.put, List.setIfInBounds_toArray, List.set_cons_zero, List.set_cons_succ]
  refine wpAnyH_take (i := 2) (oi := { dst := some 16, op := Go.Op.load 93 (Go.Operand.tmp 4), type := 93, pos := _, after := #[], guard := none }) (v := ?va4) rfl (by kernel_rfl) (by kernel_rfl) (by kernel_rfl) (fun _ _ _ h => h) (Or.inl ⟨by rfl, ?ya4⟩) (by assumption) ?_
  case ya4 =>
    intro w hSw
    (try dsimp only at hSw)
    go_simp
    (try with_reducible rfl)
  simp only [Act.put, List.setIfInBounds_toArray, List.set_cons_zero, List.set_cons_succ]
  refine wpAnyH_take (i := 5) (oi := { dst := some 19, op := Go.Op.load 3 (Go.Operand.tmp 18), type := 3, pos := _, after := #[{ on := 4, ground := Go.Ground.data }], guard := none }) (v := ?va5) rfl (by kernel_rfl) (by kernel_rfl) (by kernel_rfl) (fun _ _ _ h => h) (Or.inl ⟨by rfl, ?ya5⟩) (by assumption) ?_
  case ya5 =>
    intro w hSw
    (try dsimp only at hSw)
    go_simp
    (try with_reducible rfl)
  simp only [Act.put, List.setIfInBounds_toArray, List.set_cons_zero, List.set_cons_succ]
  refine wpAnyH_ready (rs := [3]) (by kernel_rfl) (by simp) ?_
  refine (AllReadyH.cons rfl (fun K9 hK9 => ?ca10) AllReadyH.nil)
  case ca10 =>
    go_simp
    go_wp2_with (go_at_call 41; have hfe := fetch_any (w := W2.drew) (t := (t : Nat)) HP.out.1 (dk_below HP.out.1 HP.out.2.1 HB.out) (Nat.le_trans HP.out.2.2.1 HB.out.size) HP.out.2.2.2.1 HP.out.2.2.2.2.1.h1 HP.out.2.2.2.2.1.good.2 HP.out.2.2.2.2.2; rw [HN.out] at hfe; refine hfe.mono ?_; clear hfe; rintro e W3 ⟨a3, c3, rfl, f1, f2, f3, f4, f5, f6⟩)
    have HF : Hid (BtAt W3 a3 l ∧ N ≤ c3 ∧ (a3 = none → c3 = 0) ∧ (∀ b o, a3 = some ⟨b, o, none⟩ → W2.drew.heap.size ≤ b ∧ b < W3.heap.size) ∧ Below w.heap.size w W3) := ⟨f1, f2, f4, f5, below_step HB.out f6⟩
    have HS3 : Hid (W3.cell? ⟨E, 0, none⟩ = some (.int .i64 (h : Nat)) ∧ W3.cell? ⟨E, 1, none⟩ = some (.int .i64 (N : Nat)) ∧ W3.cell? ⟨E, 2, none⟩ = some (.int .i64 (t : Nat))) := ⟨cell_keep f6 HS0.out.1, cell_keep f6 HS0.out.2.1, cell_keep f6 HS0.out.2.2⟩
    clear f1 f2 f3 f4 f5 f6
    refine hK9.out _ _ HS3.out (fun hHeld => ?_)
    clear hK9
    (try simp only [Act.put, List.setIfInBounds_toArray, List.set_cons_zero, List.set_cons_succ])
    refine wpAnyH_take (i := 6) (oi := { dst := some 20, op := Go.Op.build 98 #[(0, Go.Operand.tmp 14), (1, Go.Operand.tmp 17), (2, Go.Operand.tmp 19)], type := 98, pos := _, after := #[{ on := 0, ground := Go.Ground.data }, { on := 3, ground := Go.Ground.data }, { on := 5, ground := Go.Ground.data }], guard := none }) (v := .agg #[.pointer (some ⟨kd, 0, none⟩), .slice a3 N c3, .int .i64 (t : Nat), .bool false]) rfl (by kernel_rfl) (by kernel_rfl) (by kernel_rfl) (fun _ _ _ h => h) ?ya6 (by assumption) ?_
    case ya6 => exact Or.inl ⟨by rfl, fun w _ => by simp only [execOp, List.map_toArray, List.map_cons, List.map_nil]; exact Dk.L.run_val (run_build w 98 _ _ (by kernel_rfl))⟩
    simp only [Act.put, List.setIfInBounds_toArray, List.set_cons_zero, List.set_cons_succ]
    refine wpAnyH_ready (rs := [7]) (by kernel_rfl) (by simp) ?_
    refine (AllReadyH.cons rfl (fun K9 hK9 => ?ca9) AllReadyH.nil)
    case ca9 =>
      go_simp
      refine hK9.out _ _ ⟨cell_keep ((Below.refl _ _).alloc (Nat.le_refl _) _) HS3.out.1, cell_keep ((Below.refl _ _).alloc (Nat.le_refl _) _) HS3.out.2.1, cell_keep ((Below.refl _ _).alloc (Nat.le_refl _) _) HS3.out.2.2⟩ (fun hHeld => ?_)
      clear hK9
      (try simp only [Act.put, List.setIfInBounds_toArray, List.set_cons_zero, List.set_cons_succ])
      refine wpAnyH_take (i := 8) (oi := { dst := some 2, op := Go.Op.assign (Go.Operand.tmp 21), type := 65, pos := _, after := #[{ on := 7, ground := Go.Ground.data }, { on := 3, ground := Go.Ground.chain }, { on := 0, ground := Go.Ground.phase }, { on := 1, ground := Go.Ground.phase }, { on := 2, ground := Go.Ground.phase }, { on := 3, ground := Go.Ground.phase }, { on := 4, ground := Go.Ground.phase }, { on := 5, ground := Go.Ground.phase }, { on := 6, ground := Go.Ground.phase }, { on := 7, ground := Go.Ground.phase }], guard := none }) (v := ?va7) rfl (by kernel_rfl) (by kernel_rfl) (by kernel_rfl) (fun _ _ _ h => h) (Or.inl ⟨by rfl, ?ya7⟩) (by assumption) ?_
      case ya7 =>
        intro w hSw
        (try dsimp only at hSw)
        go_simp
        (try with_reducible rfl)
      simp only [Act.put, List.setIfInBounds_toArray, List.set_cons_zero, List.set_cons_succ]
      refine wpAnyH_take (i := 9) (oi := { dst := some 3, op := Go.Op.assign (Go.Operand.const Go.Value.nilIface), type := 26, pos := _, after := #[{ on := 8, ground := Go.Ground.chain }, { on := 0, ground := Go.Ground.phase }, { on := 1, ground := Go.Ground.phase }, { on := 2, ground := Go.Ground.phase }, { on := 3, ground := Go.Ground.phase }, { on := 4, ground := Go.Ground.phase }, { on := 5, ground := Go.Ground.phase }, { on := 6, ground := Go.Ground.phase }, { on := 7, ground := Go.Ground.phase }, { on := 8, ground := Go.Ground.phase }], guard := none }) (v := ?va8) rfl (by kernel_rfl) (by kernel_rfl) (by kernel_rfl) (fun _ _ _ h => h) (Or.inl ⟨by rfl, ?ya8⟩) (by assumption) ?_
      case ya8 =>
        intro w hSw
        (try dsimp only at hSw)
        go_simp
        (try with_reducible rfl)
      simp only [Act.put, List.setIfInBounds_toArray, List.set_cons_zero, List.set_cons_succ]
      refine wpAnyH_done (by kernel_rfl) ?_ _
      refine NoPanic.normal ?_
      go_wp2_with fail
      go_ret2
      have hb4 : Below w.heap.size w (W3.alloc (.cells #[.pointer (some ⟨kd, 0, none⟩), .slice a3 N c3, .int .i64 (t : Nat), .bool false] 98)) := HF.out.2.2.2.2.alloc HF.out.2.2.2.2.size _
      refine ⟨W3.heap.size, rfl, a3, c3, (fun b => F b ∨ b = W3.heap.size ∨ ∃ o, a3 = some ⟨b, o, none⟩), {
        disk := dk_below HP.out.1 HP.out.2.1 hb4
        row := ?_
        bt := HF.out.1.below ((Below.refl _ _).alloc (Nat.le_refl _) _)
        cap := by rw [HN.out]; exact HF.out.2.1
        len := HP.out.2.2.2.2.2
        nil := HF.out.2.2.1
        own := fun b o e => ?_
        ks1 := Nat.le_trans HP.out.2.2.1 HF.out.2.2.2.2.size
        ks2 := fun q => ?_
        f := fun b => Iff.rfl }, fun b q => ?_, Turn.of_below hb4⟩
      · rw [HN.out]
        have := World.rowIs_alloc W3 #[.pointer (some ⟨kd, 0, none⟩), .slice a3 N c3, .int .i64 (t : Nat), .bool false] 98 (sc (.pointer (some ⟨kd, 0, none⟩)) (.slice a3 N c3) t false) (fun i hi => by
          have : i = 0 ∨ i = 1 ∨ i = 2 ∨ i = 3 := by simp at hi; omega
          rcases this with rfl | rfl | rfl | rfl <;> rfl)
        exact this
      · have h1 := HF.out.2.2.2.1 b o e
        have h2 := HB.out.size
        exact ⟨Nat.le_trans HP.out.2.2.1 (Nat.le_trans h2 h1.1), by simp; omega, fun q => by have := (HP.out.1.own HP.out.2.1 b q).2; omega, by omega⟩
      · have := (HP.out.1.own HP.out.2.1 _ q).2
        have := HF.out.2.2.2.2.size
        omega
      · rcases q with q | q | ⟨o, e⟩
        · exact Or.inl q
        · exact Or.inr (by rw [q]; exact HF.out.2.2.2.2.size)
        · exact Or.inr (Nat.le_trans HB.out.size (HF.out.2.2.2.1 b o e).1)

end Go.Proofs.YtdbebeemhomjkacDoor.Sk
