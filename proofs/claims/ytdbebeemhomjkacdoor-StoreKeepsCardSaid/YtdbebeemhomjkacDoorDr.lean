/-
  The landed disk: Read, Sync.
-/
import Derived.Test.YtdbebeemhomjkacDoorDq
namespace Go.Proofs.YtdbebeemhomjkacDoor.Dk.L
open Go.RowKit Go.Deep
open Go.RowKit (Below)
set_option linter.unusedVariables false

variable {w w' : World} {B n kd g gn gk i j N : Nat} {F F' : Nat → Prop} {s : St} {v u R : Value} {l p : List UInt8} {x : Int}

/-- A page's cells as bytes. -/
theorem bt_pg {k : Nat} (h : w.rangeAt k 0 (pg p)) (hp : p.length = 32) : BtAt w (some ⟨k, 0, none⟩) p := fun j hj => by
  refine ⟨k, 0, rfl, h j _ ?_⟩
  rw [pg_get (by omega)]

set_option maxRecDepth 100000 in
set_option maxHeartbeats 1000000 in
theorem l_read_no (h : Ex w B kd n s F gn gk R x) (k : Int) (hk : k < 0 ∨ (n : Int) ≤ k) :
    Calls Tryd.prog 23 #[.pointer (some ⟨kd, 0, none⟩), .int .i64 k] w fun e w' => e = .returned (.tuple #[.slice none 0 0, .iface 39 (.int .i64 1)]) ∧ w' = w := by
  have hh := l_has h k
  rw [decide_eq_false (by omega)] at hh
  clear h hk
  go_enter Tryd.func23, Tryd.ntmps23
  go_wp2_with fail
  refine hh.mono ?_
  rintro e w1 ⟨rfl, rfl⟩
  go_wp2_with fail
  go_ret2
  exact ⟨rfl, rfl⟩

set_option maxRecDepth 100000 in
set_option maxHeartbeats 1000000 in
theorem l_read32 (h : Ex w B kd n s F gn gk R x) (hi : i < n) :
    Calls Tryd.prog 23 #[.pointer (some ⟨kd, 0, none⟩), .int .i64 (i : Nat)] w fun e w' => ∃ k, e = .returned (.tuple #[.slice (some ⟨k, 0, none⟩) 32 32, .nilIface]) ∧ (s.now i).length = 32 ∧ BtAt w' (some ⟨k, 0, none⟩) (s.now i) ∧ w.heap.size ≤ k ∧ Below w.heap.size w w' := by
  have hh := l_has h (i : Nat)
  rw [decide_eq_true (by omega)] at hh
  have hlen := h.now.1 i hi
  have hr := h.now.range hi
  have c0 := h.cell0
  obtain ⟨q, hq⟩ : ∃ q, s.now i = q := ⟨_, rfl⟩
  rw [hq] at hlen hr
  have HQ : Hid (s.now i = q ∧ q.length = 32) := ⟨hq, hlen⟩
  have hi1 : (Tryd.prog.info? 87).map (·.size) = some (pg q).length := by rw [pg_len]; exact Tryd.infoPage
  obtain ⟨k, hk⟩ : ∃ k, w.heap.size = k := ⟨_, rfl⟩
  have ht : (w.alloc nilPg).there k 0 32 := fun j hj => by
    rw [← hk, Nat.zero_add, cell_of_row _ _ _ _ _ _ (heap_alloc_last w _)]
    refine ⟨?_, ?_⟩
    · simp [hj]
    · unfold World.frozen?
      rw [heap_alloc_last]
      simp
  have HB : Hid (Below w.heap.size w (w.alloc nilPg) ∧ w.heap.size = k) := ⟨(Below.refl _ _).alloc (Nat.le_refl _) _, hk⟩
  obtain ⟨W1, hW1⟩ : ∃ W1, w.alloc nilPg = W1 := ⟨_, rfl⟩
  rw [hW1] at ht HB
  have HT : Hid (W1.there k 0 32) := ht
  have hst : (storeCells ⟨k, 0, none⟩ (pg q)).run Tryd.prog W1 = .ok () (W1.setCells k 0 (pg q)) := by
    have := run_storeCells_cells (P := Tryd.prog) k 0 (pg q) 0 W1 (fun j hj => (ht j (by rwa [pg_len] at hj)).1) (fun j hj => (ht j (by rwa [pg_len] at hj)).2) pg_one
    simpa using this
  obtain ⟨W2, hW2⟩ : ∃ W2, W1.setCells k 0 (pg q) = W2 := ⟨_, rfl⟩
  rw [hW2] at hst
  have HW : Hid (W1.setCells k 0 (pg q) = W2) := hW2
  have HR : Hid (w.rangeAt gn (i * 32) (pg q)) := hr
  have i0 : (0 : Int) ≤ (i : Int) := by omega
  have i1 : (i : Int) < (n : Int) := by omega
  clear hq hlen hi ht hr h hW2
  go_enter Tryd.func23, Tryd.ntmps23
  go_wp2_with fail
  refine hh.mono ?_
  rintro e w0 ⟨rfl, rfl⟩
  clear hh
  go_wp2_with (first
    | rw [hW1, hk]
    | (refine wpList_load_mid rfl 87 (.tmp 17) rfl gn (i * 32) rfl (pg q) _ HR.out Tryd.underlying87 rfl hi1 ?_))
  go_ret2
  refine ⟨k, rfl, by rw [HQ.out.1]; exact HQ.out.2, ?_, Nat.le_of_eq HB.out.2, ?_⟩ <;> rw [← HW.out]
  · rw [HQ.out.1]
    exact bt_pg (World.rangeAt_setCells_same _ _ _ _ (by simpa [pg_len] using HT.out)) HQ.out.2
  · have hb := HB.out.1
    exact (turn_sets (F := fun b => b = k) rfl _ _).below hb hb.size (fun b e => by rw [e]; exact Nat.le_of_eq HB.out.2)

theorem l_read (h : Ex w B kd n s F gn gk R x) (hi : i < n) :
    Calls Tryd.prog 23 #[.pointer (some ⟨kd, 0, none⟩), .int .i64 (i : Nat)] w fun e w' => ∃ k c, e = .returned (.tuple #[.slice (some ⟨k, 0, none⟩) 32 c, .nilIface]) ∧ (s.now i).length = 32 ∧ BtAt w' (some ⟨k, 0, none⟩) (s.now i) ∧ w.heap.size ≤ k ∧ Below w.heap.size w w' :=
  (l_read32 h hi).mono fun e w' ⟨k, h1⟩ => ⟨k, 32, h1⟩

set_option maxRecDepth 100000 in
set_option maxHeartbeats 1000000 in
theorem l_sync (h : Ex w B kd n s F gn gk R x) :
    Calls Tryd.prog 19 #[.pointer (some ⟨kd, 0, none⟩)] w fun e w' => ∃ v, e = .returned v ∧ ∃ x', Er v x' ∧ ∃ s', Syncs s x' s' ∧ (∃ R' y, Ex w' B kd n s' F gn gk R' y) ∧ Turn F w w' := by
  have HR : Hid (Ex w B kd n s F gn gk R x) := h
  clear h
  go_enter Tryd.func19, Tryd.ntmps19
  go_wp2_with fail
  refine (l_step HR.out).mono ?_
  rintro e w1 ⟨⟨rfl, hoff, hr⟩ | ⟨rfl, hon, x1, hr⟩, ht⟩
  · have HX : Hid (Off s ∧ Ex w1 B kd n (fall s) F gn gk R x ∧ Turn F w w1) := ⟨hoff, hr, ht⟩
    clear hoff hr ht
    go_wp2_with fail
    go_ret
    exact ⟨_, rfl, 8, Or.inr ⟨rfl, by decide⟩, _, Or.inl ⟨HX.out.1, rfl, rfl⟩, ⟨R, x, HX.out.2.1⟩, HX.out.2.2⟩
  have c0 := hr.cell0
  have c1 := hr.cell1
  have hcp : (Builtin.copy_ #[79, 79] 3 #[.slice (some ⟨gk, 0, none⟩) n n, .slice (some ⟨gn, 0, none⟩) n n]).run Tryd.prog w1.drew = .ok (.int .i64 (n : Nat)) (w1.drew.setCells gk 0 (flat n s.now)) := by
    have := run_copy_many w1.drew 79 79 3 87 32 gk 0 n n ⟨gn, 0, none⟩ n n (flat n s.now) Tryd.underlying79 Tryd.infoPage (by rw [flat_len]; simp) (fun j v hv => by rw [Addr.add_lit]; exact hr.now.all j v hv) (by rw [flat_len]; exact hr.kept.thereAll) flat_one
    rw [this]
    simp [goInt]
  have hE : Ex (w1.drew.setCells gk 0 (flat n s.now)) B kd n { less s with kept := s.now } F gn gk R x1 := (hr.below (Below.refl _ _).drew).keptAll
  have hT : Turn F w (w1.drew.setCells gk 0 (flat n s.now)) := ht.trans ((Turn.of_below (Below.refl _ _).drew).trans (turn_sets (w := w1.drew) hr.fk _ _))
  obtain ⟨W2, hW2⟩ : ∃ W2, w1.drew.setCells gk 0 (flat n s.now) = W2 := ⟨_, rfl⟩
  rw [hW2] at hcp hE hT
  have HX : Hid (¬ Off s ∧ Ex W2 B kd n { less s with kept := s.now } F gn gk R x1 ∧ Turn F w W2) := ⟨hon, hE, hT⟩
  have c2 := hE.cell2
  have z2 := hE.free 2
  clear hon hr ht hE hT hW2
  go_wp2_with fail
  go_region
  go_wp2_with fail
  go_ret
  exact ⟨_, rfl, 0, Or.inl ⟨rfl, rfl⟩, _, Or.inr ⟨HX.out.1, rfl, rfl⟩, ⟨_, _, HX.out.2.1.setNone⟩, HX.out.2.2.trans (turn_set HX.out.2.1.dk _)⟩

end Go.Proofs.YtdbebeemhomjkacDoor.Dk.L
