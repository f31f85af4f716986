/-
  The landed store in memory; Format, Load, Turn.
-/
import Derived.Test.YtdbebeemhomjkacDoorFi
namespace Go.Proofs.YtdbebeemhomjkacDoor.Sk
open Go.RowKit Go.Deep Go.Proofs.YtdbebeemhomjkacDoor.Dk
open Go.RowKit (Below)
set_option linter.unusedVariables false

variable {w w' : World} {D : Dk.Face} {B n ks bc t : Nat} {d : Value} {S S' : St} {F F' FD FD' : Nat → Prop} {l x : List UInt8} {ba : Option Addr} {dn : Bool}

/-- A store's own cells. -/
def sc (d v : Value) (t : Nat) (dn : Bool) : Nat → Value := fun i => if i = 0 then d else if i = 1 then v else if i = 2 then .int .i64 (t : Nat) else .bool dn

/-- A store in memory, with its disk. -/
structure SEx (D : Dk.Face) (w : World) (B : Nat) (d : Value) (n ks : Nat) (ba : Option Addr) (bc : Nat) (l : List UInt8) (t : Nat) (dn : Bool) (S : St) (FD F : Nat → Prop) : Prop where
  disk : D w B d n S FD
  row : w.rowIs ks 98 4 (sc d (.slice ba l.length bc) t dn)
  bt : BtAt w ba l
  cap : l.length ≤ bc
  len : l.length ≤ 960
  nil : ba = none → bc = 0
  own : ∀ b o, ba = some ⟨b, o, none⟩ → B ≤ b ∧ b < w.heap.size ∧ ¬ FD b ∧ b ≠ ks
  ks1 : B ≤ ks
  ks2 : ¬ FD ks
  f : ∀ b, F b ↔ FD b ∨ b = ks ∨ ∃ o, ba = some ⟨b, o, none⟩

theorem bt_keep (h : BtAt w ba l) (hs : ∀ b o, ba = some ⟨b, o, none⟩ → w'.heap[b]? = w.heap[b]?) : BtAt w' ba l := fun i hi => by
  obtain ⟨b, o, e, hc⟩ := h i hi
  exact ⟨b, o, e, (World.cell?_of_block (w := w) (a := ⟨b, o + i, none⟩) (hs b o e)).trans hc⟩

theorem SEx.keep (O : DiskOk D) (h : SEx D w B d n ks ba bc l t dn S FD F) (hs : w.heap.size ≤ w'.heap.size) (hb : ∀ b, F b → w'.heap[b]? = w.heap[b]?) : SEx D w' B d n ks ba bc l t dn S FD F :=
  { h with
    disk := O.keep h.disk hs fun b q => hb b ((h.f b).2 (Or.inl q))
    row := h.row.of_block (hb ks ((h.f ks).2 (Or.inr (Or.inl rfl))))
    bt := bt_keep h.bt fun b o e => hb b ((h.f b).2 (Or.inr (Or.inr ⟨o, e⟩)))
    own := fun b o e => ⟨(h.own b o e).1, Nat.lt_of_lt_of_le (h.own b o e).2.1 hs, (h.own b o e).2.2⟩ }

theorem SEx.owns (O : DiskOk D) (h : SEx D w B d n ks ba bc l t dn S FD F) : ∀ b, F b → B ≤ b ∧ b < w.heap.size := fun b q => by
  rcases (h.f b).1 q with q | rfl | ⟨o, e⟩
  · exact O.own h.disk b q
  · exact ⟨h.ks1, h.row.lt⟩
  · exact ⟨(h.own b o e).1, (h.own b o e).2.1⟩

/-- The disk alone turns. -/
theorem SEx.turn (O : DiskOk D) (h : SEx D w B d n ks ba bc l t dn S FD F) (hd : D w' B d n S' FD') (hf : ∀ b, FD' b → FD b ∨ w.heap.size ≤ b) (ht : Turn FD w w') :
    ∃ F', SEx D w' B d n ks ba bc l t dn S' FD' F' ∧ (∀ b, F' b → F b ∨ w.heap.size ≤ b) ∧ Turn F w w' := by
  have hk := h.row.lt
  refine ⟨fun b => FD' b ∨ b = ks ∨ ∃ o, ba = some ⟨b, o, none⟩, { h with disk := hd, row := h.row.of_block (ht.block ks hk h.ks2), bt := bt_keep h.bt fun b o e => ht.block b (h.own b o e).2.1 (h.own b o e).2.2.1, own := fun b o e => ?_, ks2 := fun q => ?_, f := fun b => Iff.rfl }, fun b q => ?_, ht.mono fun k _ q => (h.f k).2 (Or.inl q)⟩
  · have hb := h.own b o e
    exact ⟨hb.1, Nat.lt_of_lt_of_le hb.2.1 ht.size, fun q => (hf b q).elim hb.2.2.1 fun q => by omega, hb.2.2.2⟩
  · rcases hf ks q with q | q
    · exact h.ks2 q
    · omega
  · rcases q with q | q
    · exact (hf b q).imp (fun q => (h.f b).2 (Or.inl q)) id
    · exact Or.inl ((h.f b).2 (Or.inr q))

/-- The power is off, the store knows it. -/
theorem SEx.setDown (O : DiskOk D) (h : SEx D w B d n ks ba bc l t dn S FD F) : SEx D (w.setCell ⟨ks, 3, none⟩ (.bool true)) B d n ks ba bc l t true S FD F ∧ Turn F w (w.setCell ⟨ks, 3, none⟩ (.bool true)) := by
  have hT : Turn (fun b => b = ks) w (w.setCell ⟨ks, 3, none⟩ (.bool true)) := set_turn (Turn.refl w)
  refine ⟨{ h with
    disk := O.keep h.disk hT.size fun b q => hT.block b (O.own h.disk b q).2 fun e => h.ks2 (e ▸ q)
    row := (h.row.set 3 _).congr fun i hi => ?_
    bt := bt_keep h.bt fun b o e => hT.block b (h.own b o e).2.1 (h.own b o e).2.2.2
    own := fun b o e => ⟨(h.own b o e).1, Nat.lt_of_lt_of_le (h.own b o e).2.1 hT.size, (h.own b o e).2.2⟩ }, hT.mono fun k _ e => (h.f k).2 (Or.inr (Or.inl e))⟩
  have : i = 0 ∨ i = 1 ∨ i = 2 ∨ i = 3 := by omega
  rcases this with rfl | rfl | rfl | rfl <;> rfl

/-- Other bytes, in a block that is new. -/
theorem SEx.setBytes (O : DiskOk D) (h : SEx D w B d n ks ba bc l t dn S FD F) {a' : Option Addr} {c' : Nat} (hb : BtAt w a' x) (hc : x.length ≤ c') (hx : x.length ≤ 960) (hn : a' = none → c' = 0) (ho : ∀ b o, a' = some ⟨b, o, none⟩ → (B ≤ b ∧ b < w.heap.size) ∧ ¬ FD b ∧ b ≠ ks) (t' : Nat) :
    ∃ F', SEx D ((w.setCell ⟨ks, 1, none⟩ (.slice a' x.length c')).setCell ⟨ks, 2, none⟩ (.int .i64 (t' : Nat))) B d n ks a' c' x t' dn S FD F' ∧ (∀ b, F' b → F b ∨ ∃ o, a' = some ⟨b, o, none⟩) ∧ Turn F w ((w.setCell ⟨ks, 1, none⟩ (.slice a' x.length c')).setCell ⟨ks, 2, none⟩ (.int .i64 (t' : Nat))) := by
  have hT : Turn (fun b => b = ks) w ((w.setCell ⟨ks, 1, none⟩ (.slice a' x.length c')).setCell ⟨ks, 2, none⟩ (.int .i64 (t' : Nat))) := set_turn (set_turn (Turn.refl w))
  refine ⟨fun b => FD b ∨ b = ks ∨ ∃ o, a' = some ⟨b, o, none⟩, {
    disk := O.keep h.disk hT.size fun b q => hT.block b (O.own h.disk b q).2 fun e => h.ks2 (e ▸ q)
    row := ((h.row.set 1 _).set 2 _).congr fun i hi => ?_
    bt := bt_keep hb fun b o e => hT.block b (ho b o e).1.2 (ho b o e).2.2
    cap := hc, len := hx, nil := hn
    own := fun b o e => ⟨(ho b o e).1.1, Nat.lt_of_lt_of_le (ho b o e).1.2 hT.size, (ho b o e).2⟩
    ks1 := h.ks1, ks2 := h.ks2, f := fun b => Iff.rfl }, fun b q => ?_, hT.mono fun k _ e => (h.f k).2 (Or.inr (Or.inl e))⟩
  · have : i = 0 ∨ i = 1 ∨ i = 2 ∨ i = 3 := by omega
    rcases this with rfl | rfl | rfl | rfl <;> rfl
  · rcases q with q | q | q
    · exact Or.inl ((h.f b).2 (Or.inl q))
    · exact Or.inl ((h.f b).2 (Or.inr (Or.inl q)))
    · exact Or.inr q

set_option maxRecDepth 100000 in
set_option maxHeartbeats 2000000 in
theorem format_few (O : DiskOk D) (h : D w B d n S F) (hn : n < 62) : Calls Tryd.prog 24 #[d] w fun e w' => e = .returned (.iface 39 (.int .i64 3)) ∧ Below w.heap.size w w' := by
  have hp := O.pages h
  have i0 : (n : Int) < 62 := by omega
  clear h hn O
  go_enter Tryd.func24, Tryd.ntmps24
  go_wp2_with fail
  refine hp.mono ?_
  rintro e W ⟨rfl, hb⟩
  have HB : Hid (Below w.heap.size w W) := hb
  clear hp hb
  go_wp2_with fail
  go_ret
  exact ⟨rfl, HB.out⟩

set_option maxRecDepth 100000 in
set_option maxHeartbeats 2000000 in
theorem format_any (O : DiskOk D) (h : D w B d n fresh F) (hB : B ≤ w.heap.size) (hn : 62 ≤ n) : Calls Tryd.prog 24 #[d] w fun e w' => ∃ S' F', e = .returned .nilIface ∧ D w' B d n S' F' ∧ (Rest S' 0 [] 0 ∧ S'.left = -1) ∧ (∀ b, F' b → F b ∨ w.heap.size ≤ b) ∧ Turn F w w' := by
  have hp := O.pages h
  have i0 : ¬ (n : Int) < 62 := by omega
  have HP : Hid (DiskOk D ∧ D w B d n fresh F ∧ B ≤ w.heap.size ∧ 62 ≤ n) := ⟨O, h, hB, hn⟩
  clear h hn O hB
  go_enter Tryd.func24, Tryd.ntmps24
  go_wp2_with fail
  refine hp.mono ?_
  rintro e W ⟨rfl, hb⟩
  have HB : Hid (Below w.heap.size w W) := hb
  clear hp hb
  go_wp2_with fail
  refine (tell_any HP.out.1 (dk_below HP.out.1 HP.out.2.1 HB.out) (Nat.le_trans HP.out.2.2.1 HB.out.size) (Nat.zero_le _) (by have := HP.out.2.2.2; omega) (x := 0) (l := 0) (t := 0) (by omega) (by omega) (by omega)).mono ?_
  rintro e W2 ⟨v, y, S', F', rfl, her, htl, hd, hf, ht⟩
  have hS : y = 0 ∧ S' = synced (wrote fresh 0 (headP 0 0 0)) := by
    rcases htl with ⟨h1, _⟩ | ⟨_, h1, _⟩ | ⟨_, _, h1, h2⟩
    · exact absurd h1 (not_off rfl rfl)
    · exact absurd h1 (not_off (s := wrote fresh 0 (headP 0 0 0)) rfl rfl)
    · exact ⟨h1, h2⟩
  obtain ⟨rfl, rfl⟩ := hS
  obtain rfl := Dk.Er.nil her
  have H2 : Hid (D W2 B d n (synced (wrote fresh 0 (headP 0 0 0))) F' ∧ (∀ b, F' b → F b ∨ w.heap.size ≤ b) ∧ Turn F w W2) := ⟨hd, fun b q => (hf b q).imp id fun q => Nat.le_trans HB.out.size q, (Turn.of_below HB.out).trans ht⟩
  clear her htl hd hf ht
  go_wp2_with fail
  go_ret
  exact ⟨_, _, rfl, H2.out.1, ⟨⟨rfl, rfl, show Good (upd fresh.now 0 (headP 0 ([] : List UInt8).length 0)) 0 [] 0 from ⟨upd_same _ _ _, fun i hi => absurd hi (by simp)⟩, by omega, rfl, by decide⟩, rfl⟩, H2.out.2⟩

set_option maxRecDepth 100000 in
set_option maxHeartbeats 2000000 in
theorem load_any (h : SEx D w B d n ks ba bc l t dn S FD F) : Calls Tryd.prog 27 #[.pointer (some ⟨ks, 0, none⟩)] w fun e w' => ∃ a c, e = .returned (.slice a l.length c) ∧ BtAt w' a l ∧ Below w.heap.size w w' := by
  have c1 : w.cell? ⟨ks, 1, none⟩ = some (.slice ba l.length bc) := h.row.cell (i := 1) (by omega)
  have hc := clone_any (c := bc) h.bt h.cap (by have := h.len; omega) h.nil
  obtain ⟨N, hN⟩ : ∃ N, l.length = N := ⟨_, rfl⟩
  rw [hN] at c1 hc
  rw [hN]
  clear h hN
  go_enter Tryd.func27, Tryd.ntmps27
  go_wp2_with fail
  refine hc.mono ?_
  rintro e W ⟨a', c', rfl, h1, -, -, -, -, h2⟩
  have H : Hid (BtAt W a' l ∧ Below w.heap.size w W) := ⟨h1, h2⟩
  clear hc c1 h1 h2
  go_wp2_with fail
  go_ret
  exact ⟨a', c', rfl, H.out⟩

set_option maxRecDepth 100000 in
set_option maxHeartbeats 2000000 in
theorem turn_any (h : SEx D w B d n ks ba bc l t dn S FD F) : Calls Tryd.prog 28 #[.pointer (some ⟨ks, 0, none⟩)] w fun e w' => e = .returned (.int .i64 (t : Nat)) ∧ w' = w := by
  have c1 : w.cell? ⟨ks, 2, none⟩ = some (.int .i64 (t : Nat)) := h.row.cell (i := 2) (by omega)
  clear h
  go_enter Tryd.func28, Tryd.ntmps28
  go_wp2_with fail
  go_ret
  exact ⟨rfl, rfl⟩

end Go.Proofs.YtdbebeemhomjkacDoor.Sk
