/-
  Zk Zl Zm Zn
-/
import Derived.Test.YtcfemppdeidjmacGreatW47
import Derived.Test.YtcfemppdeidjmacGreatW49
namespace Go.Proofs.YtcfemppdeidjmacGreat.Ds
open Go.RowKit Go.Deep
open Go.RowKit (Below)
set_option linter.unusedVariables false
set_option linter.unusedSectionVars false

variable {w w' : World} {A A' S : List (Nat × Nat)} {n t B kb : Nat} {G : Gr.GPl} {FT FG FZ F : Nat → Prop} {d s k v : Value} {g : Option Nat}

theorem stands_below (hb : Below w.heap.size w w') : Sk.Stands w F w' F := ⟨fun b q => Or.inl q, Dk.Turn.of_below hb⟩
theorem stands_step {w2 : World} {F2 F3 : Nat → Prop} (h : Sk.Stands w F w' F2) (h' : Sk.Stands w' F2 w2 F3) : Sk.Stands w F w2 F3 := by
  have hs := h.2.size
  refine ⟨fun b q => ?_, ⟨h'.2.os.trans h.2.os, h'.2.tape.trans h.2.tape, h'.2.output.trans h.2.output, Nat.le_trans hs h'.2.size, fun k hk hn => ?_⟩⟩
  · rcases h'.1 b q with q | q
    · exact h.1 b q
    · exact Or.inr (Nat.le_trans hs q)
  · rw [h'.2.block k (Nat.lt_of_lt_of_le hk hs) (fun q => (h.1 k q).elim hn fun z => by omega), h.2.block k hk hn]
theorem stands_less {F2 F3 : Nat → Prop} (h : Sk.Stands w F w' F2) (h' : ∀ b, F3 b → F2 b) : Sk.Stands w F w' F3 := ⟨fun b q => h.1 b (h' b q), h.2⟩
theorem stands_more {F0 F2 : Nat → Prop} (h : Sk.Stands w F w' F2) (h' : ∀ b, F b → F0 b) : Sk.Stands w F0 w' F2 := ⟨fun b q => (h.1 b q).imp (h' b) id, h.2.mono fun k _ q => h' k q⟩

theorem own_bt {base N : Nat} {v : Value} {l : List UInt8} (h : w.ownsRow base 5 1 v N (Nt.bys l)) (hN : l.length = N) (h0 : 0 < N) : ∃ b c, v = .slice (some ⟨b, 0, none⟩) N c ∧ Dk.BtAt w (some ⟨b, 0, none⟩) l ∧ N ≤ c ∧ c ≤ maxLen ∧ base ≤ b ∧ b < w.heap.size := by
  rcases h.2 with ⟨_, e⟩ | ⟨g', cap', cur, hv, hb, hg, h1, h2, h3, h4⟩
  · omega
  · refine ⟨g', cap', hv, fun i hi => ⟨g', 0, rfl, ?_⟩, h1, h2, hb, (Array.getElem?_eq_some_iff.1 hg).1⟩
    have e1 : (cur.toList.take (N * 1))[i]? = some (Nt.by1 (l.getD i 0)) := by
      rw [h4, Nt.bys, List.getElem?_map, List.getElem?_eq_getElem hi, List.getD_eq_getElem?_getD, List.getElem?_eq_getElem hi]; rfl
    rw [List.getElem?_take, if_pos (by omega)] at e1
    show w.cell? _ = some (Nt.by1 (l.getD i 0))
    simp only [World.cell?, hg, Nat.zero_add]
    simpa using e1

theorem bt_num {a : Option Addr} {l : List UInt8} {N : Nat} (h : Dk.BtAt w a l) (hN : l.length = N) : Nt.BtAt w a N (Nt.gb l) := ⟨fun i hi => by
  obtain ⟨b, o, e, hc⟩ := h i (by omega)
  exact ⟨b, o, e, hc⟩, fun i _ => (l.getD i 0).toNat_lt⟩

theorem enc_any {a : Option Addr} {c N : Nat} (hE : Br.EdgesAt w a A) (hN : A.length = N) (hS : Sound n A) :
    Calls Tryz.prog 41 #[.int .i64 (n : Nat), .slice a N c] w fun e w' => ∃ b M c', e = .returned (.tuple #[.slice (some ⟨b, 0, none⟩) M c', .nilIface]) ∧ M = (enc n A).length ∧ Dk.BtAt w' (some ⟨b, 0, none⟩) (enc n A) ∧ M ≤ c' ∧ c' ≤ maxLen ∧ w.heap.size ≤ b ∧ b < w'.heap.size ∧ Below w.heap.size w w' := by
  subst hN
  refine (Nt.encode_ok (c := c) (Br.fn_at hE) hS.valid).mono ?_
  rintro e w' ⟨v, rfl, ho, hb⟩
  obtain ⟨b, c', rfl, q1, q2, q3, q4, q5⟩ := own_bt ho (enc_len n A) (by omega)
  exact ⟨b, _, c', rfl, (enc_len n A).symm, q1, q2, q3, q4, q5, hb⟩

theorem dec_any {a : Option Addr} {c N : Nat} (h : Dk.BtAt w a (enc n A)) (hN : (enc n A).length = N) (hc : N ≤ c) (hc2 : c ≤ maxLen) (hS : Sound n A) :
    Calls Tryz.prog 42 #[.slice a N c] w fun e w' => ∃ a' M c', e = .returned (.tuple #[.int .i64 (n : Nat), .slice a' M c', .nilIface]) ∧ M = A.length ∧ Br.EdgesAt w' a' A ∧ Below w.heap.size w w' := by
  have hv := hS.valid
  have hG : Nt.Good N (Nt.gb (enc n A)) := by
    have e1 := enc_len n A
    refine ⟨by omega, ?_, ?_⟩
    · rw [show Nt.gb (enc n A) 1 = A.length from Nt.bt_m hv]; omega
    · rw [show Nt.gb (enc n A) 0 = n from Nt.bt_n hv, show Nt.gb (enc n A) 1 = A.length from Nt.bt_m hv]
      exact Nt.valid_as (fun i hi => Nt.bt_de hv hi) hv
  refine (Nt.decode_any (bt_num h hN) hc hc2).mono fun e w' ⟨h1, h2⟩ => ?_
  rcases h1 with ⟨_, a', c', e1, e2, _⟩ | ⟨q, _⟩
  · rw [show Nt.gb (enc n A) 0 = n from Nt.bt_n hv, show Nt.gb (enc n A) 1 = A.length from Nt.bt_m hv] at e1
    rw [show Nt.gb (enc n A) 1 = A.length from Nt.bt_m hv, show Br.edges (Nt.de (Nt.gb (enc n A))) A.length = Br.edges (Br.fn A) A.length from Nt.edges_as (fun i hi => Nt.bt_de hv hi), Br.fn_edges] at e2
    exact ⟨a', A.length, c', e1, rfl, e2, h2⟩
  · exact absurd hG q

set_option maxRecDepth 100000 in
set_option maxHeartbeats 2000000 in
theorem format_bad (p : Int) (hp : p < 1 ∨ 60 < p) : Calls Tryz.prog 35 #[d, .int .i64 p] w fun e w' => e = .returned (.iface 102 (.int .i64 1)) ∧ Below w.heap.size w w' := by
  have hw := Nt.encode_no (w := w) (a := none) (m := 0) (f := fun _ => (0, 0)) (c := 0) (fun i hi => absurd hi (Nat.not_lt_zero _)) p 0 1 (Or.inl ⟨hp, rfl, rfl⟩) (by decide)
  clear hp
  go_enter Tryz.func35, Tryz.ntmps35
  go_wp2_with fail
  refine hw.mono ?_
  rintro e w1 ⟨rfl, hb⟩
  have HB : Hid (Below w.heap.size w w1) := hb
  clear hw hb
  go_wp2_with fail
  go_ret
  exact ⟨rfl, HB.out⟩

set_option maxRecDepth 100000 in
set_option maxHeartbeats 8000000 in
theorem format_any {F0 : Nat → Prop} (h1 : 1 ≤ n) (h2 : n ≤ 60) (hB : B ≤ w.heap.size) (hF0 : ∀ b, F0 b → b < w.heap.size)
    (hf : ∀ W, w.heap.size ≤ W.heap.size → (∀ b, F0 b → W.heap[b]? = w.heap[b]?) → Calls Tryz.prog 81 #[d] W fun e w' => ∃ F', e = .returned .nilIface ∧ Sk.face.kept w' B d 62 [] 0 F' ∧ Sk.Stands W F0 w' F') :
    Calls Tryz.prog 35 #[d, .int .i64 (n : Nat)] w fun e w' => ∃ F', e = .returned .nilIface ∧ deskF.kept w' B d n [] 1 F' ∧ Sk.Stands w F0 w' F' := by
  have hs : Sound n [] := sound_none h1 h2
  have HS : Hid (Sound n [] ∧ B ≤ w.heap.size ∧ ∀ b, F0 b → b < w.heap.size) := ⟨hs, hB, hF0⟩
  have hw := enc_any (w := w) (c := 0) (Br.edges_none w none) rfl hs
  have HF : Hid (∀ W, w.heap.size ≤ W.heap.size → (∀ b, F0 b → W.heap[b]? = w.heap[b]?) → Calls Tryz.prog 81 #[d] W fun e w' => ∃ F', e = .returned .nilIface ∧ Sk.face.kept w' B d 62 [] 0 F' ∧ Sk.Stands W F0 w' F') := hf
  clear h1 h2 hB hF0 hf hs
  go_enter Tryz.func35, Tryz.ntmps35
  go_wp2_with fail
  refine hw.mono ?_
  rintro e w1 ⟨b, M, c', rfl, hM, hbt, hc1, hc2, hb1, hb2, hb⟩
  have H1 : Hid (M = (enc n []).length ∧ Dk.BtAt w1 (some ⟨b, 0, none⟩) (enc n []) ∧ M ≤ c' ∧ c' ≤ maxLen ∧ w.heap.size ≤ b ∧ b < w1.heap.size ∧ Below w.heap.size w w1) := ⟨hM, hbt, hc1, hc2, hb1, hb2, hb⟩
  have hsf := HF.out w1 hb.size fun b q => hb.block b (HS.out.2.2 b q)
  clear hw hM hbt hc1 hc2 hb1 hb2 hb
  go_wp2_with fail
  refine hsf.mono ?_
  rintro e w2 ⟨F2, rfl, hk2, hs2⟩
  have H2 : Hid (Sk.face.kept w2 B d 62 [] 0 F2 ∧ Sk.Stands w1 F0 w2 F2) := ⟨hk2, hs2⟩
  have hop := Sk.store_ok.open_ok hk2 (Nat.le_trans HS.out.2.1 (Nat.le_trans H1.out.2.2.2.2.2.2.size hs2.2.size)) (by simp) (by omega)
  clear hsf hk2 hs2
  go_wp2_with fail
  refine hop.mono ?_
  rintro e w3 ⟨s, F3, rfl, hk3, hs3⟩
  have H3 : Hid (Sk.face.on w3 B d 62 s [] 0 none F3 ∧ Sk.Stands w1 F0 w3 F3) := ⟨hk3, stands_step H2.out.2 hs3⟩
  have hn3 : ∀ b', w1.heap.size ≤ b' ∨ b' ≠ b ∨ True := fun _ => Or.inr (Or.inr trivial)
  have hnF : ¬ F3 b := fun q => by
    rcases H3.out.2.1 b q with z | z
    · have := HS.out.2.2 b z
      have := H1.out.2.2.2.2.1
      omega
    · have := H1.out.2.2.2.2.2.1
      omega
  have hF0b : ¬ F0 b := fun z => by
    have := HS.out.2.2 b z
    have := H1.out.2.2.2.2.1
    omega
  have hbt3 : Dk.BtAt w3 (some ⟨b, 0, none⟩) (enc n []) := fun i hi => by
    obtain ⟨b', o', e', hc⟩ := H1.out.2.1 i hi
    cases e'
    exact ⟨b, 0, rfl, (World.cell?_of_block (w := w1) (a := ⟨b, 0 + i, none⟩) (H3.out.2.2.block b H1.out.2.2.2.2.2.1 hF0b)).trans hc⟩
  have hsv := Sk.store_ok.save (c := c') hk3 (Nat.le_trans HS.out.2.1 (Nat.le_trans H1.out.2.2.2.2.2.2.size H3.out.2.2.size)) hbt3 (by rw [← H1.out.1]; exact H1.out.2.2.1) H1.out.2.2.2.1 (fun e => (by cases e)) (fun _ b' o' e => by cases e; exact hnF) HS.out.1.few (by simp) (by omega)
  rw [← H1.out.1] at hsv
  clear hop hk3 hs3 hn3 hnF hF0b hbt3
  go_wp2_with fail
  refine hsv.mono ?_
  rintro e w4 ⟨F4, hor, hs4⟩
  rcases hor with ⟨g', rfl, hk4, hg⟩ | ⟨_, q, _⟩
  · obtain rfl := hg trivial
    obtain ⟨FD, z1, z2⟩ := Sk.store_ok.rest hk4
    have H4 : Hid (∃ F', (deskF.kept w4 B d n [] 1 F') ∧ Sk.Stands w F0 w4 F') := ⟨FD, ⟨HS.out.1, z1⟩, stands_less (stands_step (stands_step (stands_below H1.out.2.2.2.2.2.2) H3.out.2) hs4) z2⟩
    clear hsv hk4 hg hs4 z1 z2
    go_wp2_with fail
    go_ret
    obtain ⟨F', z1, z2⟩ := H4.out
    exact ⟨F', rfl, z1, z2⟩
  · exact absurd rfl q

end Go.Proofs.YtcfemppdeidjmacGreat.Ds

namespace Go.Proofs.YtcfemppdeidjmacGreat.Ds
open Go.RowKit Go.Deep
open Go.RowKit (Below)
set_option linter.unusedVariables false
set_option linter.unusedSectionVars false

variable {w w' : World} {A A' S : List (Nat × Nat)} {n t B kb : Nat} {G : Gr.GPl} {FT FG FZ F : Nat → Prop} {d s k v : Value} {g : Option Nat}

set_option maxRecDepth 100000 in
set_option maxHeartbeats 8000000 in
theorem open_any (h : Sk.face.kept w B d 62 (enc n A) t F) (hS : Sound n A) (hB : B ≤ w.heap.size) (ht : t ≤ 1000) :
    Calls Tryz.prog 36 #[d] w fun e w' => ∃ kb F', e = .returned (.tuple #[.pointer (some ⟨kb, 0, none⟩), .nilIface]) ∧ deskF.on w' B d n (.pointer (some ⟨kb, 0, none⟩)) A A t none F' ∧ Sk.Stands w F w' F' := by
  have hop := Sk.store_ok.open_ok h hB hS.few ht
  have HS : Hid (Sound n A ∧ B ≤ w.heap.size) := ⟨hS, hB⟩
  obtain ⟨N, hN⟩ : ∃ N, (enc n A).length = N := ⟨_, rfl⟩
  have HN : Hid ((enc n A).length = N) := hN
  clear h hS hB ht
  go_enter Tryz.func36, Tryz.ntmps36
  go_wp2_with fail
  refine hop.mono ?_
  rintro e w1 ⟨s, FZ, rfl, hon, hs1⟩
  obtain ⟨ks, rfl⟩ : ∃ ks, s = .pointer (some ⟨ks, 0, none⟩) := by
    obtain ⟨ks, ba, bc, S, h, FD, e, _⟩ := hon
    exact ⟨ks, e⟩
  have H1 : Hid (Sk.face.on w1 B d 62 (.pointer (some ⟨ks, 0, none⟩)) (enc n A) t none FZ ∧ Sk.Stands w F w1 FZ) := ⟨hon, hs1⟩
  have hld := Sk.store_ok.load_on hon (Nat.le_trans HS.out.2 hs1.2.size)
  rw [hN] at hld
  clear hop hon hs1 hN
  go_wp2_with fail
  refine hld.mono ?_
  rintro e w2 ⟨a, c, rfl, hbt, ⟨hc1, hc2⟩, hb2⟩
  have H2 : Hid (Below w1.heap.size w1 w2) := hb2
  have hdc := dec_any hbt HN.out hc1 hc2 HS.out.1
  clear hld hbt hc1 hc2 hb2
  go_wp2_with fail
  refine hdc.mono ?_
  rintro e w3 ⟨a3, M, c3, rfl, hM, hE, hb3⟩
  have H3 : Hid (Below w1.heap.size w1 w3) := Br.below_step H2.out hb3
  have hgo := @graphof_any w3 A n M (inst ⟨fun _ => False, w3.heap.size⟩) a3 c3 hE hM.symm HS.out.1 (Nat.le_refl _)
  clear hdc hM hE hb3
  go_wp2_with fail
  refine hgo.mono ?_
  rintro e w4 ⟨G, rfl, ⟨lv, tr, hok⟩, hn, hG, hb4⟩
  have hb5 : Below w4.heap.size w4 (w4.alloc (.cells #[.int .i64 (n : Nat), .pointer (some ⟨G.g, 0, none⟩), .pointer (some ⟨ks, 0, none⟩)] 147)) := (Below.refl _ _).alloc (Nat.le_refl _) _
  have hr5 : (w4.alloc (.cells #[.int .i64 (n : Nat), .pointer (some ⟨G.g, 0, none⟩), .pointer (some ⟨ks, 0, none⟩)] 147)).rowIs w4.heap.size 147 3 (dc n G.g (.pointer (some ⟨ks, 0, none⟩))) := World.rowIs_alloc w4 _ 147 _ fun i hi => by
    have : i = 0 ∨ i = 1 ∨ i = 2 := by simp at hi; omega
    rcases this with rfl | rfl | rfl <;> rfl
  have hs5 : (w4.alloc (.cells #[.int .i64 (n : Nat), .pointer (some ⟨G.g, 0, none⟩), .pointer (some ⟨ks, 0, none⟩)] 147)).heap.size = w4.heap.size + 1 := by simp
  have H5 : Hid (∃ F', deskF.on (w4.alloc (.cells #[.int .i64 (n : Nat), .pointer (some ⟨G.g, 0, none⟩), .pointer (some ⟨ks, 0, none⟩)] 147)) B d n (.pointer (some ⟨w4.heap.size, 0, none⟩)) A A t none F' ∧ Sk.Stands w F (w4.alloc (.cells #[.int .i64 (n : Nat), .pointer (some ⟨G.g, 0, none⟩), .pointer (some ⟨ks, 0, none⟩)] 147)) F') := by
    have hb15 : Below w1.heap.size w1 (w4.alloc (.cells #[.int .i64 (n : Nat), .pointer (some ⟨G.g, 0, none⟩), .pointer (some ⟨ks, 0, none⟩)] 147)) := Br.below_step (Br.below_step H3.out hb4) hb5
    have h13 : w1.heap.size ≤ w3.heap.size := H3.out.size
    have h34 : w3.heap.size ≤ w4.heap.size := hb4.size
    have h01 : w.heap.size ≤ w1.heap.size := H1.out.2.2.size
    have hFS := Sk.store_ok.on_own H1.out.1
    have hgx := Gx.make (w' := w4.alloc (.cells #[.int .i64 (n : Nat), .pointer (some ⟨G.g, 0, none⟩), .pointer (some ⟨ks, 0, none⟩)] 147)) (FT' := fun b => w3.heap.size ≤ b ∧ b < w4.heap.size) hok hn hb5.size (fun b hb => hb5.block b (Gr.gall_lt hok b hb))
      (fun b hb _ hz => ⟨hb5.block b hb, hz.elim (fun q => q.elim) id, hb⟩) (fun b q => Nat.lt_of_lt_of_le q.2 hb5.size)
    have hFG : ∀ b, (Gr.GAll G b ∨ (w3.heap.size ≤ b ∧ b < w4.heap.size)) → w3.heap.size ≤ b ∧ b < w4.heap.size := fun b q => q.elim (fun q => ⟨hG b q, Gr.gall_lt hok b q⟩) id
    have hB := HS.out.2
    refine ⟨_, ⟨w4.heap.size, _, G, FZ, _, _, rfl, ⟨Sk.store_ok.on_keep H1.out.1 hb15.size (fun b q => hb15.block b (hFS b q).2), hr5, hgx, HS.out.1, by omega, fun b q => by have := hFG b q; omega, fun b q => ⟨fun z => ?_, ?_⟩, fun z => ?_, fun b => Iff.rfl⟩⟩, fun b q => ?_, ?_⟩
    · have := hFG b z
      have := hFS b q
      omega
    · have := hFS b q
      omega
    · have := hFG _ z
      omega
    · rcases q with q | q | q
      · exact H1.out.2.1 b q
      · have := hFG b q
        exact Or.inr (by omega)
      · exact Or.inr (by omega)
    · exact H1.out.2.2.trans (Dk.Turn.of_below hb15)
  clear hgo hok hn hG hb4 hb5 hr5 hs5
  go_wp2_with fail
  go_ret2
  obtain ⟨F', z1, z2⟩ := H5.out
  exact ⟨_, F', rfl, z1, z2⟩

set_option maxRecDepth 100000 in
set_option maxHeartbeats 2000000 in
theorem graph_any (h : Kx w B d n kb s G A S t g FZ FT FG F) : Calls Tryz.prog 43 #[.pointer (some ⟨kb, 0, none⟩)] w fun e w' => ∃ v, e = .returned v ∧ deskF.gr w' v n A ∧ Below w.heap.size w w' := by
  obtain ⟨lv0, tr0, hok⟩ := h.gx.ok
  obtain ⟨N, hN⟩ : ∃ N, A.length = N := ⟨_, rfl⟩
  have hp := @Gr.gedges_any (inst ⟨FT, w.heap.size⟩) w G A lv0 tr0 hok N hN
  have c0 : w.cell? ⟨kb, 0, none⟩ = some (.int .i64 (n : Nat)) := h.row.cell (i := 0) (by omega)
  have c1 : w.cell? ⟨kb, 1, none⟩ = some (.pointer (some ⟨G.g, 0, none⟩)) := h.row.cell (i := 1) (by omega)
  have HS : Hid (Sound n A ∧ A.length = N) := ⟨h.gx.sound, hN⟩
  clear h hok hN
  go_enter Tryz.func43, Tryz.ntmps43
  go_wp2_with fail
  refine hp.mono ?_
  rintro e w1 ⟨ad, cc, rfl, hb, hE, hf, h1, h2⟩
  have d0 := Br.cell_keep hb c0
  have hE1 : Br.EdgesAt w1 ad A := ⟨fun i hi => by
    obtain ⟨b, e, q1, q2⟩ := hE.cell i hi
    exact ⟨b, 0, e, by rw [Nat.zero_add]; exact q1, by rw [Nat.zero_add]; exact q2⟩⟩
  have hnw := @anew_any w1 A n N (inst every) kb ad cc d0 hE1 HS.out.2 HS.out.1 (Nat.zero_le _)
  have HB : Hid (Below w.heap.size w w1) := hb
  clear hp hb hE hE1 hf h1 h2 c0 c1 d0
  go_wp2_with fail
  refine hnw.mono ?_
  rintro e w2 ⟨G2, rfl, ⟨lv2, tr2, hok2⟩, hn2, hG2, hb2⟩
  have H2 : Hid (deskF.gr w2 (.pointer (some ⟨G2.g, 0, none⟩)) n A ∧ Below w.heap.size w w2) := ⟨⟨G2, lv2, tr2, rfl, hn2, hok2⟩, Br.below_step HB.out hb2⟩
  clear hnw hok2 hn2 hG2 hb2
  go_wp2_with fail
  go_ret
  exact ⟨_, rfl, H2.out⟩

set_option maxRecDepth 100000 in
theorem turn_any (h : Kx w B d n kb s G A S t g FZ FT FG F) : Calls Tryz.prog 44 #[.pointer (some ⟨kb, 0, none⟩)] w fun e w' => e = .returned (.int .i64 (t : Nat)) ∧ Below w.heap.size w w' := by
  have c2 : w.cell? ⟨kb, 2, none⟩ = some s := h.row.cell (i := 2) (by omega)
  have ht := Sk.store_ok.turn_on h.st (Nat.le_trans h.kb1 (Nat.le_of_lt h.row.lt))
  clear h
  go_enter Tryz.func44, Tryz.ntmps44
  go_wp2_with fail
  refine ht.mono ?_
  rintro e w1 ⟨rfl, hb⟩
  have HB : Hid (Below w.heap.size w w1) := hb
  clear ht hb c2
  go_wp2_with fail
  go_ret
  exact ⟨rfl, HB.out⟩

end Go.Proofs.YtcfemppdeidjmacGreat.Ds

namespace Go.Proofs.YtcfemppdeidjmacGreat.Ds
set_option linter.unusedSimpArgs false
open Go.RowKit Go.Deep
open Go.RowKit (Below)
set_option linter.unusedVariables false
set_option linter.unusedSectionVars false

variable {w w' : World} {A A' S : List (Nat × Nat)} {n t B kb : Nat} {G : Gr.GPl} {FT FG FZ F : Nat → Prop} {d s k v : Value} {g : Option Nat}

set_option maxRecDepth 100000 in
set_option maxHeartbeats 3000000 in
theorem save_any (h : Kx w B d n kb s G A S t g FZ FT FG F) (hB : B ≤ w.heap.size) (ht : t ≤ 1000) :
    Calls Tryz.prog 38 #[.pointer (some ⟨kb, 0, none⟩)] w fun e w' => ∃ F', ((∃ g', e = .returned .nilIface ∧ deskF.on w' B d n (.pointer (some ⟨kb, 0, none⟩)) A A (t + 1) g' F' ∧ (g = none → g' = none)) ∨ (e = .returned (.iface 102 (.int .i64 8)) ∧ g ≠ none ∧ deskF.off w' B d n A S t F')) ∧ Sk.Stands w F w' F' := by
  have H : Hid (Kx w B d n kb s G A S t g FZ FT FG F ∧ B ≤ w.heap.size ∧ t ≤ 1000) := ⟨h, hB, ht⟩
  obtain ⟨lv0, tr0, hok⟩ := h.gx.ok
  obtain ⟨N, hN⟩ : ∃ N, A.length = N := ⟨_, rfl⟩
  have hd : Below w.heap.size w w.drew := (Below.refl _ _).drew
  have hp := @Gr.gedges_any (inst ⟨FT, w.heap.size⟩) w.drew G A lv0 tr0 (by letI := inst ⟨FT, w.heap.size⟩; exact hok.below hd) N hN
  have HP : Hid (Calls Tryz.prog 11 #[.pointer (some ⟨G.g, 0, none⟩)] w.drew fun e w' => ∃ ad c, e = .returned (.slice ad N c) ∧ Below w.drew.heap.size w.drew w' ∧ EdgesAt w' ad A ∧ (∀ c, ad = some ⟨c, 0, none⟩ → w.drew.heap.size ≤ c) ∧ N ≤ c ∧ c ≤ maxLen) := hp
  have HEn : Hid (∀ {W : World} {a : Option Addr} {c : Nat}, Br.EdgesAt W a A → Calls Tryz.prog 41 #[.int .i64 (n : Nat), .slice a N c] W fun e w' => ∃ b M c', e = .returned (.tuple #[.slice (some ⟨b, 0, none⟩) M c', .nilIface]) ∧ M = (enc n A).length ∧ Dk.BtAt w' (some ⟨b, 0, none⟩) (enc n A) ∧ M ≤ c' ∧ c' ≤ maxLen ∧ W.heap.size ≤ b ∧ b < w'.heap.size ∧ Below W.heap.size W w') := fun hE => enc_any hE hN h.gx.sound
  have c0 : w.cell? ⟨kb, 0, none⟩ = some (.int .i64 (n : Nat)) := h.row.cell (i := 0) (by omega)
  have c1 : w.cell? ⟨kb, 1, none⟩ = some (.pointer (some ⟨G.g, 0, none⟩)) := h.row.cell (i := 1) (by omega)
  have c2 : w.cell? ⟨kb, 2, none⟩ = some s := h.row.cell (i := 2) (by omega)
  have c0d := Br.cell_keep hd c0
  have c1d := Br.cell_keep hd c1
  clear h hB ht hok hN hp
  go_enter Tryz.func38, Tryz.ntmps38
  go_wp2_with fail
  refine wp_region_noPanic ?_
  refine wp_region_held_drew (S := fun V => V.cell? ⟨kb, 0, none⟩ = some (.int .i64 (n : Nat)) ∧ V.cell? ⟨kb, 1, none⟩ = some (.pointer (some ⟨G.g, 0, none⟩))) (by kernel_rfl) ⟨c0d, c1d⟩ (fun hHeld => ?_)
  refine wpAnyH_take (i := 0) (v := ?va1) rfl (by kernel_rfl) (by kernel_rfl) (by kernel_rfl) (fun _ _ _ h => h) (Or.inl ⟨by rfl, ?ya1⟩) (by assumption) ?_
  case ya1 => intro w hSw; (try dsimp only at hSw); go_simp; (try with_reducible rfl)
  simp only [Act.put, List.setIfInBounds_toArray, List.set_cons_zero, List.set_cons_succ]
  refine wpAnyH_take (i := 1) (v := ?va2) rfl (by kernel_rfl) (by kernel_rfl) (by kernel_rfl) (fun _ _ _ h => h) (Or.inl ⟨by rfl, ?ya2⟩) (by assumption) ?_
  case ya2 => intro w hSw; (try dsimp only at hSw); go_simp; (try with_reducible rfl)
  simp only [Act.put, List.setIfInBounds_toArray, List.set_cons_zero, List.set_cons_succ]
  refine wpAnyH_take (i := 2) (v := ?va3) rfl (by kernel_rfl) (by kernel_rfl) (by kernel_rfl) (fun _ _ _ h => h) (Or.inl ⟨by rfl, ?ya3⟩) (by assumption) ?_
  case ya3 => intro w hSw; (try dsimp only at hSw); go_simp; (try with_reducible rfl)
  simp only [Act.put, List.setIfInBounds_toArray, List.set_cons_zero, List.set_cons_succ]
  refine wpAnyH_take (i := 3) (v := ?va4) rfl (by kernel_rfl) (by kernel_rfl) (by kernel_rfl) (fun _ _ _ h => h) (Or.inl ⟨by rfl, ?ya4⟩) (by assumption) ?_
  case ya4 => intro w hSw; (try dsimp only at hSw); go_simp; (try with_reducible rfl)
  simp only [Act.put, List.setIfInBounds_toArray, List.set_cons_zero, List.set_cons_succ]
  refine wpAnyH_take (i := 4) (v := ?va5) rfl (by kernel_rfl) (by kernel_rfl) (by kernel_rfl) (fun _ _ _ h => h) (Or.inl ⟨by rfl, ?ya5⟩) (by assumption) ?_
  case ya5 => intro w hSw; (try dsimp only at hSw); go_simp; (try with_reducible rfl)
  simp only [Act.put, List.setIfInBounds_toArray, List.set_cons_zero, List.set_cons_succ]
  refine wpAnyH_take (i := 5) (v := ?va6) rfl (by kernel_rfl) (by kernel_rfl) (by kernel_rfl) (fun _ _ _ h => h) (Or.inl ⟨by rfl, ?ya6⟩) (by assumption) ?_
  case ya6 => intro w hSw; (try dsimp only at hSw); go_simp; (try with_reducible rfl)
  simp only [Act.put, List.setIfInBounds_toArray, List.set_cons_zero, List.set_cons_succ]
  refine wpAnyH_take (i := 6) (v := ?va7) rfl (by kernel_rfl) (by kernel_rfl) (by kernel_rfl) (fun _ _ _ h => h) (Or.inl ⟨by rfl, ?ya7⟩) (by assumption) ?_
  case ya7 => intro w hSw; (try dsimp only at hSw); go_simp; (try with_reducible rfl)
  simp only [Act.put, List.setIfInBounds_toArray, List.set_cons_zero, List.set_cons_succ]
  refine wpAnyH_take (i := 7) (v := ?va8) rfl (by kernel_rfl) (by kernel_rfl) (by kernel_rfl) (fun _ _ _ h => h) (Or.inl ⟨by rfl, ?ya8⟩) (by assumption) ?_
  case ya8 => intro w hSw; (try dsimp only at hSw); go_simp; (try with_reducible rfl)
  simp only [Act.put, List.setIfInBounds_toArray, List.set_cons_zero, List.set_cons_succ]
  refine wpAnyH_ready (rs := [8]) (by kernel_rfl) (by simp) ?_
  refine (AllReadyH.cons rfl (fun K9 hK9 => ?ca15) AllReadyH.nil)
  case ca15 =>
    go_simp
    go_wp2_with (go_at_call 11; refine HP.out.mono ?_; rintro e w1 ⟨ad, cc, rfl, hb1, hE, hf, h1, h2⟩)
    have hE1 : Br.EdgesAt w1 ad A := ⟨fun i hi => by
      obtain ⟨b, e, q1, q2⟩ := hE.cell i hi
      exact ⟨b, 0, e, by rw [Nat.zero_add]; exact q1, by rw [Nat.zero_add]; exact q2⟩⟩
    refine hK9.out _ _ ⟨Br.cell_keep hb1 c0d, Br.cell_keep hb1 c1d⟩ (fun hHeld => ?_)
    clear hK9
    (try simp only [Act.put, List.setIfInBounds_toArray, List.set_cons_zero, List.set_cons_succ])
    refine wpAnyH_ready (rs := [9]) (by kernel_rfl) (by simp) ?_
    refine (AllReadyH.cons rfl (fun K9 hK9 => ?ca14) AllReadyH.nil)
    case ca14 =>
      go_simp
      go_wp2_with (go_at_call 41; refine (HEn.out hE1).mono ?_; rintro e w2 ⟨b, M, c', rfl, hM, hbt, hc1, hc2, hb21, hb22, hb2⟩; have HM : Hid (M = (enc n A).length) := hM; clear hM)
      refine hK9.out _ _ ⟨Br.cell_keep hb2 (Br.cell_keep hb1 c0d), Br.cell_keep hb2 (Br.cell_keep hb1 c1d)⟩ (fun hHeld => ?_)
      clear hK9
      (try simp only [Act.put, List.setIfInBounds_toArray, List.set_cons_zero, List.set_cons_succ])
      refine wpAnyH_take (i := 10) (v := ?va9) rfl (by kernel_rfl) (by kernel_rfl) (by kernel_rfl) (fun _ _ _ h => h) (Or.inl ⟨by rfl, ?ya9⟩) (by assumption) ?_
      case ya9 => intro w hSw; (try dsimp only at hSw); go_simp; (try with_reducible rfl)
      simp only [Act.put, List.setIfInBounds_toArray, List.set_cons_zero, List.set_cons_succ]
      refine wpAnyH_take (i := 11) (v := ?va10) rfl (by kernel_rfl) (by kernel_rfl) (by kernel_rfl) (fun _ _ _ h => h) (Or.inl ⟨by rfl, ?ya10⟩) (by assumption) ?_
      case ya10 => intro w hSw; (try dsimp only at hSw); go_simp; (try with_reducible rfl)
      simp only [Act.put, List.setIfInBounds_toArray, List.set_cons_zero, List.set_cons_succ]
      refine wpAnyH_take (i := 12) (v := ?va11) rfl (by kernel_rfl) (by kernel_rfl) (by kernel_rfl) (fun _ _ _ h => h) (Or.inl ⟨by rfl, ?ya11⟩) (by assumption) ?_
      case ya11 => intro w hSw; (try dsimp only at hSw); go_simp; (try with_reducible rfl)
      simp only [Act.put, List.setIfInBounds_toArray, List.set_cons_zero, List.set_cons_succ]
      refine wpAnyH_take (i := 13) (v := ?va12) rfl (by kernel_rfl) (by kernel_rfl) (by kernel_rfl) (fun _ _ _ h => h) (Or.inl ⟨by rfl, ?ya12⟩) (by assumption) ?_
      case ya12 => intro w hSw; (try dsimp only at hSw); go_simp; (try with_reducible rfl)
      simp only [Act.put, List.setIfInBounds_toArray, List.set_cons_zero, List.set_cons_succ]
      refine wpAnyH_take (i := 14) (v := ?va13) rfl (by kernel_rfl) (by kernel_rfl) (by kernel_rfl) (fun _ _ _ h => h) (Or.inl ⟨by rfl, ?ya13⟩) (by assumption) ?_
      case ya13 => intro w hSw; (try dsimp only at hSw); go_simp; (try with_reducible rfl)
      simp only [Act.put, List.setIfInBounds_toArray, List.set_cons_zero, List.set_cons_succ]
      refine wpAnyH_done (by kernel_rfl) ?_ _
      refine NoPanic.normal ?_
      have hbw : Below w.heap.size w w2 := Br.below_step (Br.below_step hd hb1) hb2
      have hb0 : w.heap.size ≤ w1.heap.size := Nat.le_trans hd.size hb1.size
      have d2 := Br.cell_keep hbw c2
      have hK2 := H.out.1.keep hbw.size (fun b q => hbw.block b (H.out.1.own b q).2)
      have hsv := Sk.store_ok.save (c := c') hK2.st (Nat.le_trans H.out.2.1 hbw.size) hbt (by rw [← HM.out]; exact hc1) hc2 (fun e => (by cases e)) (fun _ b' o' e q => by
        cases e
        have := (Sk.store_ok.on_own H.out.1.st b q).2
        omega) H.out.1.gx.sound.few H.out.1.sound.few H.out.2.2
      rw [← HM.out] at hsv
      have H2 : Hid (Kx w2 B d n kb s G A S t g FZ FT FG F ∧ Below w.heap.size w w2) := ⟨hK2, hbw⟩
      clear hb1 hE hE1 hf h1 h2 hbt hc1 hc2 hb21 hb22 hb2 hbw hb0 hK2 c0 c1 c2 c0d c1d hd
      go_wp2_with fail
      refine hsv.mono ?_
      rintro e w3 ⟨FS3, hor, hs3⟩
      have hkk := H2.out.1
      have hFS : ∀ b, FZ b → b < w2.heap.size := fun b q => (Sk.store_ok.on_own hkk.st b q).2
      have hFS3 : ∀ b, FS3 b → FZ b ∨ w2.heap.size ≤ b := hs3.1
      have hgb : ∀ b, FG b → w3.heap[b]? = w2.heap[b]? := fun b q => hs3.2.block b (hkk.gx.own b q) fun z => (hkk.ap b z).1 q
      have hkbb : w3.heap[kb]? = w2.heap[kb]? := hs3.2.block kb hkk.row.lt fun z => (hkk.ap kb z).2 rfl
      have hBw : B ≤ w2.heap.size := Nat.le_trans H.out.2.1 H2.out.2.size
      have hst : Sk.Stands w F w3 FS3 := stands_step (stands_below (F := F) H2.out.2) ⟨fun b q => (hFS3 b q).imp (fun z => (hkk.f b).2 (Or.inl z)) id, hs3.2.mono fun k _ q => (hkk.f k).2 (Or.inl q)⟩
      rcases hor with ⟨g', rfl, hk3, hg⟩ | ⟨rfl, hne, hk3⟩
      · have H3 : Hid ((∃ F', deskF.on w3 B d n (.pointer (some ⟨kb, 0, none⟩)) A A (t + 1) g' F' ∧ Sk.Stands w F w3 F') ∧ (g = none → g' = none)) := by
          refine ⟨⟨fun b => FS3 b ∨ FG b ∨ b = kb, ⟨kb, s, G, FS3, FT, FG, rfl, ⟨hk3, hkk.row.of_block hkbb, hkk.gx.keep hs3.2.size hgb, H.out.1.gx.sound, hkk.kb1, hkk.fg, fun b q => ⟨fun z => ?_, fun e => ?_⟩, hkk.kg, fun b => Iff.rfl⟩⟩, fun b q => ?_, hst.2⟩, hg⟩
          · exact (hFS3 b q).elim (fun y => (hkk.ap b y).1 z) fun y => by have := hkk.gx.own b z; omega
          · subst e
            exact (hFS3 b q).elim (fun y => (hkk.ap b y).2 rfl) fun y => by have := hkk.row.lt; omega
          · rcases q with q | q | q
            · exact hst.1 b q
            · exact Or.inl ((hkk.f b).2 (Or.inr (Or.inl q)))
            · exact Or.inl ((hkk.f b).2 (Or.inr (Or.inr q)))
        clear hsv hk3 hg hs3 hkk hFS hFS3 hgb hkbb hBw hst d2
        go_wp2_with fail
        go_ret
        obtain ⟨⟨F', z1, z2⟩, z3⟩ := H3.out
        exact ⟨F', Or.inl ⟨g', rfl, z1, z3⟩, z2⟩
      · have H3 : Hid (g ≠ none ∧ deskF.off w3 B d n A S t FS3 ∧ Sk.Stands w F w3 FS3) := ⟨hne, ⟨⟨H.out.1.gx.sound, H.out.1.sound⟩, s, hk3⟩, hst⟩
        clear hsv hk3 hne hs3 hkk hFS hFS3 hgb hkbb hBw hst d2
        go_wp2_with fail
        go_ret
        exact ⟨FS3, Or.inr ⟨rfl, H3.out.1, H3.out.2.1⟩, H3.out.2.2⟩

end Go.Proofs.YtcfemppdeidjmacGreat.Ds

namespace Go.Proofs.YtcfemppdeidjmacGreat.Ds
open Go.RowKit Go.Deep
open Go.RowKit (Below)
set_option linter.unusedVariables false

theorem desk_ok : DeskOk deskF where
  raw_keep := fun h h1 h2 => Sk.store_ok.raw_keep h h1 h2
  kept_keep := fun h h1 h2 => ⟨h.1, Sk.store_ok.kept_keep h.2 h1 h2⟩
  on_keep := fun ⟨kb, s, G, FZ, FT, FG, e, h⟩ h1 h2 => ⟨kb, s, G, FZ, FT, FG, e, h.keep h1 h2⟩
  off_keep := fun ⟨h, s, h'⟩ h1 h2 => ⟨h, s, Sk.store_ok.off_keep h' h1 h2⟩
  gr_keep := fun ⟨G, lv, tr, e, hn, hok⟩ hb => ⟨G, lv, tr, e, hn, by letI := inst every; exact hok.below hb⟩
  raw_own := fun h => Sk.store_ok.raw_own h
  kept_own := fun h => Sk.store_ok.kept_own h.2
  on_own := fun ⟨kb, s, G, FZ, FT, FG, e, h⟩ => h.own
  off_own := fun ⟨h, s, h'⟩ => Sk.store_ok.off_own h'
  on_fine := fun ⟨kb, s, G, FZ, FT, FG, e, h⟩ => ⟨h.gx.sound.fine, h.sound.fine⟩
  new_ok := (Sk.store_ok.new_ok 62 (by decide) (by decide)).mono fun e w' h => h
  format_bad := fun p h hB hp => (format_bad p hp).mono fun e w' ⟨e1, e2⟩ => ⟨_, e1, stands_below e2⟩
  format_ok := fun {w base n d F} h hB h1 h2 => format_any h1 h2 hB (fun b q => (Sk.store_ok.raw_own h b q).2) fun W hs hf => Sk.store_ok.format_ok (Sk.store_ok.raw_keep h hs hf) (Nat.le_trans hB hs) (by decide)
  again_bad := fun p h hB hp => (format_bad p hp).mono fun e w' ⟨e1, e2⟩ => ⟨_, e1, stands_below e2⟩
  again_ok := by
    rintro w base n n' t d k A S F ⟨kb, s, G, FZ, FT, FG, e, h⟩ hB h1 h2
    obtain ⟨FD, z1, z2⟩ := Sk.store_ok.rest h.st
    refine (format_any h1 h2 hB (F0 := FD) (fun b q => (Sk.store_ok.kept_own z1 b q).2) fun W hs hf => Sk.store_ok.format_kept (Sk.store_ok.kept_keep z1 hs hf) (Nat.le_trans hB hs)).mono ?_
    rintro e w' ⟨F', e1, e2, e3⟩
    exact ⟨F', e1, e2, stands_more e3 fun b q => (h.f b).2 (Or.inl (z2 b q))⟩
  open_ok := fun h hB ht => (open_any h.2 h.1 hB ht).mono fun e w' ⟨kb, F', e1, e2, e3⟩ => ⟨_, F', e1, e2, e3⟩
  turn := by
    rintro w base n t d k A S g F ⟨kb, s, G, FZ, FT, FG, rfl, h⟩
    exact turn_any h
  does := by
    rintro w base n t d k A S g F a m c f ⟨kb, s, G, FZ, FT, FG, rfl, h⟩ hB he hm hc hF
    exact does_any h he hm hc hF
  save := by
    rintro w base n t d k A S g F ⟨kb, s, G, FZ, FT, FG, rfl, h⟩ hB ht
    exact save_any h hB ht
  crash_on := by
    rintro w base n t d k A S g F a m c f ⟨kb, s, G, FZ, FT, FG, rfl, h⟩ hB ha hm hc hF
    refine (Sk.store_ok.crash_on h.st hB ha hm hc fun h0 b o e q => hF h0 b o e ((h.f b).2 (Or.inl q))).mono ?_
    rintro e w' ⟨F', e1, e2, e3⟩
    exact ⟨F', e1, ⟨h.sound, e2⟩, stands_more e3 fun b q => (h.f b).2 (Or.inl q)⟩
  crash_off := by
    rintro w base n t d A S F a m c f ⟨⟨hA, hS⟩, s, h⟩ hB ha hm hc hF
    refine (Sk.store_ok.crash_off h hB ha hm hc hF).mono ?_
    rintro e w' ⟨F', e1, e2, e3⟩
    exact ⟨F', e1, e2.imp (fun q => ⟨hS, q⟩) fun q => ⟨hA, q⟩, e3⟩
  graph := by
    rintro w base n t d k A S g F ⟨kb, s, G, FZ, FT, FG, rfl, h⟩ hB
    exact graph_any h
  edges := by
    rintro w n v A ⟨G, lv, tr, rfl, hn, hok⟩
    refine (@Gr.gedges_any (inst every) w G A lv tr hok A.length rfl).mono ?_
    rintro e w' ⟨ad, c, e1, hb, hE, hf, h1, h2⟩
    refine ⟨ad, c, e1, ⟨fun i hi => ?_⟩, h1, h2, fun hne b o e => ?_, hb⟩
    · obtain ⟨b, e, q1, q2⟩ := hE.cell i hi
      exact ⟨b, 0, e, by rw [Nat.zero_add]; exact q1, by rw [Nat.zero_add]; exact q2⟩
    · obtain ⟨b', e', q1, -⟩ := hE.cell 0 (List.length_pos_iff.2 hne)
      rw [e] at e'
      simp only [Option.some.injEq, Addr.mk.injEq, and_true] at e'
      obtain ⟨rfl, rfl⟩ := e'
      exact ⟨hf b e, World.block_lt_of_cell? _ _ q1⟩

end Go.Proofs.YtcfemppdeidjmacGreat.Ds
