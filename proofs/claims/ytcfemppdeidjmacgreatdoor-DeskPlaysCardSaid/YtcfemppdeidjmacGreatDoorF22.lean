/-
  The landed desk: a graph of edges; what each event does to a graph; answers told.
  The landed desk: answers are told, an event is done.
  The landed desk in memory: what it stands on.
-/
import Derived.Test.YtcfemppdeidjmacGreatDoorF8
import Derived.Test.YtcfemppdeidjmacGreatDoorF21
import Derived.Test.YtcfemppdeidjmacGreatDoorF20
import Derived.Test.YtcfemppdeidjmacGreatDoorF17
import Derived.Test.YtcfemppdeidjmacGreatDoorF15
import Derived.Test.YtcfemppdeidjmacGreatDoorF18
namespace Go.Proofs.YtcfemppdeidjmacGreatDoor.Ds
open Go.RowKit Go.Deep
open Go.RowKit (Below)
set_option linter.unusedVariables false
set_option linter.unusedSectionVars false

variable {w w' wr : World} {A B P Q : List (Nat × Nat)} {n N : Nat}

/-- Edges as a graph has them. -/
structure Sound (n : Nat) (A : List (Nat × Nat)) : Prop where
  fine : Fine n A
  less : ∀ e ∈ A, e.1 < e.2

/-- One edge more of the list, put. -/
theorem take_put (h : Sound n A) {j : Nat} (hj : j < A.length) {u v : Nat} (he : A.getD j (0, 0) = (u, v)) : u < v ∧ u < n ∧ v < n ∧ (u, v) ∉ A.take j ∧ (A.take j).length < 200 ∧ (∀ P Q, A.take j = P ++ Q → Rises (P ++ (u, v) :: Q) → A.take (j + 1) = P ++ (u, v) :: Q) := by
  have e0 : A[j] = (u, v) := by
    rw [List.getD_eq_getElem?_getD, List.getElem?_eq_getElem hj] at he
    exact he
  have e1 : A.take (j + 1) = A.take j ++ [(u, v)] := by rw [List.take_add_one, List.getElem?_eq_getElem hj, e0]; rfl
  have hm : (u, v) ∈ A := e0 ▸ List.getElem_mem hj
  have h1 := h.less _ hm
  have h2 := h.fine.among _ hm
  have hu : Br.Up (A.take (j + 1)) := h.fine.up.sublist (List.take_sublist _ _)
  refine ⟨h1, h2.1, h2.2, fun q => ?_, ?_, fun P Q e hr => ?_⟩
  · rw [e1] at hu
    have := (List.pairwise_append.1 hu).2.2 _ q _ List.mem_cons_self
    omega
  · have := h.fine.len
    rw [List.length_take]
    omega
  · refine up_one hu hr ?_
    rw [e1, e]
    exact (List.perm_append_comm (l₁ := P ++ Q) (l₂ := [(u, v)])).trans (show ((u, v) :: (P ++ Q)).Perm (P ++ (u, v) :: Q) from List.perm_middle.symm)

variable [Inhabited Zed]

set_option maxRecDepth 100000 in
set_option maxHeartbeats 8000000 in
/-- A graph of such edges. -/
theorem graphof_any {a : Option Addr} {c : Nat} (hE : Br.EdgesAt w a A) (hN : A.length = N) (hS : Sound n A) (hz : Zok w) :
    Calls Tryz.prog 29 #[.int .i64 (n : Nat), .slice a N c] w fun e w' => ∃ G : Gr.GPl, e = .returned (.tuple #[.pointer (some ⟨G.g, 0, none⟩), .nilIface]) ∧ (∃ (lv : Nat × Nat → Nat) (tr : Nat × Nat → Bool), Gr.GOk w' G A lv tr) ∧ G.n = n ∧ (∀ b, Gr.GAll G b → w.heap.size ≤ b) ∧ Below w.heap.size w w' := by
  have hnew := Gr.gnew_any n hS.fine.n1 hS.fine.n60 hz
  have HE : Hid (Br.EdgesAt w a A ∧ A.length = N ∧ Sound n A ∧ N ≤ 200) := ⟨hE, hN, hS, hN ▸ hS.fine.len⟩
  clear hE hN hS hz
  go_enter Tryz.func29, Tryz.ntmps29
  go_wp2_with fail
  refine hnew.mono ?_
  rintro e w1 ⟨G, rfl, hb, hok, hn, hF⟩
  have H1 : Hid (Below w.heap.size w w1 ∧ Gr.GOk w1 G [] (fun _ => 0) (fun _ => false) ∧ G.n = n ∧ ∀ b, Gr.GAll G b → w.heap.size ≤ b) := ⟨hb, hok, hn, hF⟩
  clear hb hok hn hF hnew
  go_wp2_with fail
  go_loopw [21] (fun i wr => ∃ j : Nat, j ≤ N ∧ i = .int .i64 (j : Nat) ∧ (∃ lv tr, Gr.GOk wr G (A.take j) lv tr) ∧ Below w.heap.size w wr) (fun i _ => N - (intOf i).toNat)
  case atStart => exact ⟨0, Nat.zero_le _, rfl, ⟨_, _, H1.out.2.1⟩, H1.out.1⟩
  case round =>
    obtain ⟨j, hj, rfl, ⟨lv, tr, hok⟩, hb⟩ := hrel
    have HL : Hid (Gr.GOk wr G (A.take j) lv tr ∧ Below w.heap.size w wr) := ⟨hok, hb⟩
    clear hok hb
    by_cases hlt : j < N
    · obtain ⟨bl, o, rfl, q0, q1⟩ := HE.out.1.cell j (by rw [HE.out.2.1]; exact hlt)
      obtain ⟨u, v, huv⟩ : ∃ u v, A.getD j (0, 0) = (u, v) := ⟨_, _, rfl⟩
      rw [huv] at q0 q1
      replace q0 := Br.cell_keep HL.out.2 q0
      replace q1 := Br.cell_keep HL.out.2 q1
      have HT : Hid (u < v ∧ u < n ∧ v < n ∧ (u, v) ∉ A.take j ∧ (A.take j).length < 200 ∧ (∀ P Q, A.take j = P ++ Q → Rises (P ++ (u, v) :: Q) → A.take (j + 1) = P ++ (u, v) :: Q)) := take_put HE.out.2.2.1 (by rw [HE.out.2.1]; exact hlt) huv
      clear huv
      have i0 : (0 : Int) ≤ (j : Int) := by omega
      have i1 : (j : Int) < (N : Int) := by omega
      have j5 : IntKind.i64.wrap ((j : Int) + 1) = (j : Int) + 1 := by rw [IntKind.wrap_i64]; have := HE.out.2.2.2; omega
      have hb1 : Below wr.heap.size wr (wr.alloc (.cells #[.int .i64 (u : Nat), .int .i64 (v : Nat)] 92)) := (Below.refl _ _).alloc (Nat.le_refl _) _
      have hg1 := HL.out.1.below hb1
      have g0 : (wr.alloc (.cells #[.int .i64 (u : Nat), .int .i64 (v : Nat)] 92)).cell? ⟨wr.heap.size, 0, none⟩ = some (.int .i64 (u : Nat)) := by simp
      have g1 : (wr.alloc (.cells #[.int .i64 (u : Nat), .int .i64 (v : Nat)] 92)).cell? ⟨wr.heap.size, 1, none⟩ = some (.int .i64 (v : Nat)) := by simp
      obtain ⟨Wl, hWl⟩ : ∃ Wl, wr.alloc (.cells #[.int .i64 (u : Nat), .int .i64 (v : Nat)] 92) = Wl := ⟨_, rfl⟩
      obtain ⟨E, hE⟩ : ∃ E, wr.heap.size = E := ⟨_, rfl⟩
      rw [hWl] at hb1 hg1 g0 g1
      rw [hE] at g0 g1
      have hadd := Gr.add_any hg1 u v (by rw [H1.out.2.2.1]; exact HT.out.2.1) (by rw [H1.out.2.2.1]; exact HT.out.2.2.1) (by have := HT.out.1; omega) (by rw [Nat.min_eq_left (by have := HT.out.1; omega), Nat.max_eq_right (by have := HT.out.1; omega)]; exact HT.out.2.2.2.1) HT.out.2.2.2.2.1
      rw [Nat.min_eq_left (by have := HT.out.1; omega), Nat.max_eq_right (by have := HT.out.1; omega)] at hadd
      have HB1 : Hid (Below w.heap.size w Wl) := Br.below_step HL.out.2 hb1
      clear hb1 hg1
      go_wp2_with (first | rw [hWl, hE] | rw [hWl])
      refine hadd.mono ?_
      rintro e w2 ⟨rfl, t1, P, Q, tr', hPQ, hok⟩
      have H2 : Hid ((∃ lv tr, Gr.GOk w2 G (A.take (j + 1)) lv tr) ∧ Below w.heap.size w w2) := ⟨⟨_, _, by rw [HT.out.2.2.2.2.2 P Q hPQ hok.mem.rises]; exact hok⟩, t1.below HB1.out HB1.out.size fun k q => H1.out.2.2.2 k (Or.inl q)⟩
      clear hadd t1 hok hPQ g0 g1 q0 q1 hWl hE HL
      go_wp2_with fail
      go_roundw
      case rel => exact ⟨j + 1, by omega, by go_num, H2.out.1, H2.out.2⟩
      case measure => simp [intOf]; omega
    · obtain rfl : j = N := by omega
      have H2 : Hid (Gr.GOk wr G A lv tr) := by
        have := HL.out.1
        rw [List.take_of_length_le (by rw [HE.out.2.1]; exact Nat.le_refl _)] at this
        exact this
      have i1 : ¬ (j : Int) < (j : Int) := by omega
      go_wp2_with fail
      go_ret2
      exact ⟨G, rfl, ⟨lv, tr, H2.out⟩, H1.out.2.2.1, H1.out.2.2.2, HL.out.2⟩

set_option maxRecDepth 100000 in
set_option maxHeartbeats 2000000 in
theorem anew_any {kb : Nat} {a : Option Addr} {c : Nat} (h0 : w.cell? ⟨kb, 0, none⟩ = some (.int .i64 (n : Nat))) (hE : Br.EdgesAt w a A) (hN : A.length = N) (hS : Sound n A) (hz : Zok w) :
    Calls Tryz.prog 38 #[.pointer (some ⟨kb, 0, none⟩), .slice a N c] w fun e w' => ∃ G : Gr.GPl, e = .returned (.pointer (some ⟨G.g, 0, none⟩)) ∧ (∃ (lv : Nat × Nat → Nat) (tr : Nat × Nat → Bool), Gr.GOk w' G A lv tr) ∧ G.n = n ∧ (∀ b, Gr.GAll G b → w.heap.size ≤ b) ∧ Below w.heap.size w w' := by
  have hg := graphof_any (c := c) hE hN hS hz
  clear hE hN hS hz
  go_enter Tryz.func38, Tryz.ntmps38
  go_wp2_with fail
  refine hg.mono ?_
  rintro e w1 ⟨G, rfl, h⟩
  have H : Hid ((∃ (lv : Nat × Nat → Nat) (tr : Nat × Nat → Bool), Gr.GOk w1 G A lv tr) ∧ G.n = n ∧ (∀ b, Gr.GAll G b → w.heap.size ≤ b) ∧ Below w.heap.size w w1) := h
  clear hg h h0
  go_wp2_with fail
  go_ret
  exact ⟨G, rfl, H.out⟩

end Go.Proofs.YtcfemppdeidjmacGreatDoor.Ds

namespace Go.Proofs.YtcfemppdeidjmacGreatDoor.Ds
open Go.RowKit Go.Deep
open Go.RowKit (Below)
set_option linter.unusedVariables false
set_option linter.unusedSectionVars false

variable {w w' wr : World} {A B P Q : List (Nat × Nat)} {n N base ab E E2 : Nat} {v : Value} {out : List Bool} {x a b : Int} {g : Option Addr}

/-- Answers that are told: the variable's cell, and the row of one's own. -/
structure Tl (base ab : Nat) (v : Value) (out : List Bool) (w : World) : Prop where
  row : w.rowIs ab 42 1 (fun _ => v)
  own : w.ownsRow base 4 1 v out.length (As.bools out)
  ab : ab < base
  top : base ≤ w.heap.size

theorem Tl.keep (h : Tl base ab v out w) (hs : w.heap.size ≤ w'.heap.size) (h1 : w'.heap[ab]? = w.heap[ab]?) (h2 : ∀ k, v.ownBlock = some k → w'.heap[k]? = w.heap[k]?) : Tl base ab v out w' := by
  refine ⟨h.row.of_block h1, ⟨h.own.1, ?_⟩, h.ab, Nat.le_trans h.top hs⟩
  rcases h.own.2 with h0 | ⟨g, cap, cur, hv, q1, q2, q3⟩
  · exact Or.inl h0
  · exact Or.inr ⟨g, cap, cur, hv, q1, (h2 g (by rw [hv]; rfl)).trans q2, q3⟩
theorem Tl.below (h : Tl base ab v out w) (hb : Below w.heap.size w w') : Tl base ab v out w' :=
  h.keep hb.size (hb.block _ h.row.lt) fun k e => hb.block k (h.own.lt k e).2
theorem Tl.start (w : World) : Tl (w.heap.size + 1) w.heap.size (.slice none 0 0) [] (w.alloc (.cells #[.slice none 0 0] 42)) :=
  ⟨World.rowIs_alloc w _ 42 _ fun i hi => by
    obtain rfl : i = 0 := by simpa using hi
    rfl, World.ownsRow_nil .., Nat.lt_succ_self _, by simp⟩

theorem Tryz.infoBoolT : (Tryz.prog.info? 4).map (fun i => (i.zero, i.size, i.bytes)) = some (some (.bool false), 1, 1) := by kernel_rfl

set_option maxRecDepth 100000 in
set_option maxHeartbeats 4000000 in
theorem tell_any (h : Tl base ab v out w) (hl : out.length ≤ 200) (q : Bool) : Calls Tryz.prog 36 #[.bool q, .pointer (some ⟨ab, 0, none⟩)] w fun e w' => ∃ v', e = .returned (.tuple #[]) ∧ Tl base ab v' (out ++ [q]) w' ∧ Gr.Turns (fun b => b = ab ∨ v.ownBlock = some b) w w' := by
  obtain ⟨z0, hi0, hz0, hz1, hz2⟩ := info_parts Tryz.infoBoolT
  have HT : Hid (Tl base ab v out w) := h
  have c0 : w.cell? ⟨ab, 0, none⟩ = some v := h.row.cell (i := 0) (by omega)
  have f0 := h.row.frozen 0
  have hab : ab < w.heap.size := h.row.lt
  have hfr : ∀ k, v.ownBlock = some k → ab ≠ k := fun k e q => by have := (h.own.lt k e).1; have := h.ab; omega
  obtain ⟨M, hM⟩ : ∃ M, out.length = M := ⟨_, rfl⟩
  have HM : Hid (out.length = M) := hM
  have hown := h.own
  rw [hM] at hown hl
  have htop := h.top
  have hcn : ∀ i u, [Value.bool q][i]? = some u → (w.alloc (.cells #[.bool q] 4)).cell? (Addr.add ⟨w.heap.size, 0, none⟩ i) = some u := fun i u hi => by
    match i, hi with
    | 0, hi => cases hi; simp [Addr.add]
  clear h hM
  go_enter Tryz.func36, Tryz.ntmps36
  go_wp2_with (first
    | (at_builtin; refine wpList_append_lies _ rfl (.tmp 3) (.tmp 5) 42 rfl base 4 z0 (.bool false) 1 1 Tryz.underlying42 hi0 hz0 hz1 hz2 rfl (by decide) v M (As.bools out) rfl (hown.alloc _) ⟨w.heap.size, 0, none⟩ 1 1 [.bool q] rfl rfl hcn ?c2 (by decide) ?c3 ?c4 ?c5 _ rfl ?_))
  case c2 => simp [Value.oneCell']
  case c3 => unfold maxLen; omega
  case c4 => omega
  case c5 => simp; omega
  intro g1 cap1 w3 hown3 hgrow hat hlt3
  have hb1 : Below w.heap.size w (w.alloc (.cells #[.bool q] 4)) := (Below.refl _ _).alloc (Nat.le_refl _) _
  have hr3 : w3.rowIs ab 42 1 (fun _ => v) := (HT.out.row.of_block (hb1.block _ hab)).of_block (hgrow.block ab (by simp; omega) fun e => hfr ab e.symm rfl)
  have c3 : w3.cell? ⟨ab, 0, none⟩ = some v := hr3.cell (i := 0) (by omega)
  have f3 := hr3.frozen 0
  have HX : Hid (Tl base ab (.slice (some ⟨g1, 0, none⟩) (M + 1) cap1) (out ++ [q]) (w3.setCell ⟨ab, 0, none⟩ (.slice (some ⟨g1, 0, none⟩) (M + 1) cap1)) ∧ Gr.Turns (fun b => b = ab ∨ v.ownBlock = some b) w (w3.setCell ⟨ab, 0, none⟩ (.slice (some ⟨g1, 0, none⟩) (M + 1) cap1))) := by
    have hs3 : w.heap.size ≤ w3.heap.size := Nat.le_trans hb1.size hgrow.size
    have hset : ∀ k, k ≠ ab → (w3.setCell ⟨ab, 0, none⟩ (.slice (some ⟨g1, 0, none⟩) (M + 1) cap1)).heap[k]? = w3.heap[k]? := fun k hk => Below.heap_setCell _ _ _ _ hk
    have hss : (w3.setCell ⟨ab, 0, none⟩ (.slice (some ⟨g1, 0, none⟩) (M + 1) cap1)).heap.size = w3.heap.size := by simp [World.setCell]
    refine ⟨⟨(hr3.set 0 _).congr fun i hi => ?_, ?_, HT.out.ab, ?_⟩, ⟨hgrow.os, hgrow.tape, hgrow.output, by omega, fun k hk hn => ?_⟩⟩
    · obtain rfl : i = 0 := by omega
      rfl
    · rw [List.length_append, HM.out, show As.bools (out ++ [q]) = As.bools out ++ [.bool q] by simp [As.bools]]
      refine ⟨hown3.1, ?_⟩
      rcases hown3.2 with h0 | ⟨g, cap, cur, hv, q1, q2, q3⟩
      · exact Or.inl h0
      · exact Or.inr ⟨g, cap, cur, hv, q1, (hset g (by have := HT.out.ab; omega)).trans q2, q3⟩
    · omega
    · rw [hset k (fun e => hn (Or.inl e)), hgrow.block k (by simp; omega) (fun e => hn (Or.inr e.symm)), hb1.block k hk]
  clear hown3 hgrow hat hlt3 hb1 hr3
  go_wp2_with fail
  go_end0
  exact ⟨_, rfl, HX.out⟩

set_option maxRecDepth 100000 in
theorem deed1_any {R : Value → World → Prop} (c1 : w.cell? ⟨E, 1, none⟩ = some (.int .i64 a)) (c2 : w.cell? ⟨E, 2, none⟩ = some (.int .i64 b)) (h : Calls Tryz.prog 51 #[.pointer g, .int .i64 a, .int .i64 b] w fun e w' => ∃ v, e = .returned v ∧ R v w') :
    Calls Tryz.prog 53 #[.pointer g, .pointer (some ⟨E, 0, none⟩)] w fun e w' => ∃ v, e = .returned v ∧ R v w' := by
  go_enter Tryz.func53, Tryz.ntmps53
  go_wp2_with fail
  refine h.mono ?_
  rintro e w1 ⟨v, rfl, hr⟩
  have HR : Hid (R v w1) := hr
  clear h hr c1 c2
  go_wp2_with fail
  go_ret
  exact ⟨v, rfl, HR.out⟩

set_option maxRecDepth 100000 in
theorem deed2_any {R : Value → World → Prop} (c1 : w.cell? ⟨E, 1, none⟩ = some (.int .i64 a)) (c2 : w.cell? ⟨E, 2, none⟩ = some (.int .i64 b)) (h : Calls Tryz.prog 55 #[.pointer g, .int .i64 a, .int .i64 b] w fun e w' => ∃ v, e = .returned v ∧ R v w') :
    Calls Tryz.prog 54 #[.pointer g, .pointer (some ⟨E, 0, none⟩)] w fun e w' => ∃ v, e = .returned v ∧ R v w' := by
  go_enter Tryz.func54, Tryz.ntmps54
  go_wp2_with fail
  refine h.mono ?_
  rintro e w1 ⟨v, rfl, hr⟩
  have HR : Hid (R v w1) := hr
  clear h hr c1 c2
  go_wp2_with fail
  go_ret
  exact ⟨v, rfl, HR.out⟩

variable [Inhabited Zed]

/-- The function that tells answers. -/
def tellf (ab : Nat) : Value := .func (.func 36) #[] #[.pointer (some ⟨ab, 0, none⟩)]

set_option maxRecDepth 100000 in
set_option maxHeartbeats 1000000 in
theorem deed3_any {R : Bool → Value → Prop} (c1 : w.cell? ⟨E, 1, none⟩ = some (.int .i64 a)) (c2 : w.cell? ⟨E, 2, none⟩ = some (.int .i64 b)) (c3 : w.cell? ⟨E2, 0, none⟩ = some (tellf ab)) (ht : Tl base ab v out w) (hl : out.length ≤ 200)
    (h : Calls Tryz.prog 57 #[.pointer g, .int .i64 a, .int .i64 b] w fun e w' => ∃ q x, e = .returned (.tuple #[.bool q, x]) ∧ R q x ∧ Below w.heap.size w w') :
    Calls Tryz.prog 56 #[.pointer g, .pointer (some ⟨E, 0, none⟩), .pointer (some ⟨E2, 0, none⟩)] w fun e w' => ∃ x q v', e = .returned x ∧ R q x ∧ Tl base ab v' (out ++ [q]) w' ∧ Gr.Turns (fun b => b = ab ∨ v.ownBlock = some b) w w' := by
  have HT : Hid (Tl base ab v out w ∧ out.length ≤ 200) := ⟨ht, hl⟩
  clear ht hl
  unfold tellf at c3
  go_enter Tryz.func56, Tryz.ntmps56
  go_wp2_with fail
  refine h.mono ?_
  rintro e w1 ⟨q, x, rfl, hr, hb⟩
  have HR : Hid (R q x ∧ Below w.heap.size w w1) := ⟨hr, hb⟩
  have d3 := Br.cell_keep hb c3
  clear h hr hb c1 c2 c3
  go_wp2_with fail
  refine (tell_any (HT.out.1.below HR.out.2) HT.out.2 q).mono ?_
  rintro e w2 ⟨v', rfl, h1, h2⟩
  have H2 : Hid (Tl base ab v' (out ++ [q]) w2 ∧ Gr.Turns (fun b => b = ab ∨ v.ownBlock = some b) w w2) := ⟨h1, (Gr.Turns.of_below HR.out.2).trans h2⟩
  clear h1 h2 d3
  go_wp2_with fail
  go_ret
  exact ⟨x, q, v', rfl, HR.out.1, H2.out⟩

theorem deed4_any : Calls Tryz.prog 58 #[.pointer g] w fun e w' => e = .returned (.iface 28 (.int .i64 1)) ∧ w' = w := by
  go_enter Tryz.func58, Tryz.ntmps58
  go_wp2_with fail
  go_ret
  exact ⟨rfl, rfl⟩

/-- What an event does. -/
def deedf (x : Int) (E E2 : Nat) : Value :=
  if x = 1 then .func (.func 53) #[] #[.pointer (some ⟨E, 0, none⟩)] else if x = 2 then .func (.func 54) #[] #[.pointer (some ⟨E, 0, none⟩)] else if x = 3 then .func (.func 56) #[] #[.pointer (some ⟨E, 0, none⟩), .pointer (some ⟨E2, 0, none⟩)] else .func (.func 58) #[] #[]

set_option maxRecDepth 100000 in
set_option maxHeartbeats 1000000 in
theorem deed_any (ab : Nat) : Calls Tryz.prog 37 #[.agg #[.int .i64 x, .int .i64 a, .int .i64 b], tellf ab] w fun e w' => e = .returned (deedf x w.heap.size (w.heap.size + 1)) ∧ w' = (w.alloc (.cells #[.int .i64 x, .int .i64 a, .int .i64 b] 56)).alloc (.cells #[tellf ab] 83) := by
  unfold deedf tellf
  by_cases h1 : x = 1
  · subst h1
    go_enter Tryz.func37, Tryz.ntmps37
    go_wp2_with fail
    go_ret
    exact ⟨rfl, rfl⟩
  · rw [if_neg h1]
    by_cases h2 : x = 2
    · subst h2
      go_enter Tryz.func37, Tryz.ntmps37
      go_wp2_with fail
      go_ret
      exact ⟨by simp, rfl⟩
    · rw [if_neg h2]
      by_cases h3 : x = 3
      · subst h3
        go_enter Tryz.func37, Tryz.ntmps37
        go_wp2_with fail
        go_ret
        exact ⟨by simp, rfl⟩
      · rw [if_neg h3]
        have e1 : (x == (1 : Int)) = false := by rw [beq_eq_false_iff_ne]; exact h1
        have e2 : (x == (2 : Int)) = false := by rw [beq_eq_false_iff_ne]; exact h2
        have e3 : (x == (3 : Int)) = false := by rw [beq_eq_false_iff_ne]; exact h3
        go_enter Tryz.func37, Tryz.ntmps37
        go_wp2_with fail
        go_ret
        exact ⟨rfl, rfl⟩

end Go.Proofs.YtcfemppdeidjmacGreatDoor.Ds

namespace Go.Proofs.YtcfemppdeidjmacGreatDoor.Ds
open Go.RowKit Go.Deep

open Go.RowKit (Below)
set_option linter.unusedVariables false

variable {w w' : World} {A A' S : List (Nat × Nat)} {n t B N kb : Nat} {G G' : Gr.GPl} {FT FT' FG FG' FZ F Y : Nat → Prop} {d s : Value} {g : Option Nat} {lv : Nat × Nat → Nat} {tr : Nat × Nat → Bool}

/-- A graph that stands on some blocks alone. -/
structure Gx (w : World) (n : Nat) (G : Gr.GPl) (A : List (Nat × Nat)) (FT F : Nat → Prop) : Prop where
  ok : ∃ lv tr, @Gr.GOk (inst ⟨FT, w.heap.size⟩) w G A lv tr
  n : G.n = n
  f : ∀ b, F b ↔ Gr.GAll G b ∨ FT b
  lt : ∀ b, FT b → b < w.heap.size

theorem Gx.own (h : Gx w n G A FT F) : ∀ b, F b → b < w.heap.size := fun b q => by
  obtain ⟨lv, tr, hok⟩ := h.ok
  exact ((h.f b).1 q).elim (Gr.gall_lt hok b) (h.lt b)

theorem Gx.keep (h : Gx w n G A FT F) (hs : w.heap.size ≤ w'.heap.size) (hF : ∀ b, F b → w'.heap[b]? = w.heap[b]?) : Gx w' n G A FT F := by
  obtain ⟨lv, tr, hok⟩ := h.ok
  refine ⟨⟨lv, tr, Gr.gok_other hok ⟨fun b hb ht hz => ?_, Nat.le_refl _⟩ fun b hb => hF b ((h.f b).2 (Or.inl hb))⟩, h.n, h.f, fun b hb => Nat.lt_of_lt_of_le (h.lt b hb) hs⟩
  rcases hz with q | q
  · exact ⟨hF b ((h.f b).2 (Or.inr q)), Or.inl q⟩
  · exact absurd hb (Nat.not_lt.2 q)

/-- So does a graph behind what was done. -/
theorem Gx.make (hok : @Gr.GOk (inst ⟨FT, N⟩) w G A lv tr) (hn : G.n = n) (hs : w.heap.size ≤ w'.heap.size) (hG : ∀ b, Gr.GAll G b → w'.heap[b]? = w.heap[b]?)
    (hT : ∀ b, b < w.heap.size → (Tag w b 230 ∨ Tag w b 227) → FT b ∨ N ≤ b → w'.heap[b]? = w.heap[b]? ∧ FT' b) (hlt : ∀ b, FT' b → b < w'.heap.size) : Gx w' n G A FT' (fun b => Gr.GAll G b ∨ FT' b) :=
  ⟨⟨lv, tr, Gr.gok_other hok ⟨fun b hb ht hz => ⟨(hT b hb ht hz).1, Or.inl (hT b hb ht hz).2⟩, Nat.le_refl _⟩ hG⟩, hn, fun b => Iff.rfl, hlt⟩

theorem Gx.sound (h : Gx w n G A FT F) : Sound n A := by
  obtain ⟨lv, tr, hok⟩ := h.ok
  obtain ⟨hm, hl⟩ := hok
  obtain ⟨st, mp, row, tag, fo, ln, h1, h2, h3, h4, h5, h6, h7, h8, h9⟩ := hm
  rw [h.n] at h4 h5 h7
  exact ⟨⟨h6, h9, h7, h4, h5⟩, h8⟩

/-- Edges as bytes. -/
def enc (n : Nat) (A : List (Nat × Nat)) : List UInt8 := Nt.bt n A.length (Br.fn A) A.length
theorem enc_len (n : Nat) (A : List (Nat × Nat)) : (enc n A).length = 2 + 2 * A.length := Nt.bt_len _
theorem Sound.valid (h : Sound n A) : Br.Valid (n : Nat) A.length (Br.fn A) :=
  ⟨⟨by have := h.fine.n1; omega, by have := h.fine.n60; omega⟩, h.fine.len, by
    rw [Int.toNat_natCast]
    exact Br.fn_may h.fine.up fun e he => ⟨h.less e he, (h.fine.among e he).2⟩⟩
theorem Sound.few (h : Sound n A) : (enc n A).length ≤ 960 := by
  rw [enc_len]
  have := h.fine.len
  omega
theorem sound_none (h1 : 1 ≤ n) (h2 : n ≤ 60) : Sound n [] := ⟨⟨List.Pairwise.nil, by simp, fun e he => absurd he (by simp), h1, h2⟩, fun e he => absurd he (by simp)⟩

/-- A desk's own cells. -/
def dc (n g : Nat) (s : Value) : Nat → Value := fun i => if i = 0 then .int .i64 (n : Nat) else if i = 1 then .pointer (some ⟨g, 0, none⟩) else s

/-- An open desk. -/
structure Kx (w : World) (B : Nat) (d : Value) (n kb : Nat) (s : Value) (G : Gr.GPl) (A S : List (Nat × Nat)) (t : Nat) (g : Option Nat) (FZ FT FG F : Nat → Prop) : Prop where
  st : Sk.face.on w B d 62 s (enc n S) t g FZ
  row : w.rowIs kb 77 3 (dc n G.g s)
  gx : Gx w n G A FT FG
  sound : Sound n S
  kb1 : B ≤ kb
  fg : ∀ b, FG b → B ≤ b
  ap : ∀ b, FZ b → ¬ FG b ∧ b ≠ kb
  kg : ¬ FG kb
  f : ∀ b, F b ↔ FZ b ∨ FG b ∨ b = kb

theorem Kx.keep (h : Kx w B d n kb s G A S t g FZ FT FG F) (hs : w.heap.size ≤ w'.heap.size) (hF : ∀ b, F b → w'.heap[b]? = w.heap[b]?) : Kx w' B d n kb s G A S t g FZ FT FG F :=
  { h with
    st := Sk.store_ok.on_keep h.st hs fun b q => hF b ((h.f b).2 (Or.inl q))
    row := h.row.of_block (hF kb ((h.f kb).2 (Or.inr (Or.inr rfl))))
    gx := h.gx.keep hs fun b q => hF b ((h.f b).2 (Or.inr (Or.inl q))) }

theorem Kx.own (h : Kx w B d n kb s G A S t g FZ FT FG F) : ∀ b, F b → B ≤ b ∧ b < w.heap.size := fun b q => by
  rcases (h.f b).1 q with q | q | rfl
  · exact Sk.store_ok.on_own h.st b q
  · exact ⟨h.fg b q, h.gx.own b q⟩
  · exact ⟨h.kb1, h.row.lt⟩

/-- The graph has turned, or there is another. -/
theorem Kx.after (h : Kx w B d n kb s G A S t g FZ FT FG F) (ht : Gr.Turns (fun b => FG b ∨ b = kb) w w') (hr : w'.rowIs kb 77 3 (dc n G'.g s)) (hg : Gx w' n G' A' FT' FG') (hFG : ∀ b, FG' b → FG b ∨ w.heap.size ≤ b) :
    ∃ F', Kx w' B d n kb s G' A' S t g FZ FT' FG' F' ∧ Sk.Stands w F w' F' ∧ ∀ b, F' b → FZ b ∨ FG' b ∨ b = kb := by
  have hFS : ∀ b, FZ b → b < w.heap.size := fun b q => (Sk.store_ok.on_own h.st b q).2
  have hB : B ≤ w.heap.size := Nat.le_trans h.kb1 (Nat.le_of_lt h.row.lt)
  refine ⟨fun b => FZ b ∨ FG' b ∨ b = kb, ⟨Sk.store_ok.on_keep h.st ht.size fun b q => ht.block b (hFS b q) fun z => z.elim (h.ap b q).1 (h.ap b q).2, hr, hg, h.sound, h.kb1, fun b q => ?_, fun b q => ⟨fun z => ?_, (h.ap b q).2⟩, fun q => ?_, fun b => Iff.rfl⟩, ⟨fun b q => ?_, ⟨ht.os, ht.tape, ht.output, ht.size, fun k hk hn => ht.block k hk fun q => hn ((h.f k).2 (Or.inr q))⟩⟩, fun b q => q⟩
  · exact (hFG b q).elim (h.fg b) fun z => by omega
  · exact (hFG b z).elim (h.ap b q).1 fun y => by have := hFS b q; omega
  · exact (hFG kb q).elim h.kg fun y => by have := h.row.lt; omega
  · rcases q with q | q | q
    · exact Or.inl ((h.f b).2 (Or.inl q))
    · exact (hFG b q).imp (fun z => (h.f b).2 (Or.inr (Or.inl z))) id
    · exact Or.inl ((h.f b).2 (Or.inr (Or.inr q)))

/-- The landed desk's face. -/
def deskF : DFace where
  raw w B d F := Sk.face.raw w B d 62 F
  kept w B d n A t F := Sound n A ∧ Sk.face.kept w B d 62 (enc n A) t F
  on w B d n k A S t g F := ∃ (kb : Nat) (s : Value) (G : Gr.GPl) (FZ FT FG : Nat → Prop), k = .pointer (some ⟨kb, 0, none⟩) ∧ Kx w B d n kb s G A S t g FZ FT FG F
  off w B d n A S t F := (Sound n A ∧ Sound n S) ∧ ∃ s, Sk.face.off w B d 62 s (enc n S) t (enc n A) F
  gr w v n A := ∃ (G : Gr.GPl) (lv : Nat × Nat → Nat) (tr : Nat × Nat → Bool), v = .pointer (some ⟨G.g, 0, none⟩) ∧ G.n = n ∧ @Gr.GOk (inst every) w G A lv tr

end Go.Proofs.YtcfemppdeidjmacGreatDoor.Ds
