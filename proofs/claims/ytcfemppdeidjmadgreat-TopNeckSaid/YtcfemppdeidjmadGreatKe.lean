/-
  grow of package span: from the lightest edge on, each that joins something new is told to a closure, whatever closure that is.
-/
import Derived.Test.YtcfemppdeidjmadGreatKd
namespace Go.Proofs.YtcfemppdeidjmadGreat.Sp
open Go.RowKit Go.Deep
set_option linter.unusedVariables false

variable {m n : Nat} {ed : Nat → Nat × Nat} {wt : Nat → Nat} {t : Nat → Bool}

/-- A list lies in no block of these. -/
def Off (a : Option Addr) (m : Nat) (C : Nat → Prop) : Prop := ∀ b o, a = some ⟨b, o, none⟩ → 0 < m → ¬ C b

theorem HvAt.lt {w : World} {a : Option Addr} (h : HvAt w a m ed wt) {b o : Nat} (e : a = some ⟨b, o, none⟩) (hm : 0 < m) : b < w.heap.size := by
  obtain ⟨b', o', e', h1, _⟩ := h 0 hm
  rw [e] at e'
  simp only [Option.some.injEq, Addr.mk.injEq, and_true] at e'
  have := World.block_lt_of_cell? _ _ h1
  simp only at this
  omega

theorem HvAt.moves {w w' : World} {a : Option Addr} {C C' : Nat → Prop} (h : HvAt w a m ed wt) (hm : Un.Moves C w w' C') (ho : Off a m C) : HvAt w' a m ed wt := fun i hi => by
  obtain ⟨b, o, e, h1, h2, h3⟩ := h i hi
  have hb := hm.block b (h.lt e (by omega)) (ho b o e (by omega))
  exact ⟨b, o, e, (World.cell?_of_block (w := w) (a := ⟨b, _, none⟩) hb).trans h1, (World.cell?_of_block (w := w) (a := ⟨b, _, none⟩) hb).trans h2, (World.cell?_of_block (w := w) (a := ⟨b, _, none⟩) hb).trans h3⟩

theorem Off.moves {w w' : World} {a : Option Addr} {C C' : Nat → Prop} (ho : Off a m C) (h : HvAt w a m ed wt) (hm : Un.Moves C w w' C') : Off a m C' := fun b o e h0 hc => by
  rcases hm.foot b hc with h1 | h1
  · exact ho b o e h0 h1
  · have := h.lt e h0; omega

/-- What is done to other blocks, all of them new, leaves the rest. -/
theorem under {C0 C F F' : Nat → Prop} {w0 w w' : World} (h : Un.Moves C0 w0 w C) (hm : Un.Moves F w w' F') (hF : ∀ k, F k → w0.heap.size ≤ k) : Un.Moves C0 w0 w' C :=
  ⟨hm.os.trans h.os, hm.tape.trans h.tape, hm.output.trans h.output, Nat.le_trans h.size hm.size, fun k hk hn => (hm.block k (Nat.lt_of_lt_of_le hk h.size) (fun hf => by have := hF k hf; omega)).trans (h.block k hk hn), h.foot⟩

def edI (ed : Nat → Nat × Nat) (k : Nat) : Int × Int := (((ed k).1 : Nat), ((ed k).2 : Nat))

/-- Parts that the first edges make, told by links. -/
theorem gen_conn (ha : ∀ k, k < m → (ed k).1 < n ∧ (ed k).2 < n) {P : List Nat} (hP : ∀ k ∈ P, k < m) {L : List (Nat × Nat)} (h : Gen n (P.map (edI ed)).reverse L) (i j : Nat) : rt L i = rt L j ↔ Conn (P.map ed) i j := by
  refine h.conn (fun a b => ?_) i j
  have key : ∀ a b : Nat, ((a : Int), (b : Int)) ∈ (P.map (edI ed)).reverse ↔ (a, b) ∈ P.map ed := fun a b => by
    rw [List.mem_reverse, List.mem_map, List.mem_map]
    constructor
    · rintro ⟨k, hk, e⟩
      simp only [edI, Prod.mk.injEq, Int.natCast_inj] at e
      exact ⟨k, hk, Prod.ext e.1 e.2⟩
    · rintro ⟨k, hk, e⟩
      exact ⟨k, hk, by rw [edI, e]⟩
  rw [key, key]
  constructor
  · exact fun h => h.2.2
  · intro h
    have hn : a < n ∧ b < n := by
      rcases h with h | h
      · obtain ⟨k, hk, e⟩ := List.mem_map.1 h
        have := ha k (hP k hk)
        rw [e] at this
        exact this
      · obtain ⟨k, hk, e⟩ := List.mem_map.1 h
        have := ha k (hP k hk)
        rw [e] at this
        exact ⟨this.2, this.1⟩
    exact ⟨hn.1, hn.2, h⟩

/-- What a closure that is told of edges keeps to. -/
structure Clos (n m : Nat) (ed : Nat → Nat × Nat) (t : Nat → Bool) (gf : Nat) (lb : Array Value) (Clo : List Nat → Bool → World → (Nat → Prop) → Prop) (G H : List Nat → Prop) : Prop where
  enters : ∀ args w, (callFunc gf args).run Tryz.prog w = .ok (.enter gf args) w
  lt : ∀ {l b w C}, Clo l b w C → ∀ k, C k → k < w.heap.size
  keep : ∀ {l b w w' C F F'}, Clo l b w C → Un.Moves F w w' F' → (∀ k, C k → ¬ F k) → Clo l b w' C
  start : G []
  skip : ∀ {P i}, G P → Conn (P.map ed) (ed i).1 (ed i).2 → G (P ++ [i])
  call : ∀ {P i w C base g F L}, P.length < m → i < m → t i = true → Clo (P.filter t) true w C → Un.UAt base n w g F L → (∀ k, C k → ¬ F k) → base ≤ w.heap.size → (∀ x y, rt L x = rt L y ↔ Conn ((P ++ [i]).map ed) x y) → G P →
    Calls Tryz.prog gf (#[.int .i64 ((i : Nat) : Int), .pointer (some ⟨g, 0, none⟩)] ++ lb) w fun e w' => ∃ b C', e = .returned (.bool b) ∧ Un.Moves C w w' C' ∧ Clo (P.filter t ++ [i]) b w' C' ∧ (b = true → G (P ++ [i])) ∧ (b = false → H (P ++ [i]))

/-- Where the loop of grow stands. -/
structure Grows (w0 w : World) (a : Option Addr) (g ko : Nat) (C0 : Nat → Prop) (o : List Nat) (n m : Nat) (ed : Nat → Nat × Nat) (wt : Nat → Nat) (t : Nat → Bool) (Clo : List Nat → Bool → World → (Nat → Prop) → Prop) (G : List Nat → Prop) (F C : Nat → Prop) (L : List (Nat × Nat)) (P : List Nat) : Prop where
  un : Un.UAt w0.heap.size n w g F L
  gen : Gen n (P.map (edI ed)).reverse L
  clo : Clo (P.filter t) true w C
  mv : Un.Moves C0 w0 w C
  apart : ∀ k, C k → ¬ F k
  new : ∀ k, F k → w0.heap.size ≤ k
  cells : ∀ i, i < m → w.cell? ⟨ko, i, none⟩ = some (.int .i64 (o.getD i 0 : Nat))
  lt : ko < w.heap.size
  offF : ¬ F ko
  offC : ¬ C ko
  hv : HvAt w a m ed wt
  offA : Off a m F
  offB : Off a m C
  good : G P

theorem Grows.below {w0 w w' : World} {a : Option Addr} {g ko : Nat} {C0 : Nat → Prop} {o : List Nat} {gf : Nat} {lb : Array Value} {Clo : List Nat → Bool → World → (Nat → Prop) → Prop} {G H : List Nat → Prop} {F C : Nat → Prop} {L : List (Nat × Nat)} {P : List Nat}
    (h : Grows w0 w a g ko C0 o n m ed wt t Clo G F C L P) (k : Clos n m ed t gf lb Clo G H) (hb : Below w.heap.size w w') : Grows w0 w' a g ko C0 o n m ed wt t Clo G F C L P :=
  ⟨h.un.below hb, h.gen, k.keep h.clo (Un.Moves.of_below (F := fun _ => False) hb) (fun _ _ h => h), under h.mv (Un.Moves.of_below (F := fun _ => False) hb) (fun _ h => h.elim), h.apart, h.new, fun i hi => Un.cell_keep hb (h.cells i hi), Nat.lt_of_lt_of_le h.lt hb.size, h.offF, h.offC, h.hv.below hb, h.offA, h.offB, h.good⟩

/-- Behind a Join: another union, all else as it was. -/
theorem Grows.joined {w0 w w' : World} {a : Option Addr} {g ko : Nat} {C0 : Nat → Prop} {o : List Nat} {gf : Nat} {lb : Array Value} {Clo : List Nat → Bool → World → (Nat → Prop) → Prop} {G H : List Nat → Prop} {F C F' : Nat → Prop} {L L' : List (Nat × Nat)} {P : List Nat} {i : Nat}
    (h : Grows w0 w a g ko C0 o n m ed wt t Clo G F C L P) (k : Clos n m ed t gf lb Clo G H) (hU : Un.UAt w0.heap.size n w' g F' L') (hm : Un.Moves F w w' F') (hj : Joins n (edI ed i).1 (edI ed i).2 L L') :
    Gen n ((P ++ [i]).map (edI ed)).reverse L' ∧ Clo (P.filter t) true w' C ∧ Un.Moves C0 w0 w' C ∧ (∀ k, C k → ¬ F' k) ∧ (∀ k, F' k → w0.heap.size ≤ k) ∧ (∀ i, i < m → w'.cell? ⟨ko, i, none⟩ = some (.int .i64 (o.getD i 0 : Nat))) ∧ ko < w'.heap.size ∧ ¬ F' ko ∧ HvAt w' a m ed wt ∧ Off a m F' := by
  refine ⟨?_, k.keep h.clo hm h.apart, under h.mv hm h.new, fun x hx hf => ?_, fun x hx => ?_, fun x hx => ?_, Nat.lt_of_lt_of_le h.lt hm.size, fun hf => ?_, h.hv.moves hm h.offA, h.offA.moves h.hv hm⟩
  · rw [List.map_append, List.reverse_append]
    exact h.gen.step hj
  · rcases hm.foot x hf with h1 | h1
    · exact h.apart x hx h1
    · have := k.lt h.clo x hx; omega
  · rcases hm.foot x hx with h1 | h1
    · exact h.new x h1
    · exact Nat.le_trans h.mv.size h1
  · exact (World.cell?_of_block (w := w) (a := ⟨ko, x, none⟩) (hm.block ko h.lt h.offF)).trans (h.cells x hx)
  · rcases hm.foot ko hf with h1 | h1
    · exact h.offF h1
    · have := h.lt; omega

/-- Where it stands when an edge was joined that was not taken. -/
theorem Grows.skipped {w0 w w' : World} {a : Option Addr} {g ko : Nat} {C0 : Nat → Prop} {o : List Nat} {gf : Nat} {lb : Array Value} {Clo : List Nat → Bool → World → (Nat → Prop) → Prop} {G H : List Nat → Prop} {F C F' : Nat → Prop} {L L' : List (Nat × Nat)} {P : List Nat} {i : Nat}
    (h : Grows w0 w a g ko C0 o n m ed wt t Clo G F C L P) (k : Clos n m ed t gf lb Clo G H) (hU : Un.UAt w0.heap.size n w' g F' L') (hm : Un.Moves F w w' F') (hj : Joins n (edI ed i).1 (edI ed i).2 L L') (hti : t i = false) (hc : Conn (P.map ed) (ed i).1 (ed i).2) :
    Grows w0 w' a g ko C0 o n m ed wt t Clo G F' C L' (P ++ [i]) := by
  obtain ⟨h1, h2, h3, h4, h5, h6, h7, h8, h9, h10⟩ := h.joined k hU hm hj
  refine ⟨hU, h1, ?_, h3, h4, h5, h6, h7, h8, h.offC, h9, h10, h.offB, k.skip h.good hc⟩
  rw [List.filter_append, List.filter_cons_of_neg (by rw [hti]; simp), List.filter_nil, List.append_nil]
  exact h2

/-- Where it stands when an edge was taken, and the closure wants more. -/
theorem Grows.told {w0 w w' w'' : World} {a : Option Addr} {g ko : Nat} {C0 : Nat → Prop} {o : List Nat} {gf : Nat} {lb : Array Value} {Clo : List Nat → Bool → World → (Nat → Prop) → Prop} {G H : List Nat → Prop} {F C F' C' : Nat → Prop} {L L' : List (Nat × Nat)} {P : List Nat} {i : Nat}
    (h : Grows w0 w a g ko C0 o n m ed wt t Clo G F C L P) (k : Clos n m ed t gf lb Clo G H) (hU : Un.UAt w0.heap.size n w' g F' L') (hm : Un.Moves F w w' F') (hj : Joins n (edI ed i).1 (edI ed i).2 L L') (hti : t i = true) (hm2 : Un.Moves C w' w'' C') (hclo : Clo (P.filter t ++ [i]) true w'' C') (hg : G (P ++ [i])) :
    Grows w0 w'' a g ko C0 o n m ed wt t Clo G F' C' L' (P ++ [i]) := by
  obtain ⟨h1, h2, h3, h4, h5, h6, h7, h8, h9, h10⟩ := h.joined k hU hm hj
  obtain ⟨u1, u2⟩ := hU.apart hm2 h4
  refine ⟨u1, h1, ?_, h3.trans hm2, u2, h5, fun x hx => ?_, Nat.lt_of_lt_of_le h7 hm2.size, h8, fun hc => ?_, h9.moves hm2 h.offB, h10, h.offB.moves h9 hm2, hg⟩
  · rw [List.filter_append, List.filter_cons_of_pos hti, List.filter_nil]
    exact hclo
  · exact (World.cell?_of_block (w := w') (a := ⟨ko, x, none⟩) (hm2.block ko h7 h.offC)).trans (h6 x hx)
  · rcases hm2.foot ko hc with h11 | h11
    · exact h.offC h11
    · omega

/-- What grow does. -/
def GrowPost (w0 : World) (C0 : Nat → Prop) (m : Nat) (wt : Nat → Nat) (t : Nat → Bool) (Clo : List Nat → Bool → World → (Nat → Prop) → Prop) (G H : List Nat → Prop) (e : Ending) (w' : World) : Prop :=
  e = .returned .nilIface ∧ ∃ C' o, Order m wt o ∧ Un.Moves C0 w0 w' C' ∧ ((Clo (o.filter t) true w' C' ∧ G o) ∨ ∃ P i Q, o = P ++ i :: Q ∧ t i = true ∧ Clo (P.filter t ++ [i]) false w' C' ∧ G P ∧ H (P ++ [i]))

set_option maxRecDepth 100000 in
set_option maxHeartbeats 1000000 in
theorem grow_any {a : Option Addr} {c : Nat} {w : World} {gf : Nat} {lb : Array Value} {Clo : List Nat → Bool → World → (Nat → Prop) → Prop} {G H : List Nat → Prop} {C0 : Nat → Prop} (k : Clos n m ed t gf lb Clo G H) (hE : Edgs n m ed wt) (ht : Tells m ed wt t) (h : HvAt w a m ed wt) (hoff : Off a m C0) (hclo : Clo [] true w C0) :
    Calls Tryz.prog 24 #[.int .i64 (n : Nat), .slice a m c, .func (.func gf) #[] lb] w (GrowPost w C0 m wt t Clo G H) := by
  have HK : Hid (Clos n m ed t gf lb Clo G H) := k
  have HV : Hid (HvAt w a m ed wt) := h
  have HC : Hid (Clo [] true w C0) := hclo
  have eg := k.enters
  have hm2 := hE.m200
  clear k h hclo
  go_enter Tryz.func24, Tryz.ntmps24
  go_wp2_with fail
  refine (Un.new_u (base := w.heap.size) (Nat.le_refl _) n hE.n1 hE.n60).mono ?_
  rintro e w1 ⟨g, F, rfl, hb1, hU1, hF1⟩
  go_wp2_with fail
  refine (light_any (HV.out.below hb1) hE.m200).mono ?_
  rintro e w2 ⟨ko, o, rfl, hb2, hk1, hk2, ho, hcl⟩
  have hbl := Un.below_step hb1 hb2
  have h0 : Grows w w2 a g ko C0 o n m ed wt t Clo G F C0 [] [] := by
    have hz := hb1.size
    have hCl : ∀ k, C0 k → k < w.heap.size := HK.out.lt HC.out
    refine ⟨hU1.below hb2, Gen.start n, HK.out.keep HC.out (Un.Moves.of_below (F := fun _ => False) hbl) (fun _ _ h => h), under ⟨rfl, rfl, rfl, Nat.le_refl _, fun _ _ _ => rfl, fun _ h => Or.inl h⟩ (Un.Moves.of_below (F := fun _ => False) hbl) (fun _ h => h.elim), fun k h1 h2 => ?_, hF1, hcl, hk2, fun hf => ?_, fun hc => ?_, HV.out.below hbl, fun b o' e h0 hf => ?_, hoff, HK.out.start⟩
    · have := hCl k h1; have := hF1 k h2; omega
    · have := (hU1.lt hf).1; omega
    · have := hCl ko hc; omega
    · have := HV.out.lt e h0; have := hF1 b hf; omega
  have HG : Hid (Grows w w2 a g ko C0 o n m ed wt t Clo G F C0 [] []) := h0
  have HO : Hid (Order m wt o) := ho
  clear h0 hcl hU1 hF1 hb1 hb2 hbl ho
  go_wp2_with fail
  go_loopw [10, 11, 12, 24] (fun _ _ _ i wr => ∃ (j : Nat) (F C : Nat → Prop) (L : List (Nat × Nat)), j ≤ m ∧ i = .int .i64 (j : Nat) ∧ Grows w wr a g ko C0 o n m ed wt t Clo G F C L (o.take j)) (fun _ _ _ i _ => m - (intOf i).toNat)
  case atStart => exact ⟨0, F, C0, [], Nat.zero_le _, rfl, by rw [List.take_zero]; exact HG.out⟩
  case round =>
    obtain ⟨j, F, C, L, hj, rfl, hR⟩ := hrel
    have HR : Hid (Grows w wr a g ko C0 o n m ed wt t Clo G F C L (o.take j)) := hR
    by_cases hlt : j < m
    · obtain ⟨i, hi⟩ : ∃ i, o.getD j 0 = i := ⟨_, rfl⟩
      have hjo : j < o.length := by rw [HO.out.len]; exact hlt
      have hoj : o[j] = i := by rw [← hi, List.getD_eq_getElem?_getD, List.getElem?_eq_getElem hjo]; rfl
      have hsplit : o = o.take j ++ i :: o.drop (j + 1) := by
        rw [← hoj, List.getElem_cons_drop, List.take_append_drop]
      have htk : o.take (j + 1) = o.take j ++ [i] := by
        rw [List.take_add_one, List.getElem?_eq_getElem hjo, hoj]; rfl
      have hcell := hR.cells j hlt
      rw [hi] at hcell
      have hio : i ∈ o := by rw [hsplit]; exact List.mem_append_right _ (List.mem_cons_self ..)
      have him : i < m := HO.out.lt hio
      have hP : ∀ k ∈ o.take j, k < m := fun k hk => HO.out.lt (List.mem_of_mem_take hk)
      have hcon : ∀ x y, rt L x = rt L y ↔ Conn ((o.take j).map ed) x y := gen_conn hE.among hP hR.gen
      have HT : Hid (rt L (ed i).1 ≠ rt L (ed i).2 ↔ t i = true) := by
        have hor : Order m wt (o.take j ++ i :: o.drop (j + 1)) := by rw [← hsplit]; exact HO.out
        show rt L (ed i).1 ≠ rt L (ed i).2 ↔ t i = true
        rw [ne_eq, hcon, hor.lighter]
        exact (ht i).symm
      have HC2 : Hid (rt L (ed i).1 = rt L (ed i).2 → Conn ((o.take j).map ed) (ed i).1 (ed i).2) := (hcon _ _).1
      have HS : Hid (o = o.take j ++ i :: o.drop (j + 1)) := hsplit
      have HTK : Hid (o.take (j + 1) = o.take j ++ [i]) := htk
      have HN : Hid (Nodes n ((ed i).1 : Nat) ((ed i).2 : Nat)) := by
        have := hE.among i him
        exact ⟨by omega, by omega, by omega, by omega⟩
      have hbd : Below wr.heap.size wr wr.drew := (Below.refl _ _).drew
      have hjoin := Un.join_u (hR.un.below hbd) hR.mv.size ((ed i).1 : Nat) ((ed i).2 : Nat)
      have HRd : Hid (Grows w wr.drew a g ko C0 o n m ed wt t Clo G F C L (o.take j)) := hR.below HK.out hbd
      obtain ⟨b, oo, ea, q1, q2, -⟩ := hR.hv i him
      have HEA : Hid (a = some ⟨b, oo, none⟩) := ea
      have i0 : (0 : Int) ≤ (j : Int) := by omega
      have i1 : (j : Int) < (m : Int) := by omega
      have i2 : (0 : Int) ≤ (i : Int) := by omega
      have i3 : (i : Int) < (m : Int) := by omega
      clear hR hsplit htk hi hjo hoj hcon hP hio
      rw [ea]
      clear ea
      obtain ⟨x1, hx1⟩ : ∃ x1, (ed i).1 = x1 := ⟨_, rfl⟩
      obtain ⟨x2, hx2⟩ : ∃ x2, (ed i).2 = x2 := ⟨_, rfl⟩
      have HX : Hid ((ed i).1 = x1 ∧ (ed i).2 = x2) := ⟨hx1, hx2⟩
      rw [hx1] at q1 hjoin
      rw [hx2] at q2 hjoin
      clear hx1 hx2
      have HT2 : Hid (rt L x1 ≠ rt L x2 ↔ t i = true) := by have := HT.out; rw [HX.out.1, HX.out.2] at this; exact this
      have HN2 : Hid (Nodes n (x1 : Nat) (x2 : Nat)) := by have := HN.out; rw [HX.out.1, HX.out.2] at this; exact this
      have HJ : Hid (∀ L', Joins n (x1 : Nat) (x2 : Nat) L L' → Joins n (edI ed i).1 (edI ed i).2 L L') := fun L' h => by simp only [edI]; rw [HX.out.1, HX.out.2]; exact h
      have HB : Hid (∀ w3 F', Un.Moves F wr.drew w3 F' → w3.cell? ⟨b, oo + i * 3, none⟩ = some (.int .i64 (x1 : Nat)) ∧ w3.cell? ⟨b, oo + i * 3 + 1, none⟩ = some (.int .i64 (x2 : Nat))) := fun w3 F' hM' => by
        have hbk := hM'.block b (HRd.out.hv.lt HEA.out (by omega)) (HRd.out.offA b oo HEA.out (by omega))
        exact ⟨(World.cell?_of_block (w := wr.drew) (a := ⟨b, oo + i * 3, none⟩) hbk).trans q1, (World.cell?_of_block (w := wr.drew) (a := ⟨b, oo + i * 3 + 1, none⟩) hbk).trans q2⟩
      cases hti : t i with
      | false =>
        have HI : Hid (t i = false) := hti
        clear hti
        go_wp2_with fail
        go_region_held3 (fun V => V.cell? ⟨b, oo + i * 3, none⟩ = some (.int .i64 (x1 : Nat)) ∧ V.cell? ⟨b, oo + i * 3 + 1, none⟩ = some (.int .i64 (x2 : Nat))) (first | (go_keep; done) | exact ⟨q1, q2⟩ | exact HB.out _ _ hM')
          (first
            | (go_at_call 8; refine hjoin.mono ?_; rintro e w3 ⟨x, err, F', L', rfl, hU', hM', hJ', hx'⟩; obtain ⟨rfl, hx⟩ := hx' HN2.out; obtain rfl : x = false := (by
                rw [Bool.eq_false_iff]; intro hxt; have := HT2.out.1 (hx.1 hxt); rw [HI.out] at this; cases this); clear hx hx'))
        have HF : Hid (Grows w w3 a g ko C0 o n m ed wt t Clo G F' C L' (o.take (j + 1))) := by
          show Grows w w3 a g ko C0 o n m ed wt t Clo G F' C L' (o.take (j + 1))
          rw [HTK.out]
          exact HRd.out.skipped HK.out hU' hM' (HJ.out _ hJ') HI.out (HC2.out (Classical.byContradiction fun h => by have := HT.out.1 h; rw [HI.out] at this; cases this))
        clear hJ' hU' hjoin
        go_wp2_with fail
        go_roundw
        case rel => exact ⟨j + 1, F', C, L', by omega, by go_num, by rw [← HEA.out]; exact HF.out⟩
        case measure => simp [intOf]; omega
      | true =>
        have HI : Hid (t i = true) := hti
        clear hti
        go_wp2_with fail
        go_region_held3 (fun V => V.cell? ⟨b, oo + i * 3, none⟩ = some (.int .i64 (x1 : Nat)) ∧ V.cell? ⟨b, oo + i * 3 + 1, none⟩ = some (.int .i64 (x2 : Nat))) (first | (go_keep; done) | exact ⟨q1, q2⟩ | exact HB.out _ _ hM')
          (first
            | (go_at_call 8; refine hjoin.mono ?_; rintro e w3 ⟨x, err, F', L', rfl, hU', hM', hJ', hx'⟩; obtain ⟨rfl, hx⟩ := hx' HN2.out; obtain rfl : x = true := (by exact hx.2 (HT2.out.2 HI.out)); clear hx hx'))
        have hgj := HRd.out.joined HK.out hU' hM' (HJ.out _ hJ')
        have hcall := HK.out.call (P := o.take j) (by rw [List.length_take]; omega) him HI.out hgj.2.1 hU' hgj.2.2.2.1 hgj.2.2.1.size (gen_conn hE.among (fun k hk => by rw [← HTK.out] at hk; exact HO.out.lt (List.mem_of_mem_take hk)) hgj.1) HRd.out.good
        have HU : Hid (Un.UAt w.heap.size n w3 g F' L' ∧ Joins n (edI ed i).1 (edI ed i).2 L L' ∧ Un.Moves F wr.drew w3 F' ∧ Un.Moves C0 w w3 C) := ⟨hU', HJ.out _ hJ', hM', hgj.2.2.1⟩
        clear hJ' hU' hjoin hgj hM'
        go_wp2_with fail
        refine hcall.mono ?_
        rintro e w4 ⟨b4, C4, rfl, hM4, hclo4, hG4, hH4⟩
        clear hcall
        cases b4 with
        | true =>
          have HF : Hid (Grows w w4 a g ko C0 o n m ed wt t Clo G F' C4 L' (o.take (j + 1))) := by
            show Grows w w4 a g ko C0 o n m ed wt t Clo G F' C4 L' (o.take (j + 1))
            rw [HTK.out]
            exact HRd.out.told HK.out HU.out.1 HU.out.2.2.1 HU.out.2.1 HI.out hM4 hclo4 (hG4 rfl)
          clear hM4 hclo4 hG4 hH4
          go_wp2_with fail
          go_roundw
          case rel => exact ⟨j + 1, F', C4, L', by omega, by go_num, by rw [← HEA.out]; exact HF.out⟩
          case measure => simp [intOf]; omega
        | false =>
          have HF : Hid (GrowPost w C0 m wt t Clo G H (.returned .nilIface) w4) := ⟨rfl, C4, o, HO.out, HU.out.2.2.2.trans hM4, Or.inr ⟨o.take j, i, o.drop (j + 1), HS.out, HI.out, hclo4, HRd.out.good, hH4 rfl⟩⟩
          clear hM4 hclo4 hG4 hH4
          go_wp2_with fail
          go_ret
          exact HF.out
    · have HD : Hid (Clo (o.filter t) true wr C ∧ G o) := by
        have e : o.take j = o := List.take_of_length_le (by rw [HO.out.len]; omega)
        have h1 := hR.clo
        have h2 := hR.good
        rw [e] at h1 h2
        exact ⟨h1, h2⟩
      clear hR
      go_wp2_with fail
      go_ret
      exact ⟨rfl, C, o, HO.out, HR.out.mv, Or.inl HD.out⟩

end Go.Proofs.YtcfemppdeidjmadGreat.Sp
