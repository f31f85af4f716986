/-
  What GraphTrees asks: edges of a tree that are linked into a forest, all or those of a level and above; a list's places; what a forest then tells.
  What GraphTrees asks: the level of an edge; the place of one that is not there.
  What GraphTrees keeps from step to step: the graph, its edges and their levels as they were told.
-/
import Derived.Test.YtcebfloeikjjcabGreatGl
import Derived.Test.YtcebfloeikjjcabGreatMk
namespace Go.Proofs.YtcebfloeikjjcabGreat.Gr
open Go.RowKit Go.Deep Go.Maps
open Go.RowKit (Below)
set_option linter.unusedVariables false

variable {w w1 w' : World} {L : Pl} {n m : Nat} {A T E : List (Nat × Nat)} {p : Nat → Nat} {lv : Nat × Nat → Nat} {tr : Nat × Nat → Bool} {keep : Nat × Nat → Bool} {aA aT : Option Addr} {NA NT : Nat}

/-- All edges and the tree's, two lists. -/
structure TF (w1 : World) (n : Nat) (A T : List (Nat × Nat)) (aA aT : Option Addr) (NA NT : Nat) : Prop where
  all : EdgesAt w1 aA A
  tree : EdgesAt w1 aT T
  la : A.length = NA
  lt : T.length = NT
  na : NA ≤ 200
  nt : NT ≤ 200
  sub : ∀ e ∈ T, e ∈ A
  forest : Forest T
  nodup : T.Nodup
  nodupA : A.Nodup
  among : Among n A
  less : ∀ e ∈ A, e.1 < e.2
  n1 : 1 ≤ n
  n60 : n ≤ 60

theorem TF.below (h : TF w n A T aA aT NA NT) (hb : Below w.heap.size w w') : TF w' n A T aA aT NA NT :=
  ⟨h.all.below hb, h.tree.below hb, h.la, h.lt, h.na, h.nt, h.sub, h.forest, h.nodup, h.nodupA, h.among, h.less, h.n1, h.n60⟩

theorem getD_mem {l : List (Nat × Nat)} {j : Nat} (h : j < l.length) : l.getD j (0, 0) ∈ l := by
  rw [List.getD_eq_getElem?_getD, List.getElem?_eq_getElem h]; exact List.getElem_mem h

/-- The place of an edge that is there. -/
theorem place_in {c : Nat} (hE : EdgesAt w aA A) (hn : A.length = NA) (hn2 : NA < 1000000) (e : Nat × Nat) (he : e ∈ A) (hl : e.1 < e.2) :
    Calls Tryz.prog 12 #[.slice aA NA c, .int .i64 (e.1 : Nat), .int .i64 (e.2 : Nat)] w fun x w' => ∃ j : Nat, j < NA ∧ A.getD j (0, 0) = e ∧ x = .returned (.int .i64 (j : Nat)) ∧ Below w.heap.size w w' := by
  refine (place_ref hE hn hn2 _ _).mono ?_
  rintro x w1 ⟨r, rfl, hb, h⟩
  rcases h with ⟨j, hj, rfl, hi⟩ | ⟨_, hno⟩
  · refine ⟨j, hj, Prod.ext ?_ ?_, rfl, hb⟩
    · have := hi.1; omega
    · have := hi.2; omega
  · exact absurd ⟨by omega, by omega⟩ (hno e he)

theorem mem_getD {l : List (Nat × Nat)} {e : Nat × Nat} (h : e ∈ l) : ∃ j, j < l.length ∧ l.getD j (0, 0) = e := by
  obtain ⟨j, hj, rfl⟩ := List.mem_iff_getElem.1 h
  exact ⟨j, hj, by rw [List.getD_eq_getElem?_getD, List.getElem?_eq_getElem hj]; rfl⟩

/-- .. told ahead. -/
theorem place_at {c j0 : Nat} (hE : EdgesAt w aA A) (hn : A.length = NA) (hn2 : NA < 1000000) (hd : A.Nodup) (e : Nat × Nat) (hl : e.1 < e.2) (h0 : j0 < NA) (h1 : A.getD j0 (0, 0) = e) :
    Calls Tryz.prog 12 #[.slice aA NA c, .int .i64 (e.1 : Nat), .int .i64 (e.2 : Nat)] w fun x w' => x = .returned (.int .i64 (j0 : Nat)) ∧ Below w.heap.size w w' := by
  refine (place_in hE hn hn2 e (by rw [← h1]; exact getD_mem (by omega)) hl).mono ?_
  rintro x w1 ⟨j, hj, hje, rfl, hb⟩
  have : j = j0 := by
    rw [← h1] at hje
    simp only [List.getD_eq_getElem?_getD] at hje
    rw [List.getElem?_eq_getElem (by omega), List.getElem?_eq_getElem (by omega)] at hje
    exact (List.getElem_inj hd).1 hje
  subst this
  exact ⟨rfl, hb⟩

/-- Where the links stand: those of the first m edges that are wanted are linked. -/
structure LinkW (w1 : World) (L : Pl) (T : List (Nat × Nat)) (keep : Nat × Nat → Bool) (m : Nat) (w : World) (E : List (Nat × Nat)) (p : Nat → Nat) : Prop where
  f : FAt w L E p
  mem : ∀ e, e ∈ E ↔ e ∈ T.take m ∧ keep e = true
  below : Below w1.heap.size w1 w
  foot : ∀ c, Foot L c → w1.heap.size ≤ c

theorem LinkW.start (f : FAt w L [] p) (hb : Below w1.heap.size w1 w) (hf : ∀ c, Foot L c → w1.heap.size ≤ c) : LinkW w1 L T keep 0 w [] p :=
  ⟨f, fun e => by simp, hb, hf⟩

theorem LinkW.step (h : LinkW w1 L T keep m w E p) (hb : Below w.heap.size w w') : LinkW w1 L T keep m w' E p := ⟨h.f.below hb, h.mem, h.below.trans (hb.mono h.below.size), h.foot⟩

/-- The next one joins two trees. -/
theorem LinkW.apart (h : LinkW w1 L T keep m w E p) (hf : Forest T) (ha : Among n T) (hd : T.Nodup) (hm : m < T.length) : p (T.getD m (0, 0)).1 ≠ p (T.getD m (0, 0)).2 := fun q => by
  refine Forest.without hf ha (getD_mem hm) (fun x hx => ?_) ((h.f.grown.rest.same _ _).1 q)
  have h1 := ((h.mem x).1 hx).1
  refine ⟨List.mem_of_mem_take h1, fun e => ?_⟩
  obtain ⟨t1, _⟩ := take_next hm
  rw [t1, List.nodup_append] at hd
  exact hd.2.2 x h1 _ (List.mem_cons_self ..) e

theorem LinkW.link (h : LinkW w1 L T keep m w E p) (hm : m < T.length) (hk : keep (T.getD m (0, 0)) = true) {P Q : List (Nat × Nat)} {p' : Nat → Nat} (hE : E = P ++ Q) (t : Turn L w w') (f : FAt w' L (P ++ T.getD m (0, 0) :: Q) p') : LinkW w1 L T keep (m + 1) w' (P ++ T.getD m (0, 0) :: Q) p' := by
  refine ⟨f, fun e => ?_, t.below h.below h.below.size h.foot, h.foot⟩
  have h1 := h.mem e
  rw [hE, List.mem_append] at h1
  rw [(take_next hm).2, List.mem_append, List.mem_append, List.mem_cons, List.mem_singleton]
  constructor
  · rintro (q | q | q)
    · have := h1.1 (Or.inl q); exact ⟨Or.inl this.1, this.2⟩
    · rw [q]; exact ⟨Or.inr rfl, hk⟩
    · have := h1.1 (Or.inr q); exact ⟨Or.inl this.1, this.2⟩
  · rintro ⟨q | q, k⟩
    · rcases h1.2 ⟨q, k⟩ with z | z
      · exact Or.inl z
      · exact Or.inr (Or.inr z)
    · exact Or.inr (Or.inl q)

theorem LinkW.skip (h : LinkW w1 L T keep m w E p) (hm : m < T.length) (hk : keep (T.getD m (0, 0)) = false) : LinkW w1 L T keep (m + 1) w E p := by
  refine ⟨h.f, fun e => ?_, h.below, h.foot⟩
  rw [h.mem, (take_next hm).2, List.mem_append, List.mem_singleton]
  constructor
  · rintro ⟨q, k⟩; exact ⟨Or.inl q, k⟩
  · rintro ⟨q | q, k⟩
    · exact ⟨q, k⟩
    · rw [q, hk] at k; cases k

/-- Link of the next edge, wherever the links stand. -/
theorem LinkW.call (h : LinkW w1 L T keep m w E p) (hL : L.n = n) (hf : Forest T) (ha : Among n T) (hd : T.Nodup) (hm : m < T.length) (hl : (T.getD m (0, 0)).1 < (T.getD m (0, 0)).2) (hk : keep (T.getD m (0, 0)) = true) :
    Calls Tryz.prog 13 #[.pointer (some ⟨L.g, 0, none⟩), .int .i64 ((T.getD m (0, 0)).1 : Nat), .int .i64 ((T.getD m (0, 0)).2 : Nat)] w fun e w' => e = .returned .nilIface ∧ Below w1.heap.size w1 w' ∧ Hid (∃ E' p', LinkW w1 L T keep (m + 1) w' E' p') := by
  have hn := ha _ (getD_mem hm)
  refine (flink_any h.f _ _ (by rw [hL]; exact hn.1) (by rw [hL]; exact hn.2) (h.apart hf ha hd hm)).mono ?_
  rintro e w2 ⟨rfl, t2, P, Q, p', hE, -, f2⟩
  have e1 : (min (T.getD m (0, 0)).1 (T.getD m (0, 0)).2, max (T.getD m (0, 0)).1 (T.getD m (0, 0)).2) = T.getD m (0, 0) := Prod.ext (Nat.min_eq_left (by omega)) (Nat.max_eq_right (by omega))
  rw [e1] at f2
  exact ⟨rfl, t2.below h.below h.below.size h.foot, _, _, h.link hm hk hE t2 f2⟩

/-- All edges that are wanted are linked: who hangs together. -/
theorem LinkW.conn (h : LinkW w1 L T keep T.length w E p) (i j : Nat) : p i = p j ↔ Conn (T.filter keep) i j := by
  rw [h.f.grown.rest.same i j]
  have hm : ∀ e, e ∈ E ↔ e ∈ T.filter keep := fun e => by rw [h.mem, List.take_length, List.mem_filter]
  exact ⟨conn_mono fun e he => (hm e).1 he, conn_mono fun e he => (hm e).2 he⟩

/-- The tree's edges of a level and above, out of the tree's. -/
theorem fo_keep (v : Nat) : (Fo A lv tr 0).filter (fun e => decide (v ≤ lv e)) = Fo A lv tr v := by
  unfold Fo
  rw [List.filter_filter]
  refine List.filter_congr fun e _ => ?_
  cases tr e <;> simp

theorem fo_all : (Fo A lv tr 0).filter (fun _ => true) = Fo A lv tr 0 := List.filter_eq_self.2 fun _ _ => rfl

/-- Levels of edges, a list of numbers. -/
def LvAt (w : World) (ad : Option Addr) (A : List (Nat × Nat)) (lv : Nat × Nat → Nat) (m : Nat) : Prop := ∀ i, i < m → ∃ b, ad = some ⟨b, 0, none⟩ ∧ w.cell? ⟨b, i, none⟩ = some (.int .i64 (lv (A.getD i (0, 0)) : Nat))

theorem LvAt.below {ad : Option Addr} (h : LvAt w ad A lv m) (hb : Below w.heap.size w w') : LvAt w' ad A lv m := fun i hi => by
  obtain ⟨b, e, h1⟩ := h i hi
  exact ⟨b, e, cell_keep hb h1⟩

/-- The levels of the first m edges, as values. -/
def lvs (A : List (Nat × Nat)) (lv : Nat × Nat → Nat) (m : Nat) : List Value := (List.range m).map fun i => .int .i64 (lv (A.getD i (0, 0)) : Nat)

theorem lvs_len : (lvs A lv m).length = m := by simp [lvs]
theorem lvs_succ : lvs A lv (m + 1) = lvs A lv m ++ [.int .i64 (lv (A.getD m (0, 0)) : Nat)] := by simp [lvs, List.range_succ]

set_option maxRecDepth 1000000 in
theorem Tryz.infoInt1 : (Tryz.prog.info? 3).map (fun i => (i.zero, i.size, i.bytes)) = some (some (.int .i64 0), 1, 8) := by kernel_rfl

/-- The list of levels, as it grows; the greatest of them. -/
structure NowW (w1 w : World) (A : List (Nat × Nat)) (lv : Nat × Nat → Nat) (m : Nat) (vn : Value) (tp : Nat) : Prop where
  below : Below w1.heap.size w1 w
  own : w.ownsRow w1.heap.size 3 1 vn m (lvs A lv m)
  top : ∀ i, i < m → lv (A.getD i (0, 0)) ≤ tp
  some_ : tp = 0 ∨ ∃ i, i < m ∧ lv (A.getD i (0, 0)) = tp

theorem NowW.start (w : World) : NowW w w A lv 0 (.slice none 0 0) 0 := ⟨Below.refl _ _, World.ownsRow_nil .., fun i hi => absurd hi (Nat.not_lt_zero _), Or.inl rfl⟩

theorem NowW.step {vn : Value} {tp : Nat} (h : NowW w1 w A lv m vn tp) (hb : Below w.heap.size w w') : NowW w1 w' A lv m vn tp :=
  ⟨h.below.trans (hb.mono h.below.size), h.own.kept (grown_below hb) (own_ne0 h.own), h.top, h.some_⟩

theorem NowW.list {vn : Value} {tp : Nat} (h : NowW w1 w A lv m vn tp) : ∃ ad c, vn = .slice ad m c ∧ LvAt w ad A lv m ∧ ∀ b, ad = some ⟨b, 0, none⟩ → w1.heap.size ≤ b := by
  rcases h.own.2 with ⟨rfl, rfl⟩ | ⟨g, cap, cur, rfl, hb, hg, h1, h2, h3, h4⟩
  · exact ⟨none, 0, rfl, fun i hi => absurd hi (Nat.not_lt_zero _), fun b e => by cases e⟩
  · refine ⟨some ⟨g, 0, none⟩, cap, rfl, fun i hi => ⟨g, rfl, ?_⟩, fun b e => by cases e; exact hb⟩
    have := h.own.cells (g := g) rfl i (.int .i64 (lv (A.getD i (0, 0)) : Nat)) (by simp only [lvs]; rw [List.getElem?_map, List.getElem?_range hi]; rfl)
    rwa [addr_add] at this

/-- One level more in the list. -/
theorem NowW.next {vn v' : Value} {tp tp' : Nat} {w3 : World} {l : Nat} (h : NowW w1 w A lv m vn tp) (hl : lv (A.getD m (0, 0)) = l) (ho : w3.ownsRow w1.heap.size 3 1 v' (m + 1) (lvs A lv m ++ [.int .i64 (l : Nat)])) (hg : (w.alloc (.cells #[.int .i64 (l : Nat)] 3)).grownBy w3 vn.ownBlock) (ht : tp' = max tp l) : NowW w1 w3 A lv (m + 1) v' tp' := by
  refine ⟨?_, by rw [lvs_succ, hl]; exact ho, fun i hi => ?_, ?_⟩
  · have hs := h.below.size
    exact (h.below.alloc hs _).grown hg (by simp; omega) (fun k e => (h.own.lt k e).1)
  · rcases Nat.lt_or_ge i m with q | q
    · have := h.top i q; omega
    · obtain rfl : i = m := by omega
      omega
  · rcases Nat.le_total tp l with q | q
    · exact Or.inr ⟨m, by omega, by omega⟩
    · rcases h.some_ with z | ⟨i, hi, z⟩
      · rcases Nat.eq_zero_or_pos l with z2 | z2
        · exact Or.inl (by omega)
        · omega
      · exact Or.inr ⟨i, by omega, by omega⟩

end Go.Proofs.YtcebfloeikjjcabGreat.Gr

namespace Go.Proofs.YtcebfloeikjjcabGreat.Gr
open Go.RowKit Go.Deep Go.Maps
open Go.RowKit (Below)
set_option linter.unusedVariables false

variable {w w1 w' : World} {A : List (Nat × Nat)} {lv : Nat × Nat → Nat} {tr : Nat × Nat → Bool} {aA : Option Addr} {NA : Nat}

/-- The place of an edge that is not there. -/
theorem place_out {c : Nat} (hE : EdgesAt w aA A) (hn : A.length = NA) (hn2 : NA < 1000000) (e : Nat × Nat) (he : e ∉ A) (hl : e.1 < e.2) :
    Calls Tryz.prog 12 #[.slice aA NA c, .int .i64 (e.1 : Nat), .int .i64 (e.2 : Nat)] w fun x w' => x = .returned (.int .i64 (-1)) ∧ Below w.heap.size w w' := by
  refine (place_ref hE hn hn2 _ _).mono ?_
  rintro x w1 ⟨r, rfl, hb, h⟩
  rcases h with ⟨j, hj, rfl, hi⟩ | ⟨rfl, _⟩
  · refine absurd ?_ he
    have e1 : A.getD j (0, 0) = e := Prod.ext (by have := hi.1; omega) (by have := hi.2; omega)
    rw [← e1]
    exact getD_mem (by omega)
  · exact ⟨rfl, hb⟩

/-- The level of an edge that is there. -/
theorem level_at {G : GPl} (h : GOk w G A lv tr) (e : Nat × Nat) (he : e ∈ A) (l : Nat) (hl : lv e = l) :
    Calls Tryz.prog 14 #[.pointer (some ⟨G.g, 0, none⟩), .int .i64 (e.1 : Nat), .int .i64 (e.2 : Nat)] w fun x w' => x = .returned (.tuple #[.int .i64 (l : Nat), .nilIface]) ∧ Below w.heap.size w w' := by
  have hn := h.mem.node he
  have e1 : (min e.1 e.2, max e.1 e.2) = e := Prod.ext (Nat.min_eq_left (by omega)) (Nat.max_eq_right (by omega))
  exact level_any h.mem e.1 e.2 hn.1 hn.2.1 (by rw [e1]; exact he) l (by rw [e1]; exact hl)

end Go.Proofs.YtcebfloeikjjcabGreat.Gr

namespace Go.Proofs.YtcebfloeikjjcabGreat.Gr
open Go.RowKit Go.Deep Go.Maps
open Go.RowKit (Below)
set_option linter.unusedVariables false

variable {w w0 w1 w' : World} {G : GPl} {A T A' : List (Nat × Nat)} {lv lv' : Nat × Nat → Nat} {tr tr' : Nat × Nat → Bool} {aA aT aW aV : Option Addr} {NA NT NW hb0 m : Nat}

/-- The script's steps as they lie in memory, whole. -/
structure Script4 (w : World) (a : Option Addr) (n : Nat) : Prop where
  step : ∀ i, i < n → ∃ b o what x y al nl cl, a = some ⟨b, o, none⟩ ∧ w.cell? ⟨b, o + i * 4, none⟩ = some (.int .i64 what) ∧ w.cell? ⟨b, o + i * 4 + 1, none⟩ = some (.int .i64 x) ∧ w.cell? ⟨b, o + i * 4 + 2, none⟩ = some (.int .i64 y) ∧ w.cell? ⟨b, o + i * 4 + 3, none⟩ = some (.slice al nl cl)

theorem Script4.below {a : Option Addr} {n : Nat} (h : Script4 w a n) (hb : Below w.heap.size w w') : Script4 w' a n := ⟨fun i hi => by
  obtain ⟨b, o, what, x, y, al, nl, cl, e, h1, h2, h3, h4⟩ := h.step i hi
  exact ⟨b, o, what, x, y, al, nl, cl, e, cell_keep hb h1, cell_keep hb h2, cell_keep hb h3, cell_keep hb h4⟩⟩

structure TS (w0 : World) (G : GPl) (hb0 : Nat) (aW aV : Option Addr) (NW : Nat) (A : List (Nat × Nat)) (lv : Nat × Nat → Nat) (tr : Nat × Nat → Bool) (w : World) : Prop where
  gw : GW w0 G A lv tr w
  was : EdgesAt w aW A
  la : A.length = NW
  lev : LvAt w aV A lv NW
  offW : ∀ c, aW = some ⟨c, 0, none⟩ → hb0 ≤ c
  offV : ∀ c, aV = some ⟨c, 0, none⟩ → hb0 ≤ c
  top : hb0 ≤ w.heap.size

theorem TS.step (h : TS w0 G hb0 aW aV NW A lv tr w) (hb : Below w.heap.size w w') : TS w0 G hb0 aW aV NW A lv tr w' :=
  ⟨h.gw.step hb, h.was.below hb, h.la, h.lev.below hb, h.offW, h.offV, Nat.le_trans h.top hb.size⟩

theorem keep_cell {c o : Nat} {v : Value} (hF : ∀ c, GFoot G c → c < hb0) (hc : hb0 ≤ c) (t : Turns (GFoot G) w w') (h : w.cell? ⟨c, o, none⟩ = some v) : w'.cell? ⟨c, o, none⟩ = some v :=
  (World.cell?_of_block (w := w) (a := ⟨c, o, none⟩) (t.block c (World.block_lt_of_cell? _ _ h) (fun q => by have := hF c q; omega))).trans h

/-- The lists, behind a change of the graph. -/
theorem TS.lists (h : TS w0 G hb0 aW aV NW A lv tr w) (hF : ∀ c, GFoot G c → c < hb0) (t : Turns (GFoot G) w w') : EdgesAt w' aW A ∧ LvAt w' aV A lv NW :=
  ⟨⟨fun i hi => by obtain ⟨c, e, h1, h2⟩ := h.was.cell i hi; exact ⟨c, e, keep_cell hF (h.offW c e) t h1, keep_cell hF (h.offW c e) t h2⟩⟩, fun i hi => by obtain ⟨c, e, h1⟩ := h.lev i hi; exact ⟨c, e, keep_cell hF (h.offV c e) t h1⟩⟩

theorem GOk.low (h : GOk w G A lv tr) {e : Nat × Nat} (he : e ∈ A) : lv e ≤ 5 := by
  have h1 := h.lev.level he (by have := h.mem.less e he; omega)
  have h2 := (h.mem.levels (lv e)).2 (by omega)
  have := h.mem.k10
  omega

/-- The two lists, of a graph as it should be. -/
theorem GOk.lists (h : GOk w G A lv tr) (h1 : EdgesAt w aA A) (h2 : EdgesAt w aT (Fo A lv tr 0)) (la : A.length = NA) (lt : (Fo A lv tr 0).length = NT) : TF w G.n A (Fo A lv tr 0) aA aT NA NT :=
  ⟨h1, h2, la, lt, by rw [← la]; exact h.mem.m200, by rw [← lt]; exact Nat.le_trans (List.length_filter_le ..) h.mem.m200, fun e he => (mem_Fo.1 he).1, h.lev.forest, (rises_nodup h.mem.rises).sublist List.filter_sublist, rises_nodup h.mem.rises, h.lev.among, h.mem.less, h.mem.n1, h.mem.n60⟩

/-- All that is joined is joined by the tree. -/
theorem tree_joins (h : GOk w G A lv tr) {p : Nat → Nat} (hp : ∀ i j, p i = p j ↔ Conn ((Fo A lv tr 0).filter fun _ => true) i j) {e : Nat × Nat} (he : e ∈ A) : p e.1 = p e.2 := by
  rw [hp, fo_all]
  exact Fo.down (Nat.zero_le _) (h.lev.joins e he)

/-- The greatest level is small. -/
theorem NowW.small {vn : Value} {tp : Nat} (h : NowW w1 w' A lv m vn tp) (hm : m ≤ A.length) (hb : ∀ e ∈ A, lv e ≤ 5) : tp ≤ 5 := by
  rcases h.some_ with z | ⟨i, hi, z⟩
  · omega
  · have := hb _ (getD_mem (l := A) (j := i) (by omega))
    omega

theorem lvAt_nil (w : World) (A : List (Nat × Nat)) (lv : Nat × Nat → Nat) : LvAt w none A lv 0 := fun i hi => absurd hi (Nat.not_lt_zero _)

/-- A step, whatever it does. -/
theorem step_u {x y : Int} (h : GW w0 G A lv tr w) (hl : A.length < 200) (fn : Nat) (hfn : fn = 6 ∨ fn = 7) :
    Calls Tryz.prog fn #[.pointer (some ⟨G.g, 0, none⟩), .int .i64 x, .int .i64 y] w (Changed w0 w G A lv) := by
  rcases hfn with rfl | rfl
  · exact add_u h x y hl
  · exact drop_u h x y

end Go.Proofs.YtcebfloeikjjcabGreat.Gr
