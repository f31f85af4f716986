/-
  Xe Xf
-/
import Derived.Test.YtcfemppdeidjmacGreatT22
import Derived.Test.YtcfemppdeidjmacGreatT25
import Derived.Deep.AppendLies
import Derived.OwnWalk
namespace Go.Proofs.YtcfemppdeidjmacGreat.To
set_option linter.unusedSectionVars false
variable [Inhabited Zed] [Inhabited (PLift ((default : Zed).n ≤ 0))]
open Go.RowKit Go.Deep
open Go.RowKit (Below)
set_option linter.unusedVariables false

variable {w w' wr w0 : World} {A T L E : List (Nat × Nat)} {e : Nat × Nat} {m n i j N c : Nat} {p q : Nat → Nat}

theorem conn_in (he : e ∈ A) : Conn A e.1 e.2 := fun Q h => h.2 e he

theorem bridge_tree (hn : A.Nodup) (hs : ∀ e ∈ T, e ∈ A) (hc : ∀ i j, Conn T i j ↔ Conn A i j) (he : e ∈ A) (hb : Br.Bridge A e) : e ∈ T := by
  apply Classical.byContradiction
  intro hno
  refine hb (conn_mono (fun x hx => ?_) ((hc _ _).2 (conn_in he)))
  rw [hn.mem_erase_iff]
  exact ⟨fun q => hno (q ▸ hx), hs x hx⟩

theorem tree_all (hn : A.Nodup) (ha : Among n A) (hs : ∀ e ∈ T, e ∈ A) (hf : Forest T) (hc : ∀ i j, Conn T i j ↔ Conn A i j) : T.length ≤ A.length ∧ ((∀ e ∈ A, Br.Bridge A e) ↔ T.length = A.length) := by
  have h1 : T.length ≤ A.length := (forest_nodup hf).length_le_of_subset hs
  refine ⟨h1, fun h => ?_, fun h e he => ?_⟩
  · have : A.length ≤ T.length := hn.length_le_of_subset fun e he => bridge_tree hn hs hc he (h e he)
    omega
  · obtain ⟨p, hp⟩ := rest_of A
    obtain ⟨q, hq⟩ := rest_of T
    have e1 : ∀ i, q i = p i := hq.one hp hc
    have e2 : partsOf n q = partsOf n p := cnt_congr n fun i _ => by rw [e1]
    have h2 := (forest_parts (n := n) (fun e he => ha e (hs e he)) hq).2.1 hf
    have h3 : Forest A := (forest_parts ha hp).2.2 (by omega)
    exact Forest.without h3 ha he fun x hx => by
      rw [hn.mem_erase_iff] at hx
      exact ⟨hx.2, hx.1⟩

def nth (A : List (Nat × Nat)) (i : Nat) : Nat × Nat := A.getD i (0, 0)
theorem nth_get (h : i < A.length) : nth A i = A[i] := by unfold nth; rw [List.getD_eq_getElem?_getD, List.getElem?_eq_getElem h]; rfl
theorem nth_all (A : List (Nat × Nat)) : picked A.length (nth A) (fun _ => true) = A := by
  unfold picked
  rw [List.filter_eq_self.2 (fun _ _ => rfl)]
  refine List.ext_getElem? fun i => ?_
  rw [List.getElem?_map]
  rcases Nat.lt_or_ge i A.length with h | h
  · rw [List.getElem?_range h, List.getElem?_eq_getElem h]
    show some (nth A i) = _
    rw [nth_get h]
  · rw [List.getElem?_eq_none (by simpa using h), List.getElem?_eq_none h]
    rfl

theorem bridge_span {wt : Nat → Nat} {t : Nat → Bool} (hn : A.Nodup) (ht : Tells A.length (nth A) wt t) (hi : i < A.length) (hb : Br.Bridge A (nth A i)) : t i = true := by
  rw [ht i]
  unfold Takes
  refine fun hc => hb (conn_mono (fun x hx => ?_) hc)
  obtain ⟨k, h1, h2, rfl⟩ := mem_picked.1 hx
  rw [hn.mem_erase_iff]
  have hki : k ≠ i := fun q => by
    subst q
    rw [ahead_iff] at h2
    omega
  refine ⟨fun q => hki ?_, by rw [nth_get h1]; exact List.getElem_mem h1⟩
  rw [nth_get h1, nth_get hi] at q
  exact (List.getElem_inj hn).1 q
theorem span_tree {wt : Nat → Nat} {t : Nat → Bool} (hn : A.Nodup) (ha : Among n A) (ht : Tells A.length (nth A) wt t) (hs : ∀ e ∈ T, e ∈ A) (hf : Forest T) (hc : ∀ i j, Conn T i j ↔ Conn A i j) : ((List.range A.length).filter t).length = T.length := by
  obtain ⟨p, hp⟩ := rest_of A
  obtain ⟨q, hq⟩ := rest_of T
  have e1 : ∀ i, q i = p i := hq.one hp hc
  have e2 : partsOf n q = partsOf n p := cnt_congr n fun i _ => by rw [e1]
  have h2 := (forest_parts (n := n) (fun e he => ha e (hs e he)) hq).2.1 hf
  have h3 := span_many (n := n) ht closed_all (fun k hk => ha _ (by rw [nth_get hk]; exact List.getElem_mem hk)) (p := p) (by rw [nth_all]; exact hp)
  have h4 : partsOf n p + ((List.range A.length).filter t).length = n := h3
  omega

end Go.Proofs.YtcfemppdeidjmacGreat.To

namespace Go.Proofs.YtcfemppdeidjmacGreat.To
set_option linter.unusedSectionVars false
variable [Inhabited Zed] [Inhabited (PLift ((default : Zed).n ≤ 0))]
open Go.RowKit Go.Deep
open Go.RowKit (Below)
set_option linter.unusedVariables false

variable {w w' wr w0 : World} {G : Gr.GPl} {A T L E : List (Nat × Nat)} {e : Nat × Nat} {m n i j N c : Nat} {ad : Option Addr} {p q : Nat → Nat} {f : Nat → Int × Int × Int} {g : Nat → Int} {hv : Nat → Int × Int × Int}

def RingTells : Prop := ∀ {w : World} {ad : Option Addr} {m c n : Nat} {f : Nat → Int × Int}, Br.EgAt w ad m f → m ≤ c → c ≤ maxLen → Br.Valid (n : Nat) m f → Calls Tryz.prog 31 #[.int .i64 (n : Nat), .slice ad m c] w fun e w' =>
  ∃ v err, e = .returned (.tuple #[v, err]) ∧ Below w.heap.size w w' ∧ ((err = .nilIface ∧ ¬ ∀ e ∈ Br.edges f m, Br.Bridge (Br.edges f m) e) ∨ ((∃ t y, err = .iface t y) ∧ ∀ e ∈ Br.edges f m, Br.Bridge (Br.edges f m) e))

def SpanTells : Prop := ∀ {w : World} {ad : Option Addr} {m c : Nat} {hv : Nat → Int × Int × Int} {t : Nat → Bool}, Sp.HeavyAt w ad m hv → Tells m (Sp.edOf hv) (Sp.wtOf hv) t → ∀ n : Int, Sp.Fault n m hv 0 0 → Calls Tryz.prog 32 #[.int .i64 n, .slice ad m c] w fun e w' =>
  ∃ a c, e = .returned (.tuple #[.slice a ((List.range m).filter t).length c, .nilIface]) ∧ Below w.heap.size w w' ∧ ∀ j, j < ((List.range m).filter t).length → ∃ b, a = some ⟨b, 0, none⟩ ∧ w'.cell? ⟨b, j, none⟩ = some (.int .i64 ((((List.range m).filter t).getD j 0 : Nat) : Int))

def NsAt (w : World) (a : Option Addr) (m : Nat) (g : Nat → Int) : Prop := ∀ i, i < m → ∃ b o, a = some ⟨b, o, none⟩ ∧ w.cell? ⟨b, o + i, none⟩ = some (.int .i64 (g i))

def wgt (m : Nat) (g : Nat → Int) (i : Nat) : Int := if i < m ∧ 0 ≤ g i ∧ g i ≤ 1000000 then g i else 0
def hvOf (A : List (Nat × Nat)) (m : Nat) (g : Nat → Int) (i : Nat) : Int × Int × Int := (((nth A i).1 : Nat), ((nth A i).2 : Nat), wgt m g i)

theorem ed_hv (A : List (Nat × Nat)) (m : Nat) (g : Nat → Int) : Sp.edOf (hvOf A m g) = nth A := by
  funext i
  show (((((nth A i).1 : Nat) : Int)).toNat, ((((nth A i).2 : Nat) : Int)).toNat) = nth A i
  rw [Int.toNat_natCast, Int.toNat_natCast]

theorem wgt_in (m : Nat) (g : Nat → Int) (i : Nat) : 0 ≤ wgt m g i ∧ wgt m g i ≤ 1000000 := by
  unfold wgt
  split
  · rename_i h
    exact h.2
  · exact ⟨by decide, by decide⟩

theorem fault_hv (h1 : 1 ≤ n ∧ n ≤ 60) (h2 : A.length ≤ 200) (h3 : ∀ e ∈ A, e.1 < e.2 ∧ e.2 < n) (m : Nat) (g : Nat → Int) : Sp.Fault (n : Int) A.length (hvOf A m g) 0 0 :=
  .right (by omega) (by omega) h2 fun i hi => by
    have h := h3 (nth A i) (by rw [nth_get hi]; exact List.getElem_mem hi)
    have hw := wgt_in m g i
    refine ⟨?_, ?_, ?_, hw.1, hw.2⟩ <;> (simp only [hvOf]; omega)

def hs (hv : Nat → Int × Int × Int) (j : Nat) : List Value := (List.range j).flatMap fun i => [.int .i64 (hv i).1, .int .i64 (hv i).2.1, .int .i64 (hv i).2.2]
theorem hs_succ (hv : Nat → Int × Int × Int) (j : Nat) : hs hv (j + 1) = hs hv j ++ [.int .i64 (hv j).1, .int .i64 (hv j).2.1, .int .i64 (hv j).2.2] := by
  unfold hs
  rw [List.range_succ, List.flatMap_append]
  simp
theorem hs_len (hv : Nat → Int × Int × Int) : ∀ j, (hs hv j).length = j * 3
  | 0 => rfl
  | j + 1 => by rw [hs_succ, List.length_append, hs_len hv j]; simp; omega
theorem hs_get (hv : Nat → Int × Int × Int) (k : Nat) (hk : k < 3) : ∀ (j i : Nat), i < j → (hs hv j)[i * 3 + k]? = [Value.int .i64 (hv i).1, .int .i64 (hv i).2.1, .int .i64 (hv i).2.2][k]?
  | 0, i, h => absurd h (Nat.not_lt_zero _)
  | j + 1, i, h => by
    rw [hs_succ]
    by_cases q : i < j
    · rw [List.getElem?_append_left (by rw [hs_len]; omega)]
      exact hs_get hv k hk j i q
    · obtain rfl : i = j := by omega
      rw [List.getElem?_append_right (by rw [hs_len]; omega), hs_len, show i * 3 + k - i * 3 = k by omega]

theorem own_heavy {base : Nat} {v : Value} (h : w.ownsRow base 57 3 v m (hs hv m)) : ∃ a c, v = .slice a m c ∧ Sp.HeavyAt w a m hv := by
  rcases h.2 with ⟨h0, h1⟩ | ⟨g, cap, cur, hv', h1, h2, h3, h4, h5, h6⟩
  · exact ⟨none, 0, by rw [h0, h1], fun i hi => by omega⟩
  · refine ⟨_, cap, hv', fun i hi => ⟨g, 0, rfl, ?_, ?_, ?_⟩⟩
    · have e := hs_get hv 0 (by decide) m i hi
      rw [← h6, List.getElem?_take, if_pos (by omega)] at e
      simp only [World.cell?, h2, Nat.zero_add]
      simpa using e
    · have e := hs_get hv 1 (by decide) m i hi
      rw [← h6, List.getElem?_take, if_pos (by omega)] at e
      simp only [World.cell?, h2, Nat.zero_add]
      simpa using e
    · have e := hs_get hv 2 (by decide) m i hi
      rw [← h6, List.getElem?_take, if_pos (by omega)] at e
      simp only [World.cell?, h2, Nat.zero_add]
      simpa using e

theorem Tryz.infoHv : (Tryz.prog.info? 57).map (fun i => (i.zero, i.size, i.bytes)) = some (some (.agg #[.int .i64 0, .int .i64 0, .int .i64 0]), 3, 24) := by kernel_rfl
theorem cells_new (w : World) (l : List Value) (t : TypeId) : ∀ j u, l[j]? = some u → (w.alloc (.cells l.toArray t)).cell? (Addr.add ⟨w.heap.size, 0, none⟩ j) = some u := fun j u h => by
  rw [Addr.add_lit, Nat.zero_add, cell_of_row _ _ _ _ _ _ (blk_alloc_new _ _)]
  simpa using h
theorem one3 (x y z : Int) : ∀ u ∈ [Value.int .i64 x, .int .i64 y, .int .i64 z], u.oneCell' = true := fun u h => by
  simp at h
  rcases h with rfl | rfl | rfl <;> rfl
theorem run_build_hv (x y : Nat) (w : World) : (Instr.build 57 #[(0, .agg #[.int .i64 (x : Nat), .int .i64 (y : Nat)])]).run Tryz.prog w = .ok (.agg #[.int .i64 (x : Nat), .int .i64 (y : Nat), .int .i64 0]) w := run_build w 57 _ _ (by kernel_rfl)

set_option maxRecDepth 100000 in
set_option maxHeartbeats 32000000 in
theorem top_tree (O : OneOk) (R : RingTells) (S : SpanTells) {c c2 mw : Nat} {aw : Option Addr} (h : As.EvAt w ad m f) (hw : NsAt w aw mw g) (n : Int) :
    Calls Tryz.prog 5 #[.int .i64 n, .slice ad m c, .slice aw mw c2] w fun e w' => e = .returned (.bool true) ∧ Below w.heap.size w w' := by
  have HH : Hid (As.EvAt w ad m f ∧ NsAt w aw mw g) := ⟨h, hw⟩
  have HR : Hid (RingTells ∧ SpanTells) := ⟨R, S⟩
  clear h hw R S
  go_enter Tryz.func5, Tryz.ntmps5
  go_wp2_with fail
  refine (O (w := w)).mono ?_
  rintro e w1 ⟨rfl, hb1⟩
  have HB1 : Hid (Below w.heap.size w w1) := hb1
  clear O hb1
  go_wp2_with fail
  by_cases hn : n < 1 ∨ 60 < n
  · refine (drawn_no n hn).mono ?_
    rintro e w2 ⟨rfl, rfl⟩
    clear hn
    go_wp2_with fail
    go_ret
    exact ⟨rfl, HB1.out⟩
  obtain ⟨n, rfl⟩ := Int.eq_ofNat_of_zero_le (show 0 ≤ n by omega)
  refine (drawn_any (HH.out.1.below HB1.out) n (by omega) (by omega)).mono ?_
  clear hn
  rintro e w2 ⟨G, rfl, rfl, A, hd, hl⟩
  have H2 : Hid (Dr w1 G A w2 ∧ A.length ≤ 120) := ⟨hd, hl⟩
  clear hd hl
  have HE : Hid (∀ w', Below w1.heap.size w1 w' → Below w.heap.size w w') := fun w' h => HB1.out.trans (h.mono HB1.out.size)
  have HW : Hid (∀ w', Below w.heap.size w w' → NsAt w' aw mw g) := fun w' h i hi => by
    obtain ⟨b, o, e, q⟩ := HH.out.2 i hi
    exact ⟨b, o, e, cell_keep h q⟩
  clear HB1 HH
  obtain ⟨z0, hi0, hz0, hz1, hz2⟩ := info_parts Tryz.infoHv
  go_wp2_with fail
  refine (dr_edges H2.out.1).mono ?_
  rintro e w3 ⟨al, ca, rfl, hb3, hE⟩
  obtain ⟨N, hN⟩ : ∃ N, A.length = N := ⟨_, rfl⟩
  rw [hN] at hE ⊢
  have H3 : Hid (Dr w1 G A w3 ∧ Li G w3 al N ca A) := ⟨H2.out.1.step hb3, hE⟩
  have HN : Hid (A.length = N ∧ N ≤ 120 ∧ Among G.n A ∧ Rises A) := ⟨hN, hN ▸ H2.out.2, fun e he => by have := H3.out.1.among e he; exact ⟨by omega, this.2⟩, H3.out.1.up⟩
  clear hb3 hE hN H2
  go_wp2_with fail
  refine (dr_tree H3.out.1).mono ?_
  rintro e w4 ⟨at', ct, T, rfl, hb4, hT, -, hsub, hfor, hcon⟩
  obtain ⟨NT, hNT⟩ : ∃ NT, T.length = NT := ⟨_, rfl⟩
  rw [hNT] at hT ⊢
  have H4 : Hid (Dr w1 G A w4 ∧ Li G w4 al N ca A ∧ Li G w4 at' NT ct T) := ⟨H3.out.1.step hb4, H3.out.2.below hb4, hT⟩
  have HT : Hid ((∀ e ∈ T, e ∈ A) ∧ Forest T ∧ (∀ i j, Conn T i j ↔ Conn A i j) ∧ T.length = NT ∧ NT ≤ N ∧ ((∀ e ∈ A, Br.Bridge A e) ↔ NT = N)) := by
    have h := tree_all (rises_nodup HN.out.2.2.2) HN.out.2.2.1 hsub hfor hcon
    rw [hNT, HN.out.1] at h
    exact ⟨hsub, hfor, hcon, hNT, h⟩
  clear hb4 hT hsub hfor hcon hNT H3
  go_wp2_with fail
  refine (Br.bridges_ok (c := ca) H4.out.2.1.eg (H4.out.1.valid HN.out.1)).mono ?_
  rintro e w5 ⟨v, L, rfl, hbrs, hown, hb5⟩
  rw [fn_edges HN.out.1] at hbrs
  obtain ⟨ab, cb, rfl, hLb⟩ := own_li (G := G) hown (fun b q => H4.out.1.foot q)
  obtain ⟨M, hM⟩ : ∃ M, L.length = M := ⟨_, rfl⟩
  rw [hM] at hLb ⊢
  have H5 : Hid (Dr w1 G A w5 ∧ Li G w5 al N ca A ∧ Li G w5 at' NT ct T ∧ Li G w5 ab M cb L) := ⟨H4.out.1.step hb5, H4.out.2.1.below hb5, H4.out.2.2.below hb5, hLb⟩
  have HL : Hid (L.length = M ∧ M ≤ 120 ∧ ∀ e ∈ L, e ∈ A ∧ Br.Bridge A e) := by
    obtain ⟨t, h1, h2⟩ := hbrs
    refine ⟨hM, ?_, fun e he => ?_⟩
    · have h3 : L.length ≤ A.length := by rw [h2]; exact List.length_filter_le _ _
      have := HN.out.1
      have := HN.out.2.1
      omega
    · rw [h2, List.mem_filter] at he
      exact ⟨he.1, (h1 e he.1).1 he.2⟩
  clear hbrs hown hb5 hM hLb H4
  go_wp2_with fail
  refine (HR.out.1 (c := ca) H5.out.2.1.eg H5.out.2.1.le H5.out.2.1.max (H5.out.1.valid HN.out.1)).mono ?_
  rintro e w6 ⟨v, err, rfl, hb6, hr⟩
  rw [fn_edges HN.out.1] at hr
  have H6 : Hid (Dr w1 G A w6 ∧ Li G w6 al N ca A ∧ Li G w6 at' NT ct T ∧ Li G w6 ab M cb L) := ⟨H5.out.1.step hb6, H5.out.2.1.below hb6, H5.out.2.2.1.below hb6, H5.out.2.2.2.below hb6⟩
  clear hb6 H5
  rcases hr with ⟨rfl, hno⟩ | ⟨⟨et, ey, rfl⟩, hall⟩
  · have hlt : (NT : Int) < (N : Int) := by
      have h1 := HT.out.2.2.2.2.1
      have h2 : NT ≠ N := fun q => hno (HT.out.2.2.2.2.2.2 q)
      omega
    clear hno
    go_wp2_with fail
    clear hlt
    go_loopw [16, 17] (fun v i wr => ∃ j : Nat, j ≤ N ∧ i = .int .i64 (j : Nat) ∧ wr.ownsRow w6.heap.size 57 3 v j (hs (hvOf A mw g) j) ∧ Below w6.heap.size w6 wr) (fun _ i _ => N - (intOf i).toNat)
    case atStart => exact ⟨0, Nat.zero_le _, rfl, World.ownsRow_nil .., Below.refl _ _⟩
    case round =>
      obtain ⟨j, hj, rfl, hown, hb⟩ := hrel
      have HO : Hid (wr.ownsRow w6.heap.size 57 3 _ j (hs (hvOf A mw g) j) ∧ Below w6.heap.size w6 wr) := ⟨hown, hb⟩
      clear hown hb
      have hm := HN.out.2.1
      by_cases hlt : j < N
      · obtain ⟨bl, rfl, c0, c1⟩ := (H6.out.2.1.below HO.out.2).at_.cell j (by rw [HN.out.1]; exact hlt)
        obtain ⟨x0, hx0⟩ : ∃ x0, (A.getD j (0, 0)).1 = x0 := ⟨_, rfl⟩
        obtain ⟨x1, hx1⟩ : ∃ x1, (A.getD j (0, 0)).2 = x1 := ⟨_, rfl⟩
        rw [hx0] at c0
        rw [hx1] at c1
        have HX : Hid ((nth A j).1 = x0 ∧ (nth A j).2 = x1) := ⟨hx0, hx1⟩
        have hbu := run_build_hv x0 x1
        have i0 : (0 : Int) ≤ (j : Int) := by omega
        have i1 : (j : Int) < (N : Int) := by omega
        have j5 : IntKind.i64.wrap ((j : Int) + 1) = (j : Int) + 1 := by rw [IntKind.wrap_i64]; omega
        obtain ⟨vx, hvx⟩ : ∃ vx, wr.heap.size = vx := ⟨_, rfl⟩
        obtain ⟨W7, hW7⟩ : ∃ W7, wr.alloc (.cells #[.int .i64 (x0 : Nat), .int .i64 (x1 : Nat), .int .i64 0] 57) = W7 := ⟨_, rfl⟩
        have hs7 : W7.setCell ⟨vx, 2, none⟩ (.int .i64 0) = W7 := by
          rw [← hW7, ← hvx, World.setCell_alloc_new]
          rfl
        have hb7 : Below wr.heap.size wr W7 := hW7 ▸ (Below.refl _ _).alloc (Nat.le_refl _) _
        have hr7 : W7.rowIs vx 57 3 (fun k => if k = 0 then .int .i64 (x0 : Nat) else if k = 1 then .int .i64 (x1 : Nat) else .int .i64 0) := by
          have := World.rowIs_alloc wr #[.int .i64 (x0 : Nat), .int .i64 (x1 : Nat), .int .i64 0] 57 (fun k => if k = 0 then .int .i64 (x0 : Nat) else if k = 1 then .int .i64 (x1 : Nat) else .int .i64 0) (fun i hi => by
            have : i = 0 ∨ i = 1 ∨ i = 2 := by simp at hi; omega
            rcases this with rfl | rfl | rfl <;> rfl)
          rw [hW7, hvx] at this
          exact this
        have q0 : W7.cell? ⟨vx, 0, none⟩ = some (.int .i64 (x0 : Nat)) := hr7.cell (i := 0) (by omega)
        have q1 : W7.cell? ⟨vx, 1, none⟩ = some (.int .i64 (x1 : Nat)) := hr7.cell (i := 1) (by omega)
        have q2 : W7.cell? ⟨vx, 2, none⟩ = some (.int .i64 0) := hr7.cell (i := 2) (by omega)
        have qf := hr7.frozen 2
        have hns := HW.out W7 (HE.out W7 ((H6.out.1.step HO.out.2).step hb7).old)
        have HV : Hid (wr.heap.size = vx ∧ Below wr.heap.size wr W7) := ⟨hvx, hb7⟩
        clear hx0 hx1 hr7 hb7
        by_cases hjw : j < mw
        · obtain ⟨bw, ow, rfl, d0⟩ := hns j hjw
          obtain ⟨y, hy⟩ : ∃ y, g j = y := ⟨_, rfl⟩
          rw [hy] at d0
          have k1 : (j : Int) < (mw : Int) := by omega
          by_cases y0 : 0 ≤ y
          · by_cases y1 : y ≤ 1000000
            · have HY : Hid (wgt mw g j = y) := show _ = _ by unfold wgt; rw [hy, if_pos ⟨hjw, y0, y1⟩]
              obtain ⟨W, hW8⟩ : ∃ W, W7.setCell ⟨vx, 2, none⟩ (.int .i64 y) = W := ⟨_, rfl⟩
              have p0 : W.cell? ⟨vx, 0, none⟩ = some (.int .i64 (x0 : Nat)) := by rw [← hW8, World.cell?_setCell_other _ _ _ _ (by simp), q0]
              have p1 : W.cell? ⟨vx, 1, none⟩ = some (.int .i64 (x1 : Nat)) := by rw [← hW8, World.cell?_setCell_other _ _ _ _ (by simp), q1]
              have p2 : W.cell? ⟨vx, 2, none⟩ = some (.int .i64 y) := by rw [← hW8]; exact World.cell?_setCell_same _ _ _ q2
              have hbW : Below wr.heap.size wr W := hW8 ▸ HV.out.2.setCell (by rw [HV.out.1]; exact Nat.le_refl _) _
              have HP : Hid (W.ownsRow w6.heap.size 57 3 _ j (hs (hvOf A mw g) j) ∧ Below w6.heap.size w6 W) := ⟨Br.own_keep HO.out.1 hbW, HO.out.2.trans (hbW.mono HO.out.2.size)⟩
              clear hy hjw hbW hns
              go_wp2_with
                (first
                  | (at_builtin; refine wpList_append_lies _ rfl (.tmp 101) (.tmp 103) 55 rfl w6.heap.size 57 z0 (.agg #[.int .i64 0, .int .i64 0, .int .i64 0]) 3 24 Tryz.underlying55 hi0 hz0 hz1 hz2 rfl (by decide) _ j (hs (hvOf A mw g) j) rfl (HP.out.1.alloc _) ⟨W.heap.size, 0, none⟩ 1 1 [.int .i64 (x0 : Nat), .int .i64 (x1 : Nat), .int .i64 y] rfl rfl (cells_new W [.int .i64 (x0 : Nat), .int .i64 (x1 : Nat), .int .i64 y] 57) (one3 _ _ _) (by decide) (by have := HN.out.2.1; unfold maxLen; omega) (by have := HN.out.2.1; omega) (by have := HP.out.2.size; simp; omega) _ rfl ?_)
                  | rw [hvx, hW7] | rw [hW7] | rw [hs7] | rw [hW8])
              intro g2 cap2 w9 hown hgrow hat hlt2
              have HQ : Hid (w9.ownsRow w6.heap.size 57 3 (.slice (some ⟨g2, 0, none⟩) (j + 1) cap2) (j + 1) (hs (hvOf A mw g) (j + 1)) ∧ Below w6.heap.size w6 w9) := by
                refine ⟨?_, (HP.out.2.alloc HP.out.2.size _).trans ⟨hgrow.os, hgrow.tape, hgrow.output, hgrow.size, fun k hk => hgrow.block k (by have := HP.out.2.size; simp; omega) fun e => ?_⟩⟩
                · rw [hs_succ]
                  show World.ownsRow _ _ _ _ _ _ (_ ++ [.int .i64 ((nth A j).1 : Nat), .int .i64 ((nth A j).2 : Nat), .int .i64 (wgt mw g j)])
                  rw [HX.out.1, HX.out.2, HY.out]
                  exact hown
                · have := (HP.out.1.lt k e.symm).1
                  omega
              clear hown hgrow hat hlt2
              go_wp2_with fail
              go_roundw
              case rel => exact ⟨j + 1, by omega, by go_num, HQ.out⟩
              case measure => simp [intOf]; omega
            · have HY : Hid (wgt mw g j = 0) := show _ = _ by unfold wgt; rw [hy, if_neg (fun q => y1 q.2.2)]
              obtain ⟨W, hW8⟩ : ∃ W, W7 = W := ⟨_, rfl⟩
              rw [hW8] at hW7 hs7 q0 q1 q2 qf d0 HV
              have HP : Hid (W.ownsRow w6.heap.size 57 3 _ j (hs (hvOf A mw g) j) ∧ Below w6.heap.size w6 W) := ⟨Br.own_keep HO.out.1 HV.out.2, HO.out.2.trans (HV.out.2.mono HO.out.2.size)⟩
              clear hy hjw hns hW8
              go_wp2_with
                (first
                  | (at_builtin; refine wpList_append_lies _ rfl (.tmp 101) (.tmp 103) 55 rfl w6.heap.size 57 z0 (.agg #[.int .i64 0, .int .i64 0, .int .i64 0]) 3 24 Tryz.underlying55 hi0 hz0 hz1 hz2 rfl (by decide) _ j (hs (hvOf A mw g) j) rfl (HP.out.1.alloc _) ⟨W.heap.size, 0, none⟩ 1 1 [.int .i64 (x0 : Nat), .int .i64 (x1 : Nat), .int .i64 0] rfl rfl (cells_new W [.int .i64 (x0 : Nat), .int .i64 (x1 : Nat), .int .i64 0] 57) (one3 _ _ _) (by decide) (by have := HN.out.2.1; unfold maxLen; omega) (by have := HN.out.2.1; omega) (by have := HP.out.2.size; simp; omega) _ rfl ?_)
                  | rw [hvx, hW7] | rw [hW7] | rw [hs7])
              intro g2 cap2 w9 hown hgrow hat hlt2
              have HQ : Hid (w9.ownsRow w6.heap.size 57 3 (.slice (some ⟨g2, 0, none⟩) (j + 1) cap2) (j + 1) (hs (hvOf A mw g) (j + 1)) ∧ Below w6.heap.size w6 w9) := by
                refine ⟨?_, (HP.out.2.alloc HP.out.2.size _).trans ⟨hgrow.os, hgrow.tape, hgrow.output, hgrow.size, fun k hk => hgrow.block k (by have := HP.out.2.size; simp; omega) fun e => ?_⟩⟩
                · rw [hs_succ]
                  show World.ownsRow _ _ _ _ _ _ (_ ++ [.int .i64 ((nth A j).1 : Nat), .int .i64 ((nth A j).2 : Nat), .int .i64 (wgt mw g j)])
                  rw [HX.out.1, HX.out.2, HY.out]
                  exact hown
                · have := (HP.out.1.lt k e.symm).1
                  omega
              clear hown hgrow hat hlt2
              go_wp2_with fail
              go_roundw
              case rel => exact ⟨j + 1, by omega, by go_num, HQ.out⟩
              case measure => simp [intOf]; omega
          · have HY : Hid (wgt mw g j = 0) := show _ = _ by unfold wgt; rw [hy, if_neg (fun q => y0 q.2.1)]
            obtain ⟨W, hW8⟩ : ∃ W, W7 = W := ⟨_, rfl⟩
            rw [hW8] at hW7 hs7 q0 q1 q2 qf d0 HV
            have HP : Hid (W.ownsRow w6.heap.size 57 3 _ j (hs (hvOf A mw g) j) ∧ Below w6.heap.size w6 W) := ⟨Br.own_keep HO.out.1 HV.out.2, HO.out.2.trans (HV.out.2.mono HO.out.2.size)⟩
            clear hy hjw hns hW8
            go_wp2_with
              (first
                | (at_builtin; refine wpList_append_lies _ rfl (.tmp 101) (.tmp 103) 55 rfl w6.heap.size 57 z0 (.agg #[.int .i64 0, .int .i64 0, .int .i64 0]) 3 24 Tryz.underlying55 hi0 hz0 hz1 hz2 rfl (by decide) _ j (hs (hvOf A mw g) j) rfl (HP.out.1.alloc _) ⟨W.heap.size, 0, none⟩ 1 1 [.int .i64 (x0 : Nat), .int .i64 (x1 : Nat), .int .i64 0] rfl rfl (cells_new W [.int .i64 (x0 : Nat), .int .i64 (x1 : Nat), .int .i64 0] 57) (one3 _ _ _) (by decide) (by have := HN.out.2.1; unfold maxLen; omega) (by have := HN.out.2.1; omega) (by have := HP.out.2.size; simp; omega) _ rfl ?_)
                | rw [hvx, hW7] | rw [hW7] | rw [hs7])
            intro g2 cap2 w9 hown hgrow hat hlt2
            have HQ : Hid (w9.ownsRow w6.heap.size 57 3 (.slice (some ⟨g2, 0, none⟩) (j + 1) cap2) (j + 1) (hs (hvOf A mw g) (j + 1)) ∧ Below w6.heap.size w6 w9) := by
              refine ⟨?_, (HP.out.2.alloc HP.out.2.size _).trans ⟨hgrow.os, hgrow.tape, hgrow.output, hgrow.size, fun k hk => hgrow.block k (by have := HP.out.2.size; simp; omega) fun e => ?_⟩⟩
              · rw [hs_succ]
                show World.ownsRow _ _ _ _ _ _ (_ ++ [.int .i64 ((nth A j).1 : Nat), .int .i64 ((nth A j).2 : Nat), .int .i64 (wgt mw g j)])
                rw [HX.out.1, HX.out.2, HY.out]
                exact hown
              · have := (HP.out.1.lt k e.symm).1
                omega
            clear hown hgrow hat hlt2
            go_wp2_with fail
            go_roundw
            case rel => exact ⟨j + 1, by omega, by go_num, HQ.out⟩
            case measure => simp [intOf]; omega
        · have k1 : ¬ (j : Int) < (mw : Int) := by omega
          have HY : Hid (wgt mw g j = 0) := show _ = _ by unfold wgt; rw [if_neg (fun q => hjw q.1)]
          obtain ⟨W, hW8⟩ : ∃ W, W7 = W := ⟨_, rfl⟩
          rw [hW8] at hW7 hs7 q0 q1 q2 qf HV
          have HP : Hid (W.ownsRow w6.heap.size 57 3 _ j (hs (hvOf A mw g) j) ∧ Below w6.heap.size w6 W) := ⟨Br.own_keep HO.out.1 HV.out.2, HO.out.2.trans (HV.out.2.mono HO.out.2.size)⟩
          clear hjw hns hW8
          go_wp2_with
            (first
              | (at_builtin; refine wpList_append_lies _ rfl (.tmp 101) (.tmp 103) 55 rfl w6.heap.size 57 z0 (.agg #[.int .i64 0, .int .i64 0, .int .i64 0]) 3 24 Tryz.underlying55 hi0 hz0 hz1 hz2 rfl (by decide) _ j (hs (hvOf A mw g) j) rfl (HP.out.1.alloc _) ⟨W.heap.size, 0, none⟩ 1 1 [.int .i64 (x0 : Nat), .int .i64 (x1 : Nat), .int .i64 0] rfl rfl (cells_new W [.int .i64 (x0 : Nat), .int .i64 (x1 : Nat), .int .i64 0] 57) (one3 _ _ _) (by decide) (by have := HN.out.2.1; unfold maxLen; omega) (by have := HN.out.2.1; omega) (by have := HP.out.2.size; simp; omega) _ rfl ?_)
              | rw [hvx, hW7] | rw [hW7] | rw [hs7])
          intro g2 cap2 w9 hown hgrow hat hlt2
          have HQ : Hid (w9.ownsRow w6.heap.size 57 3 (.slice (some ⟨g2, 0, none⟩) (j + 1) cap2) (j + 1) (hs (hvOf A mw g) (j + 1)) ∧ Below w6.heap.size w6 w9) := by
            refine ⟨?_, (HP.out.2.alloc HP.out.2.size _).trans ⟨hgrow.os, hgrow.tape, hgrow.output, hgrow.size, fun k hk => hgrow.block k (by have := HP.out.2.size; simp; omega) fun e => ?_⟩⟩
            · rw [hs_succ]
              show World.ownsRow _ _ _ _ _ _ (_ ++ [.int .i64 ((nth A j).1 : Nat), .int .i64 ((nth A j).2 : Nat), .int .i64 (wgt mw g j)])
              rw [HX.out.1, HX.out.2, HY.out]
              exact hown
            · have := (HP.out.1.lt k e.symm).1
              omega
          clear hown hgrow hat hlt2
          go_wp2_with fail
          go_roundw
          case rel => exact ⟨j + 1, by omega, by go_num, HQ.out⟩
          case measure => simp [intOf]; omega
      · obtain rfl : j = N := by omega
        have i1 : ¬ (j : Int) < (j : Int) := by omega
        obtain ⟨ah, ch, hv0, hheavy⟩ := own_heavy HO.out.1
        subst hv0
        obtain ⟨t, ht⟩ := tells_some j (nth A) (Sp.wtOf (hvOf A mw g))
        have hlen := HN.out.1
        have ht' : Tells A.length (nth A) (Sp.wtOf (hvOf A mw g)) t := by rw [hlen]; exact ht
        have HS : Hid (Calls Tryz.prog 32 #[.int .i64 (G.n : Nat), .slice ah j ch] wr fun e w' => ∃ a c, e = .returned (.tuple #[.slice a ((List.range j).filter t).length c, .nilIface]) ∧ Below wr.heap.size wr w' ∧ ∀ k, k < ((List.range j).filter t).length → ∃ b, a = some ⟨b, 0, none⟩ ∧ w'.cell? ⟨b, k, none⟩ = some (.int .i64 ((((List.range j).filter t).getD k 0 : Nat) : Int))) :=
          HR.out.2 hheavy (by rw [ed_hv]; exact ht) _ (by
            have h1 := H6.out.1.among
            have h2 := H6.out.1.n60
            have := fault_hv (A := A) (n := G.n) h2 (by rw [hlen]; have := HN.out.2.1; omega) h1 mw g
            rw [hlen] at this
            exact this)
        have HSp : Hid (((List.range j).filter t).length = NT ∧ (∀ i, i < A.length → Br.Bridge A (nth A i) → t i = true) ∧ ∀ k ∈ (List.range j).filter t, k < j) := by
          have h3 := span_tree (rises_nodup HN.out.2.2.2) HN.out.2.2.1 ht' HT.out.1 HT.out.2.1 HT.out.2.2.1
          rw [hlen, HT.out.2.2.2.1] at h3
          exact ⟨h3, fun i hi hb => bridge_span (rises_nodup HN.out.2.2.2) ht' hi hb, fun k hk => List.mem_range.1 (List.mem_filter.1 hk).1⟩
        have HB : Hid (Below w6.heap.size w6 wr) := HO.out.2
        clear hheavy ht ht' hlen hlt hj HO
        obtain ⟨SL, hSL⟩ : ∃ SL, (List.range j).filter t = SL := ⟨_, rfl⟩
        have hNS : SL.length = NT := by rw [← hSL]; exact HSp.out.1
        have HSL : Hid ((List.range j).filter t = SL ∧ SL.length = NT ∧ NT = NT) := ⟨hSL, hNS, rfl⟩
        rw [hSL, hNS] at HS
        clear hSL hNS
        go_wp2_with fail
        refine HS.out.mono ?_
        rintro e w7 ⟨aS, cS, rfl, hb7, hcS⟩
        have H7 : Hid (Dr w1 G A w7 ∧ Li G w7 al j ca A ∧ Li G w7 at' NT ct T ∧ Li G w7 ab M cb L ∧ ∀ k, k < NT → ∃ b, aS = some ⟨b, 0, none⟩ ∧ w7.cell? ⟨b, k, none⟩ = some (.int .i64 ((SL.getD k 0 : Nat) : Int))) := by
          have h7 : Below w6.heap.size w6 w7 := HB.out.trans (hb7.mono HB.out.size)
          exact ⟨H6.out.1.step h7, H6.out.2.1.below h7, H6.out.2.2.1.below h7, H6.out.2.2.2.below h7, hcS⟩
        have t9 : ((NT : Int) == (NT : Int)) = true := beq_self_eq_true _
        clear hb7 hcS H6 HS HB i1
        go_wp2_with fail
        clear t9
        go_loopw [20] (fun i wr => ∃ i' : Nat, i' ≤ M ∧ i = .int .i64 (i' : Nat) ∧ Below w7.heap.size w7 wr) (fun i _ => M - (intOf i).toNat)
        case atStart => exact ⟨0, Nat.zero_le _, rfl, Below.refl _ _⟩
        case round =>
          obtain ⟨i', hi', rfl, hb⟩ := hrel
          have HB : Hid (Below w7.heap.size w7 wr) := hb
          clear hb
          have hm1 := HL.out.2.1
          have hm2 := HN.out.2.1
          have hm3 := HT.out.2.2.2.2.1
          by_cases hlt : i' < M
          · obtain ⟨x, hx⟩ : ∃ x, L.getD i' (0, 0) = x := ⟨_, rfl⟩
            have hxL : x ∈ L := by
              rw [← hx, List.getD_eq_getElem?_getD, List.getElem?_eq_getElem (by rw [HL.out.1]; exact hlt)]
              exact List.getElem_mem _
            obtain ⟨u, v2⟩ := x
            have HX : Hid ((u, v2) ∈ A ∧ Br.Bridge A (u, v2)) := HL.out.2.2 _ hxL
            have HXT : Hid ((u, v2) ∈ T) := bridge_tree (rises_nodup HN.out.2.2.2) HT.out.1 HT.out.2.2.1 HX.out.1 HX.out.2
            have HXS : Hid ((u, v2) ∈ SL.map (nth A)) := by
              obtain ⟨q, hq, e⟩ := List.mem_iff_getElem.1 HX.out.1
              have e2 : nth A q = (u, v2) := by rw [nth_get hq, e]
              refine List.mem_map.2 ⟨q, ?_, e2⟩
              rw [← HSL.out.1, List.mem_filter]
              exact ⟨List.mem_range.2 (by rw [← HN.out.1]; exact hq), HSp.out.2.1 q hq (by rw [e2]; exact HX.out.2)⟩
            have HC : Hid (∀ w', Below w7.heap.size w7 w' → ∃ b, ab = some ⟨b, 0, none⟩ ∧ w'.cell? ⟨b, i' * 2, none⟩ = some (.int .i64 (u : Nat)) ∧ w'.cell? ⟨b, i' * 2 + 1, none⟩ = some (.int .i64 (v2 : Nat))) := fun w' h => by
              obtain ⟨b, e, c0, c1⟩ := (H7.out.2.2.2.1.below h).at_.cell i' (by rw [HL.out.1]; exact hlt)
              rw [hx] at c0 c1
              exact ⟨b, e, c0, c1⟩
            have i0 : (0 : Int) ≤ (i' : Int) := by omega
            have i1 : (i' : Int) < (M : Int) := by omega
            have j5 : IntKind.i64.wrap ((i' : Int) + 1) = (i' : Int) + 1 := by rw [IntKind.wrap_i64]; omega
            clear hx hxL
            go_wp2_with fail
            go_loopw [21, 22] (fun is i wr => ∃ k : Nat, k ≤ NT ∧ i = .int .i64 (k : Nat) ∧ is = .bool (decide ((u, v2) ∈ T.take k)) ∧ Below w7.heap.size w7 wr) (fun _ i _ => NT - (intOf i).toNat)
            case atStart => exact ⟨0, Nat.zero_le _, rfl, by simp, HB.out⟩
            case round =>
              obtain ⟨k, hk, rfl, rfl, hb⟩ := hrel
              have HBk : Hid (Below w7.heap.size w7 wr.drew ∧ Below w7.heap.size w7 wr) := ⟨hb.drew, hb⟩
              clear hb
              by_cases hlk : k < NT
              · have hjl : k < T.length := by rw [HT.out.2.2.2.1]; exact hlk
                have htm := take_mem (e := (u, v2)) hjl
                obtain ⟨bb, rfl, y0, y1⟩ := (H7.out.2.2.1.below HBk.out.2).at_.cell k hjl
                obtain ⟨bx, rfl, x0, x1⟩ := HC.out wr HBk.out.2
                obtain ⟨z, hz⟩ : ∃ z, T.getD k (0, 0) = z := ⟨_, rfl⟩
                rw [hz] at y0 y1 htm
                obtain ⟨e0, e1⟩ := z
                have k0 : (0 : Int) ≤ (k : Int) := by omega
                have k1 : (k : Int) < (NT : Int) := by omega
                have k5 : IntKind.i64.wrap ((k : Int) + 1) = (k : Int) + 1 := by rw [IntKind.wrap_i64]; omega
                clear hz hm1 hm2 hm3
                by_cases hin : (u, v2) ∈ T.take k
                · have HT9 : Hid (decide ((u, v2) ∈ T.take (k + 1)) = true) := decide_eq_true (htm.2 (Or.inl hin))
                  rw [decide_eq_true hin]
                  clear hin htm
                  go_wp2_with fail
                  go_region
                  go_wp2_with fail
                  go_roundw
                  case rel => exact ⟨k + 1, by omega, by go_num, by rw [HT9.out], HBk.out.1⟩
                  case measure => simp [intOf]; omega
                · rw [decide_eq_false hin]
                  by_cases hz : (e0, e1) = (u, v2)
                  · obtain ⟨h1, h2⟩ := Prod.mk.inj hz
                    have HT9 : Hid (decide ((u, v2) ∈ T.take (k + 1)) = true) := decide_eq_true (htm.2 (Or.inr hz))
                    have s8 : ((e0 : Int) == (u : Int)) = true := by rw [h1]; exact beq_self_eq_true _
                    have s9 : ((e1 : Int) == (v2 : Int)) = true := by rw [h2]; exact beq_self_eq_true _
                    clear hin htm hz h1 h2
                    go_wp2_with fail
                    go_region
                    go_wp2_with fail
                    go_roundw
                    case rel => exact ⟨k + 1, by omega, by go_num, by rw [HT9.out], HBk.out.1⟩
                    case measure => simp [intOf]; omega
                  · have HT9 : Hid (decide ((u, v2) ∈ T.take (k + 1)) = false) := decide_eq_false (fun q => (htm.1 q).elim hin hz)
                    by_cases h0 : e0 = u
                    · have h1 : e1 ≠ v2 := fun e => hz (by rw [h0, e])
                      have s8 : ((e0 : Int) == (u : Int)) = true := by rw [h0]; exact beq_self_eq_true _
                      have s9 : ((e1 : Int) == (v2 : Int)) = false := by rw [beq_eq_false_iff_ne]; omega
                      clear hin htm hz h0 h1
                      go_wp2_with fail
                      go_region
                      go_wp2_with fail
                      go_roundw
                      case rel => exact ⟨k + 1, by omega, by go_num, by rw [HT9.out], HBk.out.1⟩
                      case measure => simp [intOf]; omega
                    · have s8 : ((e0 : Int) == (u : Int)) = false := by rw [beq_eq_false_iff_ne]; omega
                      clear hin htm hz h0
                      go_wp2_with fail
                      go_region
                      go_wp2_with fail
                      go_roundw
                      case rel => exact ⟨k + 1, by omega, by go_num, by rw [HT9.out], HBk.out.1⟩
                      case measure => simp [intOf]; omega
              · have hk' : k = NT := by omega
                have HIn : Hid (decide ((u, v2) ∈ T.take k) = true) := decide_eq_true (by rw [List.take_of_length_le (by rw [HT.out.2.2.2.1]; omega)]; exact HXT.out)
                have k1 : ¬ (k : Int) < (NT : Int) := by omega
                rw [HIn.out]
                clear hk' HIn hlk hk
                go_wp2_with fail
                clear k1
                go_loopw [23, 24] (fun is i wr => ∃ k : Nat, k ≤ NT ∧ i = .int .i64 (k : Nat) ∧ is = .bool (decide ((u, v2) ∈ (SL.map (nth A)).take k)) ∧ Below w7.heap.size w7 wr) (fun _ i _ => NT - (intOf i).toNat)
                case atStart => exact ⟨0, Nat.zero_le _, rfl, by simp, HBk.out.2⟩
                case round =>
                  clear HBk
                  obtain ⟨k, hk, rfl, rfl, hb⟩ := hrel
                  have HBk : Hid (Below w7.heap.size w7 wr.drew ∧ Below w7.heap.size w7 wr) := ⟨hb.drew, hb⟩
                  clear hb
                  have hm4 := HSL.out.2.2
                  by_cases hlk : k < NT
                  · have hks : k < SL.length := by rw [HSL.out.2.1]; exact hlk
                    have hjl : k < (SL.map (nth A)).length := by rw [List.length_map]; exact hks
                    have htm := take_mem (e := (u, v2)) hjl
                    obtain ⟨bs, rfl, s0⟩ := H7.out.2.2.2.2 k hlk
                    replace s0 := cell_keep HBk.out.2 s0
                    obtain ⟨sk, hsk⟩ : ∃ sk, SL.getD k 0 = sk := ⟨_, rfl⟩
                    rw [hsk] at s0
                    have hskj : sk < j := by
                      rw [← hsk, List.getD_eq_getElem?_getD, List.getElem?_eq_getElem hks]
                      refine HSp.out.2.2 _ ?_
                      rw [HSL.out.1]
                      exact List.getElem_mem hks
                    obtain ⟨bb, rfl, y0, y1⟩ := (H7.out.2.1.below HBk.out.2).at_.cell sk (by rw [HN.out.1]; exact hskj)
                    obtain ⟨bx, rfl, x0, x1⟩ := HC.out wr HBk.out.2
                    obtain ⟨z, hz⟩ : ∃ z, A.getD sk (0, 0) = z := ⟨_, rfl⟩
                    have hse : SL[k] = sk := by
                      rw [← hsk, List.getD_eq_getElem?_getD, List.getElem?_eq_getElem hks]
                      rfl
                    have hzz : (SL.map (nth A)).getD k (0, 0) = z := by
                      rw [List.getD_eq_getElem?_getD, List.getElem?_map, List.getElem?_eq_getElem hks, hse, ← hz]
                      rfl
                    rw [hz] at y0 y1
                    rw [hzz] at htm
                    obtain ⟨e0, e1⟩ := z
                    have k0 : (0 : Int) ≤ (k : Int) := by omega
                    have k1 : (k : Int) < (NT : Int) := by omega
                    have k5 : IntKind.i64.wrap ((k : Int) + 1) = (k : Int) + 1 := by rw [IntKind.wrap_i64]; omega
                    have l0 : (0 : Int) ≤ (sk : Int) := by omega
                    have l1 : (sk : Int) < (j : Int) := by omega
                    clear hz hzz hse hsk hskj hks hm1 hm2 hm3 hm4
                    by_cases hin : (u, v2) ∈ (SL.map (nth A)).take k
                    · have HT9 : Hid (decide ((u, v2) ∈ (SL.map (nth A)).take (k + 1)) = true) := decide_eq_true (htm.2 (Or.inl hin))
                      rw [decide_eq_true hin]
                      clear hin htm
                      go_wp2_with fail
                      go_region
                      go_wp2_with fail
                      go_roundw
                      case rel => exact ⟨k + 1, by omega, by go_num, by rw [HT9.out], HBk.out.1⟩
                      case measure => simp [intOf]; omega
                    · rw [decide_eq_false hin]
                      by_cases hz : (e0, e1) = (u, v2)
                      · obtain ⟨h1, h2⟩ := Prod.mk.inj hz
                        have HT9 : Hid (decide ((u, v2) ∈ (SL.map (nth A)).take (k + 1)) = true) := decide_eq_true (htm.2 (Or.inr hz))
                        have s8 : ((e0 : Int) == (u : Int)) = true := by rw [h1]; exact beq_self_eq_true _
                        have s9 : ((e1 : Int) == (v2 : Int)) = true := by rw [h2]; exact beq_self_eq_true _
                        clear hin htm hz h1 h2
                        go_wp2_with fail
                        go_region
                        go_wp2_with fail
                        go_roundw
                        case rel => exact ⟨k + 1, by omega, by go_num, by rw [HT9.out], HBk.out.1⟩
                        case measure => simp [intOf]; omega
                      · have HT9 : Hid (decide ((u, v2) ∈ (SL.map (nth A)).take (k + 1)) = false) := decide_eq_false (fun q => (htm.1 q).elim hin hz)
                        by_cases h0 : e0 = u
                        · have h1 : e1 ≠ v2 := fun e => hz (by rw [h0, e])
                          have s8 : ((e0 : Int) == (u : Int)) = true := by rw [h0]; exact beq_self_eq_true _
                          have s9 : ((e1 : Int) == (v2 : Int)) = false := by rw [beq_eq_false_iff_ne]; omega
                          clear hin htm hz h0 h1
                          go_wp2_with fail
                          go_region
                          go_wp2_with fail
                          go_roundw
                          case rel => exact ⟨k + 1, by omega, by go_num, by rw [HT9.out], HBk.out.1⟩
                          case measure => simp [intOf]; omega
                        · have s8 : ((e0 : Int) == (u : Int)) = false := by rw [beq_eq_false_iff_ne]; omega
                          clear hin htm hz h0
                          go_wp2_with fail
                          go_region
                          go_wp2_with fail
                          go_roundw
                          case rel => exact ⟨k + 1, by omega, by go_num, by rw [HT9.out], HBk.out.1⟩
                          case measure => simp [intOf]; omega
                  · have HIn : Hid (decide ((u, v2) ∈ (SL.map (nth A)).take k) = true) := decide_eq_true (by rw [List.take_of_length_le (by rw [List.length_map, HSL.out.2.1]; omega)]; exact HXS.out)
                    have k1 : ¬ (k : Int) < (NT : Int) := by omega
                    rw [HIn.out]
                    clear HIn hlk hk
                    go_wp2_with fail
                    go_roundw
                    case rel => exact ⟨i' + 1, by omega, by go_num, HBk.out.2⟩
                    case measure => simp [intOf]; omega
          · have i1 : ¬ (i' : Int) < (M : Int) := by omega
            have HF : Hid (Below w.heap.size w wr) := HE.out _ (H7.out.1.step HB.out).old
            go_wp2_with fail
            go_ret
            exact ⟨rfl, HF.out⟩
  · have hlt : ¬ (NT : Int) < (N : Int) := by
      have h2 := HT.out.2.2.2.2.2.1 hall
      omega
    clear hall
    go_wp2_with fail
    have hdd : ∀ h : Decidable (NT < N), @decide (NT < N) h = false := fun h => by simp; omega
    simp only [hdd]
    clear hdd hlt
    go_loopw [16, 17] (fun v i wr => ∃ j : Nat, j ≤ N ∧ i = .int .i64 (j : Nat) ∧ wr.ownsRow w6.heap.size 57 3 v j (hs (hvOf A mw g) j) ∧ Below w6.heap.size w6 wr) (fun _ i _ => N - (intOf i).toNat)
    case atStart => exact ⟨0, Nat.zero_le _, rfl, World.ownsRow_nil .., Below.refl _ _⟩
    case round =>
      obtain ⟨j, hj, rfl, hown, hb⟩ := hrel
      have HO : Hid (wr.ownsRow w6.heap.size 57 3 _ j (hs (hvOf A mw g) j) ∧ Below w6.heap.size w6 wr) := ⟨hown, hb⟩
      clear hown hb
      have hm := HN.out.2.1
      by_cases hlt : j < N
      · obtain ⟨bl, rfl, c0, c1⟩ := (H6.out.2.1.below HO.out.2).at_.cell j (by rw [HN.out.1]; exact hlt)
        obtain ⟨x0, hx0⟩ : ∃ x0, (A.getD j (0, 0)).1 = x0 := ⟨_, rfl⟩
        obtain ⟨x1, hx1⟩ : ∃ x1, (A.getD j (0, 0)).2 = x1 := ⟨_, rfl⟩
        rw [hx0] at c0
        rw [hx1] at c1
        have HX : Hid ((nth A j).1 = x0 ∧ (nth A j).2 = x1) := ⟨hx0, hx1⟩
        have hbu := run_build_hv x0 x1
        have i0 : (0 : Int) ≤ (j : Int) := by omega
        have i1 : (j : Int) < (N : Int) := by omega
        have j5 : IntKind.i64.wrap ((j : Int) + 1) = (j : Int) + 1 := by rw [IntKind.wrap_i64]; omega
        obtain ⟨vx, hvx⟩ : ∃ vx, wr.heap.size = vx := ⟨_, rfl⟩
        obtain ⟨W7, hW7⟩ : ∃ W7, wr.alloc (.cells #[.int .i64 (x0 : Nat), .int .i64 (x1 : Nat), .int .i64 0] 57) = W7 := ⟨_, rfl⟩
        have hs7 : W7.setCell ⟨vx, 2, none⟩ (.int .i64 0) = W7 := by
          rw [← hW7, ← hvx, World.setCell_alloc_new]
          rfl
        have hb7 : Below wr.heap.size wr W7 := hW7 ▸ (Below.refl _ _).alloc (Nat.le_refl _) _
        have hr7 : W7.rowIs vx 57 3 (fun k => if k = 0 then .int .i64 (x0 : Nat) else if k = 1 then .int .i64 (x1 : Nat) else .int .i64 0) := by
          have := World.rowIs_alloc wr #[.int .i64 (x0 : Nat), .int .i64 (x1 : Nat), .int .i64 0] 57 (fun k => if k = 0 then .int .i64 (x0 : Nat) else if k = 1 then .int .i64 (x1 : Nat) else .int .i64 0) (fun i hi => by
            have : i = 0 ∨ i = 1 ∨ i = 2 := by simp at hi; omega
            rcases this with rfl | rfl | rfl <;> rfl)
          rw [hW7, hvx] at this
          exact this
        have q0 : W7.cell? ⟨vx, 0, none⟩ = some (.int .i64 (x0 : Nat)) := hr7.cell (i := 0) (by omega)
        have q1 : W7.cell? ⟨vx, 1, none⟩ = some (.int .i64 (x1 : Nat)) := hr7.cell (i := 1) (by omega)
        have q2 : W7.cell? ⟨vx, 2, none⟩ = some (.int .i64 0) := hr7.cell (i := 2) (by omega)
        have qf := hr7.frozen 2
        have hns := HW.out W7 (HE.out W7 ((H6.out.1.step HO.out.2).step hb7).old)
        have HV : Hid (wr.heap.size = vx ∧ Below wr.heap.size wr W7) := ⟨hvx, hb7⟩
        clear hx0 hx1 hr7 hb7
        by_cases hjw : j < mw
        · obtain ⟨bw, ow, rfl, d0⟩ := hns j hjw
          obtain ⟨y, hy⟩ : ∃ y, g j = y := ⟨_, rfl⟩
          rw [hy] at d0
          have k1 : (j : Int) < (mw : Int) := by omega
          by_cases y0 : 0 ≤ y
          · by_cases y1 : y ≤ 1000000
            · have HY : Hid (wgt mw g j = y) := show _ = _ by unfold wgt; rw [hy, if_pos ⟨hjw, y0, y1⟩]
              obtain ⟨W, hW8⟩ : ∃ W, W7.setCell ⟨vx, 2, none⟩ (.int .i64 y) = W := ⟨_, rfl⟩
              have p0 : W.cell? ⟨vx, 0, none⟩ = some (.int .i64 (x0 : Nat)) := by rw [← hW8, World.cell?_setCell_other _ _ _ _ (by simp), q0]
              have p1 : W.cell? ⟨vx, 1, none⟩ = some (.int .i64 (x1 : Nat)) := by rw [← hW8, World.cell?_setCell_other _ _ _ _ (by simp), q1]
              have p2 : W.cell? ⟨vx, 2, none⟩ = some (.int .i64 y) := by rw [← hW8]; exact World.cell?_setCell_same _ _ _ q2
              have hbW : Below wr.heap.size wr W := hW8 ▸ HV.out.2.setCell (by rw [HV.out.1]; exact Nat.le_refl _) _
              have HP : Hid (W.ownsRow w6.heap.size 57 3 _ j (hs (hvOf A mw g) j) ∧ Below w6.heap.size w6 W) := ⟨Br.own_keep HO.out.1 hbW, HO.out.2.trans (hbW.mono HO.out.2.size)⟩
              clear hy hjw hbW hns
              go_wp2_with
                (first
                  | (at_builtin; refine wpList_append_lies _ rfl (.tmp 101) (.tmp 103) 55 rfl w6.heap.size 57 z0 (.agg #[.int .i64 0, .int .i64 0, .int .i64 0]) 3 24 Tryz.underlying55 hi0 hz0 hz1 hz2 rfl (by decide) _ j (hs (hvOf A mw g) j) rfl (HP.out.1.alloc _) ⟨W.heap.size, 0, none⟩ 1 1 [.int .i64 (x0 : Nat), .int .i64 (x1 : Nat), .int .i64 y] rfl rfl (cells_new W [.int .i64 (x0 : Nat), .int .i64 (x1 : Nat), .int .i64 y] 57) (one3 _ _ _) (by decide) (by have := HN.out.2.1; unfold maxLen; omega) (by have := HN.out.2.1; omega) (by have := HP.out.2.size; simp; omega) _ rfl ?_)
                  | rw [hvx, hW7] | rw [hW7] | rw [hs7] | rw [hW8])
              intro g2 cap2 w9 hown hgrow hat hlt2
              have HQ : Hid (w9.ownsRow w6.heap.size 57 3 (.slice (some ⟨g2, 0, none⟩) (j + 1) cap2) (j + 1) (hs (hvOf A mw g) (j + 1)) ∧ Below w6.heap.size w6 w9) := by
                refine ⟨?_, (HP.out.2.alloc HP.out.2.size _).trans ⟨hgrow.os, hgrow.tape, hgrow.output, hgrow.size, fun k hk => hgrow.block k (by have := HP.out.2.size; simp; omega) fun e => ?_⟩⟩
                · rw [hs_succ]
                  show World.ownsRow _ _ _ _ _ _ (_ ++ [.int .i64 ((nth A j).1 : Nat), .int .i64 ((nth A j).2 : Nat), .int .i64 (wgt mw g j)])
                  rw [HX.out.1, HX.out.2, HY.out]
                  exact hown
                · have := (HP.out.1.lt k e.symm).1
                  omega
              clear hown hgrow hat hlt2
              go_wp2_with fail
              go_roundw
              case rel => exact ⟨j + 1, by omega, by go_num, HQ.out⟩
              case measure => simp [intOf]; omega
            · have HY : Hid (wgt mw g j = 0) := show _ = _ by unfold wgt; rw [hy, if_neg (fun q => y1 q.2.2)]
              obtain ⟨W, hW8⟩ : ∃ W, W7 = W := ⟨_, rfl⟩
              rw [hW8] at hW7 hs7 q0 q1 q2 qf d0 HV
              have HP : Hid (W.ownsRow w6.heap.size 57 3 _ j (hs (hvOf A mw g) j) ∧ Below w6.heap.size w6 W) := ⟨Br.own_keep HO.out.1 HV.out.2, HO.out.2.trans (HV.out.2.mono HO.out.2.size)⟩
              clear hy hjw hns hW8
              go_wp2_with
                (first
                  | (at_builtin; refine wpList_append_lies _ rfl (.tmp 101) (.tmp 103) 55 rfl w6.heap.size 57 z0 (.agg #[.int .i64 0, .int .i64 0, .int .i64 0]) 3 24 Tryz.underlying55 hi0 hz0 hz1 hz2 rfl (by decide) _ j (hs (hvOf A mw g) j) rfl (HP.out.1.alloc _) ⟨W.heap.size, 0, none⟩ 1 1 [.int .i64 (x0 : Nat), .int .i64 (x1 : Nat), .int .i64 0] rfl rfl (cells_new W [.int .i64 (x0 : Nat), .int .i64 (x1 : Nat), .int .i64 0] 57) (one3 _ _ _) (by decide) (by have := HN.out.2.1; unfold maxLen; omega) (by have := HN.out.2.1; omega) (by have := HP.out.2.size; simp; omega) _ rfl ?_)
                  | rw [hvx, hW7] | rw [hW7] | rw [hs7])
              intro g2 cap2 w9 hown hgrow hat hlt2
              have HQ : Hid (w9.ownsRow w6.heap.size 57 3 (.slice (some ⟨g2, 0, none⟩) (j + 1) cap2) (j + 1) (hs (hvOf A mw g) (j + 1)) ∧ Below w6.heap.size w6 w9) := by
                refine ⟨?_, (HP.out.2.alloc HP.out.2.size _).trans ⟨hgrow.os, hgrow.tape, hgrow.output, hgrow.size, fun k hk => hgrow.block k (by have := HP.out.2.size; simp; omega) fun e => ?_⟩⟩
                · rw [hs_succ]
                  show World.ownsRow _ _ _ _ _ _ (_ ++ [.int .i64 ((nth A j).1 : Nat), .int .i64 ((nth A j).2 : Nat), .int .i64 (wgt mw g j)])
                  rw [HX.out.1, HX.out.2, HY.out]
                  exact hown
                · have := (HP.out.1.lt k e.symm).1
                  omega
              clear hown hgrow hat hlt2
              go_wp2_with fail
              go_roundw
              case rel => exact ⟨j + 1, by omega, by go_num, HQ.out⟩
              case measure => simp [intOf]; omega
          · have HY : Hid (wgt mw g j = 0) := show _ = _ by unfold wgt; rw [hy, if_neg (fun q => y0 q.2.1)]
            obtain ⟨W, hW8⟩ : ∃ W, W7 = W := ⟨_, rfl⟩
            rw [hW8] at hW7 hs7 q0 q1 q2 qf d0 HV
            have HP : Hid (W.ownsRow w6.heap.size 57 3 _ j (hs (hvOf A mw g) j) ∧ Below w6.heap.size w6 W) := ⟨Br.own_keep HO.out.1 HV.out.2, HO.out.2.trans (HV.out.2.mono HO.out.2.size)⟩
            clear hy hjw hns hW8
            go_wp2_with
              (first
                | (at_builtin; refine wpList_append_lies _ rfl (.tmp 101) (.tmp 103) 55 rfl w6.heap.size 57 z0 (.agg #[.int .i64 0, .int .i64 0, .int .i64 0]) 3 24 Tryz.underlying55 hi0 hz0 hz1 hz2 rfl (by decide) _ j (hs (hvOf A mw g) j) rfl (HP.out.1.alloc _) ⟨W.heap.size, 0, none⟩ 1 1 [.int .i64 (x0 : Nat), .int .i64 (x1 : Nat), .int .i64 0] rfl rfl (cells_new W [.int .i64 (x0 : Nat), .int .i64 (x1 : Nat), .int .i64 0] 57) (one3 _ _ _) (by decide) (by have := HN.out.2.1; unfold maxLen; omega) (by have := HN.out.2.1; omega) (by have := HP.out.2.size; simp; omega) _ rfl ?_)
                | rw [hvx, hW7] | rw [hW7] | rw [hs7])
            intro g2 cap2 w9 hown hgrow hat hlt2
            have HQ : Hid (w9.ownsRow w6.heap.size 57 3 (.slice (some ⟨g2, 0, none⟩) (j + 1) cap2) (j + 1) (hs (hvOf A mw g) (j + 1)) ∧ Below w6.heap.size w6 w9) := by
              refine ⟨?_, (HP.out.2.alloc HP.out.2.size _).trans ⟨hgrow.os, hgrow.tape, hgrow.output, hgrow.size, fun k hk => hgrow.block k (by have := HP.out.2.size; simp; omega) fun e => ?_⟩⟩
              · rw [hs_succ]
                show World.ownsRow _ _ _ _ _ _ (_ ++ [.int .i64 ((nth A j).1 : Nat), .int .i64 ((nth A j).2 : Nat), .int .i64 (wgt mw g j)])
                rw [HX.out.1, HX.out.2, HY.out]
                exact hown
              · have := (HP.out.1.lt k e.symm).1
                omega
            clear hown hgrow hat hlt2
            go_wp2_with fail
            go_roundw
            case rel => exact ⟨j + 1, by omega, by go_num, HQ.out⟩
            case measure => simp [intOf]; omega
        · have k1 : ¬ (j : Int) < (mw : Int) := by omega
          have HY : Hid (wgt mw g j = 0) := show _ = _ by unfold wgt; rw [if_neg (fun q => hjw q.1)]
          obtain ⟨W, hW8⟩ : ∃ W, W7 = W := ⟨_, rfl⟩
          rw [hW8] at hW7 hs7 q0 q1 q2 qf HV
          have HP : Hid (W.ownsRow w6.heap.size 57 3 _ j (hs (hvOf A mw g) j) ∧ Below w6.heap.size w6 W) := ⟨Br.own_keep HO.out.1 HV.out.2, HO.out.2.trans (HV.out.2.mono HO.out.2.size)⟩
          clear hjw hns hW8
          go_wp2_with
            (first
              | (at_builtin; refine wpList_append_lies _ rfl (.tmp 101) (.tmp 103) 55 rfl w6.heap.size 57 z0 (.agg #[.int .i64 0, .int .i64 0, .int .i64 0]) 3 24 Tryz.underlying55 hi0 hz0 hz1 hz2 rfl (by decide) _ j (hs (hvOf A mw g) j) rfl (HP.out.1.alloc _) ⟨W.heap.size, 0, none⟩ 1 1 [.int .i64 (x0 : Nat), .int .i64 (x1 : Nat), .int .i64 0] rfl rfl (cells_new W [.int .i64 (x0 : Nat), .int .i64 (x1 : Nat), .int .i64 0] 57) (one3 _ _ _) (by decide) (by have := HN.out.2.1; unfold maxLen; omega) (by have := HN.out.2.1; omega) (by have := HP.out.2.size; simp; omega) _ rfl ?_)
              | rw [hvx, hW7] | rw [hW7] | rw [hs7])
          intro g2 cap2 w9 hown hgrow hat hlt2
          have HQ : Hid (w9.ownsRow w6.heap.size 57 3 (.slice (some ⟨g2, 0, none⟩) (j + 1) cap2) (j + 1) (hs (hvOf A mw g) (j + 1)) ∧ Below w6.heap.size w6 w9) := by
            refine ⟨?_, (HP.out.2.alloc HP.out.2.size _).trans ⟨hgrow.os, hgrow.tape, hgrow.output, hgrow.size, fun k hk => hgrow.block k (by have := HP.out.2.size; simp; omega) fun e => ?_⟩⟩
            · rw [hs_succ]
              show World.ownsRow _ _ _ _ _ _ (_ ++ [.int .i64 ((nth A j).1 : Nat), .int .i64 ((nth A j).2 : Nat), .int .i64 (wgt mw g j)])
              rw [HX.out.1, HX.out.2, HY.out]
              exact hown
            · have := (HP.out.1.lt k e.symm).1
              omega
          clear hown hgrow hat hlt2
          go_wp2_with fail
          go_roundw
          case rel => exact ⟨j + 1, by omega, by go_num, HQ.out⟩
          case measure => simp [intOf]; omega
      · obtain rfl : j = N := by omega
        have i1 : ¬ (j : Int) < (j : Int) := by omega
        obtain ⟨ah, ch, hv0, hheavy⟩ := own_heavy HO.out.1
        subst hv0
        obtain ⟨t, ht⟩ := tells_some j (nth A) (Sp.wtOf (hvOf A mw g))
        have hlen := HN.out.1
        have ht' : Tells A.length (nth A) (Sp.wtOf (hvOf A mw g)) t := by rw [hlen]; exact ht
        have HS : Hid (Calls Tryz.prog 32 #[.int .i64 (G.n : Nat), .slice ah j ch] wr fun e w' => ∃ a c, e = .returned (.tuple #[.slice a ((List.range j).filter t).length c, .nilIface]) ∧ Below wr.heap.size wr w' ∧ ∀ k, k < ((List.range j).filter t).length → ∃ b, a = some ⟨b, 0, none⟩ ∧ w'.cell? ⟨b, k, none⟩ = some (.int .i64 ((((List.range j).filter t).getD k 0 : Nat) : Int))) :=
          HR.out.2 hheavy (by rw [ed_hv]; exact ht) _ (by
            have h1 := H6.out.1.among
            have h2 := H6.out.1.n60
            have := fault_hv (A := A) (n := G.n) h2 (by rw [hlen]; have := HN.out.2.1; omega) h1 mw g
            rw [hlen] at this
            exact this)
        have HSp : Hid (((List.range j).filter t).length = NT ∧ (∀ i, i < A.length → Br.Bridge A (nth A i) → t i = true) ∧ ∀ k ∈ (List.range j).filter t, k < j) := by
          have h3 := span_tree (rises_nodup HN.out.2.2.2) HN.out.2.2.1 ht' HT.out.1 HT.out.2.1 HT.out.2.2.1
          rw [hlen, HT.out.2.2.2.1] at h3
          exact ⟨h3, fun i hi hb => bridge_span (rises_nodup HN.out.2.2.2) ht' hi hb, fun k hk => List.mem_range.1 (List.mem_filter.1 hk).1⟩
        have HB : Hid (Below w6.heap.size w6 wr) := HO.out.2
        clear hheavy ht ht' hlen hlt hj HO
        obtain ⟨SL, hSL⟩ : ∃ SL, (List.range j).filter t = SL := ⟨_, rfl⟩
        have hNS : SL.length = NT := by rw [← hSL]; exact HSp.out.1
        have HSL : Hid ((List.range j).filter t = SL ∧ SL.length = NT ∧ NT = NT) := ⟨hSL, hNS, rfl⟩
        rw [hSL, hNS] at HS
        clear hSL hNS
        go_wp2_with fail
        refine HS.out.mono ?_
        rintro e w7 ⟨aS, cS, rfl, hb7, hcS⟩
        have H7 : Hid (Dr w1 G A w7 ∧ Li G w7 al j ca A ∧ Li G w7 at' NT ct T ∧ Li G w7 ab M cb L ∧ ∀ k, k < NT → ∃ b, aS = some ⟨b, 0, none⟩ ∧ w7.cell? ⟨b, k, none⟩ = some (.int .i64 ((SL.getD k 0 : Nat) : Int))) := by
          have h7 : Below w6.heap.size w6 w7 := HB.out.trans (hb7.mono HB.out.size)
          exact ⟨H6.out.1.step h7, H6.out.2.1.below h7, H6.out.2.2.1.below h7, H6.out.2.2.2.below h7, hcS⟩
        have t9 : ((NT : Int) == (NT : Int)) = true := beq_self_eq_true _
        clear hb7 hcS H6 HS HB i1
        go_wp2_with fail
        clear t9
        go_loopw [20] (fun i wr => ∃ i' : Nat, i' ≤ M ∧ i = .int .i64 (i' : Nat) ∧ Below w7.heap.size w7 wr) (fun i _ => M - (intOf i).toNat)
        case atStart => exact ⟨0, Nat.zero_le _, rfl, Below.refl _ _⟩
        case round =>
          obtain ⟨i', hi', rfl, hb⟩ := hrel
          have HB : Hid (Below w7.heap.size w7 wr) := hb
          clear hb
          have hm1 := HL.out.2.1
          have hm2 := HN.out.2.1
          have hm3 := HT.out.2.2.2.2.1
          by_cases hlt : i' < M
          · obtain ⟨x, hx⟩ : ∃ x, L.getD i' (0, 0) = x := ⟨_, rfl⟩
            have hxL : x ∈ L := by
              rw [← hx, List.getD_eq_getElem?_getD, List.getElem?_eq_getElem (by rw [HL.out.1]; exact hlt)]
              exact List.getElem_mem _
            obtain ⟨u, v2⟩ := x
            have HX : Hid ((u, v2) ∈ A ∧ Br.Bridge A (u, v2)) := HL.out.2.2 _ hxL
            have HXT : Hid ((u, v2) ∈ T) := bridge_tree (rises_nodup HN.out.2.2.2) HT.out.1 HT.out.2.2.1 HX.out.1 HX.out.2
            have HXS : Hid ((u, v2) ∈ SL.map (nth A)) := by
              obtain ⟨q, hq, e⟩ := List.mem_iff_getElem.1 HX.out.1
              have e2 : nth A q = (u, v2) := by rw [nth_get hq, e]
              refine List.mem_map.2 ⟨q, ?_, e2⟩
              rw [← HSL.out.1, List.mem_filter]
              exact ⟨List.mem_range.2 (by rw [← HN.out.1]; exact hq), HSp.out.2.1 q hq (by rw [e2]; exact HX.out.2)⟩
            have HC : Hid (∀ w', Below w7.heap.size w7 w' → ∃ b, ab = some ⟨b, 0, none⟩ ∧ w'.cell? ⟨b, i' * 2, none⟩ = some (.int .i64 (u : Nat)) ∧ w'.cell? ⟨b, i' * 2 + 1, none⟩ = some (.int .i64 (v2 : Nat))) := fun w' h => by
              obtain ⟨b, e, c0, c1⟩ := (H7.out.2.2.2.1.below h).at_.cell i' (by rw [HL.out.1]; exact hlt)
              rw [hx] at c0 c1
              exact ⟨b, e, c0, c1⟩
            have i0 : (0 : Int) ≤ (i' : Int) := by omega
            have i1 : (i' : Int) < (M : Int) := by omega
            have j5 : IntKind.i64.wrap ((i' : Int) + 1) = (i' : Int) + 1 := by rw [IntKind.wrap_i64]; omega
            clear hx hxL
            go_wp2_with fail
            go_loopw [21, 22] (fun is i wr => ∃ k : Nat, k ≤ NT ∧ i = .int .i64 (k : Nat) ∧ is = .bool (decide ((u, v2) ∈ T.take k)) ∧ Below w7.heap.size w7 wr) (fun _ i _ => NT - (intOf i).toNat)
            case atStart => exact ⟨0, Nat.zero_le _, rfl, by simp, HB.out⟩
            case round =>
              obtain ⟨k, hk, rfl, rfl, hb⟩ := hrel
              have HBk : Hid (Below w7.heap.size w7 wr.drew ∧ Below w7.heap.size w7 wr) := ⟨hb.drew, hb⟩
              clear hb
              by_cases hlk : k < NT
              · have hjl : k < T.length := by rw [HT.out.2.2.2.1]; exact hlk
                have htm := take_mem (e := (u, v2)) hjl
                obtain ⟨bb, rfl, y0, y1⟩ := (H7.out.2.2.1.below HBk.out.2).at_.cell k hjl
                obtain ⟨bx, rfl, x0, x1⟩ := HC.out wr HBk.out.2
                obtain ⟨z, hz⟩ : ∃ z, T.getD k (0, 0) = z := ⟨_, rfl⟩
                rw [hz] at y0 y1 htm
                obtain ⟨e0, e1⟩ := z
                have k0 : (0 : Int) ≤ (k : Int) := by omega
                have k1 : (k : Int) < (NT : Int) := by omega
                have k5 : IntKind.i64.wrap ((k : Int) + 1) = (k : Int) + 1 := by rw [IntKind.wrap_i64]; omega
                clear hz hm1 hm2 hm3
                by_cases hin : (u, v2) ∈ T.take k
                · have HT9 : Hid (decide ((u, v2) ∈ T.take (k + 1)) = true) := decide_eq_true (htm.2 (Or.inl hin))
                  rw [decide_eq_true hin]
                  clear hin htm
                  go_wp2_with fail
                  go_region
                  go_wp2_with fail
                  go_roundw
                  case rel => exact ⟨k + 1, by omega, by go_num, by rw [HT9.out], HBk.out.1⟩
                  case measure => simp [intOf]; omega
                · rw [decide_eq_false hin]
                  by_cases hz : (e0, e1) = (u, v2)
                  · obtain ⟨h1, h2⟩ := Prod.mk.inj hz
                    have HT9 : Hid (decide ((u, v2) ∈ T.take (k + 1)) = true) := decide_eq_true (htm.2 (Or.inr hz))
                    have s8 : ((e0 : Int) == (u : Int)) = true := by rw [h1]; exact beq_self_eq_true _
                    have s9 : ((e1 : Int) == (v2 : Int)) = true := by rw [h2]; exact beq_self_eq_true _
                    clear hin htm hz h1 h2
                    go_wp2_with fail
                    go_region
                    go_wp2_with fail
                    go_roundw
                    case rel => exact ⟨k + 1, by omega, by go_num, by rw [HT9.out], HBk.out.1⟩
                    case measure => simp [intOf]; omega
                  · have HT9 : Hid (decide ((u, v2) ∈ T.take (k + 1)) = false) := decide_eq_false (fun q => (htm.1 q).elim hin hz)
                    by_cases h0 : e0 = u
                    · have h1 : e1 ≠ v2 := fun e => hz (by rw [h0, e])
                      have s8 : ((e0 : Int) == (u : Int)) = true := by rw [h0]; exact beq_self_eq_true _
                      have s9 : ((e1 : Int) == (v2 : Int)) = false := by rw [beq_eq_false_iff_ne]; omega
                      clear hin htm hz h0 h1
                      go_wp2_with fail
                      go_region
                      go_wp2_with fail
                      go_roundw
                      case rel => exact ⟨k + 1, by omega, by go_num, by rw [HT9.out], HBk.out.1⟩
                      case measure => simp [intOf]; omega
                    · have s8 : ((e0 : Int) == (u : Int)) = false := by rw [beq_eq_false_iff_ne]; omega
                      clear hin htm hz h0
                      go_wp2_with fail
                      go_region
                      go_wp2_with fail
                      go_roundw
                      case rel => exact ⟨k + 1, by omega, by go_num, by rw [HT9.out], HBk.out.1⟩
                      case measure => simp [intOf]; omega
              · have hk' : k = NT := by omega
                have HIn : Hid (decide ((u, v2) ∈ T.take k) = true) := decide_eq_true (by rw [List.take_of_length_le (by rw [HT.out.2.2.2.1]; omega)]; exact HXT.out)
                have k1 : ¬ (k : Int) < (NT : Int) := by omega
                rw [HIn.out]
                clear hk' HIn hlk hk
                go_wp2_with fail
                clear k1
                go_loopw [23, 24] (fun is i wr => ∃ k : Nat, k ≤ NT ∧ i = .int .i64 (k : Nat) ∧ is = .bool (decide ((u, v2) ∈ (SL.map (nth A)).take k)) ∧ Below w7.heap.size w7 wr) (fun _ i _ => NT - (intOf i).toNat)
                case atStart => exact ⟨0, Nat.zero_le _, rfl, by simp, HBk.out.2⟩
                case round =>
                  clear HBk
                  obtain ⟨k, hk, rfl, rfl, hb⟩ := hrel
                  have HBk : Hid (Below w7.heap.size w7 wr.drew ∧ Below w7.heap.size w7 wr) := ⟨hb.drew, hb⟩
                  clear hb
                  have hm4 := HSL.out.2.2
                  by_cases hlk : k < NT
                  · have hks : k < SL.length := by rw [HSL.out.2.1]; exact hlk
                    have hjl : k < (SL.map (nth A)).length := by rw [List.length_map]; exact hks
                    have htm := take_mem (e := (u, v2)) hjl
                    obtain ⟨bs, rfl, s0⟩ := H7.out.2.2.2.2 k hlk
                    replace s0 := cell_keep HBk.out.2 s0
                    obtain ⟨sk, hsk⟩ : ∃ sk, SL.getD k 0 = sk := ⟨_, rfl⟩
                    rw [hsk] at s0
                    have hskj : sk < j := by
                      rw [← hsk, List.getD_eq_getElem?_getD, List.getElem?_eq_getElem hks]
                      refine HSp.out.2.2 _ ?_
                      rw [HSL.out.1]
                      exact List.getElem_mem hks
                    obtain ⟨bb, rfl, y0, y1⟩ := (H7.out.2.1.below HBk.out.2).at_.cell sk (by rw [HN.out.1]; exact hskj)
                    obtain ⟨bx, rfl, x0, x1⟩ := HC.out wr HBk.out.2
                    obtain ⟨z, hz⟩ : ∃ z, A.getD sk (0, 0) = z := ⟨_, rfl⟩
                    have hse : SL[k] = sk := by
                      rw [← hsk, List.getD_eq_getElem?_getD, List.getElem?_eq_getElem hks]
                      rfl
                    have hzz : (SL.map (nth A)).getD k (0, 0) = z := by
                      rw [List.getD_eq_getElem?_getD, List.getElem?_map, List.getElem?_eq_getElem hks, hse, ← hz]
                      rfl
                    rw [hz] at y0 y1
                    rw [hzz] at htm
                    obtain ⟨e0, e1⟩ := z
                    have k0 : (0 : Int) ≤ (k : Int) := by omega
                    have k1 : (k : Int) < (NT : Int) := by omega
                    have k5 : IntKind.i64.wrap ((k : Int) + 1) = (k : Int) + 1 := by rw [IntKind.wrap_i64]; omega
                    have l0 : (0 : Int) ≤ (sk : Int) := by omega
                    have l1 : (sk : Int) < (j : Int) := by omega
                    clear hz hzz hse hsk hskj hks hm1 hm2 hm3 hm4
                    by_cases hin : (u, v2) ∈ (SL.map (nth A)).take k
                    · have HT9 : Hid (decide ((u, v2) ∈ (SL.map (nth A)).take (k + 1)) = true) := decide_eq_true (htm.2 (Or.inl hin))
                      rw [decide_eq_true hin]
                      clear hin htm
                      go_wp2_with fail
                      go_region
                      go_wp2_with fail
                      go_roundw
                      case rel => exact ⟨k + 1, by omega, by go_num, by rw [HT9.out], HBk.out.1⟩
                      case measure => simp [intOf]; omega
                    · rw [decide_eq_false hin]
                      by_cases hz : (e0, e1) = (u, v2)
                      · obtain ⟨h1, h2⟩ := Prod.mk.inj hz
                        have HT9 : Hid (decide ((u, v2) ∈ (SL.map (nth A)).take (k + 1)) = true) := decide_eq_true (htm.2 (Or.inr hz))
                        have s8 : ((e0 : Int) == (u : Int)) = true := by rw [h1]; exact beq_self_eq_true _
                        have s9 : ((e1 : Int) == (v2 : Int)) = true := by rw [h2]; exact beq_self_eq_true _
                        clear hin htm hz h1 h2
                        go_wp2_with fail
                        go_region
                        go_wp2_with fail
                        go_roundw
                        case rel => exact ⟨k + 1, by omega, by go_num, by rw [HT9.out], HBk.out.1⟩
                        case measure => simp [intOf]; omega
                      · have HT9 : Hid (decide ((u, v2) ∈ (SL.map (nth A)).take (k + 1)) = false) := decide_eq_false (fun q => (htm.1 q).elim hin hz)
                        by_cases h0 : e0 = u
                        · have h1 : e1 ≠ v2 := fun e => hz (by rw [h0, e])
                          have s8 : ((e0 : Int) == (u : Int)) = true := by rw [h0]; exact beq_self_eq_true _
                          have s9 : ((e1 : Int) == (v2 : Int)) = false := by rw [beq_eq_false_iff_ne]; omega
                          clear hin htm hz h0 h1
                          go_wp2_with fail
                          go_region
                          go_wp2_with fail
                          go_roundw
                          case rel => exact ⟨k + 1, by omega, by go_num, by rw [HT9.out], HBk.out.1⟩
                          case measure => simp [intOf]; omega
                        · have s8 : ((e0 : Int) == (u : Int)) = false := by rw [beq_eq_false_iff_ne]; omega
                          clear hin htm hz h0
                          go_wp2_with fail
                          go_region
                          go_wp2_with fail
                          go_roundw
                          case rel => exact ⟨k + 1, by omega, by go_num, by rw [HT9.out], HBk.out.1⟩
                          case measure => simp [intOf]; omega
                  · have HIn : Hid (decide ((u, v2) ∈ (SL.map (nth A)).take k) = true) := decide_eq_true (by rw [List.take_of_length_le (by rw [List.length_map, HSL.out.2.1]; omega)]; exact HXS.out)
                    have k1 : ¬ (k : Int) < (NT : Int) := by omega
                    rw [HIn.out]
                    clear HIn hlk hk
                    go_wp2_with fail
                    go_roundw
                    case rel => exact ⟨i' + 1, by omega, by go_num, HBk.out.2⟩
                    case measure => simp [intOf]; omega
          · have i1 : ¬ (i' : Int) < (M : Int) := by omega
            have HF : Hid (Below w.heap.size w wr) := HE.out _ (H7.out.1.step HB.out).old
            go_wp2_with fail
            go_ret
            exact ⟨rfl, HF.out⟩

end Go.Proofs.YtcfemppdeidjmacGreat.To
