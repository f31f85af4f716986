/-
  Xe Xg
-/
import Derived.Test.YtcfemppdeidjmacGreatW22
import Derived.Test.YtcfemppdeidjmacGreatW27
import Derived.Test.YtcfemppdeidjmacGreatW24
import Derived.Test.YtcfemppdeidjmacGreatW25
namespace Go.Proofs.YtcfemppdeidjmacGreat.To
set_option linter.unusedSectionVars false
variable [Inhabited Zed] [Inhabited (PLift ((default : Zed).n ≤ 0))]
open Go.RowKit Go.Deep
open Go.RowKit (Below)
set_option linter.unusedVariables false

variable {w w' wr w0 : World} {A T L E : List (Nat × Nat)} {e : Nat × Nat} {m n i j N c : Nat} {p q : Nat → Nat}

def nth (A : List (Nat × Nat)) (i : Nat) : Nat × Nat := A.getD i (0, 0)
theorem nth_get (h : i < A.length) : nth A i = A[i] := by unfold nth; rw [List.getD_eq_getElem?_getD, List.getElem?_eq_getElem h]; rfl
end Go.Proofs.YtcfemppdeidjmacGreat.To

namespace Go.Proofs.YtcfemppdeidjmacGreat.To
set_option linter.unusedSectionVars false
variable [Inhabited Zed] [Inhabited (PLift ((default : Zed).n ≤ 0))]
open Go.RowKit Go.Deep
open Go.RowKit (Below)
set_option linter.unusedVariables false

variable {w w' wr w0 : World} {G : Gr.GPl} {A T E P Q : List (Nat × Nat)} {e : Nat × Nat} {m n i j k g N c : Nat} {ad : Option Addr} {p q : Nat → Nat} {F F' : Nat → Prop} {X : List Nat} {L : Pl}

def ShortTells : Prop := ∀ {w : World} {ad : Option Addr} {m c n a b : Nat} {f : Nat → Int × Int}, Br.EgAt w ad m f → m ≤ c → c ≤ maxLen → Br.Valid (n : Nat) m f → a < n → b < n → Calls Tryz.prog 13 #[.int .i64 (n : Nat), .slice ad m c, .int .i64 (a : Nat), .int .i64 (b : Nat)] w fun e w' =>
  (∃ a' c' k, e = .returned (.tuple #[.slice a' (k + 1) c', .nilIface]) ∧ Below w.heap.size w w' ∧ Pt.Dist (Br.edges f m) b a k) ∨ (∃ a' c' t y, e = .returned (.tuple #[.slice a' 0 c', .iface t y]) ∧ Below w.heap.size w w' ∧ ¬ Conn (Br.edges f m) a b)

theorem next_mono (hs : ∀ e ∈ T, e ∈ A) : ∀ {k a b : Nat}, Pt.Walk T b a k → Pt.Walk A b a k
  | 0, a, b, h => h
  | k + 1, a, b, h => by
    obtain ⟨c, h1, h2⟩ := h.parts
    exact Pt.Walk.step (h1.imp (hs _) (hs _)) (next_mono hs h2)

theorem dist_less (hs : ∀ e ∈ T, e ∈ A) {a b k k' : Nat} (h : Pt.Dist A b a k) (h' : Pt.Dist T b a k') : k ≤ k' := h.2 _ (next_mono hs h'.1)
theorem dist_conn {a b k : Nat} (h : Pt.Dist A b a k) : Conn A a b := h.1.conn

theorem range_nth (A : List (Nat × Nat)) (j : Nat) (hj : j ≤ A.length) : (List.range j).map (nth A) = A.take j := by
  refine List.ext_getElem? fun i => ?_
  rw [List.getElem?_map, List.getElem?_take]
  rcases Nat.lt_or_ge i j with h | h
  · rw [List.getElem?_range h, if_pos h, List.getElem?_eq_getElem (by omega)]
    show some (nth A i) = _
    rw [nth_get (by omega)]
  · rw [List.getElem?_eq_none (by simpa using h), if_neg (by omega)]
    rfl

theorem roots_parts {L : List (Nat × Nat)} (hl : Lnkd n L) (hp : Rest A p) (hc : ∀ i j, rt L i = rt L j ↔ Conn A i j) : n - L.length = partsOf n p := by
  have h1 := roots_count hl
  have e1 : ∀ i j, rt L i = rt L j ↔ p i = p j := fun i j => (hc i j).trans (hp.same i j).symm
  have hA : cnt n (fun i => decide (rt L i = i)) = ((List.range n).filter fun i => decide (rt L i = i)).length := Br.cnt_filter ..
  have hB : partsOf n p = ((List.range n).filter fun i => decide (p i = i)).length := Br.cnt_filter ..
  have hpp : ∀ i, p (p i) = p i := fun i => ((hp.same (p i) i).2 ((conn_eqv _).symm (hp.conn i)))
  have h2 := pigeon (f := p) ((List.range n).filter fun i => decide (rt L i = i)) ((List.range n).filter fun i => decide (p i = i)) (List.nodup_range.sublist List.filter_sublist)
    (fun x hx y hy e => by
      have q1 := of_decide_eq_true (List.mem_filter.1 hx).2
      have q2 := of_decide_eq_true (List.mem_filter.1 hy).2
      rw [← q1, ← q2]
      exact (e1 x y).2 e)
    (fun x hx => by
      have q1 := List.mem_range.1 (List.mem_filter.1 hx).1
      have := hp.le x
      exact List.mem_filter.2 ⟨List.mem_range.2 (by omega), decide_eq_true (hpp x)⟩)
  have h3 := pigeon (f := rt L) ((List.range n).filter fun i => decide (p i = i)) ((List.range n).filter fun i => decide (rt L i = i)) (List.nodup_range.sublist List.filter_sublist)
    (fun x hx y hy e => by
      have q1 := of_decide_eq_true (List.mem_filter.1 hx).2
      have q2 := of_decide_eq_true (List.mem_filter.1 hy).2
      rw [← q1, ← q2]
      exact (e1 x y).1 e)
    (fun x hx => by
      have q1 := List.mem_range.1 (List.mem_filter.1 hx).1
      exact List.mem_filter.2 ⟨List.mem_range.2 (rt_lt hl x q1), decide_eq_true (rt_rt hl x)⟩)
  omega

theorem UG.rows {ed : Nat → Nat × Nat} (h : UG w0 n ed X w g F) : Gr.Rows w F := by
  obtain ⟨M, ⟨ba, bs, vj, h1, h2⟩, -⟩ := h
  intro b t ht ho hb
  have hty : Tag w b 104 ∨ Tag w b 3 := by
    rcases (h2 b).1 hb with rfl | rfl | rfl | e
    · exact Or.inl (rowIs_tag h1.st)
    · exact Or.inr (rowIs_tag h1.above)
    · exact Or.inr (rowIs_tag h1.size)
    · rcases h1.joined.2 with ⟨h0, _⟩ | ⟨g', cap, cur, hv, q1, q2, q3⟩
      · rw [h0] at e; cases e
      · rw [hv] at e
        cases e
        exact Or.inr ⟨_, _, q2⟩
  have one : ∀ {t t'}, Tag w b t → Tag w b t' → t = t' := fun {t t'} a1 a2 => by
    obtain ⟨_, _, a1⟩ := a1
    obtain ⟨_, _, a2⟩ := a2
    rw [a1] at a2
    cases a2
    rfl
  rcases hty with q | q
  · have := one ht q
    subst this
    rcases ho with e | e | e <;> exact absurd e (by decide)
  · have := one ht q
    subst this
    rcases ho with e | e | e <;> exact absurd e (by decide)

structure TW (w0 : World) (n : Nat) (A : List (Nat × Nat)) (X : List Nat) (j : Nat) (w : World) (g : Nat) (L : Pl) : Prop where
  un : ∃ F, UG w0 n (nth A) X w g F ∧ ∀ k, Foot L k → ¬ F k
  fo : ∃ E p, FAt w L E p ∧ ∀ x y, Conn E x y ↔ Conn (A.take j) x y
  new : ∀ k, Foot L k → w0.heap.size ≤ k
  ln : L.n = n
  below : Below w0.heap.size w0 w

theorem TW.step (h : TW w0 n A X j w g L) (hb : Below w.heap.size w w') : TW w0 n A X j w' g L := by
  obtain ⟨F, h1, h2⟩ := h.un
  obtain ⟨E, p, h3, h4⟩ := h.fo
  exact ⟨⟨F, h1.below hb, h2⟩, ⟨E, p, h3.below hb, h4⟩, h.new, h.ln, h.below.trans (hb.mono h.below.size)⟩

theorem TW.join (h : TW w0 n A X j w g L) (k : Nat) :
    Calls Tryz.prog 17 #[.pointer (some ⟨g, 0, none⟩), .int .i64 ((nth A k).1 : Nat), .int .i64 ((nth A k).2 : Nat)] w fun e w' => ∃ v, e = .returned v ∧ TW w0 n A (X ++ [k]) j w' g L := by
  obtain ⟨F, h1, h2⟩ := h.un
  obtain ⟨E, p, h3, h4⟩ := h.fo
  refine (h1.join h.below.size k).mono ?_
  rintro e w' ⟨v, rfl, F', h5, h6⟩
  have t : Gr.Turns F w w' := ⟨h6.os, h6.tape, h6.output, h6.size, h6.block⟩
  refine ⟨v, rfl, ⟨F', h5, fun k hk hF => ?_⟩, ⟨E, p, Gr.fat_turns h3 h1.rows h2 t, h4⟩, h.new, h.ln, Un.Moves.below h.below h.below.size (fun k hk => (h1.lt hk).2) h6⟩
  rcases h6.foot k hF with q | q
  · exact h2 k hk q
  · have := h3.foot_lt hk; omega

theorem TW.link (h : TW w0 n A X j w g L) (hj : j < A.length) (hl : (nth A j).1 < n ∧ (nth A j).2 < n) :
    Calls Tryz.prog 18 #[.pointer (some ⟨L.g, 0, none⟩), .int .i64 ((nth A j).1 : Nat), .int .i64 ((nth A j).2 : Nat)] w fun e w' => ∃ v, e = .returned v ∧ TW w0 n A X (j + 1) w' g L := by
  obtain ⟨F, h1, h2⟩ := h.un
  obtain ⟨E, p, h3, h4⟩ := h.fo
  have htk : A.take (j + 1) = A.take j ++ [nth A j] := by rw [List.take_add_one, List.getElem?_eq_getElem hj, nth_get hj]; rfl
  have hcn : ∀ x y, Conn (A.take (j + 1)) x y ↔ Conn (((nth A j).1, (nth A j).2) :: A.take j) x y := fun x y => by
    rw [htk]
    exact conn_perm (List.perm_append_comm) x y
  by_cases hp : p (nth A j).1 = p (nth A j).2
  · refine (link_clash h3 _ _ (by rw [h.ln]; exact hl.1) (by rw [h.ln]; exact hl.2) hp).mono ?_
    rintro e w' ⟨rfl, hb⟩
    have hs := h.step hb
    obtain ⟨E', p', q3, q4⟩ := hs.fo
    refine ⟨_, rfl, hs.un, ⟨E, p, h3.below hb, fun x y => ?_⟩, hs.new, hs.ln, hs.below⟩
    rw [hcn, conn_more ((h4 _ _).1 ((h3.grown.rest.same _ _).1 hp)) x y]
    exact h4 x y
  · refine (flink_any h3 _ _ (by rw [h.ln]; exact hl.1) (by rw [h.ln]; exact hl.2) hp).mono ?_
    rintro e w' ⟨rfl, t, P, Q, p', -, mo, hf⟩
    have hm : Un.Moves (Foot L) w w' (Foot L) := ⟨t.os, t.tape, t.output, t.size, t.block, fun k hk => Or.inl hk⟩
    refine ⟨_, rfl, ⟨F, (h1.apart hm h2).1, h2⟩, ⟨_, p', hf, fun x y => ?_⟩, h.new, h.ln, Un.Moves.below h.below h.below.size h.new hm⟩
    rw [mo.conn, hcn, conn_cons]
    simp only [h4]

end Go.Proofs.YtcfemppdeidjmacGreat.To
