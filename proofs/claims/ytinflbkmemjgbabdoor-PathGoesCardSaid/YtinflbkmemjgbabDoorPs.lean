/-
  short of package path: step by step nearer.
-/
import Derived.Test.YtinflbkmemjgbabDoorPr
import Derived.Deep.LoopGhost
import Derived.WalkMore
namespace Go.Proofs.YtinflbkmemjgbabDoor.Pt
open Go.RowKit Go.Deep Go.Proofs.YtinflbkmemjgbabDoor.Br
open Go.RowKit (Below)
set_option linter.unusedVariables false

variable {w w' : World} {E : List (Nat × Nat)} {V : Nat → Value}

theorem far_none {b a : Nat} {x : Int} (h : Far E b a x) (hno : ∀ k, ¬ Walk E b a k) : x = -1 := by
  rcases h with ⟨k, h1, _⟩ | ⟨_, h2⟩
  · exact absurd h1.1 (hno k)
  · exact h2

theorem far_is {b a g : Nat} {x : Int} (h : Far E b a x) : x = (g : Nat) ↔ Dist E b a g := by
  rcases h with ⟨k, h1, h2⟩ | ⟨h1, h2⟩
  · constructor
    · intro e
      obtain rfl : k = g := by omega
      exact h1
    · intro e
      rw [h2, h1.one e]
  · constructor
    · intro e; omega
    · intro e; exact absurd e.1 (h1 g)

set_option maxRecDepth 100000 in
set_option maxHeartbeats 1000000 in
theorem steps_none {kn n a b : Nat} (hN : NearAt w kn n V (nbl E)) (hE : Fine E n) (ha : a < n) (hb : b < n) (hno : ∀ k, ¬ Walk E b a k) :
    Calls Tryd.prog 48 #[.slice (some ⟨kn, 0, none⟩) n n, .int .i64 (a : Nat), .int .i64 (b : Nat)] w fun e w' => e = .returned (.tuple #[.slice none 0 0, .iface 23 (.int .i64 4)]) ∧ Below w.heap.size w w' := by
  have hf := far_walk hN hE hb
  have HO : Hid (∀ k, ¬ Walk E b a k) := hno
  clear hN hE hno
  go_enter Tryd.func48, Tryd.ntmps48
  go_wp2_with fail
  go_step3
  go_wp2_with fail
  refine hf.mono ?_
  rintro e w1 ⟨k, d, rfl, hc, hd, hb1⟩
  have c0 := hc a ha
  rw [far_none (hd a) HO.out] at c0
  have j0 : (0 : Int) ≤ (a : Int) := by omega
  have j1 : (a : Int) < (n : Int) := by omega
  clear hf hc hd
  go_wp2_with fail
  rw [Exit.noGoto_ret]
  go_ret2
  exact ⟨rfl, hb1⟩

/-- A way as far as it is gone: what is left of it from y on is its rest. -/
structure Gone (E : List (Nat × Nat)) (b a k : Nat) (P : List Nat) (y g : Nat) : Prop where
  last : P.getD (k - g) 0 = y
  len : P.length = k - g + 1
  le : g ≤ k
  dist : Dist E b y g
  rest : ∀ l, Way E b y g (y :: l) → Way E b a k (P ++ l)

theorem gone_start {b a k : Nat} (h : Dist E b a k) : Gone E b a k [a] a k := ⟨by simp, by simp, Nat.le_refl _, h, fun l hl => hl⟩

theorem Gone.step {b a k y g z : Nat} {P : List Nat} (h : Gone E b a k P y (g + 1)) (hn : Next E y z) (hd : Dist E b z g) (hz : ∀ c, Next E y c → Dist E b c g → z ≤ c) : Gone E b a k (P ++ [z]) z g := by
  have hl := h.len
  have hle := h.le
  have hlen : (P ++ [z]).length = k - g + 1 := by rw [List.length_append, List.length_singleton]; omega
  refine ⟨?_, hlen, by omega, hd, fun l hw => ?_⟩
  · rw [List.getD_eq_getElem?_getD, List.getElem?_append_right (by omega), show k - g - P.length = 0 by omega]
    rfl
  · rw [List.append_assoc]
    exact h.rest _ (.step hn hd hz hw)

theorem Gone.done {b a k y : Nat} {P : List Nat} (h : Gone E b a k P y 0) : Way E b a k P := by
  have := h.rest [] (by rw [dist_zero h.dist]; exact Way.here)
  rwa [List.append_nil] at this

theorem own_cap {base n cap : Nat} {a : Option Addr} {ty : TypeId} {xs : List Value} (h : w.ownsRow base ty 1 (.slice a n cap) n xs) : n ≤ cap ∧ cap ≤ maxLen := by
  rcases h.2 with ⟨h0, _⟩ | ⟨g', cap', cur, hv, hb, hg, h1, h2, h3, h4⟩
  · cases h0
    exact ⟨Nat.le_refl _, Nat.zero_le _⟩
  · cases hv
    omega

set_option maxRecDepth 100000 in
set_option maxHeartbeats 4000000 in
theorem steps_some {kn n a b k : Nat} (hN : NearAt w kn n V (nbl E)) (hE : Fine E n) (ha : a < n) (hb : b < n) (hd : Dist E b a k) :
    Calls Tryd.prog 48 #[.slice (some ⟨kn, 0, none⟩) n n, .int .i64 (a : Nat), .int .i64 (b : Nat)] w fun e w' => ∃ (a' : Option Addr) (c' : Nat) (L : List Nat), e = .returned (.tuple #[.slice a' (k + 1) c', .nilIface]) ∧ Way E b a k L ∧ IntsAt w' a' (k + 1) L ∧ k + 1 ≤ c' ∧ c' ≤ maxLen ∧ Below w.heap.size w w' := by
  have hf := far_walk hN hE hb
  have HN : Hid (NearAt w kn n V (nbl E)) := hN
  have HE : Hid (Fine E n) := hE
  have HD : Hid (Dist E b a k) := hd
  have hn60 := hE.n60
  have hkn : k < n := hd.lt hE.among hb
  obtain ⟨i9, hj9, hi9, hi91, hi92⟩ := info_parts Tryd.infoInt
  clear hN hE hd
  go_enter Tryd.func48, Tryd.ntmps48
  go_wp2_with fail
  go_step3
  go_wp2_with fail
  refine hf.mono ?_
  rintro e w1 ⟨kl, d, rfl, hc, hd, hb1⟩
  have c0 := hc a ha
  rw [(far_is (hd a)).2 HD.out] at c0
  have j0 : (0 : Int) ≤ (a : Int) := by omega
  have j1 : (a : Int) < (n : Int) := by omega
  have t1 : ((k : Int) == -1) = false := by rw [beq_eq_false_iff_ne]; omega
  obtain ⟨t, ht⟩ : ∃ t : Int, (k : Int) - 1 = t := ⟨_, rfl⟩
  have t2 : IntKind.i64.wrap ((k : Int) - 1) = t := by rw [IntKind.wrap_i64]; omega
  have HW : Hid (∀ i, i < n → w1.cell? ⟨kl, i, none⟩ = some (.int .i64 (d i))) := hc
  have HF : Hid (∀ i, Far E b i (d i)) := hd
  have HN1 : Hid (NearAt w1 kn n V (nbl E)) := HN.out.below hb1
  have HB1 : Hid (Below w.heap.size w w1) := hb1
  have HO1 : Hid ((w1.alloc (.cells #[.int .i64 (a : Int)] 3)).ownsRow w1.heap.size 3 1 (.slice (some ⟨w1.heap.size, 0, none⟩) 1 1) 1 (ints [a])) := World.ownsRow_lit w1 #[.int .i64 (a : Int)] 1 (Nat.le_refl _) (by unfold maxLen; omega) rfl
  have HBa : Hid (Below w1.heap.size w1 (w1.alloc (.cells #[.int .i64 (a : Int)] 3))) := below_box _ _
  have cb := cell_keep HBa.out c0
  have HT : Hid ((k : Int) - 1 = t) := ht
  clear hf hc hd hb1 HN ht
  go_wp2_with fail
  generalize w1.alloc (.cells #[.int .i64 (a : Int)] 3) = W1 at HO1 HBa cb ⊢
  go_step3
  go_wp2_with fail
  clear c0 cb t2 j0 j1 t1
  go_loopg [9, 10] k (fun g v9 v10 wr => ∃ (P : List Nat) (y : Nat), v10 = .int .i64 ((g : Int) - 1) ∧ Gone E b a k P y g ∧ wr.ownsRow w1.heap.size 3 1 v9 P.length (ints P) ∧ Below w1.heap.size w1 wr)
  case atStart => exact ⟨[a], a, by rw [HT.out], gone_start HD.out, HO1.out, HBa.out⟩
  case round =>
    clear HO1 HBa
    obtain ⟨P, y, rfl, hG, hown, hbr⟩ := hrel
    have hlen := hG.len
    have hle := hG.le
    have HG : Hid (Gone E b a k P y gk) := hG
    have HO : Hid (wr.ownsRow w1.heap.size 3 1 u9 P.length (ints P)) := hown
    have HB : Hid (Below w1.heap.size w1 wr) := hbr
    obtain ⟨pa, pc, rfl, hI⟩ := own_ints hown rfl
    obtain ⟨Z, hZ⟩ : ∃ Z, P.length = Z := ⟨_, rfl⟩
    cases gk with
    | zero =>
      have hcap : P.length ≤ pc ∧ pc ≤ maxLen := own_cap hown
      have HX : Hid (Way E b a k P ∧ P.length = k + 1 ∧ IntsAt wr pa P.length P ∧ P.length ≤ pc ∧ pc ≤ maxLen ∧ Below w.heap.size w wr) := ⟨hG.done, by omega, hI, hcap.1, hcap.2, below_step HB1.out hbr⟩
      have hZk : Z = k + 1 := by omega
      rw [hZ, hZk]
      clear hG hown hbr hI HG hlen hle hcap HO HB hZ hZk
      go_wp2_with fail
      rw [Exit.noGoto_ret]
      go_ret2
      have hX := HX.out
      rw [hX.2.1] at hX
      exact ⟨pa, pc, P, rfl, hX.1, hX.2.2.1, hX.2.2.2.1, hX.2.2.2.2.1, hX.2.2.2.2.2⟩
    | succ g =>
      have hyn : y < n := walk_lt HE.out.among hG.dist.1 hb
      have h0 : (0 : Int) ≤ ((g + 1 : Nat) : Int) - 1 := by omega
      obtain ⟨gl, hgl⟩ : ∃ gl : Int, ((g + 1 : Nat) : Int) - 1 = gl := ⟨_, rfl⟩
      rw [hgl] at h0 ⊢
      obtain ⟨gb, go, rfl, cy⟩ := hI.cell (k - (g + 1)) (by omega)
      rw [hG.last] at cy
      have cV := (HN1.out.below hbr).cell y hyn
      obtain ⟨ba, ca, eV, -⟩ := HN1.out.list y hyn
      obtain ⟨N, hlN⟩ : ∃ N, (nbl E y).length = N := ⟨_, rfl⟩
      have hN2 : N ≤ 200 := by rw [← hlN]; exact Nat.le_trans (nbl_len E y) HE.out.few
      rw [hlN] at eV
      rw [eV] at cV
      obtain ⟨p, hp⟩ : ∃ p, k - (g + 1) = p := ⟨_, rfl⟩
      rw [hp] at cy
      have hZp : Z = p + 1 := by omega
      have HU : Hid ((nbl E y).length = N ∧ V y = .slice ba N ca ∧ ((g + 1 : Nat) : Int) - 1 = gl ∧ P.length = Z ∧ Z = p + 1 ∧ p = k - (g + 1)) := ⟨hlN, eV, hgl, hZ, hZp, hp.symm⟩
      have j1 : IntKind.i64.wrap ((Z : Int) - 1) = (p : Int) := by rw [IntKind.wrap_i64]; omega
      have j2 : (0 : Int) ≤ (p : Int) := by omega
      have j3 : (p : Int) < (Z : Int) := by omega
      have j4 : (0 : Int) ≤ (y : Int) := by omega
      have j5 : (y : Int) < (n : Int) := by omega
      have HOz : Hid (wr.ownsRow w1.heap.size 3 1 (.slice (some ⟨gb, go, none⟩) Z pc) Z (ints P)) := show World.ownsRow .. by rw [← hZ]; exact hown
      rw [hZ]
      clear hG hown hbr hI hlen hle hgl hp hZp eV hlN hZ HO
      go_wp2_with fail
      clear cV cy
      obtain ⟨W2, hW2⟩ : ∃ W2, W2 = wr := ⟨_, rfl⟩
      go_loopg [9, 43] N (fun g2 v9 v43 wr => ∃ j : Nat, j + g2 = N ∧ v43 = .int .i64 (j : Nat) ∧ v9 = .slice (some ⟨gb, go, none⟩) Z pc ∧ (∀ z ∈ (nbl E y).take j, ¬ Dist E b z g) ∧ W2 = wr)
      case atStart => exact ⟨0, by omega, rfl, rfl, fun z hz => by simp at hz, hW2⟩
      case round =>
        subst hW2
        obtain ⟨j, hjg, rfl, rfl, hno, rfl⟩ := hrel
        cases gk with
        | zero =>
          exfalso
          obtain ⟨c, c1, c2⟩ := HG.out.dist.next
          refine hno c ?_ c2
          rw [List.take_of_length_le (by rw [HU.out.1]; omega)]
          exact HE.out.next.1 c1
        | succ g2 =>
          have hlj : j < N := by omega
          obtain ⟨z, hz⟩ : ∃ z, (nbl E y)[j]? = some z := ⟨(nbl E y)[j]'(by rw [HU.out.1]; exact hlj), List.getElem?_eq_getElem (by rw [HU.out.1]; exact hlj)⟩
          have hzm : z ∈ nbl E y := List.mem_of_getElem? hz
          have hzn := HE.out.near hzm
          have HY : Hid (Next E y z ∧ (nbl E y).take (j + 1) = (nbl E y).take j ++ [z] ∧ (nbl E y)[j]? = some z) := ⟨HE.out.next.2 hzm, by rw [List.take_add_one, hz]; rfl, hz⟩
          obtain ⟨ba', ca', eV, hIV⟩ := (HN1.out.below HB.out).list y hyn
          rw [HU.out.2.1, HU.out.1] at eV
          rw [HU.out.1] at hIV
          obtain ⟨rfl, rfl⟩ : ba = ba' ∧ ca = ca' := by simpa using eV
          obtain ⟨gc, go2, rfl, cz⟩ := hIV.cell j hlj
          rw [List.getD_eq_getElem?_getD, hz] at cz
          replace cz : W2.cell? ⟨gc, go2 + j, none⟩ = some (.int .i64 (z : Nat)) := cz
          have cd := cell_keep HB.out (HW.out z hzn)
          obtain ⟨X, hX⟩ : ∃ X, d z = X := ⟨_, rfl⟩
          rw [hX] at cd
          have HX : Hid (Far E b z X) := by rw [← hX]; exact HF.out z
          have HNo : Hid (∀ z ∈ (nbl E y).take j, ¬ Dist E b z g) := hno
          have j6 : (0 : Int) ≤ (j : Int) := by omega
          have j7 : (j : Int) < (N : Int) := by omega
          have j8 : (0 : Int) ≤ (z : Int) := by omega
          have j9 : (z : Int) < (n : Int) := by omega
          clear hno hz hzm eV hIV hX
          by_cases hq : X = gl
          · have t3 : (X == gl) = true := by rw [beq_iff_eq]; exact hq
            have hdz : Dist E b z g := (far_is HX.out).1 (by have := HU.out.2.2.1; omega)
            have HP : Hid (Gone E b a k (P ++ [z]) z g ∧ (P ++ [z]).length = Z + 1 ∧ ints (P ++ [z]) = ints P ++ [.int .i64 ((z : Nat) : Int)]) := ⟨HG.out.step HY.out.1 hdz (first_near (nbl_up HE.out.up (fun e he => (HE.out.lt e he).1) y) (fun y => HE.out.next) HY.out.2.2 hdz HNo.out), by rw [List.length_append, HU.out.2.2.2.1]; rfl, ints_snoc _ _⟩
            have hZ60 : Z ≤ 60 := by have := HU.out; have := HG.out.le; omega
            have hg2 : IntKind.i64.wrap (gl - 1) = (g : Int) - 1 := by rw [IntKind.wrap_i64]; have := HU.out.2.2.1; have := HG.out.le; omega
            have hs1 : w1.heap.size ≤ W2.heap.size := HB.out.size
            clear hq hdz
            go_wp2_with (first
              | (at_builtin; refine wpList_append_lies _ rfl (.tmp 53) (.tmp 55) 45 rfl w1.heap.size 3 i9 (.int .i64 0) 1 8 Tryd.underlying45 hj9 hi9 hi91 hi92 rfl (by decide) (.slice (some ⟨gb, go, none⟩) Z pc) Z (ints P) rfl (HOz.out.alloc _) ⟨W2.heap.size, 0, none⟩ 1 1 [.int .i64 (z : Int)] rfl rfl (cell_one_new _ _ _) ?c2 (by decide) ?c3 ?c4 ?c5 _ rfl ?_))
            case c2 => intro z hz; simp at hz; subst hz; rfl
            case c3 => unfold maxLen; omega
            case c4 => omega
            case c5 => first | omega | (simp; omega)
            intro g1 cap1 w6 hown hgrow hat hlt2
            have HO6 : Hid (w6.ownsRow w1.heap.size 3 1 (.slice (some ⟨g1, 0, none⟩) (Z + 1) cap1) (P ++ [z]).length (ints (P ++ [z]))) := show World.ownsRow .. by
              rw [HP.out.2.1, HP.out.2.2]; exact hown
            have HB6 : Hid (Below w1.heap.size w1 w6) := (HB.out.alloc hs1 _).grown hgrow (by simp; omega) (fun g e => (HOz.out.lt g e).1)
            clear hown hgrow hat hlt2
            go_wp2_with fail
            go_roundg g
            case measure => omega
            case rel => exact ⟨P ++ [z], z, rfl, HP.out.1, HO6.out, HB6.out⟩
          · have t3 : (X == gl) = false := by rw [beq_eq_false_iff_ne]; exact hq
            have HNo2 : Hid (∀ x ∈ (nbl E y).take (j + 1), ¬ Dist E b x g) := fun x hx hdx => by
              rw [HY.out.2.1] at hx
              rcases List.mem_append.1 hx with q | q
              · exact HNo.out x q hdx
              · rw [List.mem_singleton] at q
                subst q
                exact hq (by rw [(far_is HX.out).2 hdx]; have := HU.out.2.2.1; omega)
            clear hq
            go_wp2_with fail
            go_roundg g2
            case measure => omega
            case rel => exact ⟨j + 1, by omega, by go_num, rfl, HNo2.out, rfl⟩

end Go.Proofs.YtinflbkmemjgbabDoor.Pt
