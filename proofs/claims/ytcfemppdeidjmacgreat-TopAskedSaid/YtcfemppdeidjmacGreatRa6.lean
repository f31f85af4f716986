/-
  joinWhole of package asks.
-/
import Derived.Test.YtcfemppdeidjmacGreatRa5
namespace Go.Proofs.YtcfemppdeidjmacGreat.As
open Go.RowKit Go.Deep
open Go.RowKit (Below)
set_option linter.unusedVariables false

variable {w w' w'' w0 : World} {base n gs g m c : Nat} {F F' : Nat → Prop} {L L' : List (Nat × Nat)} {a : Option Addr} {v v' : Value} {l l' : List Bool} {f : Nat → Int × Int × Int}

/-- Where joinWhole stands: so many spans are looked at. -/
structure JW (w0 w wr : World) (n gs g : Nat) (F : Nat → Prop) (L : List (Nat × Nat)) (a : Option Addr) (m c : Nat) (f : Nat → Int × Int × Int) (v : Value) (l : List Bool) (P : List Nat) (S : List (Nat × Nat)) (low high j : Nat) (rest : Value) : Prop where
  st : ∃ F' L' P', SW w0 wr n gs g F' L' a m c f v l ∧ Un.Moves (SF F gs v) w wr (SF F' gs v) ∧ Gen n (prs f P') L' ∧ (∀ i, i ∈ P' ↔ i ∈ P ∨ ∃ s ∈ S.take j, whole low high s = true ∧ s.1 = i) ∧ ∃ M, L' = M ++ L
  own : wr.ownsRow w.heap.size 233 2 rest ((S.take j).filter (piece low high)).length (twos ((S.take j).filter (piece low high)))

/-- What joinWhole comes to. -/
def Wholed (w0 w : World) (n gs g : Nat) (F : Nat → Prop) (L : List (Nat × Nat)) (a : Option Addr) (m c : Nat) (f : Nat → Int × Int × Int) (v : Value) (l : List Bool) (P : List Nat) (S : List (Nat × Nat)) (low high : Nat) (e : Ending) (w' : World) : Prop :=
  ∃ rest, e = .returned rest ∧ JW w0 w w' n gs g F L a m c f v l P S low high S.length rest

theorem take_snoc {S : List (Nat × Nat)} {j : Nat} {s : Nat × Nat} (h : S[j]? = some s) : S.take (j + 1) = S.take j ++ [s] := by
  rw [List.take_add_one, h]; rfl

set_option maxRecDepth 100000 in
set_option maxHeartbeats 2000000 in
theorem whole_any {S : List (Nat × Nat)} {P : List Nat} {low high N cs : Nat} {ax : Option Addr} (h : SW w0 w n gs g F L a m c f v l) (hS : w.ownsRow w0.heap.size 233 2 (.slice ax N cs) N (twos S)) (hN : S.length = N) (hN1 : N ≤ 120)
    (hmay : ∀ k, k < m → May n f k) (hsin : ∀ s ∈ S, s.1 < m ∧ s.2 ≤ m) (hm : m ≤ 120) (hlow : low ≤ 120) (hhigh : high ≤ 120) (hG : Gen n (prs f P) L) :
    Calls Tryz.prog 161 #[.pointer (some ⟨gs, 0, none⟩), .int .i64 (low : Nat), .int .i64 (high : Nat), .slice ax N cs] w (Wholed w0 w n gs g F L a m c f v l P S low high) := by
  have H0 : Hid (JW w0 w w n gs g F L a m c f v l P S low high 0 (.slice none 0 0)) := ⟨⟨F, L, P, h, Un.Moves.of_below (Below.refl _ _), hG, fun i => by simp, [], rfl⟩, World.ownsRow_nil ..⟩
  have HS : Hid (w.ownsRow w0.heap.size 233 2 (.slice ax N cs) N (twos S) ∧ S.length = N) := ⟨hS, hN⟩
  have HMay : Hid ((∀ k, k < m → May n f k) ∧ (∀ s ∈ S, s.1 < m ∧ s.2 ≤ m)) := ⟨hmay, hsin⟩
  have HW : Hid (SW w0 w n gs g F L a m c f v l) := h
  obtain ⟨z0, hi0, hz0, hz1, hz2⟩ := info_parts Tryz.infoTwo
  clear h hS hN hmay hsin hG
  go_enter Tryz.func161, Tryz.ntmps161
  go_wp2_with fail
  go_loopw [9, 11, 12, 15] (fun vo _ _ i wr => ∃ j : Nat, j ≤ N ∧ i = .int .i64 (j : Nat) ∧ JW w0 w wr n gs g F L a m c f v l P S low high j vo) (fun _ _ _ i _ => N - (intOf i).toNat)
  case atStart => exact ⟨0, Nat.zero_le _, rfl, H0.out⟩
  case round =>
    clear H0
    obtain ⟨j, hj, rfl, hJ⟩ := hrel
    by_cases hlt : j < N
    · obtain ⟨⟨F', L', P', hW, hMo, hG, hP, hM⟩, hown⟩ := hJ
      have hS' := HW.out.two HS.out.1 hMo
      obtain ⟨ax', cs', e1, hE, -, -⟩ := own_edges hS' HS.out.2
      cases e1
      obtain ⟨sb, rfl, q1, q2⟩ := hE.cell j (by rw [HS.out.2]; exact hlt)
      obtain ⟨⟨x, y⟩, hs⟩ : ∃ s, S[j]? = some s := ⟨S[j]'(by rw [HS.out.2]; exact hlt), List.getElem?_eq_getElem (by rw [HS.out.2]; exact hlt)⟩
      rw [show S.getD j (0, 0) = (x, y) by rw [List.getD_eq_getElem?_getD, hs]; rfl] at q1 q2
      have q1 : wr.cell? ⟨sb, j * 2, none⟩ = some (.int .i64 (x : Nat)) := q1
      have q2 : wr.cell? ⟨sb, j * 2 + 1, none⟩ = some (.int .i64 (y : Nat)) := q2
      have hxy := HMay.out.2 (x, y) (List.mem_of_getElem? hs)
      have hxm : x < m := hxy.1
      have hym : y ≤ m := hxy.2
      have HJ : Hid (SW w0 wr n gs g F' L' a m c f v l ∧ Un.Moves (SF F gs v) w wr (SF F' gs v) ∧ Gen n (prs f P') L' ∧ (∀ i, i ∈ P' ↔ i ∈ P ∨ ∃ s ∈ S.take j, whole low high s = true ∧ s.1 = i) ∧ ∃ M, L' = M ++ L) := ⟨hW, hMo, hG, hP, hM⟩
      have HO : Hid (wr.ownsRow w.heap.size 233 2 u9 ((S.take j).filter (piece low high)).length (twos ((S.take j).filter (piece low high)))) := hown
      have HSJ : Hid (S[j]? = some (x, y)) := hs
      have i0 : (0 : Int) ≤ (j : Int) := by omega
      have i1 : (j : Int) < (N : Int) := by omega
      clear hW hMo hG hP hM hown hS' hE hs hxy
      -- by mkjw.py
      have hbA : Below wr.heap.size wr (wr.alloc (.cells #[.int .i64 (x : Int), .int .i64 (y : Int)] 233)) := (Below.refl _ _).alloc (Nat.le_refl _) _
      have HWA : Hid (SW w0 (wr.alloc (.cells #[.int .i64 (x : Int), .int .i64 (y : Int)] 233)) n gs g F' L' a m c f v l) := HJ.out.1.step hbA
      have HMA : Hid (Un.Moves (SF F gs v) w (wr.alloc (.cells #[.int .i64 (x : Int), .int .i64 (y : Int)] 233)) (SF F' gs v)) := HJ.out.2.1.trans (Un.Moves.of_below hbA)
      have HOA : Hid ((wr.alloc (.cells #[.int .i64 (x : Int), .int .i64 (y : Int)] 233)).ownsRow w.heap.size 233 2 u9 ((S.take j).filter (piece low high)).length (twos ((S.take j).filter (piece low high)))) := HO.out.alloc _
      have s0 : (wr.alloc (.cells #[.int .i64 (x : Int), .int .i64 (y : Int)] 233)).cell? ⟨wr.heap.size, 0, none⟩ = some (.int .i64 (x : Int)) := by simp
      have s1 : (wr.alloc (.cells #[.int .i64 (x : Int), .int .i64 (y : Int)] 233)).cell? ⟨wr.heap.size, 1, none⟩ = some (.int .i64 (y : Int)) := by simp
      have hRl : ((S.take j).filter (piece low high)).length ≤ j := Nat.le_trans (List.length_filter_le _ _) (by simp; omega)
      clear hbA
      by_cases hw1 : x ≤ low
      · by_cases hw2 : high ≤ y
        · have w1 := hw1
          have w2 := hw2
          obtain ⟨b, o, ea, -⟩ := HWA.out.ev x hxm
          subst ea
          have hmx := HMay.out.1 x hxm
          have HWh : Hid (∀ i, i ∈ x :: P' ↔ i ∈ P ∨ ∃ s ∈ S.take (j + 1), whole low high s = true ∧ s.1 = i) := fun i => by
            have hwh : whole low high (x, y) = true := by
              unfold whole
              rw [decide_eq_true_iff]
              exact ⟨w1, w2⟩
            rw [take_snoc HSJ.out, List.mem_cons, HJ.out.2.2.2.1 i]
            constructor
            · rintro (rfl | z | ⟨s, z1, z2⟩)
              · exact Or.inr ⟨(i, y), List.mem_append_right _ (List.mem_singleton.2 rfl), hwh, rfl⟩
              · exact Or.inl z
              · exact Or.inr ⟨s, List.mem_append_left _ z1, z2⟩
            · rintro (z | ⟨s, z1, z2, z3⟩)
              · exact Or.inr (Or.inl z)
              · rcases List.mem_append.1 z1 with z1 | z1
                · exact Or.inr (Or.inr ⟨s, z1, z2, z3⟩)
                · rw [List.mem_singleton] at z1
                  subst z1
                  exact Or.inl z3.symm
          have HFl : Hid ((S.take (j + 1)).filter (piece low high) = (S.take j).filter (piece low high)) := show _ = _ by
            rw [take_snoc HSJ.out, List.filter_append]
            have hpc : piece low high (x, y) = false := by
              unfold piece
              rw [decide_eq_false_iff_not]
              exact fun z => z.1 ⟨w1, w2⟩
            simp [hpc]
          obtain ⟨qe, hqe⟩ : ∃ qe, (f x).1 = qe := ⟨_, rfl⟩
          obtain ⟨xe, hxe⟩ : ∃ xe, (f x).2.1 = xe := ⟨_, rfl⟩
          obtain ⟨ye, hye⟩ : ∃ ye, (f x).2.2 = ye := ⟨_, rfl⟩
          have HQ : Hid ((f x).2.1 = xe ∧ (f x).2.2 = ye) := ⟨hxe, hye⟩
          obtain ⟨W1, hW1⟩ : ∃ W1, wr.alloc (.cells #[.int .i64 (x : Int), .int .i64 (y : Int)] 233) = W1 := ⟨_, rfl⟩
          rw [hW1] at HWA HMA HOA s0 s1
          obtain ⟨vb, hvb⟩ : ∃ vb, wr.heap.size = vb := ⟨_, rfl⟩
          rw [hvb] at s0 s1
          obtain ⟨b', o', ea, c1, c2, c3⟩ := HWA.out.ev.below HWA.out.below x hxm
          simp only [Option.some.injEq, Addr.mk.injEq, and_true] at ea
          obtain ⟨rfl, rfl⟩ := ea
          rw [hqe] at c1
          rw [hxe] at c2
          rw [hye] at c3
          have g1 := HWA.out.c1
          have g0 := HWA.out.c0
          have i2 : (0 : Int) ≤ (x : Int) := by omega
          have i3 : (x : Int) < (m : Int) := by omega
          clear hmx hqe hxe hye q1 q2
          go_wp2_with (first | rw [hW1])
          go_region_held3 (fun V => V.cell? ⟨gs, 1, none⟩ = some (.slice (some ⟨b, o, none⟩) m c) ∧ V.cell? ⟨vb, 0, none⟩ = some (.int .i64 (x : Int)) ∧ V.cell? ⟨b, o + x * 3, none⟩ = some (.int .i64 qe) ∧ V.cell? ⟨b, o + x * 3 + 1, none⟩ = some (.int .i64 xe) ∧ V.cell? ⟨b, o + x * 3 + 2, none⟩ = some (.int .i64 ye)) (first | (go_keep; done) | exact ⟨g1, s0, c1, c2, c3⟩) (fail)
          have hbB : Below W1.heap.size W1 (W1.alloc (.cells #[.int .i64 qe, .int .i64 xe, .int .i64 ye] 80)).drew := ((Below.refl _ _).alloc (Nat.le_refl _) _).drew
          have HWB : Hid (SW w0 (W1.alloc (.cells #[.int .i64 qe, .int .i64 xe, .int .i64 ye] 80)).drew n gs g F' L' (some ⟨b, o, none⟩) m c f v l) := HWA.out.step hbB
          have HMB : Hid (Un.Moves (SF F gs v) w (W1.alloc (.cells #[.int .i64 qe, .int .i64 xe, .int .i64 ye] 80)).drew (SF F' gs v)) := HMA.out.trans (Un.Moves.of_below hbB)
          have HOB : Hid ((W1.alloc (.cells #[.int .i64 qe, .int .i64 xe, .int .i64 ye] 80)).drew.ownsRow w.heap.size 233 2 u9 ((S.take j).filter (piece low high)).length (twos ((S.take j).filter (piece low high)))) := own_same HOA.out fun k hk => hbB.block k (own_bound HOA.out hk).2
          have HT : Hid (Tg (W1.alloc (.cells #[.int .i64 qe, .int .i64 xe, .int .i64 ye] 80)).drew W1.heap.size 80) := ⟨_, _, heap_alloc_new W1 _⟩
          have e1 : (W1.alloc (.cells #[.int .i64 qe, .int .i64 xe, .int .i64 ye] 80)).drew.cell? ⟨W1.heap.size, 1, none⟩ = some (.int .i64 xe) := by show (W1.alloc _).cell? _ = _; simp
          have e2 : (W1.alloc (.cells #[.int .i64 qe, .int .i64 xe, .int .i64 ye] 80)).drew.cell? ⟨W1.heap.size, 2, none⟩ = some (.int .i64 ye) := by show (W1.alloc _).cell? _ = _; simp
          obtain ⟨W2, hW2⟩ : ∃ W2, (W1.alloc (.cells #[.int .i64 qe, .int .i64 xe, .int .i64 ye] 80)).drew = W2 := ⟨_, rfl⟩
          rw [hW2] at HWB HMB HOB HT e1 e2
          rw [hW2]
          obtain ⟨eb, heb⟩ : ∃ eb, W1.heap.size = eb := ⟨_, rfl⟩
          rw [heb] at HT e1 e2
          rw [heb]
          clear hbB hW2 heb s0 s1 c1 c2 c3 g1 g0 HWA HMA HOA hW1
          have k0 := HWB.out.c0
          have HCall : Hid (∀ W, Below W2.heap.size W2 W → Calls Tryz.prog 17 #[.pointer (some ⟨g, 0, none⟩), .int .i64 xe, .int .i64 ye] W (Un.JoinU w0.heap.size n W g F' L' xe ye)) := fun W hW => Un.join_u (HWB.out.step hW).s.u (HWB.out.step hW).below.size xe ye
          have HKeep : Hid (∀ W W5 F5 L5, Below W2.heap.size W2 W → Un.UAt w0.heap.size n W5 g F5 L5 → Un.Moves F' W W5 F5 → (W5.cell? ⟨gs, 0, none⟩ = some (.pointer (some ⟨g, 0, none⟩)) ∧ W5.cell? ⟨eb, 1, none⟩ = some (.int .i64 xe) ∧ W5.cell? ⟨eb, 2, none⟩ = some (.int .i64 ye))) := fun W W5 F5 L5 hW hu hmv => by
            have h1 := HWB.out.step hW
            have hle : eb < W2.heap.size := World.block_lt_of_cell? _ _ e1
            have hbl := hW.block eb hle
            have ht : Tg W eb 80 := by obtain ⟨cs, fr, z⟩ := HT.out; exact ⟨cs, fr, hbl.trans z⟩
            have hne : ¬ F' eb := fun z => by
              rcases Tg.union h1.s.u z with z | z
              · exact absurd (ht.one z) (by decide)
              · exact absurd (ht.one z) (by decide)
            have hbl2 := (hmv.block eb (Nat.lt_of_lt_of_le hle hW.size) hne).trans hbl
            exact ⟨(h1.moved hu hmv).1.c0, (World.cell?_of_block (w := W2) (a := ⟨eb, 1, none⟩) hbl2).trans e1, (World.cell?_of_block (w := W2) (a := ⟨eb, 2, none⟩) hbl2).trans e2⟩
          go_wp2_with fail
          go_region_held3 (fun V => V.cell? ⟨gs, 0, none⟩ = some (.pointer (some ⟨g, 0, none⟩)) ∧ V.cell? ⟨eb, 1, none⟩ = some (.int .i64 xe) ∧ V.cell? ⟨eb, 2, none⟩ = some (.int .i64 ye)) (first | (go_keep; done) | exact ⟨k0, e1, e2⟩ | exact HKeep.out _ _ _ _ hW5 hu5 hm5)
            (first
              | (go_at_call 17; have hW5 : Below W2.heap.size W2 W2 := Below.refl _ _; refine (HCall.out W2 hW5).mono ?_; rintro e w5 ⟨xx, err, F5, L5, rfl, hu5, hm5, hj5, -⟩)
              | (go_at_call 17; have hW5 : Below W2.heap.size W2 W2.drew := (Below.refl _ _).drew; refine (HCall.out W2.drew hW5).mono ?_; rintro e w5 ⟨xx, err, F5, L5, rfl, hu5, hm5, hj5, -⟩))
          have HR : Hid (JW w0 w w5 n gs g F L (some ⟨b, o, none⟩) m c f v l P S low high (j + 1) u9) := by
            obtain ⟨h1, h2⟩ := (HWB.out.step hW5).moved hu5 hm5
            obtain ⟨M, hM⟩ := hj5.more
            obtain ⟨M', hM'⟩ := HJ.out.2.2.2.2
            refine ⟨⟨F5, L5, x :: P', h1, (HMB.out.trans (Un.Moves.of_below hW5)).trans h2, ?_, HWh.out, M ++ M', by rw [hM, hM', List.append_assoc]⟩, ?_⟩
            · have := HJ.out.2.2.1.step hj5
              show Gen n (((f x).2.1, (f x).2.2) :: prs f P') L5
              rw [HQ.out.1, HQ.out.2]
              exact this
            · rw [HFl.out]
              have hO : _ := HOB.out
              exact (HWB.out.step hW5).two (own_same hO fun k hk => hW5.block k (own_bound hO hk).2) h2
          clear hu5 hm5 hj5 hW5 HCall HKeep k0 e1 e2 HJ HWB HMB HOB HT
          go_wp2_with fail
          go_roundw
          case rel => exact ⟨j + 1, by omega, by go_num, HR.out⟩
          case measure => simp [intOf]; omega
        · by_cases hw3 : x < high
          · by_cases hw4 : low < y
            · have hnw : whole low high (x, y) = false := by
                unfold whole
                rw [decide_eq_false_iff_not]
                show ¬ (x ≤ low ∧ high ≤ y)
                omega
              have hpc : piece low high (x, y) = true := by
                unfold piece
                rw [decide_eq_true_iff]
                show (¬ (x ≤ low ∧ high ≤ y) ∧ x < high ∧ low < y)
                omega
              have HP1 : Hid ((∀ i, i ∈ P' ↔ i ∈ P ∨ ∃ s ∈ S.take (j + 1), whole low high s = true ∧ s.1 = i) ∧ (S.take (j + 1)).filter (piece low high) = (S.take j).filter (piece low high) ++ [(x, y)]) := by
                rw [take_snoc HSJ.out]
                refine ⟨fun i => ?_, ?_⟩
                · rw [HJ.out.2.2.2.1 i]
                  constructor
                  · rintro (z | ⟨s, z1, z2⟩)
                    · exact Or.inl z
                    · exact Or.inr ⟨s, List.mem_append_left _ z1, z2⟩
                  · rintro (z | ⟨s, z1, z2, z3⟩)
                    · exact Or.inl z
                    · rcases List.mem_append.1 z1 with z1 | z1
                      · exact Or.inr ⟨s, z1, z2, z3⟩
                      · rw [List.mem_singleton] at z1
                        subst z1
                        rw [hnw] at z2
                        cases z2
                · rw [List.filter_append]
                  simp [hpc]
              clear hnw hpc
              obtain ⟨K, hK⟩ : ∃ K, ((S.take j).filter (piece low high)).length = K := ⟨_, rfl⟩
              have HK : Hid (((S.take j).filter (piece low high)).length = K) := hK
              rw [hK] at hRl
              have HOK : Hid ((wr.alloc (.cells #[.int .i64 (x : Int), .int .i64 (y : Int)] 233)).ownsRow w.heap.size 233 2 u9 K (twos ((S.take j).filter (piece low high)))) := show World.ownsRow .. by rw [← hK]; exact HOA.out
              have hws : w.heap.size ≤ (wr.alloc (.cells #[.int .i64 (x : Int), .int .i64 (y : Int)] 233)).heap.size := HMA.out.size
              clear hK
              obtain ⟨W1, hW1⟩ : ∃ W1, wr.alloc (.cells #[.int .i64 (x : Int), .int .i64 (y : Int)] 233) = W1 := ⟨_, rfl⟩
              rw [hW1] at HWA HMA HOA HOK s0 s1 hws
              obtain ⟨vb, hvb⟩ : ∃ vb, wr.heap.size = vb := ⟨_, rfl⟩
              rw [hvb] at s0 s1
              go_wp2_with (first
                | (at_builtin; refine wpList_append_lies _ rfl (.tmp 61) (.tmp 63) 131 rfl w.heap.size 233 z0 (.agg #[.int .i64 0, .int .i64 0]) 2 16 Tryz.underlying131 hi0 hz0 hz1 hz2 rfl (by decide) u9 K (twos ((S.take j).filter (piece low high))) rfl (HOK.out.alloc _) ⟨W1.heap.size, 0, none⟩ 1 1 (two (x, y)) rfl rfl (two_put _ _ _ _) ?c2 (by decide) ?c3 ?c4 ?c5 _ rfl ?_)
                | rw [hW1])
              case c2 => intro z hz; exact two_one [(x, y)] z (by simpa [twos] using hz)
              case c3 => unfold maxLen; omega
              case c4 => omega
              case c5 => first | omega | (simp; omega)
              intro g1 cap1 w6 hown hgrow hat hlt2
              have HR : Hid (JW w0 w w6 n gs g F L a m c f v l P S low high (j + 1) (.slice (some ⟨g1, 0, none⟩) (K + 1) cap1)) := by
                have hbB : Below W1.heap.size W1 (W1.alloc (.cells #[.int .i64 (x : Int), .int .i64 (y : Int)] 233)) := (Below.refl _ _).alloc (Nat.le_refl _) _
                obtain ⟨h1, h2⟩ := (HWA.out.step hbB).grown (HMA.out.trans (Un.Moves.of_below hbB)) (HOK.out.alloc _) hgrow HW.out.below.size
                refine ⟨⟨F', L', P', h1, h2, HJ.out.2.2.1, HP1.out.1, HJ.out.2.2.2.2⟩, ?_⟩
                rw [HP1.out.2, twos_snoc, List.length_append, HK.out]
                exact hown
              clear hown hgrow hat hlt2
              go_wp2_with fail
              go_roundw
              case rel => exact ⟨j + 1, by omega, by go_num, HR.out⟩
              case measure => simp [intOf]; omega
            · have hnw : whole low high (x, y) = false := by
                unfold whole
                rw [decide_eq_false_iff_not]
                show ¬ (x ≤ low ∧ high ≤ y)
                omega
              have hpc : piece low high (x, y) = false := by
                unfold piece
                rw [decide_eq_false_iff_not]
                show ¬ (¬ (x ≤ low ∧ high ≤ y) ∧ x < high ∧ low < y)
                omega
              have HP1 : Hid ((∀ i, i ∈ P' ↔ i ∈ P ∨ ∃ s ∈ S.take (j + 1), whole low high s = true ∧ s.1 = i) ∧ (S.take (j + 1)).filter (piece low high) = (S.take j).filter (piece low high)) := by
                rw [take_snoc HSJ.out]
                refine ⟨fun i => ?_, ?_⟩
                · rw [HJ.out.2.2.2.1 i]
                  constructor
                  · rintro (z | ⟨s, z1, z2⟩)
                    · exact Or.inl z
                    · exact Or.inr ⟨s, List.mem_append_left _ z1, z2⟩
                  · rintro (z | ⟨s, z1, z2, z3⟩)
                    · exact Or.inl z
                    · rcases List.mem_append.1 z1 with z1 | z1
                      · exact Or.inr ⟨s, z1, z2, z3⟩
                      · rw [List.mem_singleton] at z1
                        subst z1
                        rw [hnw] at z2
                        cases z2
                · rw [List.filter_append]
                  simp [hpc]
              clear hnw hpc
              have HR : Hid (JW w0 w (wr.alloc (.cells #[.int .i64 (x : Int), .int .i64 (y : Int)] 233)) n gs g F L a m c f v l P S low high (j + 1) u9) := ⟨⟨F', L', P', HWA.out, HMA.out, HJ.out.2.2.1, HP1.out.1, HJ.out.2.2.2.2⟩, by rw [HP1.out.2]; exact HOA.out⟩
              go_wp2_with fail
              go_roundw
              case rel => exact ⟨j + 1, by omega, by go_num, HR.out⟩
              case measure => simp [intOf]; omega
          · have hnw : whole low high (x, y) = false := by
              unfold whole
              rw [decide_eq_false_iff_not]
              show ¬ (x ≤ low ∧ high ≤ y)
              omega
            have hpc : piece low high (x, y) = false := by
              unfold piece
              rw [decide_eq_false_iff_not]
              show ¬ (¬ (x ≤ low ∧ high ≤ y) ∧ x < high ∧ low < y)
              omega
            have HP1 : Hid ((∀ i, i ∈ P' ↔ i ∈ P ∨ ∃ s ∈ S.take (j + 1), whole low high s = true ∧ s.1 = i) ∧ (S.take (j + 1)).filter (piece low high) = (S.take j).filter (piece low high)) := by
              rw [take_snoc HSJ.out]
              refine ⟨fun i => ?_, ?_⟩
              · rw [HJ.out.2.2.2.1 i]
                constructor
                · rintro (z | ⟨s, z1, z2⟩)
                  · exact Or.inl z
                  · exact Or.inr ⟨s, List.mem_append_left _ z1, z2⟩
                · rintro (z | ⟨s, z1, z2, z3⟩)
                  · exact Or.inl z
                  · rcases List.mem_append.1 z1 with z1 | z1
                    · exact Or.inr ⟨s, z1, z2, z3⟩
                    · rw [List.mem_singleton] at z1
                      subst z1
                      rw [hnw] at z2
                      cases z2
              · rw [List.filter_append]
                simp [hpc]
            clear hnw hpc
            have HR : Hid (JW w0 w (wr.alloc (.cells #[.int .i64 (x : Int), .int .i64 (y : Int)] 233)) n gs g F L a m c f v l P S low high (j + 1) u9) := ⟨⟨F', L', P', HWA.out, HMA.out, HJ.out.2.2.1, HP1.out.1, HJ.out.2.2.2.2⟩, by rw [HP1.out.2]; exact HOA.out⟩
            go_wp2_with fail
            go_roundw
            case rel => exact ⟨j + 1, by omega, by go_num, HR.out⟩
            case measure => simp [intOf]; omega
      · by_cases hw3 : x < high
        · by_cases hw4 : low < y
          · have hnw : whole low high (x, y) = false := by
              unfold whole
              rw [decide_eq_false_iff_not]
              show ¬ (x ≤ low ∧ high ≤ y)
              omega
            have hpc : piece low high (x, y) = true := by
              unfold piece
              rw [decide_eq_true_iff]
              show (¬ (x ≤ low ∧ high ≤ y) ∧ x < high ∧ low < y)
              omega
            have HP1 : Hid ((∀ i, i ∈ P' ↔ i ∈ P ∨ ∃ s ∈ S.take (j + 1), whole low high s = true ∧ s.1 = i) ∧ (S.take (j + 1)).filter (piece low high) = (S.take j).filter (piece low high) ++ [(x, y)]) := by
              rw [take_snoc HSJ.out]
              refine ⟨fun i => ?_, ?_⟩
              · rw [HJ.out.2.2.2.1 i]
                constructor
                · rintro (z | ⟨s, z1, z2⟩)
                  · exact Or.inl z
                  · exact Or.inr ⟨s, List.mem_append_left _ z1, z2⟩
                · rintro (z | ⟨s, z1, z2, z3⟩)
                  · exact Or.inl z
                  · rcases List.mem_append.1 z1 with z1 | z1
                    · exact Or.inr ⟨s, z1, z2, z3⟩
                    · rw [List.mem_singleton] at z1
                      subst z1
                      rw [hnw] at z2
                      cases z2
              · rw [List.filter_append]
                simp [hpc]
            clear hnw hpc
            obtain ⟨K, hK⟩ : ∃ K, ((S.take j).filter (piece low high)).length = K := ⟨_, rfl⟩
            have HK : Hid (((S.take j).filter (piece low high)).length = K) := hK
            rw [hK] at hRl
            have HOK : Hid ((wr.alloc (.cells #[.int .i64 (x : Int), .int .i64 (y : Int)] 233)).ownsRow w.heap.size 233 2 u9 K (twos ((S.take j).filter (piece low high)))) := show World.ownsRow .. by rw [← hK]; exact HOA.out
            have hws : w.heap.size ≤ (wr.alloc (.cells #[.int .i64 (x : Int), .int .i64 (y : Int)] 233)).heap.size := HMA.out.size
            clear hK
            obtain ⟨W1, hW1⟩ : ∃ W1, wr.alloc (.cells #[.int .i64 (x : Int), .int .i64 (y : Int)] 233) = W1 := ⟨_, rfl⟩
            rw [hW1] at HWA HMA HOA HOK s0 s1 hws
            obtain ⟨vb, hvb⟩ : ∃ vb, wr.heap.size = vb := ⟨_, rfl⟩
            rw [hvb] at s0 s1
            go_wp2_with (first
              | (at_builtin; refine wpList_append_lies _ rfl (.tmp 61) (.tmp 63) 131 rfl w.heap.size 233 z0 (.agg #[.int .i64 0, .int .i64 0]) 2 16 Tryz.underlying131 hi0 hz0 hz1 hz2 rfl (by decide) u9 K (twos ((S.take j).filter (piece low high))) rfl (HOK.out.alloc _) ⟨W1.heap.size, 0, none⟩ 1 1 (two (x, y)) rfl rfl (two_put _ _ _ _) ?c2 (by decide) ?c3 ?c4 ?c5 _ rfl ?_)
              | rw [hW1])
            case c2 => intro z hz; exact two_one [(x, y)] z (by simpa [twos] using hz)
            case c3 => unfold maxLen; omega
            case c4 => omega
            case c5 => first | omega | (simp; omega)
            intro g1 cap1 w6 hown hgrow hat hlt2
            have HR : Hid (JW w0 w w6 n gs g F L a m c f v l P S low high (j + 1) (.slice (some ⟨g1, 0, none⟩) (K + 1) cap1)) := by
              have hbB : Below W1.heap.size W1 (W1.alloc (.cells #[.int .i64 (x : Int), .int .i64 (y : Int)] 233)) := (Below.refl _ _).alloc (Nat.le_refl _) _
              obtain ⟨h1, h2⟩ := (HWA.out.step hbB).grown (HMA.out.trans (Un.Moves.of_below hbB)) (HOK.out.alloc _) hgrow HW.out.below.size
              refine ⟨⟨F', L', P', h1, h2, HJ.out.2.2.1, HP1.out.1, HJ.out.2.2.2.2⟩, ?_⟩
              rw [HP1.out.2, twos_snoc, List.length_append, HK.out]
              exact hown
            clear hown hgrow hat hlt2
            go_wp2_with fail
            go_roundw
            case rel => exact ⟨j + 1, by omega, by go_num, HR.out⟩
            case measure => simp [intOf]; omega
          · have hnw : whole low high (x, y) = false := by
              unfold whole
              rw [decide_eq_false_iff_not]
              show ¬ (x ≤ low ∧ high ≤ y)
              omega
            have hpc : piece low high (x, y) = false := by
              unfold piece
              rw [decide_eq_false_iff_not]
              show ¬ (¬ (x ≤ low ∧ high ≤ y) ∧ x < high ∧ low < y)
              omega
            have HP1 : Hid ((∀ i, i ∈ P' ↔ i ∈ P ∨ ∃ s ∈ S.take (j + 1), whole low high s = true ∧ s.1 = i) ∧ (S.take (j + 1)).filter (piece low high) = (S.take j).filter (piece low high)) := by
              rw [take_snoc HSJ.out]
              refine ⟨fun i => ?_, ?_⟩
              · rw [HJ.out.2.2.2.1 i]
                constructor
                · rintro (z | ⟨s, z1, z2⟩)
                  · exact Or.inl z
                  · exact Or.inr ⟨s, List.mem_append_left _ z1, z2⟩
                · rintro (z | ⟨s, z1, z2, z3⟩)
                  · exact Or.inl z
                  · rcases List.mem_append.1 z1 with z1 | z1
                    · exact Or.inr ⟨s, z1, z2, z3⟩
                    · rw [List.mem_singleton] at z1
                      subst z1
                      rw [hnw] at z2
                      cases z2
              · rw [List.filter_append]
                simp [hpc]
            clear hnw hpc
            have HR : Hid (JW w0 w (wr.alloc (.cells #[.int .i64 (x : Int), .int .i64 (y : Int)] 233)) n gs g F L a m c f v l P S low high (j + 1) u9) := ⟨⟨F', L', P', HWA.out, HMA.out, HJ.out.2.2.1, HP1.out.1, HJ.out.2.2.2.2⟩, by rw [HP1.out.2]; exact HOA.out⟩
            go_wp2_with fail
            go_roundw
            case rel => exact ⟨j + 1, by omega, by go_num, HR.out⟩
            case measure => simp [intOf]; omega
        · have hnw : whole low high (x, y) = false := by
            unfold whole
            rw [decide_eq_false_iff_not]
            show ¬ (x ≤ low ∧ high ≤ y)
            omega
          have hpc : piece low high (x, y) = false := by
            unfold piece
            rw [decide_eq_false_iff_not]
            show ¬ (¬ (x ≤ low ∧ high ≤ y) ∧ x < high ∧ low < y)
            omega
          have HP1 : Hid ((∀ i, i ∈ P' ↔ i ∈ P ∨ ∃ s ∈ S.take (j + 1), whole low high s = true ∧ s.1 = i) ∧ (S.take (j + 1)).filter (piece low high) = (S.take j).filter (piece low high)) := by
            rw [take_snoc HSJ.out]
            refine ⟨fun i => ?_, ?_⟩
            · rw [HJ.out.2.2.2.1 i]
              constructor
              · rintro (z | ⟨s, z1, z2⟩)
                · exact Or.inl z
                · exact Or.inr ⟨s, List.mem_append_left _ z1, z2⟩
              · rintro (z | ⟨s, z1, z2, z3⟩)
                · exact Or.inl z
                · rcases List.mem_append.1 z1 with z1 | z1
                  · exact Or.inr ⟨s, z1, z2, z3⟩
                  · rw [List.mem_singleton] at z1
                    subst z1
                    rw [hnw] at z2
                    cases z2
            · rw [List.filter_append]
              simp [hpc]
          clear hnw hpc
          have HR : Hid (JW w0 w (wr.alloc (.cells #[.int .i64 (x : Int), .int .i64 (y : Int)] 233)) n gs g F L a m c f v l P S low high (j + 1) u9) := ⟨⟨F', L', P', HWA.out, HMA.out, HJ.out.2.2.1, HP1.out.1, HJ.out.2.2.2.2⟩, by rw [HP1.out.2]; exact HOA.out⟩
          go_wp2_with fail
          go_roundw
          case rel => exact ⟨j + 1, by omega, by go_num, HR.out⟩
          case measure => simp [intOf]; omega
    · obtain rfl : j = N := by omega
      have HE : Hid (Wholed w0 w n gs g F L a m c f v l P S low high (.returned u9) wr) := ⟨u9, rfl, by rw [HS.out.2]; exact hJ⟩
      clear hJ
      go_wp2_with fail
      go_ret
      exact HE.out

end Go.Proofs.YtcfemppdeidjmacGreat.As
