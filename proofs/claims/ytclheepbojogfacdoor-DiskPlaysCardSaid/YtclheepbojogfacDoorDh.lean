/-
  The statements' own disk: Write.
-/
import Derived.Test.YtclheepbojogfacDoorDg
import Derived.OwnWalk
namespace Go.Proofs.YtclheepbojogfacDoor.Dk
open Go.RowKit Go.Deep
open Go.RowKit (Below)
set_option linter.unusedVariables false

variable {w w' : World} {B n kd : Nat} {F F' : Nat → Prop} {s : St} {v u : Value} {l : List UInt8}

theorem Tryd.infoRW : (Tryd.prog.info? 80).map (fun i => (i.zero, i.size, i.bytes)) = some (some (.agg #[.int .i64 0, .slice none 0 0]), 2, 32) := by kernel_rfl

theorem PgAt.one (h : PgAt w F v l) : v.oneCell' = true := by
  obtain ⟨_, p, rfl, _⟩ := h
  rfl

theorem BtAt.turn {a : Option Addr} (h : BtAt w a l) (t : Turn F w w') (ha : l ≠ [] → ∀ b o, a = some ⟨b, o, none⟩ → ¬ F b) : BtAt w' a l := fun i hi => by
  obtain ⟨b, o, e, h1⟩ := h i hi
  exact ⟨b, o, e, t.cell (ha (by intro q; subst q; cases hi) b o e) h1⟩

set_option maxRecDepth 100000 in
set_option maxHeartbeats 2000000 in
/-- A page is written. -/
theorem r_write (h : RAt w B kd n s F) (hn : 1 ≤ n) (hn2 : n ≤ 80) (hB : B ≤ w.heap.size) (hw : s.wr.length ≤ 1000) {a : Option Addr} {c : Nat} (k : Int) (ha : BtAt w a l) (hc : l.length ≤ c) (hc2 : c ≤ maxLen) (hnil : a = none → c = 0) (hF : l ≠ [] → ∀ b o, a = some ⟨b, o, none⟩ → ¬ F b) :
    Calls Tryd.prog 15 #[.pointer (some ⟨kd, 0, none⟩), .int .i64 k, .slice a l.length c] w fun e w' => ∃ x, e = .returned (.int .i64 x) ∧ ∃ s', Writes n s k l x s' ∧ ∃ F', RAt w' B kd n s' F' ∧ (∀ b, F' b → F b ∨ w.heap.size ≤ b) ∧ Turn F w w' := by
  have HR : Hid (RAt w B kd n s F) := h
  obtain ⟨m, hm⟩ : ∃ m, l.length = m := ⟨_, rfl⟩
  have HM : Hid (l.length = m) := hm
  have HC : Hid (m ≤ c ∧ c ≤ maxLen ∧ 1 ≤ n ∧ n ≤ 80 ∧ s.wr.length ≤ 1000 ∧ B ≤ w.heap.size) := ⟨hm ▸ hc, hc2, hn, hn2, hw, hB⟩
  have HA : Hid (BtAt w a l ∧ (a = none → c = 0) ∧ (l ≠ [] → ∀ b o, a = some ⟨b, o, none⟩ → ¬ F b)) := ⟨ha, hnil, hF⟩
  rw [hm]
  obtain ⟨g1, c1, _, q1, _⟩ := h.nowIs hn
  clear h hm hc hc2 hn hn2 hw hB ha hnil hF
  by_cases k0 : k < 0
  · go_enter Tryd.func15, Tryd.ntmps15
    go_wp2_with fail
    go_ret
    exact ⟨1, rfl, s, Or.inl ⟨Or.inl k0, rfl, rfl⟩, F, HR.out, fun b q => Or.inl q, Turn.refl _⟩
  by_cases k1 : (n : Int) ≤ k
  · go_enter Tryd.func15, Tryd.ntmps15
    go_wp2_with fail
    go_ret
    exact ⟨1, rfl, s, Or.inl ⟨Or.inr k1, rfl, rfl⟩, F, HR.out, fun b q => Or.inl q, Turn.refl _⟩
  obtain ⟨i, rfl⟩ := Int.eq_ofNat_of_zero_le (show 0 ≤ k by omega)
  have HI : Hid (i < n) := show _ < _ by omega
  by_cases m0 : 32 < m
  · have m1 : (32 : Int) < (m : Int) := by omega
    have HO : Hid ((0 ≤ (i : Int) ∧ (i : Int) < n) ∧ 32 < l.length) := ⟨⟨by omega, by omega⟩, by rw [HM.out]; exact m0⟩
    clear m0
    go_enter Tryd.func15, Tryd.ntmps15
    go_wp2_with fail
    go_ret
    exact ⟨3, rfl, s, Or.inr (Or.inl ⟨HO.out.1, HO.out.2, rfl, rfl⟩), F, HR.out, fun b q => Or.inl q, Turn.refl _⟩
  have m1 : ¬ (32 : Int) < (m : Int) := by omega
  have HO : Hid ((0 ≤ (i : Int) ∧ (i : Int) < n) ∧ l.length ≤ 32) := ⟨⟨by omega, by omega⟩, by rw [HM.out]; omega⟩
  clear m0
  go_enter Tryd.func15, Tryd.ntmps15
  go_wp2_with fail
  refine (r_step HR.out).mono ?_
  rintro e w1 ⟨⟨rfl, hoff, hr⟩ | ⟨rfl, hon, hr⟩, ht⟩
  · have HX : Hid (Off s ∧ RAt w1 B kd n (fall s) F ∧ Turn F w w1) := ⟨hoff, hr, ht⟩
    clear hoff hr ht q1
    go_wp2_with fail
    go_ret
    exact ⟨8, rfl, _, Or.inr (Or.inr (Or.inl ⟨HO.out.1, HO.out.2, HX.out.1, rfl, rfl⟩)), F, HX.out.2.1, fun b q => Or.inl q, HX.out.2.2⟩
  have HX : Hid (¬ Off s ∧ RAt w1 B kd n (less s) F ∧ Turn F w w1) := ⟨hon, hr, ht⟩
  clear hon hr ht q1
  go_wp2_with fail
  refine r_blank.mono ?_
  rintro e w2 ⟨rfl, hw2⟩
  obtain ⟨W1, hcp, hb1, hsz, hpg⟩ := copy_page (HA.out.1.turn HX.out.2.2 HA.out.2.2) HO.out.2 (by rw [HM.out]; exact HC.out.1) HA.out.2.1
  rw [← hw2, HM.out] at hcp
  obtain ⟨g, hg⟩ : ∃ g, w1.heap.size = g := ⟨_, rfl⟩
  have hlt1 := HX.out.2.2.size
  rw [hg] at hcp hpg hb1 hsz hlt1 ⊢
  have hR2 : RAt W1 B kd n (less s) (fun b => F b ∨ b = g) := HX.out.2.1.grow (fun k q => Or.inl q) (fun b q => by
    rcases q with q | rfl
    · have := HX.out.2.1.own b q; exact ⟨this.1, by omega⟩
    · exact ⟨Nat.le_trans HC.out.2.2.2.2.2 hlt1, by omega⟩) (fun b q => hb1.block b (by have := (HX.out.2.1.own b q).2; omega))
  have hP := hpg (fun b => F b ∨ b = g) (Or.inr rfl)
  obtain ⟨gn, cn, fn, n1, n2, n3, n4⟩ := hR2.nowIs HC.out.2.2.1
  have r3 := n4 i (.slice (some ⟨g, 0, none⟩) 32 32) (pad l) HI.out hP
  obtain ⟨W2, hW2⟩ : ∃ W2, W1.setCell ⟨gn, i, none⟩ (.slice (some ⟨g, 0, none⟩) 32 32) = W2 := ⟨_, rfl⟩
  have i1 : (i : Int) < (n : Int) := by have := HI.out; omega
  have HN : Hid (¬ Off s ∧ RAt W2 B kd n { less s with now := upd (less s).now i (pad l) } (fun b => F b ∨ b = g) ∧ Turn (fun b => F b ∨ b = g) w W2 ∧ w.heap.size ≤ g ∧ PgAt W2 (fun b => F b ∨ b = g) (.slice (some ⟨g, 0, none⟩) 32 32) (pad l)) := by
    rw [hW2] at r3
    have t1 : Turn (fun b => F b ∨ b = g) w W1 := (HX.out.2.2.mono fun k _ q => Or.inl q).trans ⟨hb1.os, hb1.tape, hb1.output, by omega, fun k hk _ => hb1.block k (by omega)⟩
    exact ⟨HX.out.1, r3.1, t1.trans (hW2 ▸ turn_set _ fn _), hlt1, r3.2 _ _ _ hP⟩
  obtain ⟨R, xr, p1, p2, p3, -, p5⟩ := HN.out.2.1.wrIs
  have hMw : ({ less s with now := upd (less s).now i (pad l) } : St).wr.length = s.wr.length := rfl
  obtain ⟨M, hM⟩ : ∃ M, s.wr.length = M := ⟨_, rfl⟩
  have HMM : Hid (M ≤ 1000 ∧ B ≤ W2.heap.size) := ⟨hM ▸ HC.out.2.2.2.2.1, by have := HN.out.2.2.1.size; have := HC.out.2.2.2.2.2; omega⟩
  rw [hMw, hM] at p2 p5
  have HP : Hid (W2.ownsRow B 80 2 R M xr) := p2
  have HU : Hid (∀ w' g' c a v p, w'.ownsRow B 80 2 (.slice (some ⟨g', 0, none⟩) (M + 1) c) (M + 1) (xr ++ [.int .i64 (a : Nat), v]) → W2.grownBy w' R.ownBlock → (R.ownBlock = some g' ∨ W2.heap.size ≤ g') → a < n → PgAt W2 (fun b => F b ∨ b = g) v p →
      RAt (w'.setCell ⟨kd, 2, none⟩ (.slice (some ⟨g', 0, none⟩) (M + 1) c)) B kd n { less s with now := upd (less s).now i (pad l), wr := s.wr ++ [(a, p)] } (fun b => (F b ∨ b = g) ∨ b = g') ∧ Turn (fun b => F b ∨ b = g) W2 (w'.setCell ⟨kd, 2, none⟩ (.slice (some ⟨g', 0, none⟩) (M + 1) c)) ∧ w'.cell? ⟨kd, 2, none⟩ = some R ∧ w'.frozen? ⟨kd, 2, none⟩ = false) := p5
  have HB : Hid ((∀ k, R.ownBlock = some k → F k ∨ k = g) ∧ (w.heap.size ≤ g)) := ⟨p3, hlt1⟩
  have q3 := HN.out.2.1.free 2
  obtain ⟨Wb, hWb⟩ : ∃ Wb, w1.alloc nil32 = Wb := ⟨_, rfl⟩
  have hz := n2 i
  obtain ⟨u0, nc, _⟩ := n3 i HI.out
  rw [hWb] at hw2
  subst hw2
  clear n2 n3 n4 r3 hR2 hP hb1 hpg hWb hsz hlt1 HX fn p2 p3 p5 hMw hM
  obtain ⟨z0, hi0, hz0, hz1, hz2⟩ := info_parts Tryd.infoRW
  go_wp2_with (first
    | (at_builtin; refine wpList_append_lies _ rfl (.tmp 42) (.tmp 46) 58 rfl B 80 z0 (.agg #[.int .i64 0, .slice none 0 0]) 2 32 Tryd.underlying58 hi0 hz0 hz1 hz2 rfl (by decide) R M xr rfl (HP.out.alloc _) ⟨W2.heap.size, 0, none⟩ 1 1 [.int .i64 (i : Nat), .slice (some ⟨g, 0, none⟩) 32 32] rfl rfl ?c1 ?c2 (by decide) ?c3 ?c4 ?c5 _ rfl ?_))
  case c1 =>
    rintro (_ | _ | j) u hu
    · cases hu; rw [Addr.add_lit]; simp
    · cases hu; rw [Addr.add_lit]; simp
    · cases hu
  case c2 => intro z hz; simp at hz; rcases hz with rfl | rfl <;> rfl
  case c3 => have := HMM.out; unfold maxLen; omega
  case c4 => have := HMM.out; omega
  case c5 => have := HMM.out; simp; omega
  intro g2 cap2 w6 hown hgrow hat hlt2
  obtain ⟨r1, r2, r3, r4⟩ := HU.out w6 g2 cap2 i _ _ hown ⟨hgrow.os, hgrow.tape, hgrow.output, Nat.le_trans (by simp) hgrow.size, fun k hk hne => (hgrow.block k (by simp; omega) hne).trans (blk_alloc_lt _ _ _ hk)⟩ (hat.imp id fun e => by omega) HI.out HN.out.2.2.2.2
  have HF : Hid (RAt (w6.setCell ⟨kd, 2, none⟩ (.slice (some ⟨g2, 0, none⟩) (M + 1) cap2)) B kd n { less s with now := upd (less s).now i (pad l), wr := s.wr ++ [(i, pad l)] } (fun b => (F b ∨ b = g) ∨ b = g2) ∧ Turn (fun b => F b ∨ b = g) w (w6.setCell ⟨kd, 2, none⟩ (.slice (some ⟨g2, 0, none⟩) (M + 1) cap2)) ∧ ∀ b, (F b ∨ b = g) ∨ b = g2 → F b ∨ w.heap.size ≤ b) := ⟨r1, HN.out.2.2.1.trans r2, fun b q => by
    rcases q with (q | rfl) | rfl
    · exact Or.inl q
    · exact Or.inr HB.out.2
    · rcases hat with e | e
      · rcases HB.out.1 _ e with q | rfl
        · exact Or.inl q
        · exact Or.inr HB.out.2
      · refine Or.inr ?_
        have := HN.out.2.2.1.size
        omega⟩
  clear hown hgrow hat r1 r2
  go_wp2_with fail
  go_ret
  refine ⟨0, rfl, _, Or.inr (Or.inr (Or.inr ⟨HO.out.1, HO.out.2, HN.out.1, rfl, rfl⟩)), _, HF.out.1, HF.out.2.2, HF.out.2.1.os, HF.out.2.1.tape, HF.out.2.1.output, HF.out.2.1.size, fun k hk hn => HF.out.2.1.block k hk fun q => ?_⟩
  rcases q with q | rfl
  · exact hn q
  · have := HB.out.2; omega

end Go.Proofs.YtclheepbojogfacDoor.Dk
