/-
  The statements' own disk: Crash.
-/
import Derived.Test.YtclheepbojogfacDoorDi
namespace Go.Proofs.YtclheepbojogfacDoor.Dk
open Go.RowKit Go.Deep
open Go.RowKit (Below)
set_option linter.unusedVariables false

variable {w w' : World} {B n kd : Nat} {F F' : Nat → Prop} {s : St}

theorem among_zero (f : Nat → Int) (i : Nat) : among 0 f i = false := rfl
theorem among_succ (m : Nat) (f : Nat → Int) (i : Nat) : among (m + 1) f i = (among m f i || decide (f m = (i : Int))) := by
  unfold among
  rw [List.range_succ, List.any_append]
  simp

theorem upd_twice (f : Nat → List UInt8) (a : Nat) (p : List UInt8) : upd (upd f a p) a p = upd f a p := by
  funext i
  unfold upd
  split <;> rfl

theorem NumAt.turn {a : Option Addr} {m : Nat} {f : Nat → Int} (h : NumAt w a m f) (t : Turn F w w') (ha : 0 < m → ∀ b o, a = some ⟨b, o, none⟩ → ¬ F b) : NumAt w' a m f := fun i hi => by
  obtain ⟨b, o, e, h1⟩ := h i hi
  exact ⟨b, o, e, t.cell (ha (by omega) b o e) h1⟩

/-- What of the writes ahead of i is kept. -/
def upto (s : St) (q : Nat → Bool) (i : Nat) : Nat → List UInt8 := play q 0 (s.wr.take i) s.kept
theorem upto_zero (s : St) (q : Nat → Bool) : upto s q 0 = s.kept := rfl
theorem upto_all (s : St) (q : Nat → Bool) : upto s q s.wr.length = play q 0 s.wr s.kept := by unfold upto; rw [List.take_length]
theorem upto_succ (s : St) (q : Nat → Bool) {i : Nat} (hi : i < s.wr.length) : upto s q (i + 1) = if q i then upd (upto s q i) (s.wr.getD i (0, [])).1 (s.wr.getD i (0, [])).2 else upto s q i := by
  unfold upto
  rw [List.take_add_one, List.getElem?_eq_getElem hi]
  have e : s.wr.getD i (0, []) = s.wr[i] := by rw [List.getD_eq_getElem?_getD, List.getElem?_eq_getElem hi]; rfl
  rw [e]
  obtain ⟨a, p⟩ := s.wr[i]
  show play q 0 (s.wr.take i ++ [(a, p)]) s.kept = _
  rw [play_snoc, List.length_take, Nat.min_eq_left (Nat.le_of_lt hi), Nat.zero_add]

/-- The value that holds the writes. -/
theorem RAt.wrForm (h : RAt w B kd n s F) : ∃ ao c, w.cell? ⟨kd, 2, none⟩ = some (.slice ao s.wr.length c) ∧ ∀ i, i < s.wr.length → ∃ g, ao = some ⟨g, 0, none⟩ ∧ (s.wr.getD i (0, [])).1 < n ∧ w.cell? ⟨g, i * 2, none⟩ = some (.int .i64 ((s.wr.getD i (0, [])).1 : Nat)) ∧ ∃ u, w.cell? ⟨g, i * 2 + 1, none⟩ = some u ∧ PgAt w F u (s.wr.getD i (0, [])).2 := by
  obtain ⟨R, xr, h1, h2, -, h4, -⟩ := h.wrIs
  rcases h2.2 with ⟨rfl, e⟩ | ⟨g, c, cur, rfl, _⟩
  · rw [e]
    exact ⟨none, 0, h1, fun i hi => absurd hi (Nat.not_lt_zero _)⟩
  · exact ⟨_, c, h1, fun i hi => ⟨g, rfl, h4 g c rfl i hi⟩⟩

set_option maxRecDepth 100000 in
set_option maxHeartbeats 4000000 in
/-- The power goes off, and comes again. -/
theorem r_crash (h : RAt w B kd n s F) (hn : 1 ≤ n) (hn2 : n ≤ 80) (hB : B ≤ w.heap.size) (hw : s.wr.length ≤ 1000) {a : Option Addr} {m c : Nat} {f : Nat → Int} (ha : NumAt w a m f) (hc : m ≤ c) (hc2 : c ≤ maxLen) (hF : 0 < m → ∀ b o, a = some ⟨b, o, none⟩ → ¬ F b) :
    Calls Tryd.prog 21 #[.pointer (some ⟨kd, 0, none⟩), .slice a m c] w fun e w' => e = .returned (.tuple #[]) ∧ ∃ F', RAt w' B kd n (crashed s (among m f)) F' ∧ (∀ b, F' b → F b ∨ w.heap.size ≤ b) ∧ Turn F w w' := by
  obtain ⟨M, hM⟩ : ∃ M, s.wr.length = M := ⟨_, rfl⟩
  have HC : Hid (1 ≤ n ∧ n ≤ 80 ∧ B ≤ w.heap.size ∧ M ≤ 1000 ∧ m ≤ maxLen) := ⟨hn, hn2, hB, hM ▸ hw, Nat.le_trans hc hc2⟩
  have HM : Hid (s.wr.length = M) := hM
  have HA : Hid (∀ w', Turn F w w' → NumAt w' a m f) := fun w' t => ha.turn t hF
  have H0 : Hid (RAt w B kd n { s with kept := upto s (among m f) 0 } F) := h
  have HS : Hid (∀ i, i < M → upto s (among m f) (i + 1) = if among m f i then upd (upto s (among m f) i) (s.wr.getD i (0, [])).1 (s.wr.getD i (0, [])).2 else upto s (among m f) i) := fun i hi => upto_succ s _ (by rw [hM]; exact hi)
  have HZ : Hid (upto s (among m f) M = play (among m f) 0 s.wr s.kept) := hM ▸ upto_all s _
  obtain ⟨U, hU⟩ : ∃ U, upto s (among m f) = U := ⟨_, rfl⟩
  rw [hU] at H0 HS HZ
  clear hM ha hF h hw hc hc2 hn hn2 hB hU
  go_enter Tryd.func21, Tryd.ntmps21
  go_wp2_with fail
  go_loopw [4] (fun i wr => ∃ k : Nat, k ≤ M ∧ i = .int .i64 (k : Nat) ∧ RAt wr B kd n { s with kept := U k } F ∧ Turn F w wr) (fun i _ => M - (intOf i).toNat)
  case atStart => exact ⟨0, Nat.zero_le _, rfl, H0.out, Turn.refl _⟩
  case round =>
    obtain ⟨k, hk, rfl, hr, ht⟩ := hrel
    have hform := hr.wrForm
    dsimp only at hform
    rw [HM.out] at hform
    obtain ⟨ao, cr, p1, -⟩ := hform
    have HR : Hid (RAt wr B kd n { s with kept := U k } F ∧ Turn F w wr) := ⟨hr, ht⟩
    have HK := HC.out.2.2.2.1
    clear hr ht
    by_cases hlt : k < M
    · have i0 : (k : Int) < (M : Int) := by omega
      have k5 : IntKind.i64.wrap ((k : Int) + 1) = (k : Int) + 1 := by rw [IntKind.wrap_i64]; omega
      clear HK
      obtain ⟨ax, hax⟩ : ∃ ax, (s.wr.getD k (0, [])).1 = ax := ⟨_, rfl⟩
      obtain ⟨px, hpx⟩ : ∃ px, (s.wr.getD k (0, [])).2 = px := ⟨_, rfl⟩
      have HX : Hid ((s.wr.getD k (0, [])).1 = ax ∧ (s.wr.getD k (0, [])).2 = px) := ⟨hax, hpx⟩
      have hin : Hid (U k = if among 0 f k then upd (U k) ax px else U k) := show _ = _ by rw [among_zero]; rfl
      clear hax hpx
      go_wp2_with fail
      go_loopw [5] (fun i wr => ∃ j : Nat, j ≤ m ∧ i = .int .i64 (j : Nat) ∧ RAt wr B kd n { s with kept := if among j f k then upd (U k) ax px else U k } F ∧ Turn F w wr) (fun i _ => m - (intOf i).toNat)
      case atStart => exact ⟨0, Nat.zero_le _, rfl, by rw [← hin.out]; exact HR.out.1, HR.out.2⟩
      case round =>
        obtain ⟨j, hj, rfl, hri, hti⟩ := hrel
        have HRi : Hid (RAt wr B kd n { s with kept := if among j f k then upd (U k) ax px else U k } F ∧ Turn F w wr) := ⟨hri, hti⟩
        clear hri hti
        have Hm := HC.out.2.2.2.2
        unfold maxLen at Hm
        by_cases hlj : j < m
        · obtain ⟨b, o, rfl, q1⟩ := HA.out wr HRi.out.2 j hlj
          have j0 : (0 : Int) ≤ (j : Int) := by omega
          have j1 : (j : Int) < (m : Int) := by omega
          have j5 : IntKind.i64.wrap ((j : Int) + 1) = (j : Int) + 1 := by rw [IntKind.wrap_i64]; omega
          obtain ⟨y, hy⟩ : ∃ y, f j = y := ⟨_, rfl⟩
          rw [hy] at q1
          by_cases he : y = (k : Int)
          · have HN : Hid (upd (if among j f k then upd (U k) ax px else U k) ax px = if among (j + 1) f k then upd (U k) ax px else U k) := show _ = _ by
              rw [among_succ, hy, he, decide_eq_true rfl, Bool.or_true, if_pos rfl]
              split
              · exact upd_twice _ _ _
              · rfl
            have t1 : (y == (k : Int)) = true := by rw [he]; exact beq_self_eq_true _
            have hwf := HRi.out.1.wrForm
            dsimp only at hwf
            rw [HM.out] at hwf
            obtain ⟨ao2, c2, u2, u3⟩ := hwf
            obtain ⟨g2, rfl, u4, u5, u, u6, u7⟩ := u3 k hlt
            rw [HX.out.1] at u4 u5
            rw [HX.out.2] at u7
            obtain ⟨pb, rfl⟩ : ∃ pb, u = .slice (some ⟨pb, 0, none⟩) 32 32 := ⟨_, u7.2.choose_spec.1⟩
            obtain ⟨gk, ck, v1, v2, v3, v4, v5⟩ := HRi.out.1.keptIs HC.out.1
            obtain ⟨u0, v6, _⟩ := v4 ax u4
            have v7 := v3 ax
            have v8 := v5 ax _ px u4 u7
            have HV : Hid (RAt (wr.setCell ⟨gk, ax, none⟩ (.slice (some ⟨pb, 0, none⟩) 32 32)) B kd n { s with kept := if among (j + 1) f k then upd (U k) ax px else U k } F ∧ Turn F w (wr.setCell ⟨gk, ax, none⟩ (.slice (some ⟨pb, 0, none⟩) 32 32))) := ⟨by rw [← HN.out]; exact v8, HRi.out.2.trans (turn_set F v1 _)⟩
            have i1 : (0 : Int) ≤ (ax : Int) := by omega
            have i2 : (ax : Int) < (n : Int) := by omega
            have i3 : (0 : Int) ≤ (k : Int) := by omega
            clear he hy u3 v1 v3 v4 v5 v8 u7 p1 Hm
            go_wp2_with fail
            go_region
            go_wp2_with fail
            go_roundw
            case rel => exact ⟨j + 1, by omega, by go_num, HV.out.1.below (Below.refl _ _).drew, HV.out.2.trans (Turn.of_below (Below.refl _ _).drew)⟩
            case measure => simp [intOf]; omega
          · have HN : Hid ((if among j f k then upd (U k) ax px else U k) = if among (j + 1) f k then upd (U k) ax px else U k) := show _ = _ by
              rw [among_succ, hy, decide_eq_false he, Bool.or_false]
            have t1 : (y == (k : Int)) = false := by rw [beq_eq_false_iff_ne]; exact he
            clear he hy p1 Hm
            go_wp2_with fail
            go_roundw
            case rel => exact ⟨j + 1, by omega, by go_num, by rw [← HN.out]; exact HRi.out.1, HRi.out.2⟩
            case measure => simp [intOf]; omega
        · obtain rfl : j = m := by omega
          have HV : Hid (RAt wr B kd n { s with kept := U (k + 1) } F) := show RAt _ _ _ _ _ _ by
            rw [HS.out k hlt, HX.out.1, HX.out.2]
            exact HRi.out.1
          have j1 : ¬ (j : Int) < (j : Int) := by omega
          clear p1 Hm
          go_wp2_with fail
          go_roundw
          case rel => exact ⟨k + 1, by omega, by go_num, HV.out, HRi.out.2⟩
          case measure => simp [intOf]; omega
    · have i0 : ¬ (k : Int) < (M : Int) := by omega
      have HU2 : Hid (U k = play (among m f) 0 s.wr s.kept) := show _ = _ by
        obtain rfl : k = M := by omega
        exact HZ.out
      have HB : Hid (B ≤ wr.heap.size) := show _ ≤ _ from Nat.le_trans HC.out.2.2.1 HR.out.2.size
      obtain ⟨g, c1, xs, p1', p2, p3, p4, p5⟩ := HR.out.1.nowAgain HC.out.1
      have HP : Hid (xs.length = n * 1 ∧ (∀ j u, xs[j]? = some u → wr.cell? ((⟨g, 0, none⟩ : Addr).add j) = some u) ∧ (∀ u ∈ xs, u.oneCell' = true)) := ⟨by omega, p3, p4⟩
      have HU : Hid (∀ w' g' c', w'.ownsRow B 31 1 (.slice (some ⟨g', 0, none⟩) n c') n xs → wr.grownBy w' none → g' = wr.heap.size →
          RAt (w'.setCell ⟨kd, 1, none⟩ (.slice (some ⟨g', 0, none⟩) n c')) B kd n { s with kept := U k, now := U k } (fun b => F b ∨ b = g') ∧ Turn F wr (w'.setCell ⟨kd, 1, none⟩ (.slice (some ⟨g', 0, none⟩) n c')) ∧ w'.frozen? ⟨kd, 1, none⟩ = false ∧ ∃ v, w'.cell? ⟨kd, 1, none⟩ = some v) := p5
      obtain ⟨z0, hi0, hz0, hz1, hz2⟩ := info_parts Tryd.infoBytes
      clear p2 p3 p4 p5 HK
      go_wp2_with (first
        | (at_builtin; refine wpList_append_lies _ rfl (.tmp 49) (.tmp 53) 57 rfl B 31 z0 (.slice none 0 0) 1 24 Tryd.underlying57 hi0 hz0 hz1 hz2 rfl (by decide) (.slice none 0 0) 0 [] rfl (World.ownsRow_nil ..) ⟨g, 0, none⟩ n c1 xs rfl HP.out.1 HP.out.2.1 HP.out.2.2 ?c2 ?c3 ?c4 HB.out _ rfl ?_))
      case c2 => exact HC.out.1
      case c3 => have := HC.out; unfold maxLen; omega
      case c4 => have := HC.out; omega
      intro g2 c2 w2 hown hgrow hat hlt2
      have hg2 : g2 = wr.heap.size := by
        rcases hat with e | e
        · cases e
        · exact e
      obtain ⟨r1, r2, r3, v0, r4⟩ := HU.out w2 g2 c2 hown hgrow hg2
      have HE : Hid (g2 = wr.heap.size) := hg2
      obtain ⟨W3, hW3⟩ : ∃ W3, w2.setCell ⟨kd, 1, none⟩ (.slice (some ⟨g2, 0, none⟩) n c2) = W3 := ⟨_, rfl⟩
      rw [hW3] at r1 r2
      have HF : Hid (RAt W3 B kd n { s with kept := U k, now := U k } (fun b => F b ∨ b = g2) ∧ Turn F w W3) := ⟨r1, HR.out.2.trans r2⟩
      obtain ⟨R0, q1⟩ := r1.cell2
      have q2 := r1.free 2
      have q3 := r1.cell3
      have q4 := r1.cell4
      have q5 := r1.free 3
      have q6 := r1.free 4
      clear hown hgrow hat r1 r2 hg2 hlt2 p1 p1'
      go_wp2_with (first | rw [hW3])
      go_end0
      have hfin := (HF.out.1.setNone.setLeft (x := -1) (by omega)).setDown false
      refine ⟨rfl, fun b => F b ∨ b = g2, ?_, fun b q => ?_, HF.out.2.trans ((turn_set F HR.out.1.dk _).trans ((turn_set F HR.out.1.dk _).trans (turn_set F HR.out.1.dk _)))⟩
      · unfold crashed
        rw [← HU2.out]
        exact hfin
      · rcases q with q | rfl
        · exact Or.inl q
        · have := HE.out; have := HR.out.2.size; omega

end Go.Proofs.YtclheepbojogfacDoor.Dk
