/-
  Texts of events, plain: numbers in decimal, a text's pieces, which text is which event.
-/
import Derived.Test.YtcfemppdeidjmadGreatMa
namespace Go.Proofs.YtcfemppdeidjmadGreat.Nt
set_option linter.unusedVariables false

/-- A number of at most two digits. -/
def dgt (n : Nat) : List UInt8 := if n ≤ 9 then [UInt8.ofNat (48 + n)] else [UInt8.ofNat (48 + n / 10), UInt8.ofNat (48 + n % 10)]

def Dig (c : UInt8) : Prop := 48 ≤ c.toNat ∧ c.toNat ≤ 57

/-- What digits tell, behind a number. -/
def valN (n : Nat) (l : List UInt8) : Nat := l.foldl (fun n c => n * 10 + (c.toNat - 48)) n
def val (l : List UInt8) : Nat := valN 0 l

theorem valN_cons (n : Nat) (c : UInt8) (l : List UInt8) : valN n (c :: l) = valN (n * 10 + (c.toNat - 48)) l := by unfold valN; rw [List.foldl_cons]
theorem valN_snoc (n : Nat) (l : List UInt8) (c : UInt8) : valN n (l ++ [c]) = valN n l * 10 + (c.toNat - 48) := by simp [valN]
theorem val_snoc (l : List UInt8) (c : UInt8) : val (l ++ [c]) = val l * 10 + (c.toNat - 48) := valN_snoc 0 l c
theorem valN_ge : ∀ (l : List UInt8) (n : Nat), n ≤ valN n l
  | [], n => Nat.le_refl _
  | c :: l, n => by rw [valN_cons]; have := valN_ge l (n * 10 + (c.toNat - 48)); omega

/-- A number in decimal: no nought ahead, nine digits at most. -/
structure Numeral (l : List UInt8) : Prop where
  some : 1 ≤ l.length
  few : l.length ≤ 9
  lead : 1 < l.length → (l.getD 0 0).toNat ≠ 48
  all : ∀ c ∈ l, Dig c

theorem u8_lt (c : UInt8) : c.toNat < 256 := c.toNat_lt
theorem u8_of {n : Nat} (h : n < 256) : (UInt8.ofNat n).toNat = n := by simp [UInt8.toNat_ofNat']; omega
theorem u8_ext {c d : UInt8} (h : c.toNat = d.toNat) : c = d := UInt8.toNat_inj.1 h

theorem dgt_num {n : Nat} (h : n ≤ 59) : Numeral (dgt n) ∧ val (dgt n) = n := by
  unfold dgt
  split
  · refine ⟨⟨by simp, by simp, fun q => by simp at q, fun c hc => ?_⟩, ?_⟩
    · rw [List.mem_singleton] at hc
      subst hc
      unfold Dig
      rw [u8_of (by omega)]
      omega
    · unfold val valN
      simp only [List.foldl_cons, List.foldl_nil]
      rw [u8_of (by omega)]
      omega
  · refine ⟨⟨by simp, by simp, fun _ => ?_, fun c hc => ?_⟩, ?_⟩
    · simp only [List.getD_cons_zero]
      rw [u8_of (by omega)]
      omega
    · rw [List.mem_cons, List.mem_singleton] at hc
      unfold Dig
      rcases hc with rfl | rfl
      · rw [u8_of (by omega)]; omega
      · rw [u8_of (by omega)]; omega
    · unfold val valN
      simp only [List.foldl_cons, List.foldl_nil]
      rw [u8_of (by omega), u8_of (by omega)]
      omega

/-- A number that may be a node is written in one way. -/
theorem num_dgt {l : List UInt8} (h : Numeral l) (hv : val l ≤ 59) : l = dgt (val l) := by
  match l, h, hv with
  | [c], h, hv =>
    have hc := h.all c (by simp)
    unfold Dig at hc
    have e : val [c] = c.toNat - 48 := by simp [val, valN]
    rw [e] at hv ⊢
    unfold dgt
    rw [if_pos (by omega)]
    refine congrArg (fun x => [x]) (u8_ext ?_)
    rw [u8_of (by omega)]
    omega
  | [c, d], h, hv =>
    have hc := h.all c (by simp)
    have hd := h.all d (by simp)
    have hl := h.lead (by simp)
    simp only [List.getD_cons_zero] at hl
    unfold Dig at hc hd
    have e : val [c, d] = (c.toNat - 48) * 10 + (d.toNat - 48) := by simp [val, valN]
    rw [e] at hv ⊢
    unfold dgt
    rw [if_neg (by omega)]
    have e1 : c = UInt8.ofNat (48 + ((c.toNat - 48) * 10 + (d.toNat - 48)) / 10) := u8_ext (by rw [u8_of (by omega)]; omega)
    have e2 : d = UInt8.ofNat (48 + ((c.toNat - 48) * 10 + (d.toNat - 48)) % 10) := u8_ext (by rw [u8_of (by omega)]; omega)
    rw [← e1, ← e2]
  | c :: d :: e :: r, h, hv =>
    exfalso
    have hc := h.all c (by simp)
    have hl := h.lead (by simp)
    simp only [List.getD_cons_zero] at hl
    unfold Dig at hc
    unfold val at hv
    rw [valN_cons, valN_cons, valN_cons] at hv
    have := valN_ge r (((0 * 10 + (c.toNat - 48)) * 10 + (d.toNat - 48)) * 10 + (e.toNat - 48))
    omega

/-- A letter ahead of the first piece. -/
def glue (c : UInt8) : List (List UInt8) → List (List UInt8)
  | [] => [[c]]
  | p :: ps => (c :: p) :: ps

/-- A text's pieces between blanks. -/
def pieces : List UInt8 → List (List UInt8)
  | [] => [[]]
  | c :: r => if c = 32 then [] :: pieces r else glue c (pieces r)

theorem pieces_nil : pieces [] = [[]] := rfl
theorem pieces_blank (r : List UInt8) : pieces (32 :: r) = [] :: pieces r := by rw [pieces, if_pos rfl]
theorem pieces_cons {c : UInt8} (r : List UInt8) (h : c ≠ 32) : pieces (c :: r) = glue c (pieces r) := by rw [pieces, if_neg h]

theorem pieces_ne (l : List UInt8) : ∃ p ps, pieces l = p :: ps := by
  cases l with
  | nil => exact ⟨_, _, rfl⟩
  | cons c r =>
    by_cases h : c = 32
    · subst h; exact ⟨_, _, pieces_blank r⟩
    · rw [pieces_cons r h]
      cases pieces r with
      | nil => exact ⟨_, _, rfl⟩
      | cons p ps => exact ⟨_, _, rfl⟩

/-- No blank in it: one piece. -/
theorem pieces_one : ∀ {l : List UInt8}, (∀ c ∈ l, c ≠ 32) → pieces l = [l]
  | [], _ => rfl
  | c :: r, h => by rw [pieces_cons r (h c List.mem_cons_self), pieces_one fun d hd => h d (List.mem_cons_of_mem _ hd)]; rfl

/-- Up to the first blank. -/
theorem pieces_cut : ∀ {l : List UInt8} (r : List UInt8), (∀ c ∈ l, c ≠ 32) → pieces (l ++ 32 :: r) = l :: pieces r
  | [], r, _ => pieces_blank r
  | c :: l, r, h => by rw [List.cons_append, pieces_cons _ (h c List.mem_cons_self), pieces_cut r fun d hd => h d (List.mem_cons_of_mem _ hd)]; rfl

theorem one_piece : ∀ {l q : List UInt8}, pieces l = [q] → l = q
  | [], q, h => by rw [pieces_nil] at h; injection h
  | c :: r, q, h => by
    obtain ⟨p, ps, e⟩ := pieces_ne r
    by_cases hc : c = 32
    · subst hc
      rw [pieces_blank, e] at h
      injection h with _ h2
      cases h2
    · rw [pieces_cons r hc, e] at h
      injection h with h1 h2
      subst h2
      rw [← h1, one_piece e]

/-- Two pieces, just if there is one blank. -/
theorem pieces_two : ∀ {l p q : List UInt8}, pieces l = [p, q] → l = p ++ 32 :: q
  | [], p, q, h => by rw [pieces_nil] at h; injection h with _ h2; cases h2
  | c :: r, p, q, h => by
    obtain ⟨p', ps, e⟩ := pieces_ne r
    by_cases hc : c = 32
    · subst hc
      rw [pieces_blank] at h
      injection h with h1 h2
      rw [← h1, one_piece h2]
      rfl
    · rw [pieces_cons r hc, e] at h
      injection h with h1 h2
      subst h2
      rw [← h1, pieces_two e]
      rfl

/-- One letter more. -/
theorem pieces_snoc (c : UInt8) : ∀ (l : List UInt8) (ps : List (List UInt8)) (p : List UInt8), pieces l = ps ++ [p] → pieces (l ++ [c]) = ps ++ (if c = 32 then [p, []] else [p ++ [c]])
  | [], ps, p, h => by
    have : ps = [] ∧ p = [] := by
      rw [pieces_nil] at h
      cases ps with
      | nil => injection h with h1; exact ⟨rfl, h1.symm⟩
      | cons a b =>
        injection h with _ h2
        cases b <;> cases h2
    obtain ⟨rfl, rfl⟩ := this
    rw [List.nil_append, List.nil_append]
    by_cases hc : c = 32
    · subst hc; rw [pieces_blank, if_pos rfl, pieces_nil]
    · rw [pieces_cons _ hc, if_neg hc, pieces_nil]; rfl
  | d :: r, ps, p, h => by
    rw [List.cons_append]
    obtain ⟨q, qs, e⟩ := pieces_ne r
    by_cases hd : d = 32
    · subst hd
      rw [pieces_blank] at h ⊢
      cases ps with
      | nil =>
        injection h with _ h2
        rw [e] at h2
        cases h2
      | cons a b =>
        injection h with h1 h2
        subst h1
        rw [pieces_snoc c r b p h2]
        rfl
    · rw [pieces_cons _ hd] at h ⊢
      rw [e] at h
      cases ps with
      | nil =>
        injection h with h1 h2
        subst h2
        subst h1
        rw [pieces_snoc c r [] q e]
        split <;> rfl
      | cons a b =>
        injection h with h1 h2
        subst h1
        rw [pieces_snoc c r (q :: b) p (by rw [e, h2]; rfl)]
        rfl

/-- What an event's text begins with. -/
def mark (k : Nat) : UInt8 := if k = 1 then 43 else if k = 2 then 45 else 63

def text (k a b : Nat) : List UInt8 := mark k :: (dgt a ++ 32 :: dgt b)

/-- That text is that event. -/
def TextIs (l : List UInt8) (x : Int × Int × Int) : Prop := ∃ k a b : Nat, (1 ≤ k ∧ k ≤ 3) ∧ a ≤ 59 ∧ b ≤ 59 ∧ x = (((k : Nat) : Int), ((a : Nat) : Int), ((b : Nat) : Int)) ∧ l = text k a b

theorem dgt_blank {n : Nat} (h : n ≤ 59) : ∀ c ∈ dgt n, c ≠ 32 := fun c hc e => by
  have := (dgt_num h).1.all c hc
  subst e
  unfold Dig at this
  have : (32 : UInt8).toNat = 32 := rfl
  omega

theorem text_pieces {a b : Nat} (ha : a ≤ 59) (hb : b ≤ 59) : pieces (dgt a ++ 32 :: dgt b) = [dgt a, dgt b] := by
  rw [pieces_cut _ (dgt_blank ha), pieces_one (dgt_blank hb)]

theorem mark_inj {j k : Nat} (hj : 1 ≤ j ∧ j ≤ 3) (hk : 1 ≤ k ∧ k ≤ 3) (h : mark j = mark k) : j = k := by
  have e : ∀ i, 1 ≤ i ∧ i ≤ 3 → i = 1 ∨ i = 2 ∨ i = 3 := fun i hi => by omega
  rcases e j hj with rfl | rfl | rfl <;> rcases e k hk with rfl | rfl | rfl <;> first | rfl | (exfalso; revert h; decide)

theorem TextIs.one {l : List UInt8} {x y : Int × Int × Int} (h : TextIs l x) (h' : TextIs l y) : x = y := by
  obtain ⟨k, a, b, hk, ha, hb, rfl, rfl⟩ := h
  obtain ⟨k', a', b', hk', ha', hb', rfl, e⟩ := h'
  unfold text at e
  injection e with e1 e2
  have e3 := congrArg pieces e2
  rw [text_pieces ha hb, text_pieces ha' hb'] at e3
  injection e3 with f1 f2
  injection f2 with f2 _
  have g1 := congrArg val f1
  rw [(dgt_num ha).2, (dgt_num ha').2] at g1
  have g2 := congrArg val f2
  rw [(dgt_num hb).2, (dgt_num hb').2] at g2
  rw [mark_inj hk hk' e1, g1, g2]

end Go.Proofs.YtcfemppdeidjmadGreat.Nt
