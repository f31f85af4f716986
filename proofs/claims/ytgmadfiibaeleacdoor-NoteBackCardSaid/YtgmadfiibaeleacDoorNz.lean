/-
  The arguments that came in, and the package-level variables that the row lists, as they lie in memory.
-/
import Derived.Test.YtgmadfiibaeleacDoorRows
import Derived.Test.YtgmadfiibaeleacDoorNr
import Derived.Test.YtgmadfiibaeleacDoorBm
import Derived.Lib.SmallJoins
import Derived.Stop.LaidErr
import Derived.SizedLaws
import Derived.LaidMore
import Derived.LaidHandle
import Derived.ChangeVars
namespace Go.Proofs.YtgmadfiibaeleacDoor.Nt
open Go.ChangeShapes Go.WideShapes Go.ChangeAt Go.RowKit
open Go.RowKit (Below)
set_option linter.unusedVariables false

theorem Tryd.cellsU8 : Tryd.prog.cellsOf 5 = 1 := by kernel_rfl
theorem Tryd.cellsStr : Tryd.prog.cellsOf 9 = 1 := by kernel_rfl
theorem Tryd.cellsErrStr : Tryd.prog.cellsOf 123 = 1 := by kernel_rfl
theorem Tryd.cellsEv : Tryd.prog.cellsOf 24 = 3 := by kernel_rfl

/-- The bytes that came in. -/
theorem bytes_of {H : Type} {enc : TypeId × Value → H} {W : World} {a : Option Addr} {len cap fuel : Nat} {x : DataW H × List MemPlace} (h : DataW.trod enc Tryd.prog W 0 (fun _ => true) true fuel 31 [.slice a len cap] = some x) : ∃ g, BtAt W a len g ∧ len ≤ cap ∧ cap ≤ maxLen := by
  rcases open_ints Tryd.underlying31 Tryd.underlying5 Tryd.cellsU8 h with ⟨hcs, _⟩ | ⟨ad, len', cap', zs, hcs, _, hl, hm, hz, _, hcell, hwz⟩
  · simp at hcs
    obtain ⟨rfl, rfl, rfl⟩ := hcs
    exact ⟨fun _ => 0, ⟨fun i hi => absurd hi (Nat.not_lt_zero _), fun i hi => absurd hi (Nat.not_lt_zero _)⟩, Nat.le_refl _, Nat.zero_le _⟩
  · simp at hcs
    obtain ⟨rfl, rfl, rfl⟩ := hcs
    simp only [if_true] at hz
    refine ⟨fun i => (zs.getD i 0).toNat, ⟨fun i hi => ?_, fun i hi => ?_⟩, hl, hm⟩
    · have hb := range_u8 hwz i
      have hc := hcell i (by omega)
      obtain ⟨b, o, sp⟩ := ad
      have hsp : sp = none := by simpa [Addr.add] using World.cell?_spot (hcell 0 (by omega))
      subst hsp
      rw [Addr.add_lit] at hc
      refine ⟨b, o, rfl, ?_⟩
      rw [hc, Int.toNat_of_nonneg (by rw [List.getD_eq_getElem?_getD]; exact hb.1)]
    · have hb := range_u8 hwz i
      rw [← List.getD_eq_getElem?_getD] at hb
      show (zs.getD i 0).toNat < 256
      omega

set_option maxRecDepth 100000 in
/-- The event that came in. -/
theorem event_of {H : Type} {enc : TypeId × Value → H} {W : World} {base : Nat} {v : Value} {d : DataW H} {p : List MemPlace} (hv : Value.okWide Tryd.prog W .any base 24 v) (h : DataW.Trod enc Tryd.prog W 0 (fun _ => true) true 24 v d p) : ∃ k x y : Int, v = evv k x y := by
  obtain ⟨v0, v1, v2, y0, y1, y2, n, rfl, -, -, h0, h1, h2⟩ := Go.Joins.open_agg3 Tryd.underlying24 (by kernel_rfl) Tryd.cellsEv hv h
  obtain ⟨x0, rfl, _⟩ := Br.int_cell h0
  obtain ⟨x1, rfl, _⟩ := Br.int_cell h1
  obtain ⟨x2, rfl, _⟩ := Br.int_cell h2
  exact ⟨_, _, _, rfl⟩

theorem Tryd.et : Tryd.prog.globalNamed "errors.errorType" = some 0 := by kernel_rfl
theorem Tryd.gES : Tryd.prog.globalNamed "strconv.ErrSyntax" = some 3 := by kernel_rfl
theorem Tryd.gER : Tryd.prog.globalNamed "strconv.ErrRange" = some 4 := by kernel_rfl
theorem Tryd.gEST : (Tryd.prog.globals[3]?).map (·.type) = some 26 := by kernel_rfl
theorem Tryd.gERT : (Tryd.prog.globals[4]?).map (·.type) = some 26 := by kernel_rfl
theorem Tryd.rt : (Tryd.prog.cutTypes.find? (·.1 == "internal/reflectlite.rtype")).map (·.2) = some 89 := by kernel_rfl
theorem Tryd.oneRow : ((List.range 154).filter fun t => Tryd.prog.rowNamed t [101, 114, 114, 111, 114]) = [26] := by kernel_rfl
theorem Tryd.tsize : Tryd.prog.types.size = 154 := by kernel_rfl

set_option maxRecDepth 100000 in
/-- The one type of that name. -/
theorem rowES {nm : String} {d : DataW Unit} (e : Rows.laid_strconv_ErrSyntax = DataW.iface nm d) (u : TypeId) (h : Tryd.prog.typeName? 3 u = some nm) : u = 121 := by
  unfold Rows.laid_strconv_ErrSyntax at e
  injection e with e1 e2
  subst e1
  exact typeName_ptr_named (nm := "errors.errorString") (by kernel_rfl) (by kernel_rfl) (by decide) u (h.trans (congrArg some (by decide)))

set_option maxRecDepth 100000 in
theorem rowER {nm : String} {d : DataW Unit} (e : Rows.laid_strconv_ErrRange = DataW.iface nm d) (u : TypeId) (h : Tryd.prog.typeName? 3 u = some nm) : u = 121 := by
  unfold Rows.laid_strconv_ErrRange at e
  injection e with e1 e2
  subst e1
  exact typeName_ptr_named (nm := "errors.errorString") (by kernel_rfl) (by kernel_rfl) (by decide) u (h.trans (congrArg some (by decide)))

/-- What the rows list. -/
def laidAll : List (String × DataW Unit) := [("math/bits.deBruijn32tab", Rows.laid_math_bits_deBruijn32tab), ("math/bits.deBruijn64tab", Rows.laid_math_bits_deBruijn64tab), ("internal/strconv.uint64pow10", Rows.laid_internal_strconv_uint64pow10), ("errors.errorType", Rows.laid_errors_errorType), ("strconv.ErrRange", Rows.laid_strconv_ErrRange), ("strconv.ErrSyntax", Rows.laid_strconv_ErrSyntax)]

set_option maxRecDepth 100000 in
/-- The variables' cells, off what the row lists. -/
theorem of_laid {W : World} (h : laidMetH Tryd.prog laidAll W) : ErrType W ∧ Senti W := by
  have h' : laidMet Tryd.prog [("math/bits.deBruijn32tab", Rows.laid_math_bits_deBruijn32tab), ("math/bits.deBruijn64tab", Rows.laid_math_bits_deBruijn64tab), ("internal/strconv.uint64pow10", Rows.laid_internal_strconv_uint64pow10), ("strconv.ErrRange", Rows.laid_strconv_ErrRange), ("strconv.ErrSyntax", Rows.laid_strconv_ErrSyntax)] W ∧ handlesMet Tryd.prog [("errors.errorType", Rows.laid_errors_errorType)] W := h
  refine ⟨?_, ?_, ?_⟩
  · obtain ⟨name, u, ty, e1, e2, e3, e4, e5⟩ := h'.2 _ (List.mem_singleton.2 rfl)
    have en : name = [101, 114, 114, 111, 114] := (Option.some.inj e1).symm
    subst en
    obtain rfl := Option.some.inj (Tryd.rt.symm.trans e2)
    have hm : ty ∈ (List.range 154).filter fun t => Tryd.prog.rowNamed t [101, 114, 114, 111, 114] := List.mem_filter.2 ⟨List.mem_range.2 (by rw [← Tryd.tsize]; exact e3), e4⟩
    rw [Tryd.oneRow] at hm
    obtain rfl := List.mem_singleton.1 hm
    have hh : typeHandle Tryd.prog 26 = .pointer (some ⟨7, 26, none⟩) := by kernel_rfl
    rw [hh] at e5
    have := World.var?_cell Tryd.et e5 0
    unfold ErrType
    simpa using this
  · obtain ⟨a0, s0, hv0, -, -, -⟩ := laid_sentinel h'.1.tail.tail.tail.tail Tryd.gES Tryd.gEST Tryd.underlying26 (rowES rfl) Tryd.underlying121 Tryd.underlying123 rfl rfl Tryd.underlying9 Tryd.cellsErrStr Tryd.cellsStr
    exact ⟨_, _, by have h0 := World.var?_cell Tryd.gES hv0 0; simpa using h0⟩
  · obtain ⟨a0, s0, hv0, -, -, -⟩ := laid_sentinel h'.1.tail.tail.tail Tryd.gER Tryd.gERT Tryd.underlying26 (rowER rfl) Tryd.underlying121 Tryd.underlying123 rfl rfl Tryd.underlying9 Tryd.cellsErrStr Tryd.cellsStr
    exact ⟨_, _, by have h0 := World.var?_cell Tryd.gER hv0 0; simpa using h0⟩

end Go.Proofs.YtgmadfiibaeleacDoor.Nt
