/-
  TourCuts, at whatever numbers and whatever script.
-/
import Derived.Test.YtdlnbeoccakleaaTu7
import Derived.Test.YtdlnbeoccakleaaTsc
namespace Go.Proofs.Ytdlnbeoccakleaa
open Go.RowKit Go.Deep

theorem wf_range {k : Int} (h : (Lit.int .i64 k).wf = true) : -9223372036854775808 ≤ k ∧ k ≤ 9223372036854775807 := by
  have h1 : IntKind.min .i64 = -9223372036854775808 := by decide
  have h2 : IntKind.max .i64 = 9223372036854775807 := by decide
  simp only [Lit.wf, h1, h2, Bool.and_eq_true, decide_eq_true_eq] at h
  exact h

theorem cuts_all {a : Option Addr} {la ca : Nat} {w : World} {f : Nat → Int × Int} (hs : ScriptAt w a la f) (n k : Int) (hk : (Lit.int .i64 k).wf = true) :
    Calls Try.prog 7 #[.int .i64 n, .slice a la ca, .int .i64 k] w fun e w' => e = .returned (.bool true) ∧ Below w.heap.size w w' := by
  by_cases h : n < 1 ∨ 60 < n
  · exact cuts_no n k h
  · obtain ⟨m, rfl⟩ := Int.eq_ofNat_of_zero_le (show 0 ≤ n by omega)
    exact cuts_any hs m k (by omega) (by omega) (wf_range hk)

end Go.Proofs.Ytdlnbeoccakleaa
