/- A number of few words. -/
import Derived.Test.YtoklmfmoblkfcaaDoorNatFew
import Derived.Test.YtoklmfmoblkfcaaDoorRefOf
namespace Go.Proofs.YtoklmfmoblkfcaaDoor
open Go.RowKit Go.Proofs.Tm
set_option linter.unusedVariables false
set_option linter.unusedSimpArgs false
set_option maxRecDepth 20000

/-- A number of few words, in both ways. -/
theorem few_bounds (L : List Nat) (k : Nat) (h : ∀ d ∈ L, d < 18446744073709551616) : (wds (wval (L.take k))).length ≤ k ∧ (digs (wval (L.take k))).length ≤ 5 * k :=
  ⟨few_len L k h, digs_wlen ((wds_length_le_iff _ _).1 (few_len L k h))⟩

end Go.Proofs.YtoklmfmoblkfcaaDoor
