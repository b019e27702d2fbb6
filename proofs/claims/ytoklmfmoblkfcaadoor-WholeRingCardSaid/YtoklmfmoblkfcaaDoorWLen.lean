/- How many words sums and products of whole numbers have; how the document's are held against one another. -/
import Derived.Test.YtoklmfmoblkfcaaDoorAb
namespace Go.Proofs.YtoklmfmoblkfcaaDoor
open Go.RowKit Go.Proofs.Tm
set_option linter.unusedVariables false
theorem wlen_add {x y : Int} {j k n : Nat} (hx : (wds x.natAbs).length ≤ j) (hy : (wds y.natAbs).length ≤ k) (h : j + k + 1 ≤ n) : (wds (x + y).natAbs).length ≤ n := by
  have h1 := wds_length_le (Int.natAbs_add_le x y)
  have h2 := wds_length_add x.natAbs y.natAbs
  omega
theorem wlen_sub {x y : Int} {j k n : Nat} (hx : (wds x.natAbs).length ≤ j) (hy : (wds y.natAbs).length ≤ k) (h : j + k + 1 ≤ n) : (wds (x - y).natAbs).length ≤ n := by
  rw [Int.sub_eq_add_neg]
  exact wlen_add hx (by rw [Int.natAbs_neg]; exact hy) h
theorem wlen_mul {x y : Int} {j k n : Nat} (hx : (wds x.natAbs).length ≤ j) (hy : (wds y.natAbs).length ≤ k) (h : j + k ≤ n) : (wds (x * y).natAbs).length ≤ n := by
  rw [Int.natAbs_mul]
  have := wds_length_mul x.natAbs y.natAbs
  omega
theorem zcmp_eq (p m pp mm : Nat) : cmpN (p + mm) (pp + m) = cmpZ ((p : Int) - m) ((pp : Int) - mm) := by
  unfold cmpN cmpZ
  repeat' split
  all_goals omega
theorem cmpZ_self (x : Int) : cmpZ x x = 0 := by unfold cmpZ; rw [if_neg (by omega), if_pos rfl]
end Go.Proofs.YtoklmfmoblkfcaaDoor
