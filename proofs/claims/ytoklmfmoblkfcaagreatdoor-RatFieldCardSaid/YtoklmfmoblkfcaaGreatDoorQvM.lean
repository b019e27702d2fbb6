/- The document's fractions as mathematics: sums, products; lengths; which text is 0's. -/
import Derived.Test.YtoklmfmoblkfcaaGreatDoorZV
import Derived.Test.YtoklmfmoblkfcaaGreatDoorRatL
import Derived.Test.YtoklmfmoblkfcaaGreatDoorRefZ2
import Derived.Test.YtoklmfmoblkfcaaGreatDoorRefT
namespace Go.Proofs.YtoklmfmoblkfcaaGreatDoor
open Go.RowKit Go.Proofs.Tm
set_option linter.unusedVariables false

theorem qval_add {p m d pp mm dd : Nat} (h1 : 0 < d) (h2 : 0 < dd) : qval (p * dd + pp * d) (m * dd + mm * d) (d * dd) = qval p m d + qval pp mm dd := by
  unfold qval
  rw [Rat.mkRat_add_mkRat _ _ (by omega) (by omega)]
  congr 1
  rw [Int.sub_mul, Int.sub_mul]
  simp only [Int.natCast_add, Int.natCast_mul]
  omega
theorem qval_mul {p m d pp mm dd : Nat} : qval (p * pp + m * mm) (p * mm + m * pp) (d * dd) = qval p m d * qval pp mm dd := by
  unfold qval
  rw [Rat.mkRat_mul_mkRat]
  congr 1
  rw [Int.sub_mul, Int.mul_sub, Int.mul_sub]
  simp only [Int.natCast_add, Int.natCast_mul]
  omega
theorem qval_turn {p m d : Nat} : qval m p d = -qval p m d := by
  unfold qval
  rw [Rat.neg_mkRat]
  congr 1
  omega
theorem ql_qval {p m d k : Nat} (hd : 0 < d) (h1 : (wds p).length ≤ k) (h2 : (wds m).length ≤ k) (h3 : (wds d).length ≤ k) : QL (qval p m d) k := by
  obtain ⟨n1, n2, _⟩ := qval_num (p := p) (m := m) hd
  constructor
  · rw [n1]
    refine Nat.le_trans (wds_length_le (Nat.div_le_self _ _)) ?_
    rcases Nat.le_total m p with h | h
    · exact Nat.le_trans (wds_length_le (by omega)) h1
    · exact Nat.le_trans (wds_length_le (by omega)) h2
  · rw [n2]
    exact Nat.le_trans (wds_length_le (Nat.div_le_self _ _)) h3
theorem zTxt_ne (z : Int) : zTxt z ≠ [] := by
  unfold zTxt
  split
  · simp
  · exact decDigits_ne _
theorem txt_zero : ratTxt 0 = [48] := by decide +kernel
theorem txt_one : ratTxt 1 = [49] := by decide +kernel
theorem ratTxt_small {q : Rat} {c : UInt8} (h : ratTxt q = [c]) : q.den = 1 ∧ zTxt q.num = [c] := by
  unfold ratTxt at h
  by_cases hd : q.den = 1
  · rw [if_pos hd, List.append_nil] at h
    exact ⟨hd, h⟩
  · rw [if_neg hd] at h
    have h1 := List.length_pos_iff.2 (zTxt_ne q.num)
    have h2 := congrArg List.length h
    have h3 := List.length_pos_iff.2 (decDigits_ne q.den)
    simp at h2
    omega
theorem txt_is_zero {q : Rat} (h : ratTxt q = [48]) : q = 0 := by
  obtain ⟨hd, hz⟩ := ratTxt_small h
  have e : zTxt q.num = zTxt 0 := by rw [hz]; decide +kernel
  exact Rat.num_eq_zero.1 (zTxt_inj e)
end Go.Proofs.YtoklmfmoblkfcaaGreatDoor
