/- Fractions (layer 7): how many words they have. -/
import Derived.Test.YtoklmfmoblkfcaaGreatDoorAb
namespace Go.Proofs.YtoklmfmoblkfcaaGreatDoor
open Go.RowKit Go.Proofs.Tm
set_option linter.unusedVariables false

/-- No more than k words above and below the line. -/
def QL (q : Rat) (k : Nat) : Prop := (wds q.num.natAbs).length ≤ k ∧ (wds q.den).length ≤ k
theorem QL.mono {q : Rat} {k j : Nat} (h : QL q k) (hj : k ≤ j) : QL q j := ⟨Nat.le_trans h.1 hj, Nat.le_trans h.2 hj⟩
theorem over_abs {z : Int} {g : Nat} (hg : 0 < g) (h : g ∣ z.natAbs) : (z / (g : Int)).natAbs = z.natAbs / g := by
  rw [← over_eq z g hg h]
  split <;> simp only [Int.natAbs_neg, Int.natAbs_natCast]
theorem over_len {z : Int} {g k : Nat} (hz : (wds z.natAbs).length ≤ k) (hg : 0 < g) (h : g ∣ z.natAbs) : (wds (z / (g : Int)).natAbs).length ≤ k := by
  rw [over_abs hg h]
  exact Nat.le_trans (wds_length_le (Nat.div_le_self _ _)) hz
theorem ql_mul {x y : Rat} {j k : Nat} (hx : QL x j) (hy : QL y k) : QL (x * y) (j + k) := by
  obtain ⟨m1, m2, gp, hp, q1, q2, q3, q4⟩ := mul_num x y _ _ rfl rfl
  constructor
  · rw [m1, Int.natAbs_mul]
    have := wds_length_mul (x.num / (Nat.gcd x.num.natAbs y.den : Int)).natAbs (y.num / (Nat.gcd y.num.natAbs x.den : Int)).natAbs
    have := over_len hx.1 gp q1
    have := over_len hy.1 hp q2
    omega
  · rw [m2]
    have := wds_length_mul (x.den / Nat.gcd y.num.natAbs x.den) (y.den / Nat.gcd x.num.natAbs y.den)
    have := wds_length_le (Nat.div_le_self x.den (Nat.gcd y.num.natAbs x.den))
    have := wds_length_le (Nat.div_le_self y.den (Nat.gcd x.num.natAbs y.den))
    have := hx.2
    have := hy.2
    omega
theorem ql_num {x y : Rat} {j k : Nat} (hx : QL x j) (hy : QL y k) {a b : Nat} (ha : a ≤ y.den) (hb : b ≤ x.den) : (wds (x.num * (a : Int) + y.num * (b : Int)).natAbs).length ≤ j + k + 1 := by
  have h1 : (x.num * (a : Int) + y.num * (b : Int)).natAbs ≤ x.num.natAbs * a + y.num.natAbs * b := by
    refine Nat.le_trans (Int.natAbs_add_le _ _) ?_
    rw [Int.natAbs_mul, Int.natAbs_mul]
    exact Nat.le_refl _
  have h2 := wds_length_le h1
  have h3 := wds_length_add (x.num.natAbs * a) (y.num.natAbs * b)
  have h4 := wds_length_mul x.num.natAbs a
  have h5 := wds_length_mul y.num.natAbs b
  have h6 := wds_length_le ha
  have h7 := wds_length_le hb
  have := hx.1
  have := hx.2
  have := hy.1
  have := hy.2
  omega
theorem ql_add {x y : Rat} {j k : Nat} (hx : QL x j) (hy : QL y k) : QL (x + y) (j + k + 1) := by
  obtain ⟨c, hc⟩ : ∃ c, c = Nat.gcd x.den y.den := ⟨_, rfl⟩
  obtain ⟨num, hn⟩ : ∃ n : Int, n = x.num * ((y.den / c : Nat) : Int) + y.num * ((x.den / c : Nat) : Int) := ⟨_, rfl⟩
  obtain ⟨g, hg⟩ : ∃ g, g = Nat.gcd num.natAbs c := ⟨_, rfl⟩
  obtain ⟨a1, a2, gp, g1, g2⟩ := add_num x y c _ _ hc rfl rfl num hn g hg
  constructor
  · rw [a1]
    exact over_len (by rw [hn]; exact ql_num hx hy (Nat.div_le_self _ _) (Nat.div_le_self _ _)) gp g1
  · rw [a2]
    refine Nat.le_trans (wds_length_mul _ _) ?_
    have h1 := Nat.le_trans (wds_length_le (Nat.div_le_self x.den c)) hx.2
    have h2 := Nat.le_trans (wds_length_le (Nat.div_le_self y.den g)) hy.2
    exact Nat.le_trans (Nat.add_le_add h1 h2) (Nat.le_succ _)
theorem ql_neg {x : Rat} {j : Nat} (hx : QL x j) : QL (-x) j := ⟨by rw [Rat.neg_num, Int.natAbs_neg]; exact hx.1, by rw [Rat.neg_den]; exact hx.2⟩
theorem ql_sub {x y : Rat} {j k : Nat} (hx : QL x j) (hy : QL y k) : QL (x - y) (j + k + 1) := by
  rw [Rat.sub_eq_add_neg]; exact ql_add hx (ql_neg hy)
theorem ql_inv {y : Rat} {k : Nat} (hy : QL y k) (h : y ≠ 0) : QL (y⁻¹) k := by
  have hn : y.num ≠ 0 := fun e => h (Rat.num_eq_zero.1 e)
  obtain ⟨i1, i2⟩ := inv_num y hn
  constructor
  · rw [i1]
    have : (if y.num < 0 then -(y.den : Int) else (y.den : Int)).natAbs = y.den := by split <;> simp
    rw [this]; exact hy.2
  · rw [i2]; exact hy.1
theorem ql_div {x y : Rat} {j k : Nat} (hx : QL x j) (hy : QL y k) (h : y ≠ 0) : QL (x / y) (j + k) := by
  rw [Rat.div_def]; exact ql_mul hx (ql_inv hy h)
end Go.Proofs.YtoklmfmoblkfcaaGreatDoor
