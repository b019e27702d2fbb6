/- TallyCodes: the words that are written, read back (plain mathematics). -/
import Derived.Test.YtbbbfkcpkcfndaaCodesTold
namespace Go.Proofs.Ytbbbfkcpkcfndaa
open Go.RowKit Go.Proofs.Tm
set_option linter.unusedVariables false
set_option maxRecDepth 20000

theorem and63 (k : Int) : ∃ c : Nat, c ≤ 63 ∧ bits .and .i64 k 63 = (c : Int) := by
  refine ⟨(BitVec.ofInt 64 k &&& BitVec.ofInt 64 63).toNat, ?_, ?_⟩
  · rw [BitVec.toNat_and]
    exact Nat.le_trans Nat.and_le_right (by decide)
  · have h : (BitVec.ofInt 64 k &&& BitVec.ofInt 64 63).toNat ≤ 63 := by
      rw [BitVec.toNat_and]
      exact Nat.le_trans Nat.and_le_right (by decide)
    show IntKind.i64.wrap ((BitVec.ofInt 64 k &&& BitVec.ofInt 64 63).toNat : Int) = _
    exact IntWalk.i64_in _ (by omega)

/-- What is written of a number of k + 1 bits at most. -/
def wordT (k x : Nat) : List Bool := numBits x (k + 1) ++ (deltaBits (x ||| 1) ++ varBits x)

theorem wordT_len (k x : Nat) (hk : k ≤ 63) (h : x < 18446744073709551616) : (wordT k x).length ≤ 500 := by
  have h1 := wordS_len 1 (x ||| 1) (Nat.or_lt_two_pow (n := 64) h (by decide))
  have h2 := wordS_len 2 x h
  have e1 : wordS 1 (x ||| 1) = deltaBits (x ||| 1) := rfl
  have e2 : wordS 2 x = varBits x := rfl
  rw [e1] at h1
  rw [e2] at h2
  unfold wordT
  rw [List.length_append, List.length_append, numBits_length]
  omega

/-- The three readings, each from where the one before has ended. -/
theorem wordT_back {L B : List Bool} {i k x : Nat} (hi : i ≤ L.length) (hk : x < 2 ^ (k + 1)) (hx : x < 18446744073709551616) (hd : L.drop i = wordT k x ++ B) :
    i + (k + 1) ≤ L.length ∧ numL L i (k + 1) = x ∧ deltaS L (i + (k + 1)) = (x ||| 1, i + (k + 1) + (deltaBits (x ||| 1)).length, 0) ∧
    varS L 10 0 0 (i + (k + 1) + (deltaBits (x ||| 1)).length) = (x, i + (wordT k x).length, 0) := by
  unfold wordT at hd ⊢
  rw [List.append_assoc, List.append_assoc] at hd
  have l1 := len_past hi hd
  have d1 := drop_past hd
  rw [numBits_length] at l1 d1
  have l2 := len_past l1 d1
  have d2 := drop_past d1
  refine ⟨l1, by rw [numL_at hd, Nat.mod_eq_of_lt hk], delta_back l1 (by have : (1 : Nat) ≤ x ||| 1 := Nat.right_le_or; omega) (Nat.or_lt_two_pow (n := 64) hx (by decide)) d1, ?_⟩
  rw [varAll_back l2 hx d2, List.length_append, List.length_append, numBits_length]
  congr 2; omega
end Go.Proofs.Ytbbbfkcpkcfndaa
