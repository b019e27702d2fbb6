/- How many bits a number has, up to its highest one. -/
import Derived.Test.YtoklmfmoblkfcaaDoorAa
import Derived.Lib.ItoaNum
namespace Go.Proofs.Tm
open Go
set_option linter.unusedVariables false

/-- The bits of n, up to the highest one. -/
def nbits (n : Nat) : Nat := if n = 0 then 0 else Nat.log2 n + 1

theorem nbits_zero : nbits 0 = 0 := rfl
theorem nbits_of {n k : Nat} (h1 : 2 ^ k ≤ n) (h2 : n < 2 ^ (k + 1)) : nbits n = k + 1 := by
  have h0 : n ≠ 0 := by have := Nat.two_pow_pos k; omega
  unfold nbits
  rw [if_neg h0, (Nat.log2_eq_iff h0).2 ⟨h1, h2⟩]
theorem nbits_spec {n : Nat} (h0 : n ≠ 0) : ∃ k, nbits n = k + 1 ∧ 2 ^ k ≤ n ∧ n < 2 ^ (k + 1) := by
  have h := (Nat.log2_eq_iff (k := Nat.log2 n) h0).1 rfl
  exact ⟨Nat.log2 n, by unfold nbits; rw [if_neg h0], h.1, h.2⟩
theorem nbits_le_iff (n k : Nat) : nbits n ≤ k ↔ n < 2 ^ k := by
  by_cases h0 : n = 0
  · subst h0; simp [nbits_zero, Nat.two_pow_pos]
  · obtain ⟨j, hj, h1, h2⟩ := nbits_spec h0
    rw [hj]
    constructor
    · intro h; exact Nat.lt_of_lt_of_le h2 (Nat.pow_le_pow_right (by decide) h)
    · intro h
      exact (Nat.pow_lt_pow_iff_right (a := 2) (by decide)).1 (Nat.lt_of_le_of_lt h1 h)
theorem nbits_mono {m n : Nat} (h : m ≤ n) : nbits m ≤ nbits n := (nbits_le_iff _ _).2 (Nat.lt_of_le_of_lt h ((nbits_le_iff n _).1 (Nat.le_refl _)))
theorem nbits_lt (n : Nat) : n < 2 ^ nbits n := (nbits_le_iff n _).1 (Nat.le_refl _)
theorem nbits_add (a b : Nat) : nbits (a + b) ≤ max (nbits a) (nbits b) + 1 := by
  rw [nbits_le_iff, Nat.pow_succ]
  have h1 := Nat.lt_of_lt_of_le (nbits_lt a) (Nat.pow_le_pow_right (n := 2) (by decide) (Nat.le_max_left (nbits a) (nbits b)))
  have h2 := Nat.lt_of_lt_of_le (nbits_lt b) (Nat.pow_le_pow_right (n := 2) (by decide) (Nat.le_max_right (nbits a) (nbits b)))
  omega
theorem nbits_pos {n : Nat} (h : n ≠ 0) : 0 < nbits n := by obtain ⟨k, hk, _⟩ := nbits_spec h; omega
theorem nbits_eq_zero {n : Nat} : nbits n = 0 ↔ n = 0 := ⟨fun h => by rcases Nat.eq_zero_or_pos n with e | e; exact e; have := nbits_pos (n := n) (by omega); omega, fun h => by rw [h]; rfl⟩
theorem nbits_le_one {n : Nat} : nbits n ≤ 1 ↔ n ≤ 1 := by rw [nbits_le_iff]; omega

theorem bitLen_nbits (x : Nat) (h0 : x ≠ 0) (h : x < 18446744073709551616) : Lib.bitLen x = nbits x := by
  obtain ⟨h1, h2, h3⟩ := Lib.bitLenAux_bounds 64 x (by simpa using h) h0
  have e : Lib.bitLen x = Lib.bitLenAux 64 x := rfl
  rw [e, nbits_of (k := Lib.bitLenAux 64 x - 1) h2 (by rw [show Lib.bitLenAux 64 x - 1 + 1 = Lib.bitLenAux 64 x by omega]; exact h3)]
  omega

/-- The highest word: it isn't 0, and tells the bits. -/
theorem nbits_words (n : Nat) (h0 : n ≠ 0) : (wds n).getD ((wds n).length - 1) 0 ≠ 0 ∧ (wds n).getD ((wds n).length - 1) 0 < 18446744073709551616 ∧ ((wds n).length - 1) * 64 + Lib.bitLen ((wds n).getD ((wds n).length - 1) 0) = nbits n := by
  have hl : (wds n).length ≠ 0 := fun e => h0 (wds_length_zero.1 e)
  obtain ⟨k, hk⟩ : ∃ k, (wds n).length = k + 1 := ⟨(wds n).length - 1, by omega⟩
  rw [hk, Nat.add_sub_cancel, wds_getD]
  have hlo : 18446744073709551616 ^ k ≤ n := by
    have : ¬ (wds n).length ≤ k := by omega
    rw [wds_length_le_iff] at this
    omega
  have hhi : n < 18446744073709551616 ^ (k + 1) := (wds_length_le_iff n (k + 1)).1 (by omega)
  have hp : 0 < 18446744073709551616 ^ k := Nat.pow_pos (by decide)
  have hq : n / 18446744073709551616 ^ k < 18446744073709551616 := by rw [Nat.div_lt_iff_lt_mul hp]; rw [Nat.pow_succ, Nat.mul_comm] at hhi; exact hhi
  rw [Nat.mod_eq_of_lt hq]
  have hx0 : n / 18446744073709551616 ^ k ≠ 0 := by
    intro e
    rw [Nat.div_eq_zero_iff] at e
    omega
  refine ⟨hx0, hq, ?_⟩
  rw [bitLen_nbits _ hx0 hq]
  obtain ⟨j, hj, h1, h2⟩ := nbits_spec hx0
  rw [hj]
  have e64 : (18446744073709551616 : Nat) ^ k = 2 ^ (k * 64) := by rw [Nat.mul_comm, Nat.pow_mul]
  rw [e64] at h1 h2
  have hp2 : 0 < 2 ^ (k * 64) := Nat.two_pow_pos _
  rw [show k * 64 + (j + 1) = (k * 64 + j) + 1 by omega]
  symm
  refine nbits_of ?_ ?_
  · rw [Nat.pow_add, Nat.mul_comm]
    exact (Nat.le_div_iff_mul_le hp2).1 h1
  · rw [show k * 64 + j + 1 = j + 1 + k * 64 by omega, Nat.pow_add]
    exact (Nat.div_lt_iff_lt_mul hp2).1 h2
end Go.Proofs.Tm
