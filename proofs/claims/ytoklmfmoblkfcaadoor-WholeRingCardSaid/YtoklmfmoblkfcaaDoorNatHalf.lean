/- Plain mathematics of a division of two words by one, half a word at a time. Nothing of the program is imported. -/
import Derived.Test.YtoklmfmoblkfcaaDoorAa
namespace Go.Proofs.Tm
set_option linter.unusedVariables false
set_option maxRecDepth 20000

/-- What holds of a guessed half digit q and its rest r: u is the dividend's head, c its next half, y = yn1 * 2^32 + yn0 the divisor. -/
structure Half (u c y yn1 yn0 q r : Nat) : Prop where
  hy : y = yn1 * 4294967296 + yn0
  h0 : yn0 < 4294967296
  h1 : 2147483648 ≤ yn1
  hu : u < y
  hc : c < 4294967296
  h64 : y < 18446744073709551616
  heq : q * yn1 + r = u
  hge : (u * 4294967296 + c) / y ≤ q

theorem Half.start {u c y yn1 yn0 : Nat} (hy : y = yn1 * 4294967296 + yn0) (h0 : yn0 < 4294967296) (h1 : 2147483648 ≤ yn1) (hu : u < y) (hc : c < 4294967296) (h64 : y < 18446744073709551616) : Half u c y yn1 yn0 (u / yn1) (u % yn1) := by
  refine ⟨hy, h0, h1, hu, hc, h64, by rw [Nat.mul_comm]; exact Nat.div_add_mod u yn1, ?_⟩
  have hyp : 0 < y := by omega
  rw [← Nat.lt_succ_iff, Nat.div_lt_iff_lt_mul hyp]
  have h2 : u < (u / yn1 + 1) * yn1 := by
    have := Nat.div_add_mod u yn1; have := Nat.mod_lt u (show 0 < yn1 by omega)
    rw [Nat.add_mul, Nat.one_mul, Nat.mul_comm]; omega
  have h3 : (u / yn1 + 1) * y = (u / yn1 + 1) * yn1 * 4294967296 + (u / yn1 + 1) * yn0 := by rw [hy, Nat.mul_add, Nat.mul_assoc]
  rw [Nat.succ_eq_add_one, h3]
  omega

theorem Half.q_le {u c y yn1 yn0 q r : Nat} (h : Half u c y yn1 yn0 q r) : q ≤ u ∧ r ≤ u ∧ q ≤ 8589934592 := by
  have h1 := h.h1
  have h2 := h.heq
  have h3 : q * 2147483648 ≤ q * yn1 := Nat.mul_le_mul_left _ h1
  have := h.hu
  have := h.h64
  omega

theorem Half.more {u c y yn1 yn0 q r : Nat} (h : Half u c y yn1 yn0 q r) (hq : 4294967296 ≤ q ∨ 4294967296 * r + c < q * yn0) : 1 ≤ q ∧ Half u c y yn1 yn0 (q - 1) (r + yn1) := by
  have hy := h.hy
  have hyp : 0 < y := by have := h.h1; omega
  have hlt : (u * 4294967296 + c) / y < q := by
    rcases hq with hq | hq
    · refine Nat.lt_of_lt_of_le ?_ hq
      rw [Nat.div_lt_iff_lt_mul hyp]
      have := h.hu; have := h.hc
      omega
    · rw [Nat.div_lt_iff_lt_mul hyp, hy, Nat.mul_add, ← Nat.mul_assoc]
      have := h.heq
      omega
  have hq1 : 1 ≤ q := Nat.lt_of_le_of_lt (Nat.zero_le _) hlt
  refine ⟨hq1, h.hy, h.h0, h.h1, h.hu, h.hc, h.h64, ?_, Nat.le_sub_one_of_lt hlt⟩
  obtain ⟨k, rfl⟩ : ∃ k, q = k + 1 := ⟨q - 1, by omega⟩
  have := h.heq
  rw [Nat.add_mul] at this
  simp only [Nat.add_sub_cancel]
  omega

theorem Half.done {u c y yn1 yn0 q r : Nat} (h : Half u c y yn1 yn0 q r) (hq : q * yn0 ≤ 4294967296 * r + c) : q = (u * 4294967296 + c) / y := by
  have hyp : 0 < y := by have := h.h1; have := h.hy; omega
  refine Nat.le_antisymm ?_ h.hge
  rw [Nat.le_div_iff_mul_le hyp]
  have h1 := h.heq
  have h2 : q * y = q * yn1 * 4294967296 + q * yn0 := by rw [h.hy, Nat.mul_add, Nat.mul_assoc]
  omega

theorem Half.break {u c y yn1 yn0 q r : Nat} (h : Half u c y yn1 yn0 q r) (hr : 4294967296 ≤ r) : q = (u * 4294967296 + c) / y := by
  refine h.done ?_
  have h1 := h.heq
  have hlt : q < 4294967296 := by
    rcases Nat.lt_or_ge q 4294967296 with h2 | h2
    · exact h2
    · have h3 : 4294967296 * yn1 ≤ q * yn1 := Nat.mul_le_mul_right _ h2
      have := h.hu; have := h.hy; have := h.h0
      omega
  have h4 : q * yn0 ≤ 4294967295 * 4294967295 := Nat.mul_le_mul (by omega) (by have := h.h0; omega)
  omega

theorem Half.lt {u c y yn1 yn0 q r : Nat} (h : Half u c y yn1 yn0 q r) (hq : q = (u * 4294967296 + c) / y) : q < 4294967296 := by
  have hyp : 0 < y := by have := h.h1; have := h.hy; omega
  rw [hq, Nat.div_lt_iff_lt_mul hyp]
  have := h.hu; have := h.hc
  omega

/-- The two halves together. -/
theorem halves (N y s Y u un1 un0 q1 q0 u2 : Nat) (hY : Y = y * 2 ^ s) (hy : 0 < y) (hN : N * 2 ^ s = (u * 4294967296 + un1) * 4294967296 + un0) (h1 : q1 = (u * 4294967296 + un1) / Y) (h2 : u2 = (u * 4294967296 + un1) % Y) (h3 : q0 = (u2 * 4294967296 + un0) / Y) :
    N / y = q1 * 4294967296 + q0 ∧ N % y = (u2 * 4294967296 + un0) % Y / 2 ^ s := by
  have hp : 0 < 2 ^ s := Nat.two_pow_pos s
  have hYp : 0 < Y := by rw [hY]; exact Nat.mul_pos hy hp
  have e1 := Nat.div_add_mod (u * 4294967296 + un1) Y
  rw [← h1, ← h2] at e1
  have e2 := Nat.div_add_mod (u2 * 4294967296 + un0) Y
  rw [← h3] at e2
  have hr := Nat.mod_lt (u2 * 4294967296 + un0) hYp
  obtain ⟨r, hrr⟩ : ∃ r, r = (u2 * 4294967296 + un0) % Y := ⟨_, rfl⟩
  rw [← hrr] at e2 hr ⊢
  have e3 : N * 2 ^ s = Y * (q1 * 4294967296 + q0) + r := by
    rw [hN, ← e1, Nat.mul_add, ← Nat.mul_assoc]
    omega
  have hrd : r = N % y * 2 ^ s ∧ N / y = q1 * 4294967296 + q0 := by
    have h4 := Nat.div_add_mod N y
    have h5 := Nat.mod_lt N hy
    have e4 : N * 2 ^ s = Y * (N / y) + N % y * 2 ^ s := by
      conv => lhs; rw [← h4]
      rw [Nat.add_mul, hY, Nat.mul_assoc, Nat.mul_assoc, Nat.mul_comm (N / y)]
    have h6 : N % y * 2 ^ s < Y := by rw [hY]; exact Nat.mul_lt_mul_of_pos_right h5 hp
    have d1 : N * 2 ^ s / Y = q1 * 4294967296 + q0 := by rw [e3, Nat.mul_add_div hYp, Nat.div_eq_of_lt hr, Nat.add_zero]
    have d2 : N * 2 ^ s / Y = N / y := by rw [e4, Nat.mul_add_div hYp, Nat.div_eq_of_lt h6, Nat.add_zero]
    have m1 : N * 2 ^ s % Y = r := by rw [e3, Nat.mul_add_mod, Nat.mod_eq_of_lt hr]
    have m2 : N * 2 ^ s % Y = N % y * 2 ^ s := by rw [e4, Nat.mul_add_mod, Nat.mod_eq_of_lt h6]
    exact ⟨by rw [← m1, m2], by rw [← d2, d1]⟩
  refine ⟨hrd.2, ?_⟩
  rw [hrd.1, Nat.mul_div_cancel _ hp]
end Go.Proofs.Tm
