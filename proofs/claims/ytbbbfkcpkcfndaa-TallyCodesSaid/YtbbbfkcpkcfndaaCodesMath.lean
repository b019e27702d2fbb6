/- Plain mathematics of the codes of layer 2: how they are written, that what stands at a beginning is told by itself. Nothing of the program is imported. -/
import Derived.Test.YtbbbfkcpkcfndaaBitsMath
import Derived.Lib.BitFns
namespace Go.Proofs.Tm
set_option linter.unusedVariables false
set_option maxRecDepth 20000

theorem log2_bounds (n : Nat) (h : n ≠ 0) : 2 ^ Nat.log2 n ≤ n ∧ n < 2 ^ (Nat.log2 n + 1) := ⟨Nat.log2_self_le h, Nat.lt_log2_self⟩

theorem log2_lt64 (n : Nat) (h : n < 18446744073709551616) : Nat.log2 n < 64 := by
  by_cases h0 : n = 0
  · subst h0; decide
  · exact (Nat.log2_lt h0).2 h

theorem bitLen_log (n : Nat) (h0 : n ≠ 0) (h : n < 18446744073709551616) : Lib.bitLen n = Nat.log2 n + 1 := by
  obtain ⟨h1, h2⟩ := log2_bounds n h0
  have h3 := Lib.bitLen_shift (Nat.log2 n) n h1 h
  have h4 : n / 2 ^ Nat.log2 n = 1 := by
    rw [Nat.pow_succ] at h2
    have hp := Nat.two_pow_pos (Nat.log2 n)
    rw [Nat.div_eq_of_lt_le] <;> omega
  rw [h4] at h3
  exact h3

/-- Gamma. -/
def gammaBits (n : Nat) : List Bool := numBits 0 (Nat.log2 n) ++ numBits n (Nat.log2 n + 1)
/-- Delta. -/
def deltaBits (n : Nat) : List Bool := gammaBits (Nat.log2 n + 1) ++ numBits (n - 2 ^ Nat.log2 n) (Nat.log2 n)
/-- Var's groups, f at most. -/
def varG : Nat → Nat → List Nat
  | 0, _ => []
  | f + 1, n => if n < 128 then [n] else (128 + n % 128) :: varG f (n / 128)
/-- Var. -/
def varBits (n : Nat) : List Bool := (varG 10 n).flatMap fun g => numBits g 8

theorem gammaBits_length (n : Nat) : (gammaBits n).length = 2 * Nat.log2 n + 1 := by simp [gammaBits]; omega
theorem deltaBits_length (n : Nat) : (deltaBits n).length = 2 * Nat.log2 (Nat.log2 n + 1) + 1 + Nat.log2 n := by simp [deltaBits, gammaBits_length]

theorem flatMap8_length (l : List Nat) : (l.flatMap fun g => numBits g 8).length = 8 * l.length := by
  induction l with
  | nil => rfl
  | cons a l ih => simp [List.flatMap_cons, ih]; omega
theorem varBits_length (n : Nat) : (varBits n).length = 8 * (varG 10 n).length := flatMap8_length _

theorem varG_length (f n : Nat) : (varG f n).length ≤ f := by
  induction f generalizing n with
  | zero => simp [varG]
  | succ f ih =>
    simp only [varG]
    split
    · simp
    · simp; exact ih _

theorem varG_pos (f n : Nat) : 0 < (varG (f + 1) n).length := by
  simp only [varG]; split <;> simp

/-- The group i, with a sign that one comes behind. -/
theorem varG_get (f n i : Nat) (hn : n < 128 ^ f) (hi : i < (varG f n).length) :
    (varG f n)[i]? = some (n / 128 ^ i % 128 + if i + 1 < (varG f n).length then 128 else 0) := by
  induction f generalizing n i with
  | zero => simp [varG] at hi
  | succ f ih =>
    by_cases h : n < 128
    · have e : varG (f + 1) n = [n] := by simp [varG, h]
      rw [e] at hi ⊢
      obtain rfl : i = 0 := by simpa using hi
      simp; omega
    · have e : varG (f + 1) n = (128 + n % 128) :: varG f (n / 128) := by simp [varG, h]
      rw [e] at hi ⊢
      have hn' : n / 128 < 128 ^ f := by rw [Nat.pow_succ] at hn; omega
      cases i with
      | zero =>
        have hp : 0 < (varG f (n / 128)).length := by
          cases f with
          | zero => simp at hn'; omega
          | succ f => exact varG_pos _ _
        simp
        rw [if_pos (by omega)]
        omega
      | succ i =>
        have hi' : i < (varG f (n / 128)).length := by simpa using hi
        have := ih (n / 128) i hn' hi'
        rw [List.getElem?_cons_succ, this, Nat.div_div_eq_div_mul, show 128 * 128 ^ i = 128 ^ (i + 1) by rw [Nat.pow_succ, Nat.mul_comm]]
        simp only [List.length_cons, Nat.add_lt_add_iff_right]

/-- A group comes behind just where the number goes on. -/
theorem varG_more (f n i : Nat) (hn : n < 128 ^ f) (hi : i < (varG f n).length) : 128 ≤ n / 128 ^ i ↔ i + 1 < (varG f n).length := by
  induction f generalizing n i with
  | zero => simp [varG] at hi
  | succ f ih =>
    by_cases h : n < 128
    · have e : varG (f + 1) n = [n] := by simp [varG, h]
      rw [e] at hi ⊢
      obtain rfl : i = 0 := by simpa using hi
      simp; omega
    · have e : varG (f + 1) n = (128 + n % 128) :: varG f (n / 128) := by simp [varG, h]
      rw [e] at hi ⊢
      have hn' : n / 128 < 128 ^ f := by rw [Nat.pow_succ] at hn; omega
      have hp : 0 < (varG f (n / 128)).length := by
        cases f with
        | zero => simp at hn'; omega
        | succ f => exact varG_pos _ _
      cases i with
      | zero => simp; omega
      | succ i =>
        have hi' : i < (varG f (n / 128)).length := by simpa using hi
        have := ih (n / 128) i hn' hi'
        rw [Nat.div_div_eq_div_mul, show 128 * 128 ^ i = 128 ^ (i + 1) by rw [Nat.pow_succ, Nat.mul_comm]] at this
        rw [this]
        simp

/-- How many groups: one for each seven bits. -/
theorem varG_count (f n : Nat) (hf : 0 < f) (hn : n < 128 ^ f) (h64 : n < 18446744073709551616) : (varG f n).length = (Lib.bitLen (n ||| 1) + 6) / 7 := by
  induction f generalizing n with
  | zero => omega
  | succ f ih =>
    by_cases h : n < 128
    · have e : varG (f + 1) n = [n] := by simp [varG, h]
      rw [e]
      have hd : ∀ m : Fin 128, 1 = (Lib.bitLen (m.val ||| 1) + 6) / 7 := by decide +kernel
      exact hd ⟨n, h⟩
    · have e : varG (f + 1) n = (128 + n % 128) :: varG f (n / 128) := by simp [varG, h]
      have hn' : n / 128 < 128 ^ f := by rw [Nat.pow_succ] at hn; omega
      have hf' : 0 < f := by
        rcases Nat.eq_zero_or_pos f with h0 | h0
        · subst h0; simp at hn'; omega
        · exact h0
      rw [e, List.length_cons, ih (n / 128) hf' hn' (by omega)]
      have hq : n / 128 ≠ 0 := by omega
      have h1 : (n ||| 1) / 128 = n / 128 := by
        have := Nat.shiftRight_or_distrib (a := n) (b := 1) (i := 7)
        simpa [Nat.shiftRight_eq_div_pow] using this
      have h2 : n ≤ n ||| 1 := Nat.left_le_or
      have h3 : n ||| 1 < 18446744073709551616 := Nat.or_lt_two_pow (n := 64) h64 (by decide)
      have h4 := Lib.bitLen_shift 7 (n ||| 1) (by omega) h3
      rw [show (2 : Nat) ^ 7 = 128 from rfl, h1] at h4
      have h5 : Lib.bitLen (n / 128 ||| 1) = Lib.bitLen (n / 128) := by
        have h6 : n / 128 ||| 1 < 18446744073709551616 := Nat.or_lt_two_pow (n := 64) (by omega) (by decide)
        rw [bitLen_log _ hq (by omega), bitLen_log _ (by have : n / 128 ≤ n / 128 ||| 1 := Nat.left_le_or; omega) h6]
        congr 1
        have hp := (log2_bounds _ hq)
        have hle : n / 128 ≤ n / 128 ||| 1 := Nat.left_le_or
        have hlt : n / 128 ||| 1 < 2 ^ (Nat.log2 (n / 128) + 1) := Nat.or_lt_two_pow hp.2 (by
          rw [Nat.pow_succ]; have := Nat.two_pow_pos (Nat.log2 (n / 128)); omega)
        have hne : n / 128 ||| 1 ≠ 0 := by omega
        have := log2_bounds _ hne
        apply Nat.le_antisymm
        · exact Nat.le_of_lt_succ ((Nat.log2_lt hne).2 hlt)
        · exact (Nat.le_log2 hne).2 (Nat.le_trans hp.1 hle)
      rw [h4, h5]
      omega

end Go.Proofs.Tm
