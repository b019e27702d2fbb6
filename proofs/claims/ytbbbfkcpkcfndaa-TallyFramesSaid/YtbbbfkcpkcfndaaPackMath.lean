/- Plain mathematics of packed numbers (document layer 3). Nothing of the program is imported. -/
import Derived.Test.YtbbbfkcpkcfndaaBitsMath
namespace Go.Proofs.Tm
set_option linter.unusedVariables false
set_option maxRecDepth 20000

/-- All bits of numbers of wd bits. -/
def allBits (wd : Nat) (l : List Nat) : List Bool := l.flatMap (numBits · wd)

theorem allBits_length (wd : Nat) (l : List Nat) : (allBits wd l).length = l.length * wd := by
  induction l with
  | nil => simp [allBits]
  | cons x l ih => simp only [allBits, List.flatMap_cons, List.length_append, numBits_length, List.length_cons] at *; rw [ih, Nat.add_mul]; omega

theorem allBits_getD (wd : Nat) (l : List Nat) (p : Nat) (hw : 0 < wd) : (allBits wd l).getD p false = (l.getD (p / wd) 0).testBit (wd - 1 - p % wd) := by
  induction l generalizing p with
  | nil => simp [allBits]
  | cons x l ih =>
    have e : allBits wd (x :: l) = numBits x wd ++ allBits wd l := by simp [allBits]
    rw [e, List.getD_eq_getElem?_getD]
    rcases Nat.lt_or_ge p wd with h | h
    · rw [List.getElem?_append_left (by simpa using h), numBits_getElem? x wd p h]
      simp [Nat.div_eq_of_lt h, Nat.mod_eq_of_lt h]
    · rw [List.getElem?_append_right (by simpa using h), numBits_length, ← List.getD_eq_getElem?_getD, ih]
      have h1 : p / wd = (p - wd) / wd + 1 := by rw [Nat.div_eq_sub_div hw h]
      have h2 : p % wd = (p - wd) % wd := Nat.mod_eq_sub_mod h
      rw [h1, h2]; simp

/-- The words of 32 bits of bits, m of them. -/
def wordsOf (L : List Bool) (m : Nat) : List Nat := (List.range m).map fun j => part L (32 * j) 32
@[simp] theorem wordsOf_length (L : List Bool) (m : Nat) : (wordsOf L m).length = m := by simp [wordsOf]
theorem wordsOf_getElem? (L : List Bool) (m j : Nat) (h : j < m) : (wordsOf L m)[j]? = some (part L (32 * j) 32) := by simp [wordsOf, List.getElem?_range h]

theorem part_join (L : List Bool) (a k m : Nat) : part L a (k + m) = part L a k * 2 ^ m + part L (a + k) m := by
  induction m with
  | zero => simp [part]
  | succ m ih =>
    rw [← Nat.add_assoc]
    simp only [part, ih, Nat.pow_succ]
    rw [Nat.mul_add, ← Nat.add_assoc a k m]
    have : 2 * (part L a k * 2 ^ m) = part L a k * (2 ^ m * 2) := by rw [Nat.mul_comm 2, Nat.mul_assoc]
    omega

theorem part_bit (L : List Bool) (i k j : Nat) (h : j < k) : (part L i k).testBit j = L.getD (i + (k - 1 - j)) false := by
  have := part_testBit L i k (k - 1 - j) (by omega)
  rw [show k - 1 - (k - 1 - j) = j by omega] at this
  exact this
theorem part_bit_ge (L : List Bool) (i k j : Nat) (h : k ≤ j) : (part L i k).testBit j = false :=
  Nat.testBit_lt_two_pow (Nat.lt_of_lt_of_le (part_lt L i k) (Nat.pow_le_pow_right (by decide) h))

/-- The number i out of all bits. -/
theorem part_num (wd : Nat) (l : List Nat) (i : Nat) (hw : 0 < wd) (hl : l.getD i 0 < 2 ^ wd) : part (allBits wd l) (i * wd) wd = l.getD i 0 := by
  apply Nat.eq_of_testBit_eq
  intro j
  rcases Nat.lt_or_ge j wd with h | h
  · rw [part_bit _ _ _ _ h, allBits_getD _ _ _ hw]
    have h1 : (i * wd + (wd - 1 - j)) / wd = i := by rw [Nat.mul_comm, Nat.mul_add_div hw, Nat.div_eq_of_lt (by omega)]; rfl
    have h2 : (i * wd + (wd - 1 - j)) % wd = wd - 1 - j := by rw [Nat.mul_comm, Nat.mul_add_mod, Nat.mod_eq_of_lt (by omega)]
    rw [h1, h2, show wd - 1 - (wd - 1 - j) = j by omega]
  · rw [part_bit_ge _ _ _ _ h, Nat.testBit_lt_two_pow (Nat.lt_of_lt_of_le hl (Nat.pow_le_pow_right (by decide) h))]

/-- Out of two words the wd bits from 'off' on. -/
theorem part_mid (L : List Bool) (a off wd : Nat) (h : off + wd ≤ 64) : part L a 64 / 2 ^ (64 - off - wd) % 2 ^ wd = part L (a + off) wd := by
  have e1 := part_join L a (off + wd) (64 - off - wd)
  rw [show off + wd + (64 - off - wd) = 64 by omega] at e1
  rw [e1, Nat.mul_comm, Nat.mul_add_div (Nat.two_pow_pos _), Nat.div_eq_of_lt (part_lt _ _ _), Nat.add_zero, part_join, Nat.mul_comm, Nat.mul_add_mod, Nat.mod_eq_of_lt (part_lt _ _ _)]

theorem words_pair (L : List Bool) (j : Nat) : part L (32 * j) 64 = part L (32 * j) 32 * 4294967296 + part L (32 * (j + 1)) 32 := by
  have := part_join L (32 * j) 32 32
  rw [show 32 * j + 32 = 32 * (j + 1) by omega] at this
  exact this

theorem words_or (L : List Bool) (j : Nat) : (part L (32 * j) 32 * 4294967296) ||| part L (32 * (j + 1)) 32 = part L (32 * j) 64 := by
  rw [words_pair]
  have h := part_lt L (32 * (j + 1)) 32
  have := Nat.two_pow_add_eq_or_of_lt (i := 32) h (part L (32 * j) 32)
  rw [Nat.mul_comm] at this
  exact this.symm

/-- The words of unlike numbers of one width are unlike. -/
theorem words_inj (wd n : Nat) (l m : List Nat) (hw : 0 < wd) (h1 : l.length = n) (h2 : m.length = n) (hl : ∀ x ∈ l, x < 2 ^ wd) (hm : ∀ x ∈ m, x < 2 ^ wd)
    (h : wordsOf (allBits wd l) (n * wd / 32 + 2) = wordsOf (allBits wd m) (n * wd / 32 + 2)) : l = m := by
  have hb : ∀ p, p < n * wd → (allBits wd l).getD p false = (allBits wd m).getD p false := by
    intro p hp
    have hj : p / 32 < n * wd / 32 + 2 := by
      have := Nat.div_le_div_right (c := 32) (Nat.le_of_lt hp); omega
    have e := congrArg (fun x => x[p / 32]?) h
    simp only [wordsOf_getElem? _ _ _ hj, Option.some.injEq] at e
    have e2 := congrArg (Nat.testBit · (31 - p % 32)) e
    rw [part_bit _ _ _ _ (by omega), part_bit _ _ _ _ (by omega), show 32 * (p / 32) + (32 - 1 - (31 - p % 32)) = p by omega] at e2
    exact e2
  apply List.ext_getElem (by omega)
  intro i hi1 hi2
  have e1 := part_num wd l i hw (by simp [hi1]; exact hl _ (List.getElem_mem hi1))
  have e2 := part_num wd m i hw (by simp [hi2]; exact hm _ (List.getElem_mem hi2))
  have e3 : part (allBits wd l) (i * wd) wd = part (allBits wd m) (i * wd) wd := part_congr _ _ _ _ fun j hj => hb _ (by
    have : (i + 1) * wd ≤ n * wd := Nat.mul_le_mul_right _ (by omega)
    rw [Nat.add_mul] at this; omega)
  rw [e1, e2] at e3
  simpa [hi1, hi2] using e3

/-- Two words, in which wd bits are made others. -/
theorem pair_set (wd : Nat) (l : List Nat) (i x : Nat) (hw : 0 < wd) (hw2 : wd ≤ 32) (hi : i < l.length) (hx : x < 2 ^ wd) (j : Nat) :
    ((part (allBits wd l) (32 * (i * wd / 32)) 64).testBit j && !((2 ^ wd - 1) * 2 ^ (64 - i * wd % 32 - wd)).testBit j || (x * 2 ^ (64 - i * wd % 32 - wd)).testBit j)
      = (part (allBits wd (l.set i x)) (32 * (i * wd / 32)) 64).testBit j := by
  have hf : 32 * (i * wd / 32) + i * wd % 32 = i * wd := by omega
  have ho : i * wd % 32 < 32 := Nat.mod_lt _ (by decide)
  generalize i * wd % 32 = off at *
  generalize 32 * (i * wd / 32) = a at *
  rw [Nat.testBit_mul_two_pow, Nat.testBit_mul_two_pow, Nat.testBit_two_pow_sub_one]
  rcases Nat.lt_or_ge j 64 with h | h
  · rw [part_bit _ _ _ _ h, part_bit _ _ _ _ h, allBits_getD _ _ _ hw, allBits_getD _ _ _ hw]
    by_cases h1 : 64 - off - wd ≤ j
    · by_cases h2 : j - (64 - off - wd) < wd
      · -- inside
        have hp : a + (64 - 1 - j) = i * wd + (off + (64 - 1 - j) - off - off) := by omega
        have h3 : (a + (64 - 1 - j)) = i * wd + (63 - j - off) := by omega
        have h4 : (i * wd + (63 - j - off)) / wd = i := by rw [Nat.mul_comm, Nat.mul_add_div hw, Nat.div_eq_of_lt (by omega)]; rfl
        have h5 : (i * wd + (63 - j - off)) % wd = 63 - j - off := by rw [Nat.mul_comm, Nat.mul_add_mod, Nat.mod_eq_of_lt (by omega)]
        rw [h3, h4, h5]
        simp [h1, h2, hi]
        congr 1; omega
      · -- above
        have h3 : (a + (64 - 1 - j)) / wd ≠ i := by
          intro he
          have h6 : i * wd ≤ a + (64 - 1 - j) := by rw [← he]; exact Nat.div_mul_le_self _ _
          omega
        have h4 : x.testBit (j - (64 - off - wd)) = false := Nat.testBit_lt_two_pow (Nat.lt_of_lt_of_le hx (Nat.pow_le_pow_right (by decide) (by omega)))
        simp [h1, h2, h4, List.getElem?_set_ne (Ne.symm h3)]
    · have h3 : (a + (64 - 1 - j)) / wd ≠ i := by
        intro he
        have h6 : a + (64 - 1 - j) < (i + 1) * wd := by rw [← he]; have := Nat.lt_mul_div_succ (a + (64 - 1 - j)) hw; rw [Nat.mul_comm] at this; exact this
        rw [Nat.add_mul] at h6
        omega
      simp [h1, List.getElem?_set_ne (Ne.symm h3)]
  · rw [part_bit_ge _ _ _ _ h, part_bit_ge _ _ _ _ h]
    have h4 : x.testBit (j - (64 - off - wd)) = false := Nat.testBit_lt_two_pow (Nat.lt_of_lt_of_le hx (Nat.pow_le_pow_right (by decide) (by omega)))
    simp [h4]

/-- The words that two words make others. -/
theorem words_set (wd : Nat) (l : List Nat) (i x m : Nat) (hw : 0 < wd) (hw2 : wd ≤ 32) (hi : i < l.length) (hm : i * wd / 32 + 1 < m) :
    wordsOf (allBits wd (l.set i x)) m = ((wordsOf (allBits wd l) m).set (i * wd / 32) (part (allBits wd (l.set i x)) (32 * (i * wd / 32)) 32)).set (i * wd / 32 + 1) (part (allBits wd (l.set i x)) (32 * (i * wd / 32 + 1)) 32) := by
  apply List.ext_getElem?
  intro j
  rcases Nat.lt_or_ge j m with h | h
  · rw [wordsOf_getElem? _ _ _ h, List.getElem?_set]
    by_cases h1 : i * wd / 32 + 1 = j
    · subst h1; simp [h]
    · rw [if_neg h1, List.getElem?_set]
      by_cases h2 : i * wd / 32 = j
      · subst h2; simp [h]
      · rw [if_neg h2, wordsOf_getElem? _ _ _ h]
        congr 1
        refine part_congr _ _ _ _ fun k hk => ?_
        rw [allBits_getD _ _ _ hw, allBits_getD _ _ _ hw]
        have h3 : (32 * j + k) / wd ≠ i := by
          intro he
          have h6 : i * wd ≤ 32 * j + k := by rw [← he]; exact Nat.div_mul_le_self _ _
          have h7 : 32 * j + k < (i + 1) * wd := by rw [← he]; have := Nat.lt_mul_div_succ (32 * j + k) hw; rw [Nat.mul_comm wd] at this; exact this
          rw [Nat.add_mul] at h7
          omega
        simp [List.getElem?_set_ne (Ne.symm h3)]
  · rw [List.getElem?_eq_none (by simpa using h), List.getElem?_eq_none (by simpa using h)]
end Go.Proofs.Tm
