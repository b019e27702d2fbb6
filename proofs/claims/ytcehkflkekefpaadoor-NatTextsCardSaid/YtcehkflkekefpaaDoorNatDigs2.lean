/- Plain mathematics of digits of base 10000: a round of a sum, a difference, a product, a quotient. Nothing of the program is imported. -/
import Derived.Test.YtcehkflkekefpaaDoorNatDigs
namespace Go.Proofs.Tm
set_option linter.unusedVariables false
set_option maxRecDepth 20000

theorem dval_take_succ (a : List Nat) (i : Nat) : dval (a.take (i + 1)) = dval (a.take i) + 10000 ^ i * a.getD i 0 := by
  rcases Nat.lt_or_ge i a.length with h | h
  · rw [List.take_succ_eq_append_getElem h, dval_snoc, List.length_take, Nat.min_eq_left (Nat.le_of_lt h)]
    simp [h]
  · rw [List.take_of_length_le (by omega), List.take_of_length_le h]
    simp [h]

/-- A round of a sum. -/
theorem add_step (a b out : List Nat) (i c t : Nat) (hl : out.length = i) (h : dval out + 10000 ^ i * c = dval (a.take i) + dval (b.take i)) (ht : t = c + a.getD i 0 + b.getD i 0) :
    dval (out ++ [t % 10000]) + 10000 ^ (i + 1) * (t / 10000) = dval (a.take (i + 1)) + dval (b.take (i + 1)) := by
  rw [dval_snoc, hl, dval_take_succ, dval_take_succ, Nat.pow_succ, Nat.mul_assoc]
  have e : 10000 ^ i * (t % 10000) + 10000 ^ i * (10000 * (t / 10000)) = 10000 ^ i * t := by rw [← Nat.mul_add]; congr 1; omega
  have e2 : 10000 ^ i * t = 10000 ^ i * c + 10000 ^ i * a.getD i 0 + 10000 ^ i * b.getD i 0 := by rw [ht, Nat.mul_add, Nat.mul_add]
  omega

/-- A round of a difference: c is what was borrowed. -/
theorem sub_step (a b out : List Nat) (i c d c' : Nat) (hl : out.length = i) (h : dval (a.take i) + 10000 ^ i * c = dval out + dval (b.take i)) (hd : a.getD i 0 + 10000 * c' = d + c + b.getD i 0) :
    dval (a.take (i + 1)) + 10000 ^ (i + 1) * c' = dval (out ++ [d]) + dval (b.take (i + 1)) := by
  rw [dval_snoc, hl, dval_take_succ, dval_take_succ, Nat.pow_succ, Nat.mul_assoc]
  have e : 10000 ^ i * a.getD i 0 + 10000 ^ i * (10000 * c') = 10000 ^ i * d + 10000 ^ i * c + 10000 ^ i * b.getD i 0 := by rw [← Nat.mul_add, hd, Nat.mul_add, Nat.mul_add]
  omega

theorem dval_set (l : List Nat) (j d : Nat) (h : j < l.length) : dval (l.set j d) + 10000 ^ j * l.getD j 0 = dval l + 10000 ^ j * d := by
  induction l generalizing j with
  | nil => simp at h
  | cons x l ih =>
    cases j with
    | zero => simp [dval]; omega
    | succ j =>
      have := ih j (by simpa using h)
      simp only [List.set_cons_succ, dval, List.getD_cons_succ, Nat.pow_succ]
      have e1 : 10000 ^ j * 10000 * l.getD j 0 = 10000 * (10000 ^ j * l.getD j 0) := by rw [Nat.mul_comm (10000 ^ j) 10000, Nat.mul_assoc]
      have e2 : 10000 ^ j * 10000 * d = 10000 * (10000 ^ j * d) := by rw [Nat.mul_comm (10000 ^ j) 10000, Nat.mul_assoc]
      rw [e1, e2]
      omega

/-- A round of a product: the digit at i + k. -/
theorem mul_step (b out : List Nat) (i k c x V ai : Nat) (hj : i + k < out.length) (h : dval out + 10000 ^ (i + k) * c = V + 10000 ^ i * (ai * dval (b.take k))) (hx : x = out.getD (i + k) 0 + c + ai * b.getD k 0) :
    dval (out.set (i + k) (x % 10000)) + 10000 ^ (i + (k + 1)) * (x / 10000) = V + 10000 ^ i * (ai * dval (b.take (k + 1))) := by
  have hs := dval_set out (i + k) (x % 10000) hj
  rw [dval_take_succ, Nat.mul_add, Nat.mul_add]
  have e : 10000 ^ (i + k) * (x % 10000) + 10000 ^ (i + (k + 1)) * (x / 10000) = 10000 ^ (i + k) * x := by
    rw [← Nat.add_assoc, Nat.pow_succ, Nat.mul_assoc, ← Nat.mul_add]; congr 1; omega
  have e2 : 10000 ^ (i + k) * x = 10000 ^ (i + k) * out.getD (i + k) 0 + 10000 ^ (i + k) * c + 10000 ^ i * (ai * (10000 ^ k * b.getD k 0)) := by
    rw [hx, Nat.mul_add, Nat.mul_add]
    congr 1
    rw [Nat.pow_add, Nat.mul_assoc]
    congr 1
    rw [← Nat.mul_assoc, ← Nat.mul_assoc, Nat.mul_comm (10000 ^ k) ai]
  omega

/-- Behind the divisor's digits nothing is carried any more. -/
theorem mul_end (b out : List Nat) (i c V ai : Nat) (hb : ∀ d ∈ b, d < 10000) (hV : V < 10000 ^ (i + b.length)) (hai : ai < 10000) (h : dval out + 10000 ^ (i + (b.length + 1)) * c = V + 10000 ^ i * (ai * dval (b.take (b.length + 1)))) : c = 0 := by
  rw [List.take_of_length_le (by omega)] at h
  have hbv := dval_lt b hb
  have h1 : V + 10000 ^ i * (ai * dval b) < 10000 ^ (i + (b.length + 1)) := by
    have h2 : ai * dval b ≤ 9999 * 10000 ^ b.length := Nat.mul_le_mul (by omega) (Nat.le_of_lt hbv)
    have h3 : 10000 ^ i * (ai * dval b) ≤ 10000 ^ i * (9999 * 10000 ^ b.length) := Nat.mul_le_mul_left _ h2
    have h4 : 10000 ^ (i + (b.length + 1)) = 10000 ^ i * (9999 * 10000 ^ b.length) + 10000 ^ (i + b.length) := by
      rw [Nat.pow_add 10000 i (b.length + 1), Nat.pow_add 10000 i b.length, Nat.pow_succ, ← Nat.mul_add]; congr 1; omega
    omega
  rcases Nat.eq_zero_or_pos c with h0 | h0
  · exact h0
  · have := Nat.mul_le_mul_left (10000 ^ (i + (b.length + 1))) h0
    omega

/-- One digit more of the dividend. -/
theorem div_step (a b : List Nat) (i q r lo : Nat) (hi : i < a.length) (hb : 0 < dval b) (h : dval (a.drop (i + 1)) = q * dval b + r) (hr : r < dval b) (hlo : dval b * lo ≤ a.getD i 0 + 10000 * r) (hhi : a.getD i 0 + 10000 * r < dval b * (lo + 1)) :
    dval (a.drop i) = (lo + 10000 * q) * dval b + (a.getD i 0 + 10000 * r - dval b * lo) ∧ a.getD i 0 + 10000 * r - dval b * lo < dval b := by
  have e : dval (a.drop i) = a.getD i 0 + 10000 * dval (a.drop (i + 1)) := by
    rw [List.drop_eq_getElem_cons hi, dval]; simp [hi]
  rw [e, h]
  have e2 : (lo + 10000 * q) * dval b = dval b * lo + 10000 * (q * dval b) := by
    rw [Nat.add_mul, Nat.mul_comm lo, Nat.mul_assoc]
  rw [e2, Nat.mul_succ] at *
  constructor <;> omega
end Go.Proofs.Tm
