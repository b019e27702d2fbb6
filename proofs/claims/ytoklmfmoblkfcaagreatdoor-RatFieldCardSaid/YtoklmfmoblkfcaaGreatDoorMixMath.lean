/- Plain mathematics: a number taken p times, less another one taken q times, a word at a time. -/
import Derived.Test.YtoklmfmoblkfcaaGreatDoorAa
namespace Go.Proofs.Tm
set_option linter.unusedVariables false
set_option maxRecDepth 20000

theorem mix_sum {L Qn P Y oa ob c s yq xp A1 B1 c' : Nat} (E : L + Qn + Y * oa = P + Y * (ob + c)) (hs : ob + c + s + yq + 18446744073709551616 * A1 = oa + xp + 18446744073709551616 * (B1 + c')) :
    (L + Y * s) + (Qn + Y * yq) + Y * (18446744073709551616 * A1) = (P + Y * xp) + Y * (18446744073709551616 * (B1 + c')) := by
  have h := congrArg (Y * ·) hs
  simp only [Nat.mul_add] at h E ⊢
  omega

theorem mix_step (a b L : List Nat) (i p q oa ob c s A1 A0 B1 B0 c' : Nat) (hi : i < L.length) (hz : L.getD i 0 = 0)
    (E : wval L + q * wval (b.take i) + 18446744073709551616 ^ i * oa = p * wval (a.take i) + 18446744073709551616 ^ i * (ob + c))
    (h1 : a.getD i 0 * p + oa = 18446744073709551616 * A1 + A0) (h2 : b.getD i 0 * q + ob = 18446744073709551616 * B1 + B0) (h3 : A0 + 18446744073709551616 * c' = s + c + B0) :
    wval (L.set i s) + q * wval (b.take (i + 1)) + 18446744073709551616 ^ (i + 1) * A1 = p * wval (a.take (i + 1)) + 18446744073709551616 ^ (i + 1) * (B1 + c') := by
  have hs := wval_set L i s hi
  rw [hz, Nat.mul_zero, Nat.add_zero] at hs
  have hx : 18446744073709551616 ^ (i + 1) = 18446744073709551616 ^ i * 18446744073709551616 := Nat.pow_succ ..
  have e1 : q * (18446744073709551616 ^ i * b.getD i 0) = 18446744073709551616 ^ i * (b.getD i 0 * q) := by rw [Nat.mul_left_comm, Nat.mul_comm q]
  have e2 : p * (18446744073709551616 ^ i * a.getD i 0) = 18446744073709551616 ^ i * (a.getD i 0 * p) := by rw [Nat.mul_left_comm, Nat.mul_comm p]
  rw [hs, wval_take_succ, wval_take_succ, Nat.mul_add q, Nat.mul_add p, e1, e2, hx, Nat.mul_assoc, Nat.mul_assoc]
  exact mix_sum E (by omega)

/-- At the end nothing is owed. -/
theorem mix_end {V L Y P Q oa ob c : Nat} (hL : L < Y) (hV : P = Q + V) (hVY : V < Y) (E : L + Q + Y * oa = P + Y * (ob + c)) : L = V := by
  have h1 : L + Y * oa = V + Y * (ob + c) := by omega
  have h2 : (L + Y * oa) % Y = L := by rw [Nat.add_mul_mod_self_left, Nat.mod_eq_of_lt hL]
  have h3 : (V + Y * (ob + c)) % Y = V := by rw [Nat.add_mul_mod_self_left, Nat.mod_eq_of_lt hVY]
  rw [← h2, h1, h3]
theorem wval_take_some (l : List Nat) (k : Nat) : ∃ d, wval l = wval (l.take k) + 18446744073709551616 ^ k * d := by
  rcases Nat.lt_or_ge k l.length with h | h
  · refine ⟨wval (l.drop k), ?_⟩
    have := wval_append (l.take k) (l.drop k)
    rw [List.take_append_drop, List.length_take, Nat.min_eq_left (by omega)] at this
    exact this
  · exact ⟨0, by rw [List.take_of_length_le h]; rfl⟩

/-- The same where words of the other number are left out. -/
theorem mix_end2 {L Y P n t d q V oa ob c : Nat} (hn : n = t + Y * d) (hL : L < Y) (hV : P = q * n + V) (hVY : V < Y) (E : L + q * t + Y * oa = P + Y * (ob + c)) : L = V := by
  refine mix_end hL hV hVY (oa := oa) (ob := ob + q * d) (c := c) ?_
  have e : q * n = q * t + Y * (q * d) := by rw [hn, Nat.mul_add, Nat.mul_left_comm]
  have e2 : Y * (ob + q * d + c) = Y * (ob + c) + Y * (q * d) := by rw [← Nat.mul_add]; congr 1; omega
  omega
end Go.Proofs.Tm
