/- Plain mathematics of long division by many words: what holds ahead of each digit, and what the digits come to. -/
import Derived.Test.YtoklmfmoblkfcaaDoorDivMath
namespace Go.Proofs.Tm
set_option linter.unusedVariables false
set_option maxRecDepth 20000

theorem seg_cons (L : List Nat) (f k : Nat) : seg L f (k + 1) = L.getD f 0 + 18446744073709551616 * seg L (f + 1) k := by
  unfold seg
  rcases Nat.lt_or_ge f L.length with h | h
  · rw [List.drop_eq_getElem_cons h, List.take_succ_cons]
    simp [wval, h]
  · rw [List.drop_eq_nil_of_le h, List.drop_eq_nil_of_le (by omega)]
    simp [wval, h]

theorem seg_split (L : List Nat) (f k : Nat) (h : f ≤ L.length) : seg L 0 (f + k) = seg L 0 f + 18446744073709551616 ^ f * seg L f k := by
  unfold seg
  rw [List.drop_zero, List.take_add, wval_append, List.length_take, Nat.min_eq_left h]

theorem seg_whole (L : List Nat) (k : Nat) (h : L.length ≤ k) : seg L 0 k = wval L := by
  unfold seg
  rw [List.drop_zero, List.take_of_length_le h]

/-- The next digit's number is small enough. -/
theorem bw_room {L : List Nat} {f n VB : Nat} (hL : ∀ d ∈ L, d < 18446744073709551616) (h : seg L (f + 1) n < VB) : seg L f (n + 1) < VB * 18446744073709551616 := by
  rw [seg_cons]
  have : L.getD f 0 < 18446744073709551616 := by
    rcases Nat.lt_or_ge f L.length with h1 | h1
    · rw [List.getD_eq_getElem?_getD, List.getElem?_eq_getElem h1]; exact hL _ (List.getElem_mem h1)
    · rw [List.getD_eq_getElem?_getD, List.getElem?_eq_none h1]; decide
  omega

/-- One digit more. -/
theorem bw_step {L L' M : List Nat} {n f VB A d : Nat} (hf : f < M.length) (hfl : f + 1 ≤ L.length) (hl : L'.length = L.length)
    (h : A = wval (M.drop (f + 1)) * VB * 18446744073709551616 ^ (f + 1) + seg L 0 (f + 1 + n)) (hd : d = seg L f (n + 1) / VB) (hs : seg L' f n = seg L f (n + 1) % VB) (hlow : L'.take f = L.take f) :
    A = wval ((M.set f d).drop f) * VB * 18446744073709551616 ^ f + seg L' 0 (f + n) := by
  have e1 : (M.set f d).drop f = d :: M.drop (f + 1) := by
    rw [List.drop_eq_getElem_cons (by simpa using hf), List.drop_set_of_lt (by omega)]
    simp
  have e2 : seg L' 0 f = seg L 0 f := by unfold seg; rw [List.drop_zero, List.drop_zero, hlow]
  rw [e1, seg_split L' f n (by omega), e2, hs, h, show f + 1 + n = f + (n + 1) by omega, seg_split L f (n + 1) (by omega)]
  have e3 := Nat.div_add_mod (seg L f (n + 1)) VB
  rw [← hd] at e3
  have e4 : wval (d :: M.drop (f + 1)) = d + 18446744073709551616 * wval (M.drop (f + 1)) := by simp [wval]
  rw [e4, Nat.pow_succ]
  generalize seg L f (n + 1) % VB = R at *
  generalize seg L f (n + 1) = X at *
  generalize wval (M.drop (f + 1)) = Q at *
  generalize 18446744073709551616 ^ f = Y at *
  rw [← e3]
  have a1 : Y * (VB * d + R) = Y * (VB * d) + Y * R := Nat.mul_add ..
  have a2 : (d + 18446744073709551616 * Q) * VB * Y = d * VB * Y + 18446744073709551616 * Q * VB * Y := by rw [Nat.add_mul, Nat.add_mul]
  have a3 : d * VB * Y = Y * (VB * d) := by rw [Nat.mul_comm (d * VB) Y, Nat.mul_comm d VB]
  have a4 : Q * VB * (Y * 18446744073709551616) = 18446744073709551616 * Q * VB * Y := by
    rw [← Nat.mul_assoc, Nat.mul_comm (Q * VB * Y), ← Nat.mul_assoc, ← Nat.mul_assoc]
  omega

/-- At the first digit the words above are less than the divisor. -/
theorem bw_first {L : List Nat} {a s la c n VB : Nat} (hl : c ≤ L.length) (hw : wval L = a * 2 ^ s) (ha : a < 18446744073709551616 ^ la) (hc : c + n = la + 1) (hn : 1 ≤ n) (hlen : L.length = la + 1) (hs : s ≤ 63)
    (hV : 2 ^ 63 * 18446744073709551616 ^ (n - 1) ≤ VB) : seg L c n < VB := by
  have h1 := seg_split L c n hl
  rw [seg_whole L (c + n) (by omega), hw] at h1
  have h2 : 18446744073709551616 ^ la = 18446744073709551616 ^ c * 18446744073709551616 ^ (n - 1) := by rw [← Nat.pow_add]; congr 1; omega
  have h3 : (2 : Nat) ^ s ≤ 2 ^ 63 := Nat.pow_le_pow_right (by decide) hs
  have h4 : a * 2 ^ s < 18446744073709551616 ^ c * (18446744073709551616 ^ (n - 1) * 2 ^ 63) := by
    rw [← Nat.mul_assoc, ← h2]
    exact Nat.lt_of_le_of_lt (Nat.mul_le_mul_left _ h3) (Nat.mul_lt_mul_of_pos_right ha (by decide))
  have h5 : 18446744073709551616 ^ c * seg L c n < 18446744073709551616 ^ c * (18446744073709551616 ^ (n - 1) * 2 ^ 63) := Nat.lt_of_le_of_lt (by omega) h4
  have h6 := Nat.lt_of_mul_lt_mul_left h5
  rw [Nat.mul_comm] at hV
  omega

/-- The divisor, raised till its highest bit is set: it has as many words as before. -/
theorem bw_by {b n t s : Nat} (hn : 1 ≤ n) (ht : t = b / 18446744073709551616 ^ (n - 1)) (h1 : 2 ^ 63 ≤ t * 2 ^ s) (h2 : t * 2 ^ s < 18446744073709551616) (hs : s ≤ 63) :
    2 ^ 63 * 18446744073709551616 ^ (n - 1) ≤ b * 2 ^ s ∧ b * 2 ^ s < 18446744073709551616 ^ n := by
  have hp := Nat.pow_pos (n := n - 1) (show 0 < 18446744073709551616 by decide)
  have e : 18446744073709551616 ^ n = 18446744073709551616 ^ (n - 1) * 18446744073709551616 := by rw [← Nat.pow_succ]; congr 1; omega
  have h3 := Nat.div_add_mod b (18446744073709551616 ^ (n - 1))
  have h4 := Nat.mod_lt b hp
  rw [← ht] at h3
  rw [e]
  generalize 18446744073709551616 ^ (n - 1) = Y at *
  generalize b % Y = R at *
  obtain ⟨S, hS⟩ : ∃ S, S = 2 ^ s := ⟨_, rfl⟩
  have hdv : 18446744073709551616 = 2 ^ (64 - s) * S := by rw [hS, ← Nat.pow_add, show 64 - s + s = 64 by omega]
  rw [← hS] at h1 h2 ⊢
  have hS0 : 0 < S := by rw [hS]; exact Nat.pow_pos (by decide)
  have ht2 : t + 1 ≤ 2 ^ (64 - s) := by
    rw [hdv] at h2
    exact Nat.lt_of_mul_lt_mul_right h2
  constructor
  · calc 2 ^ 63 * Y ≤ t * S * Y := Nat.mul_le_mul_right _ h1
      _ = Y * t * S := by rw [Nat.mul_comm (t * S) Y, Nat.mul_assoc]
      _ ≤ b * S := Nat.mul_le_mul_right _ (by omega)
  · have h5 : b < Y * (t + 1) := by rw [Nat.mul_add, Nat.mul_one]; omega
    calc b * S < Y * (t + 1) * S := Nat.mul_lt_mul_of_pos_right h5 hS0
      _ ≤ Y * 2 ^ (64 - s) * S := Nat.mul_le_mul_right _ (Nat.mul_le_mul_left _ ht2)
      _ = Y * 18446744073709551616 := by rw [Nat.mul_assoc, ← hdv]

/-- What all the digits come to. -/
theorem bw_end {a b s Q R : Nat} (hb : 0 < b) (h : a * 2 ^ s = Q * (b * 2 ^ s) + R) (hR : R < b * 2 ^ s) : Q = a / b ∧ R / 2 ^ s = a % b := by
  have hp : 0 < 2 ^ s := Nat.pow_pos (by decide)
  generalize 2 ^ s = S at *
  have e1 : R % S = 0 := by
    have h1 : (Q * (b * S) + R) % S = 0 := by rw [← h]; exact Nat.mul_mod_left _ _
    rw [← Nat.mul_assoc, Nat.add_comm, Nat.add_mul_mod_self_right] at h1
    exact h1
  obtain ⟨r, hr⟩ : ∃ r, R = r * S := ⟨R / S, by have := Nat.div_add_mod R S; rw [e1, Nat.mul_comm] at this; omega⟩
  subst hr
  rw [Nat.mul_div_cancel _ hp]
  have e2 : a = Q * b + r := by
    rw [← Nat.mul_assoc, ← Nat.add_mul] at h
    exact Nat.eq_of_mul_eq_mul_right hp h
  have e3 : r < b := Nat.lt_of_mul_lt_mul_right hR
  subst e2
  constructor
  · rw [Nat.mul_comm, Nat.mul_add_div hb, Nat.div_eq_of_lt e3, Nat.add_zero]
  · rw [Nat.mul_comm, Nat.mul_add_mod, Nat.mod_eq_of_lt e3]
end Go.Proofs.Tm
