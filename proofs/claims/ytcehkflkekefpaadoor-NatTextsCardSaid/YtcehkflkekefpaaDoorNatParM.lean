/- Mathematics of reading a decimal text in groups of nineteen digits. -/
import Derived.Test.YtcehkflkekefpaaDoorNatDec
import Derived.Test.YtcehkflkekefpaaDoorNatIsT
import Derived.Lib.ParseIntBCases
namespace Go.Proofs.YtcehkflkekefpaaDoor
open Go.RowKit Go.Proofs.Tm
set_option linter.unusedVariables false
set_option linter.unusedSimpArgs false

theorem decVal_cons (c : UInt8) (r : List UInt8) : decVal (c :: r) = (c.toNat - 48) * 10 ^ r.length + decVal r := by
  have := decVal_append [c] r
  simpa [decVal] using this

theorem p10 : ∀ (l : List UInt8) (acc : Nat), Digs l → acc * 10 ^ l.length + decVal l < 18446744073709551616 → Lib.parseUint10 acc l = .ok (acc * 10 ^ l.length + decVal l)
  | [], acc, _, _ => by simp [Lib.parseUint10, decVal]
  | c :: r, acc, h, hlt => by
    have hc := h c (by simp)
    have hr : Digs r := fun x hx => h x (by simp [hx])
    have e : acc * 10 ^ (c :: r).length + decVal (c :: r) = (acc * 10 + (c.toNat - 48)) * 10 ^ r.length + decVal r := by
      rw [decVal_cons, List.length_cons, Nat.pow_succ, Nat.add_mul, Nat.add_assoc, Nat.mul_assoc, Nat.mul_comm 10]
    rw [e] at hlt ⊢
    have h1 : acc * 10 + (c.toNat - 48) ≤ (acc * 10 + (c.toNat - 48)) * 10 ^ r.length := Nat.le_mul_of_pos_right _ (Nat.pow_pos (by decide))
    unfold Lib.parseUint10
    rw [if_pos hc, if_neg (by omega), if_neg (by omega)]
    exact p10 r _ hr hlt

theorem parse_ok (l : List UInt8) (h : Digs l) (hne : l ≠ []) (hl : l.length ≤ 19) : Lib.parseUintB 64 l = .ok (decVal l) := by
  have h1 := decVal_lt l h
  have h2 : 10 ^ l.length ≤ 10 ^ 19 := Nat.pow_le_pow_right (by decide) hl
  rw [Lib.parseUintB_64]
  unfold Lib.parseMag
  rw [if_neg hne, p10 l 0 h (by omega)]
  simp

theorem digs_all {l : List UInt8} (h : l.all isDig = true) : Digs l := fun c hc => by
  have := List.all_eq_true.1 h c hc
  simpa [isDig] using this

/-- A round of reading: the first group. -/
theorem par_step {A N k : Nat} {m : List UInt8} (hk : k = (m.length - 1) % 19 + 1) (hm : 0 < m.length) (hA : A = 0 ∨ m.length % 19 = 0) (hN : A * 10 ^ m.length + decVal m = N) :
    (A * 10000000000000000000 + decVal (m.take k)) * 10 ^ (m.drop k).length + decVal (m.drop k) = N ∧ (m.drop k).length % 19 = 0 ∧ k ≤ m.length ∧ 1 ≤ k ∧ k ≤ 19 := by
  have hkl : k ≤ m.length := by rw [hk]; have := Nat.mod_le (m.length - 1) 19; omega
  refine ⟨?_, by rw [List.length_drop]; omega, hkl, by omega, by omega⟩
  have e := decVal_append (m.take k) (m.drop k)
  rw [List.take_append_drop] at e
  rw [← hN, e, Nat.add_mul, Nat.add_assoc]
  congr 1
  rcases hA with rfl | h19
  · simp
  · have hk19 : k = 19 := by omega
    have hd : m.length = 19 + (m.drop k).length := by rw [List.length_drop]; omega
    rw [hd, Nat.pow_add, Nat.mul_assoc]

theorem par_len {A N r E : Nat} (h : A * 10 ^ r ≤ N) (hN : N < 10 ^ E) : (wds A).length ≤ E := by
  rw [wds_length_le_iff]
  have h1 : A ≤ A * 10 ^ r := Nat.le_mul_of_pos_right _ (Nat.pow_pos (by decide))
  have h2 : 10 ^ E ≤ 18446744073709551616 ^ E := Nat.pow_le_pow_left (by decide) E
  omega
end Go.Proofs.YtcehkflkekefpaaDoor
