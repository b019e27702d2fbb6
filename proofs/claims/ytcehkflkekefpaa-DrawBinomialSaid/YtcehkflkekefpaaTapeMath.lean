/- Plain mathematics of tapes: coins as bits of bytes. -/
import Derived.Test.YtcehkflkekefpaaBitsMath
namespace Go.Proofs.Tm
set_option linter.unusedVariables false
set_option maxRecDepth 20000

theorem bitAt_or (bs : List Nat) (i j : Nat) (hi : i / 8 < bs.length) : bitAt (bs.set (i / 8) (bs.getD (i / 8) 0 ||| 128 / 2 ^ (i % 8))) j = (bitAt bs j || decide (j = i)) := by
  unfold bitAt
  have h2 : 128 / 2 ^ (i % 8) = 2 ^ (7 - i % 8) := by
    have hr : i % 8 < 8 := Nat.mod_lt _ (by decide)
    generalize i % 8 = r at *
    rcases (by omega : r = 0 ∨ r = 1 ∨ r = 2 ∨ r = 3 ∨ r = 4 ∨ r = 5 ∨ r = 6 ∨ r = 7) with rfl | rfl | rfl | rfl | rfl | rfl | rfl | rfl <;> rfl
  by_cases h : i / 8 = j / 8
  · rw [h2, ← h]
    have e : (bs.set (i / 8) (bs.getD (i / 8) 0 ||| 2 ^ (7 - i % 8))).getD (i / 8) 0 = bs.getD (i / 8) 0 ||| 2 ^ (7 - i % 8) := by simp [hi]
    rw [e, Nat.testBit_or, Nat.testBit_two_pow]
    congr 1
    rw [Bool.eq_iff_iff, decide_eq_true_eq, decide_eq_true_eq]
    omega
  · have hne : j ≠ i := by rintro rfl; exact h rfl
    simp [List.getD_eq_getElem?_getD, h, hne]

theorem or128_lt (x i : Nat) (hx : x < 256) : (x ||| 128 / 2 ^ (i % 8)) < 256 := by
  have h : 128 / 2 ^ (i % 8) < 2 ^ 8 := Nat.lt_of_le_of_lt (Nat.div_le_self _ _) (by decide)
  exact Nat.or_lt_two_pow (n := 8) hx h

theorem bitAt_zeros (m j : Nat) : bitAt (List.replicate m 0) j = false := by
  unfold bitAt
  have e : (List.replicate m 0).getD (j / 8) 0 = 0 := by
    rw [List.getD_eq_getElem?_getD, List.getElem?_replicate]; split <;> rfl
  rw [e]; simp

theorem bitAt_take (bs : List Nat) (m j : Nat) (h : j / 8 < m) : bitAt (bs.take m) j = bitAt bs j := by
  unfold bitAt
  congr 1
  rw [List.getD_eq_getElem?_getD, List.getD_eq_getElem?_getD, List.getElem?_take, if_pos h]

/-- The bytes hold these coins. -/
def Holds (bs : List Nat) (l : List Bool) : Prop := l.length ≤ 8 * bs.length ∧ bs.length ≤ 262144 ∧ (∀ b ∈ bs, b < 256) ∧ ∀ j, j < l.length → bitAt bs j = l.getD j false

theorem Holds.at {bs : List Nat} {l : List Bool} (h : Holds bs l) (i : Nat) (hi : i < l.length) : i / 8 < bs.length ∧ bs.getD (i / 8) 0 < 256 ∧ (bs.getD (i / 8) 0).testBit (7 - i % 8) = l.getD i false := by
  obtain ⟨h1, _, h2, h3⟩ := h
  have hj : i / 8 < bs.length := by omega
  exact ⟨hj, h2 _ (by simp [hj]), h3 i hi⟩

end Go.Proofs.Tm
