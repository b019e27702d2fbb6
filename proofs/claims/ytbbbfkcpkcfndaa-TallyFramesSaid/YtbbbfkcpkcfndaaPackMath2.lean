/- More plain mathematics of packed numbers: written and read back. -/
import Derived.Test.YtbbbfkcpkcfndaaPackMath
namespace Go.Proofs.Tm
set_option linter.unusedVariables false
set_option maxRecDepth 20000
theorem val_part (L : List Bool) (i k : Nat) (h : i + k ≤ L.length) : val ((L.drop i).take k) = part L i k := by
  induction k with
  | zero => simp [val, part]
  | succ k ih => rw [take_drop_snoc _ _ _ (by omega), val_snoc, ih (by omega)]; rfl

/-- Numbers that were read, as bits: what was there. -/
theorem allBits_parts (L : List Bool) (i wd n : Nat) (hw : 0 < wd) (h : i + n * wd ≤ L.length) :
    allBits wd ((List.range n).map fun k => part L (i + k * wd) wd) = (L.drop i).take (n * wd) := by
  apply List.ext_getElem?
  intro p
  have hl : (allBits wd ((List.range n).map fun k => part L (i + k * wd) wd)).length = n * wd := by rw [allBits_length]; simp
  rcases Nat.lt_or_ge p (n * wd) with hp | hp
  · have e1 : (allBits wd ((List.range n).map fun k => part L (i + k * wd) wd)).getD p false = L.getD (i + p) false := by
      rw [allBits_getD _ _ _ hw]
      have hq : p / wd < n := by rw [Nat.div_lt_iff_lt_mul hw]; exact hp
      have e2 : ((List.range n).map fun k => part L (i + k * wd) wd).getD (p / wd) 0 = part L (i + p / wd * wd) wd := by simp [hq]
      have hm : p % wd < wd := Nat.mod_lt _ hw
      rw [e2, part_bit _ _ _ _ (by omega)]
      congr 1
      have := Nat.div_add_mod p wd
      rw [Nat.mul_comm] at this
      omega
    rw [List.getD_eq_getElem?_getD, List.getElem?_eq_getElem (by omega)] at e1
    rw [List.getElem?_eq_getElem (by omega), List.getElem?_take, if_pos hp, List.getElem?_drop, List.getElem?_eq_getElem (by omega)]
    rw [List.getD_eq_getElem?_getD, List.getElem?_eq_getElem (by omega)] at e1
    simpa using e1
  · rw [List.getElem?_eq_none (by omega), List.getElem?_eq_none (by simp; omega)]

/-- Numbers, written as bytes, and read from there: the same ones. -/
theorem parts_back (wd : Nat) (l : List Nat) (hw : 0 < wd) (hl : ∀ x ∈ l, x < 2 ^ wd) :
    ((List.range l.length).map fun k => part (bitsOf (bytesOf (allBits wd l))) (0 + k * wd) wd) = l := by
  apply List.ext_getElem
  · simp
  · intro k h1 h2
    simp only [List.getElem_map, List.getElem_range]
    rw [Nat.zero_add, bitsOf_bytesOf]
    have e := part_num wd l k hw (by simp [h2]; exact hl _ (List.getElem_mem h2))
    have e2 : l.getD k 0 = l[k] := by simp [h2]
    rw [← e2, ← e]
    refine part_congr _ _ _ _ fun j hj => ?_
    simp only [List.getD_eq_getElem?_getD]
    rcases Nat.lt_or_ge (k * wd + j) (allBits wd l).length with h | h
    · rw [List.getElem?_append_left h]
    · rw [List.getElem?_append_right h, List.getElem?_eq_none h, List.getElem?_replicate]
      split <;> simp
end Go.Proofs.Tm
