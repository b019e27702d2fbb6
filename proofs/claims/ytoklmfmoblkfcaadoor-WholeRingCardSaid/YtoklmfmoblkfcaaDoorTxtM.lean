/- Texts as lists of bytes. -/
import Derived.Test.YtoklmfmoblkfcaaDoorNatDec
import Derived.Test.YtoklmfmoblkfcaaDoorAa
namespace Go.Proofs.YtoklmfmoblkfcaaDoor
open Go.Proofs.Tm
/-- A whole number's text. -/
def zTxt (z : Int) : List UInt8 := if z < 0 then 45 :: Lib.decDigits z.natAbs else Lib.decDigits z.natAbs
/-- A fraction's text. -/
def ratTxt (q : Rat) : List UInt8 := zTxt q.num ++ (if q.den = 1 then [] else 47 :: Lib.decDigits q.den)
theorem bs_app (l m : List UInt8) : ((⟨l.toArray⟩ : ByteArray) ++ ⟨m.toArray⟩) = ⟨(l ++ m).toArray⟩ := by
  apply ByteArray.ext
  rw [ByteArray.data_append]
  simp
theorem bs_cons2 (c : UInt8) (s : List UInt8) : ((⟨#[c]⟩ : ByteArray) ++ ⟨s.toArray⟩) = ⟨(c :: s).toArray⟩ := bs_app [c] s
theorem dec_le (n : Nat) : (Lib.decDigits n).length ≤ 20 * (wds n).length + 1 := by
  rw [Lib.decDigits_length, nDigits_le_iff _ _ (by omega)]
  have h := wds_lt_pow n
  refine Nat.lt_of_lt_of_le h ?_
  rw [Nat.pow_succ, Nat.pow_mul]
  refine Nat.le_trans (Nat.pow_le_pow_left (by decide) _) (Nat.le_mul_of_pos_right _ (by decide))
theorem zTxt_le (z : Int) : (zTxt z).length ≤ 20 * (wds z.natAbs).length + 2 := by
  have := dec_le z.natAbs
  unfold zTxt
  split <;> simp <;> omega
theorem zTxt_inj {a b : Int} (h : zTxt a = zTxt b) : a = b := by
  have hd : ∀ n m : Nat, 45 :: Lib.decDigits n ≠ Lib.decDigits m := fun n m e => by
    have := decDigits_digs m 45 (by rw [← e]; exact List.mem_cons_self)
    revert this; decide
  unfold zTxt at h
  split at h
  · split at h
    · have := decDigits_inj (List.cons.inj h).2; omega
    · exact absurd h (hd _ _)
  · split at h
    · exact absurd h.symm (hd _ _)
    · have := decDigits_inj h; omega
end Go.Proofs.YtoklmfmoblkfcaaDoor
