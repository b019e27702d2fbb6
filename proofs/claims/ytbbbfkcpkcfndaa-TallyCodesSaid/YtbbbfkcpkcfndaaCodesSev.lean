/- Numbers of all codes, one behind the other (plain mathematics). -/
import Derived.Test.YtbbbfkcpkcfndaaCodesBack
import Derived.Test.YtbbbfkcpkcfndaaCodesRead
namespace Go.Proofs.Ytbbbfkcpkcfndaa
open Go.RowKit Go.Proofs.Tm
set_option linter.unusedVariables false
set_option maxRecDepth 20000

theorem varG_mono (f : Nat) : ∀ y x, y ≤ x → (varG f y).length ≤ (varG f x).length := by
  induction f with
  | zero => intro y x _; simp [varG]
  | succ f ih =>
    intro y x h
    by_cases hy : y < 128
    · have e : varG (f + 1) y = [y] := by simp [varG, hy]
      rw [e]; exact varG_pos f x
    · have e : varG (f + 1) y = (128 + y % 128) :: varG f (y / 128) := by simp [varG, hy]
      have e2 : varG (f + 1) x = (128 + x % 128) :: varG f (x / 128) := by simp [varG, show ¬ x < 128 by omega]
      rw [e, e2]
      simp only [List.length_cons]
      have := ih (y / 128) (x / 128) (by omega)
      omega
theorem log2_mono {y x : Nat} (h : y ≤ x) (h0 : y ≠ 0) : Nat.log2 y ≤ Nat.log2 x := (Nat.le_log2 (by omega)).2 (Nat.le_trans (Nat.log2_self_le h0) h)
theorem gammaLen_mono {y x : Nat} (h : y ≤ x) (h0 : y ≠ 0) : gammaLen y ≤ gammaLen x := by
  unfold gammaLen
  rw [if_neg h0, if_neg (by omega)]
  have := log2_mono h h0; omega
theorem deltaLen_mono {y x : Nat} (h : y ≤ x) (h0 : y ≠ 0) : deltaLen y ≤ deltaLen x := by
  unfold deltaLen
  rw [if_neg h0, if_neg (by omega)]
  have h1 := log2_mono h h0
  have h2 := log2_mono (y := Nat.log2 y + 1) (x := Nat.log2 x + 1) (by omega) (by omega)
  omega
theorem groups_mono {y x : Nat} (h : y ≤ x) : groups y ≤ groups x := varG_mono 10 y x h

/-- What is written of a number by the kind c. -/
def wordS (c : Int) (x : Nat) : List Bool := if c = 0 then gammaBits x else if c = 1 then deltaBits x else varBits x
/-- What is read by the kind c. -/
def specS (c : Int) (L : List Bool) (i : Nat) : Nat × Nat × Int := if c = 0 then gammaS L i else if c = 1 then deltaS L i else varS L 10 0 0 i

theorem wordS_len (c : Int) (x : Nat) (h : x < 18446744073709551616) : (wordS c x).length ≤ 200 := by
  have h1 := log2_lt64 x h
  have h2 := log2_lt64 (Nat.log2 x + 1) (by omega)
  have h3 := varG_length 10 x
  unfold wordS
  split
  · rw [gammaBits_length]; omega
  · split
    · rw [deltaBits_length]; omega
    · rw [varBits_length]; omega

theorem specS_back {c : Int} {L B : List Bool} {i x : Nat} (hi : i ≤ L.length) (h0 : x ≠ 0) (hn : x < 18446744073709551616) (hd : L.drop i = wordS c x ++ B) : specS c L i = (x, i + (wordS c x).length, 0) := by
  unfold wordS at hd ⊢
  unfold specS
  split
  · rename_i h
    rw [if_pos h] at hd
    exact gamma_back hi h0 hn hd
  · rename_i h
    rw [if_neg h] at hd
    split
    · rename_i h2
      rw [if_pos h2] at hd
      exact delta_back hi h0 hn hd
    · rename_i h2
      rw [if_neg h2] at hd
      exact varAll_back hi hn hd

/-- The first m words. -/
def allS (f : Nat → List Bool) (m : Nat) : List Bool := (List.range m).flatMap f
theorem allS_succ (f : Nat → List Bool) (m : Nat) : allS f (m + 1) = allS f m ++ f m := by
  unfold allS
  rw [List.range_succ, List.flatMap_append]
  simp
theorem allS_split (f : Nat → List Bool) (j m : Nat) (h : j < m) : ∃ B, allS f m = allS f j ++ (f j ++ B) := by
  induction m with
  | zero => omega
  | succ m ih =>
    rw [allS_succ]
    rcases Nat.lt_or_ge j m with h2 | h2
    · obtain ⟨B, hB⟩ := ih h2
      exact ⟨B ++ f m, by rw [hB]; simp [List.append_assoc]⟩
    · obtain rfl : j = m := by omega
      exact ⟨[], by simp⟩

theorem allS_read (f : Nat → List Bool) (j m : Nat) (h : j < m) :
    (allS f j).length ≤ (bitsOf (bytesOf (allS f m))).length ∧ ∃ B, (bitsOf (bytesOf (allS f m))).drop (allS f j).length = f j ++ B := by
  obtain ⟨B, hB⟩ := allS_split f j m h
  rw [bitsOf_bytesOf]
  generalize 8 * (((allS f m).length + 7) / 8) - (allS f m).length = z
  rw [hB]
  refine ⟨by simp <;> omega, B ++ List.replicate z false, ?_⟩
  rw [List.append_assoc, List.drop_left, List.append_assoc]
end Go.Proofs.Ytbbbfkcpkcfndaa
