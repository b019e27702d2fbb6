/- Plain mathematics of groups of nineteen decimal digits. Nothing of the program is imported. -/
import Derived.Test.YtoklmfmoblkfcaaDoorAa
namespace Go.Proofs.Tm
set_option linter.unusedVariables false
set_option maxRecDepth 20000

/-- The groups of q, the lowest first: of 0 none. -/
def rest (q : Nat) : List Nat := if h : q = 0 then [] else q % 10000000000000000000 :: rest (q / 10000000000000000000)
termination_by q
decreasing_by exact Nat.div_lt_self (by omega) (by decide)

/-- The groups of n: of 0 one, too. -/
def grps (n : Nat) : List Nat := n % 10000000000000000000 :: rest (n / 10000000000000000000)

theorem rest_zero : rest 0 = [] := by rw [rest]; simp
theorem rest_pos {q : Nat} (h : q ≠ 0) : rest q = q % 10000000000000000000 :: rest (q / 10000000000000000000) := by rw [rest]; simp [h]

theorem rest_length_le : ∀ (k q : Nat), q < 10000000000000000000 ^ k → (rest q).length ≤ k
  | 0, q, h => by
    have : q = 0 := by simpa using h
    rw [this, rest_zero]; simp
  | k + 1, q, h => by
    by_cases h0 : q = 0
    · rw [h0, rest_zero]; simp
    · rw [rest_pos h0, List.length_cons]
      have := rest_length_le k (q / 10000000000000000000) (by rw [Nat.div_lt_iff_lt_mul (by decide)]; rw [Nat.pow_succ] at h; exact h)
      omega

theorem rest_lt (q : Nat) : ∀ d ∈ rest q, d < 10000000000000000000 := by
  induction q using Nat.strongRecOn with
  | _ q ih =>
    by_cases h0 : q = 0
    · rw [h0, rest_zero]; simp
    · rw [rest_pos h0]
      intro d hd
      rcases List.mem_cons.1 hd with rfl | hd
      · exact Nat.mod_lt _ (by decide)
      · exact ih _ (Nat.div_lt_self (by omega) (by decide)) d hd

theorem rest_getD : ∀ (i q : Nat), (rest q).getD i 0 = q / 10000000000000000000 ^ i % 10000000000000000000
  | i, q => by
    by_cases h0 : q = 0
    · subst h0; rw [rest_zero]; simp
    · rw [rest_pos h0]
      cases i with
      | zero => simp
      | succ i =>
        rw [List.getD_cons_succ, rest_getD i, Nat.div_div_eq_div_mul, Nat.pow_succ, Nat.mul_comm]

theorem rest_top (q : Nat) : q / 10000000000000000000 ^ (rest q).length = 0 ∧ ∀ i, i < (rest q).length → q / 10000000000000000000 ^ i ≠ 0 := by
  induction q using Nat.strongRecOn with
  | _ q ih =>
    by_cases h0 : q = 0
    · rw [h0, rest_zero]; simp
    · rw [rest_pos h0]
      obtain ⟨h1, h2⟩ := ih _ (Nat.div_lt_self (by omega) (by decide) : q / 10000000000000000000 < q)
      rw [Nat.div_div_eq_div_mul] at h1
      refine ⟨by rw [List.length_cons, Nat.pow_succ, Nat.mul_comm]; exact h1, fun i hi => ?_⟩
      cases i with
      | zero => simpa using h0
      | succ i =>
        have := h2 i (by simpa using hi)
        rw [Nat.div_div_eq_div_mul] at this
        rw [Nat.pow_succ, Nat.mul_comm]
        exact this

theorem grps_lt (n : Nat) : ∀ d ∈ grps n, d < 10000000000000000000 := by
  intro d hd
  rcases List.mem_cons.1 hd with rfl | hd
  · exact Nat.mod_lt _ (by decide)
  · exact rest_lt _ d hd

theorem grps_getD (n i : Nat) : (grps n).getD i 0 = n / 10000000000000000000 ^ i % 10000000000000000000 := by
  unfold grps
  cases i with
  | zero => simp
  | succ i => rw [List.getD_cons_succ, rest_getD, Nat.div_div_eq_div_mul, Nat.pow_succ, Nat.mul_comm]

theorem grps_top (n : Nat) : n / 10000000000000000000 ^ (grps n).length = 0 ∧ ∀ i, 0 < i → i < (grps n).length → n / 10000000000000000000 ^ i ≠ 0 := by
  obtain ⟨h1, h2⟩ := rest_top (n / 10000000000000000000)
  unfold grps
  refine ⟨by rw [List.length_cons, Nat.pow_succ, Nat.mul_comm, ← Nat.div_div_eq_div_mul]; exact h1, fun i h0 hi => ?_⟩
  obtain ⟨j, rfl⟩ : ∃ j, i = j + 1 := ⟨i - 1, by omega⟩
  have := h2 j (by simpa using hi)
  rw [Nat.pow_succ, Nat.mul_comm, ← Nat.div_div_eq_div_mul]
  exact this

theorem grps_length_le (n : Nat) : (grps n).length ≤ 2 * (wds n).length + 1 := by
  have h1 := wds_lt_pow n
  have h2 : (18446744073709551616 : Nat) ^ (wds n).length ≤ 10000000000000000000 ^ (2 * (wds n).length) := by
    rw [Nat.pow_mul]
    exact Nat.pow_le_pow_left (by decide) _
  have := rest_length_le (2 * (wds n).length) (n / 10000000000000000000) (Nat.lt_of_le_of_lt (Nat.div_le_self _ _) (Nat.lt_of_lt_of_le h1 h2))
  unfold grps
  rw [List.length_cons]
  omega
theorem grps_pos (n : Nat) : 0 < (grps n).length := by unfold grps; simp

/-- The highest group is the number itself, cut there. -/
theorem grps_last (n : Nat) : (grps n).getD ((grps n).length - 1) 0 = n / 10000000000000000000 ^ ((grps n).length - 1) := by
  rw [grps_getD]
  apply Nat.mod_eq_of_lt
  have h := (grps_top n).1
  have hp := grps_pos n
  rw [show (grps n).length = ((grps n).length - 1) + 1 by omega, Nat.pow_succ, ← Nat.div_div_eq_div_mul, Nat.div_eq_zero_iff] at h
  rcases h with h | h
  · exact absurd h (by decide)
  · exact h
end Go.Proofs.Tm
