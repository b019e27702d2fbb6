/- Plain mathematics of decimal texts: digit by digit, group by group, and back. Nothing of the program is imported. -/
import Derived.Lib.ItoaNum
import Derived.Test.YtoklmfmoblkfcaaDoorAb
namespace Go.Proofs.Tm
open Go.Lib
set_option linter.unusedVariables false
set_option maxRecDepth 20000

theorem snoc_ind {α : Type} {P : List α → Prop} (h0 : P []) (h1 : ∀ l a, P l → P (l ++ [a])) (l : List α) : P l := by
  have : ∀ m : List α, P m.reverse := fun m => by
    induction m with
    | nil => exact h0
    | cons a m ih => rw [List.reverse_cons]; exact h1 _ _ ih
  simpa using this l.reverse

/-- The lowest j decimal digits of n, the highest of them first. -/
def low (n j : Nat) : List UInt8 := (List.range j).map fun t => dg n (j - 1 - t)
theorem low_zero (n : Nat) : low n 0 = [] := rfl
@[simp] theorem low_length (n j : Nat) : (low n j).length = j := by simp [low]

theorem low_succ (n j : Nat) : low n (j + 1) = dg n j :: low n j := by
  unfold low
  rw [List.range_succ_eq_map, List.map_cons, List.map_map]
  congr 1
  refine List.map_congr_left fun t ht => ?_
  have := List.mem_range.1 ht
  simp only [Function.comp]
  rw [show j + 1 - 1 - (t + 1) = j - 1 - t by omega]

theorem decDigits_low (n : Nat) : decDigits n = low n (nDigits n) := decDigits_eq n

theorem dg_add (n k j : Nat) : dg n (k + j) = dg (n / 10 ^ k) j := by
  unfold dg
  rw [Nat.pow_add, Nat.div_div_eq_div_mul]

theorem low_add (n a k : Nat) : low n (a + k) = low (n / 10 ^ k) a ++ low n k := by
  induction a with
  | zero => simp [low_zero]
  | succ a ih =>
    rw [show a + 1 + k = (a + k) + 1 by omega, low_succ, ih, low_succ, List.cons_append, Nat.add_comm a k, dg_add]

theorem dg_mod (n k j : Nat) (h : j < k) : dg (n % 10 ^ k) j = dg n j := by
  unfold dg
  congr 2
  obtain ⟨m, rfl⟩ : ∃ m, k = j + (m + 1) := ⟨k - j - 1, by omega⟩
  rw [Nat.pow_add, Nat.mod_mul_right_div_self, Nat.pow_succ, Nat.mod_mul_left_mod]

theorem low_mod (n k : Nat) : low (n % 10 ^ k) k = low n k := by
  unfold low
  refine List.map_congr_left fun t ht => ?_
  have := List.mem_range.1 ht
  exact dg_mod n k _ (by omega)

theorem dg_zero (n j : Nat) (h : n / 10 ^ j = 0) : dg n j = 48 := by unfold dg; rw [h]; rfl

theorem low_pad (n k : Nat) (h : nDigits n ≤ k) : low n k = List.replicate (k - nDigits n) 48 ++ decDigits n := by
  obtain ⟨m, rfl⟩ : ∃ m, k = nDigits n + m := ⟨k - nDigits n, by omega⟩
  rw [Nat.add_sub_cancel_left]
  clear h
  induction m with
  | zero => simp [decDigits_low]
  | succ m ih =>
    rw [← Nat.add_assoc, low_succ, ih, List.replicate_succ, List.cons_append]
    congr 1
    refine dg_zero _ _ (Nat.div_eq_of_lt (Nat.lt_of_lt_of_le (lt_pow_nDigits n) (Nat.pow_le_pow_right (by decide) (by omega))))

theorem pow_nDigits_le (n : Nat) (h : n ≠ 0) : 10 ^ (nDigits n - 1) ≤ n := by
  induction n using Nat.strongRecOn with
  | _ n ih =>
    by_cases h1 : n < 10
    · rw [nDigits_small h1]; simp; omega
    · have := ih (n / 10) (by omega) (by omega)
      rw [nDigits_big h1]
      have hp := nDigits_pos (n / 10)
      obtain ⟨m, hm⟩ : ∃ m, nDigits (n / 10) = m + 1 := ⟨nDigits (n / 10) - 1, by omega⟩
      rw [hm] at this ⊢
      simp only [Nat.add_sub_cancel] at this ⊢
      rw [Nat.pow_succ]
      omega

theorem nDigits_le_iff (n k : Nat) (hk : 1 ≤ k) : nDigits n ≤ k ↔ n < 10 ^ k := by
  constructor
  · intro h; exact Nat.lt_of_lt_of_le (lt_pow_nDigits n) (Nat.pow_le_pow_right (by decide) h)
  · intro h
    by_cases h0 : n = 0
    · subst h0; rw [nDigits_small (by decide)]; exact hk
    · rcases Nat.lt_or_ge k (nDigits n) with h1 | h1
      · have h2 := pow_nDigits_le n h0
        have h3 : 10 ^ k ≤ 10 ^ (nDigits n - 1) := Nat.pow_le_pow_right (by decide) (by omega)
        omega
      · exact h1

theorem nDigits_div (n k : Nat) (h : n / 10 ^ k ≠ 0) : nDigits n = nDigits (n / 10 ^ k) + k := by
  have h1 := pow_nDigits_le _ h
  have h2 := lt_pow_nDigits (n / 10 ^ k)
  have hp := nDigits_pos (n / 10 ^ k)
  obtain ⟨m, hm⟩ : ∃ m, nDigits (n / 10 ^ k) = m + 1 := ⟨nDigits (n / 10 ^ k) - 1, by omega⟩
  rw [hm] at h1 h2 ⊢
  simp only [Nat.add_sub_cancel] at h1
  have hk : 0 < 10 ^ k := Nat.pow_pos (by decide)
  rw [Nat.le_div_iff_mul_le hk, ← Nat.pow_add] at h1
  rw [Nat.div_lt_iff_lt_mul hk, ← Nat.pow_add] at h2
  rw [nDigits_unique (m + k) n h1 (by rw [show m + k + 1 = m + 1 + k by omega]; exact h2)]
  omega

/-- A number's text: the text of what stands above the lowest k digits, and these, with noughts ahead. -/
theorem decDigits_split (n k : Nat) (hk : 1 ≤ k) (h : n / 10 ^ k ≠ 0) : decDigits n = decDigits (n / 10 ^ k) ++ (List.replicate (k - nDigits (n % 10 ^ k)) 48 ++ decDigits (n % 10 ^ k)) := by
  have hlt : n % 10 ^ k < 10 ^ k := Nat.mod_lt _ (Nat.pow_pos (by decide))
  rw [← low_pad _ _ ((nDigits_le_iff _ _ hk).2 hlt), low_mod, decDigits_low, nDigits_div n k h, low_add, ← decDigits_low]

/-- When nothing is left above, the digits written are the number's text. -/
theorem low_done (n j : Nat) (h0 : n ≠ 0) (h1 : n / 10 ^ j = 0) (h2 : n / 10 ^ (j - 1) ≠ 0) : low n j = decDigits n := by
  have hj : 1 ≤ j := by
    rcases j with _ | j
    · simp at h1; omega
    · omega
  obtain ⟨m, rfl⟩ : ∃ m, j = m + 1 := ⟨j - 1, by omega⟩
  simp only [Nat.add_sub_cancel] at h2
  have hlt : n < 10 ^ (m + 1) := by
    rcases Nat.lt_or_ge n (10 ^ (m + 1)) with h | h
    · exact h
    · have := Nat.div_pos h (Nat.pow_pos (by decide)); omega
  have hge : 10 ^ m ≤ n := by
    rcases Nat.lt_or_ge n (10 ^ m) with h | h
    · exact absurd (Nat.div_eq_of_lt h) h2
    · exact h
  rw [decDigits_low, nDigits_unique m n hge hlt]

/-- What a text of digits comes to. -/
def decVal (l : List UInt8) : Nat := l.foldl (fun v c => v * 10 + (c.toNat - 48)) 0
theorem decVal_nil : decVal [] = 0 := rfl
theorem decVal_snoc (l : List UInt8) (c : UInt8) : decVal (l ++ [c]) = decVal l * 10 + (c.toNat - 48) := by simp [decVal]
theorem decVal_append (l m : List UInt8) : decVal (l ++ m) = decVal l * 10 ^ m.length + decVal m := by
  induction m using snoc_ind with
  | h0 => simp [decVal_nil]
  | h1 m c ih =>
    rw [← List.append_assoc, decVal_snoc, ih, decVal_snoc, List.length_append, Nat.pow_add]
    simp only [List.length_singleton, Nat.pow_one, Nat.add_mul, Nat.mul_assoc]
    omega

/-- Digits alone. -/
def Digs (l : List UInt8) : Prop := ∀ c ∈ l, 48 ≤ c.toNat ∧ c.toNat ≤ 57
theorem decVal_lt (l : List UInt8) (h : Digs l) : decVal l < 10 ^ l.length := by
  induction l using snoc_ind with
  | h0 => simp [decVal_nil]
  | h1 l c ih =>
    have := ih (fun x hx => h x (by simp [hx]))
    have hc := h c (by simp)
    rw [decVal_snoc, List.length_append, Nat.pow_add]
    simp only [List.length_singleton, Nat.pow_one]
    omega

theorem ofNat_digit (c : UInt8) (h : 48 ≤ c.toNat ∧ c.toNat ≤ 57) : UInt8.ofNat (48 + (c.toNat - 48)) = c := by
  rw [show 48 + (c.toNat - 48) = c.toNat by omega]; exact UInt8.ofNat_toNat

theorem decVal_pos (l : List UInt8) (h : Digs l) (c : UInt8) (m : List UInt8) (hl : l = c :: m) (hc : c ≠ 48) : 0 < decVal l := by
  subst hl
  rw [show c :: m = [c] ++ m from rfl, decVal_append]
  have h1 := h c (by simp)
  have h2 : c.toNat ≠ 48 := fun e => hc (by rw [← UInt8.toNat_inj]; exact e)
  have h3 : decVal [c] = c.toNat - 48 := by simp [decVal]
  rw [h3]
  have : 0 < (c.toNat - 48) * 10 ^ m.length := Nat.mul_pos (by omega) (Nat.pow_pos (by decide))
  omega

/-- Just these texts are numbers' texts. -/
theorem decDigits_decVal (l : List UInt8) (h : Digs l) (hne : l ≠ []) (h0 : l.length = 1 ∨ l.head? ≠ some 48) : decDigits (decVal l) = l := by
  induction l using snoc_ind with
  | h0 => exact absurd rfl hne
  | h1 l c ih =>
    have hc := h c (by simp)
    rw [decVal_snoc]
    by_cases hl : l = []
    · subst hl
      rw [decVal_nil, Nat.zero_mul, Nat.zero_add, decDigits_one (by omega), ofNat_digit c hc]; rfl
    · have hd : Digs l := fun x hx => h x (by simp [hx])
      obtain ⟨a, m, rfl⟩ : ∃ a m, l = a :: m := by cases l with | nil => exact absurd rfl hl | cons a m => exact ⟨a, m, rfl⟩
      have ha : a ≠ 48 := by
        rcases h0 with h0 | h0
        · simp at h0
        · intro e; subst e; simp at h0
      have hp := decVal_pos _ hd a m rfl ha
      have := ih hd (by simp) (.inr (by simpa using ha))
      rw [decDigits, dif_neg (by omega), show (decVal (a :: m) * 10 + (c.toNat - 48)) / 10 = decVal (a :: m) by omega, show (decVal (a :: m) * 10 + (c.toNat - 48)) % 10 = c.toNat - 48 by omega, this, ofNat_digit c hc]

theorem decDigits_digs (n : Nat) : Digs (decDigits n) := by
  rw [decDigits_low]
  intro c hc
  obtain ⟨t, _, rfl⟩ := List.mem_map.1 hc
  unfold dg
  have := Nat.mod_lt (n / 10 ^ (nDigits n - 1 - t)) (show 0 < 10 by decide)
  rw [UInt8.toNat_ofNat']
  omega

theorem decVal_decDigits (n : Nat) : decVal (decDigits n) = n := by
  induction n using Nat.strongRecOn with
  | _ n ih =>
    by_cases h : n < 10
    · rw [decDigits_one h]
      simp only [decVal, List.foldl_cons, List.foldl_nil]
      rw [UInt8.toNat_ofNat']
      omega
    · rw [decDigits, dif_neg h, decVal_snoc, ih _ (by omega), UInt8.toNat_ofNat']
      omega

theorem decDigits_head (n : Nat) : (decDigits n).length = 1 ∨ (decDigits n).head? ≠ some 48 := by
  induction n using Nat.strongRecOn with
  | _ n ih =>
    by_cases h : n < 10
    · rw [decDigits_one h]; left; rfl
    · right
      rw [decDigits, dif_neg h]
      have hne : decDigits (n / 10) ≠ [] := by intro e; have h1 := decDigits_length (n / 10); rw [e] at h1; have := nDigits_pos (n / 10); simp at h1; omega
      rw [List.head?_append, List.head?_eq_some_head hne, Option.some_or, ← List.head?_eq_some_head hne]
      rcases ih (n / 10) (by omega) with h1 | h1
      · by_cases h2 : n / 10 < 10
        · rw [decDigits_one h2]
          intro e
          simp only [List.head?_cons, Option.some.injEq] at e
          have := congrArg UInt8.toNat e
          rw [UInt8.toNat_ofNat'] at this
          simp at this
          omega
        · exfalso
          rw [decDigits_length, nDigits_big h2] at h1
          have := nDigits_pos (n / 10 / 10)
          omega
      · exact h1

theorem decDigits_inj {a b : Nat} (h : decDigits a = decDigits b) : a = b := by rw [← decVal_decDigits a, h, decVal_decDigits]
theorem decDigits_ne (n : Nat) : decDigits n ≠ [] := by
  intro e; have h1 := decDigits_length n; rw [e] at h1; have := nDigits_pos n; simp at h1; omega

/-- A digit of base 10000 holds four decimal ones. -/
theorem dg_of_digs (n i k : Nat) (hk : k < 4) : n / 10000 ^ i % 10000 / 10 ^ k % 10 = n / 10 ^ (4 * i + k) % 10 := by
  rw [Nat.pow_add, Nat.pow_mul, show (10 : Nat) ^ 4 = 10000 by decide, ← Nat.div_div_eq_div_mul]
  generalize n / 10000 ^ i = X
  have : k = 0 ∨ k = 1 ∨ k = 2 ∨ k = 3 := by omega
  rcases this with rfl | rfl | rfl | rfl <;> simp <;> omega
end Go.Proofs.Tm
