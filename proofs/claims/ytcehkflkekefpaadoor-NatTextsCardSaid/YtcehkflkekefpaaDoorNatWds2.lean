/- Plain mathematics of words of 2^64: a round of a sum, a difference, a product, a quotient, each word of a number. Nothing of the program is imported. -/
import Derived.Test.YtcehkflkekefpaaDoorAa
namespace Go.Proofs.Tm
set_option linter.unusedVariables false
set_option maxRecDepth 20000

theorem wval_take_succ (a : List Nat) (i : Nat) : wval (a.take (i + 1)) = wval (a.take i) + 18446744073709551616 ^ i * a.getD i 0 := by
  rcases Nat.lt_or_ge i a.length with h | h
  · rw [List.take_succ_eq_append_getElem h, wval_snoc, List.length_take, Nat.min_eq_left (Nat.le_of_lt h)]
    simp [h]
  · rw [List.take_of_length_le (by omega), List.take_of_length_le h]
    simp [h]

theorem wval_set (l : List Nat) (j d : Nat) (h : j < l.length) : wval (l.set j d) + 18446744073709551616 ^ j * l.getD j 0 = wval l + 18446744073709551616 ^ j * d := by
  induction l generalizing j with
  | nil => simp at h
  | cons x l ih =>
    cases j with
    | zero => simp [wval]; omega
    | succ j =>
      have := ih j (by simpa using h)
      simp only [List.set_cons_succ, wval, List.getD_cons_succ, Nat.pow_succ]
      have e1 : 18446744073709551616 ^ j * 18446744073709551616 * l.getD j 0 = 18446744073709551616 * (18446744073709551616 ^ j * l.getD j 0) := by rw [Nat.mul_comm (18446744073709551616 ^ j) 18446744073709551616, Nat.mul_assoc]
      have e2 : 18446744073709551616 ^ j * 18446744073709551616 * d = 18446744073709551616 * (18446744073709551616 ^ j * d) := by rw [Nat.mul_comm (18446744073709551616 ^ j) 18446744073709551616, Nat.mul_assoc]
      rw [e1, e2]
      omega

/-- A round of a sum, in place. -/
theorem wadd_step (a b L : List Nat) (i c s c' : Nat) (hi : i < L.length) (hz : L.getD i 0 = 0) (h : wval L + 18446744073709551616 ^ i * c = wval (a.take i) + wval (b.take i)) (ht : s + 18446744073709551616 * c' = c + a.getD i 0 + b.getD i 0) :
    wval (L.set i s) + 18446744073709551616 ^ (i + 1) * c' = wval (a.take (i + 1)) + wval (b.take (i + 1)) := by
  have hs := wval_set L i s hi
  rw [hz] at hs
  rw [wval_take_succ, wval_take_succ, Nat.pow_succ, Nat.mul_assoc]
  have e : 18446744073709551616 ^ i * s + 18446744073709551616 ^ i * (18446744073709551616 * c') = 18446744073709551616 ^ i * c + 18446744073709551616 ^ i * a.getD i 0 + 18446744073709551616 ^ i * b.getD i 0 := by
    rw [← Nat.mul_add, ht, Nat.mul_add, Nat.mul_add]
  omega

/-- A round of a difference, in place: c is what was borrowed. -/
theorem wsub_step (a b L : List Nat) (i c d c' : Nat) (hi : i < L.length) (hz : L.getD i 0 = 0) (h : wval (a.take i) + 18446744073709551616 ^ i * c = wval L + wval (b.take i)) (hd : a.getD i 0 + 18446744073709551616 * c' = d + c + b.getD i 0) :
    wval (a.take (i + 1)) + 18446744073709551616 ^ (i + 1) * c' = wval (L.set i d) + wval (b.take (i + 1)) := by
  have hs := wval_set L i d hi
  rw [hz] at hs
  rw [wval_take_succ, wval_take_succ, Nat.pow_succ, Nat.mul_assoc]
  have e : 18446744073709551616 ^ i * a.getD i 0 + 18446744073709551616 ^ i * (18446744073709551616 * c') = 18446744073709551616 ^ i * d + 18446744073709551616 ^ i * c + 18446744073709551616 ^ i * b.getD i 0 := by
    rw [← Nat.mul_add, hd, Nat.mul_add, Nat.mul_add]
  omega

/-- A round of 'add b, taken n times, from the place f on'. -/
theorem waddt_step (b L : List Nat) (f k n o s o' V : Nat) (hj : f + k < L.length) (h : wval L + 18446744073709551616 ^ (f + k) * o = V + 18446744073709551616 ^ f * (n * wval (b.take k))) (hx : s + 18446744073709551616 * o' = L.getD (f + k) 0 + (b.getD k 0 * n + o)) :
    wval (L.set (f + k) s) + 18446744073709551616 ^ (f + (k + 1)) * o' = V + 18446744073709551616 ^ f * (n * wval (b.take (k + 1))) := by
  have hs := wval_set L (f + k) s hj
  rw [wval_take_succ, Nat.mul_add, Nat.mul_add]
  have e : 18446744073709551616 ^ (f + k) * s + 18446744073709551616 ^ (f + (k + 1)) * o' = 18446744073709551616 ^ (f + k) * L.getD (f + k) 0 + 18446744073709551616 ^ (f + k) * o + 18446744073709551616 ^ f * (n * (18446744073709551616 ^ k * b.getD k 0)) := by
    rw [← Nat.add_assoc, Nat.pow_succ, Nat.mul_assoc, ← Nat.mul_add, hx, Nat.mul_add, Nat.mul_add]
    have : 18446744073709551616 ^ (f + k) * (b.getD k 0 * n) = 18446744073709551616 ^ f * (n * (18446744073709551616 ^ k * b.getD k 0)) := by
      rw [Nat.pow_add, Nat.mul_assoc, ← Nat.mul_assoc n, Nat.mul_comm n (18446744073709551616 ^ k), Nat.mul_assoc, Nat.mul_comm n]
    omega
  omega

/-- A round of 'take b, taken n times, from the place f on': o is what is owed. -/
theorem wtaket_step (b L : List Nat) (f k n o s o' V : Nat) (hj : f + k < L.length) (h : wval L + 18446744073709551616 ^ f * (n * wval (b.take k)) = V + 18446744073709551616 ^ (f + k) * o) (hx : s + (b.getD k 0 * n + o) = L.getD (f + k) 0 + 18446744073709551616 * o') :
    wval (L.set (f + k) s) + 18446744073709551616 ^ f * (n * wval (b.take (k + 1))) = V + 18446744073709551616 ^ (f + (k + 1)) * o' := by
  have hs := wval_set L (f + k) s hj
  rw [wval_take_succ, Nat.mul_add, Nat.mul_add]
  have e : 18446744073709551616 ^ (f + k) * s + (18446744073709551616 ^ f * (n * (18446744073709551616 ^ k * b.getD k 0)) + 18446744073709551616 ^ (f + k) * o) = 18446744073709551616 ^ (f + k) * L.getD (f + k) 0 + 18446744073709551616 ^ (f + (k + 1)) * o' := by
    rw [← Nat.add_assoc f k 1, Nat.pow_succ, Nat.mul_assoc, ← Nat.mul_add, ← hx, Nat.mul_add, Nat.mul_add]
    have : 18446744073709551616 ^ (f + k) * (b.getD k 0 * n) = 18446744073709551616 ^ f * (n * (18446744073709551616 ^ k * b.getD k 0)) := by
      rw [Nat.pow_add, Nat.mul_assoc, ← Nat.mul_assoc n, Nat.mul_comm n (18446744073709551616 ^ k), Nat.mul_assoc, Nat.mul_comm n]
    omega
  omega

/-- One word more of the dividend. -/
theorem wdiv_step (a q : List Nat) (b i r d r' : Nat) (hi : i < a.length) (hq : i < q.length) (hz : q.getD i 0 = 0) (h : wval (a.drop (i + 1)) = wval (q.drop (i + 1)) * b + r) (hd : r * 18446744073709551616 + a.getD i 0 = d * b + r') :
    wval (a.drop i) = wval ((q.set i d).drop i) * b + r' := by
  have e : wval (a.drop i) = a.getD i 0 + 18446744073709551616 * wval (a.drop (i + 1)) := by
    rw [List.drop_eq_getElem_cons hi, wval]; simp [hi]
  have e1 : wval ((q.set i d).drop i) = d + 18446744073709551616 * wval (q.drop (i + 1)) := by
    rw [List.drop_eq_getElem_cons (by simpa using hq), wval, List.drop_set_of_lt (by omega)]; simp
  rw [e, e1, h, Nat.add_mul, Nat.mul_add, Nat.mul_assoc]
  omega

theorem wds_getD (n j : Nat) : (wds n).getD j 0 = n / 18446744073709551616 ^ j % 18446744073709551616 := by
  induction j generalizing n with
  | zero =>
    by_cases h : n = 0
    · subst h; rw [wds_zero]; rfl
    · rw [wds_pos n h]; simp
  | succ j ih =>
    by_cases h : n = 0
    · subst h; rw [wds_zero]; simp
    · rw [wds_pos n h, List.getD_cons_succ, ih, Nat.pow_succ, Nat.div_div_eq_div_mul, Nat.mul_comm]

theorem wds_lt_pow (n : Nat) : n < 18446744073709551616 ^ (wds n).length := by
  have := wval_lt (wds n) (wds_lt n); rwa [wval_wds] at this

theorem wds_length_le_iff (n k : Nat) : (wds n).length ≤ k ↔ n < 18446744073709551616 ^ k := by
  constructor
  · intro h
    exact Nat.lt_of_lt_of_le (wds_lt_pow n) (Nat.pow_le_pow_right (by decide) h)
  · intro h
    rcases Nat.lt_or_ge k (wds n).length with h1 | h1
    · exfalso
      obtain ⟨m, hm⟩ : ∃ m, (wds n).length = m + 1 := ⟨(wds n).length - 1, by omega⟩
      have hlast : (wds n).getD m 0 ≠ 0 := by
        clear h h1
        induction n using Nat.strongRecOn generalizing m with
        | _ n ih =>
          by_cases h : n = 0
          · subst h; rw [wds_zero] at hm; simp at hm
          · rw [wds_pos n h] at hm ⊢
            cases m with
            | zero =>
              simp at hm
              have : n / 18446744073709551616 = 0 := by
                by_cases h2 : n / 18446744073709551616 = 0
                · exact h2
                · rw [wds_pos _ h2] at hm; cases hm
              simp; omega
            | succ m =>
              rw [List.getD_cons_succ]
              exact ih _ (by omega) m (by simpa using hm)
      rw [wds_getD] at hlast
      apply hlast
      rw [Nat.div_eq_of_lt]
      exact Nat.lt_of_lt_of_le h (Nat.pow_le_pow_right (by decide) (by omega))
    · exact h1

theorem wds_length_add (a b : Nat) : (wds (a + b)).length ≤ max (wds a).length (wds b).length + 1 := by
  rw [wds_length_le_iff, Nat.pow_succ]
  have ha : a < 18446744073709551616 ^ max (wds a).length (wds b).length := (wds_length_le_iff _ _).1 (Nat.le_max_left _ _)
  have hb : b < 18446744073709551616 ^ max (wds a).length (wds b).length := (wds_length_le_iff _ _).1 (Nat.le_max_right _ _)
  omega

theorem wds_length_mul (a b : Nat) : (wds (a * b)).length ≤ (wds a).length + (wds b).length := by
  rw [wds_length_le_iff, Nat.pow_add]
  exact Nat.mul_lt_mul'' (wds_lt_pow a) (wds_lt_pow b)

theorem wds_inj {a b : Nat} (h : wds a = wds b) : a = b := by rw [← wval_wds a, h, wval_wds]
theorem wds_nil {a : Nat} : wds a = [] ↔ a = 0 := ⟨fun h => wds_inj (h.trans wds_zero.symm), fun h => by rw [h, wds_zero]⟩
theorem wds_length_zero {a : Nat} : (wds a).length = 0 ↔ a = 0 := by rw [List.length_eq_zero_iff, wds_nil]
theorem wds_one (a : Nat) (h0 : a ≠ 0) (h : a < 18446744073709551616) : wds a = [a] := by
  rw [wds_pos a h0, Nat.div_eq_of_lt h, wds_zero, Nat.mod_eq_of_lt h]
theorem wds_length_one {a : Nat} (h : (wds a).length ≤ 1) : a < 18446744073709551616 := by
  have := (wds_length_le_iff a 1).1 h; simpa using this

/-- The number of the words (X / W^i) % W. -/
theorem wval_words (X m : Nat) : wval ((List.range m).map fun i => X / 18446744073709551616 ^ i % 18446744073709551616) = X % 18446744073709551616 ^ m := by
  induction m with
  | zero => simp [wval, Nat.mod_one]
  | succ m ih =>
    rw [List.range_succ, List.map_append, wval_append, ih]
    simp only [List.map_cons, List.map_nil, wval, List.length_map, List.length_range, Nat.mul_zero, Nat.add_zero]
    rw [Nat.pow_succ, Nat.mod_mul]

theorem W_two : (18446744073709551616 : Nat) = 2 ^ 64 := by decide

/-- 64 bits of a number from a place on, out of two words. -/
theorem from_two (X s : Nat) (hs : s < 64) : X % 18446744073709551616 / 2 ^ s + (X / 18446744073709551616 % 18446744073709551616) * 2 ^ (64 - s) % 18446744073709551616 = X / 2 ^ s % 18446744073709551616 := by
  have hW : (18446744073709551616 : Nat) = 2 ^ s * 2 ^ (64 - s) := by rw [← Nat.pow_add, show s + (64 - s) = 64 by omega, W_two]
  have e1 : X % 18446744073709551616 / 2 ^ s = X / 2 ^ s % 2 ^ (64 - s) := by
    rw [hW, Nat.mod_mul, Nat.add_comm, Nat.mul_add_div (Nat.two_pow_pos s), Nat.div_eq_of_lt (Nat.mod_lt _ (Nat.two_pow_pos s))]; rfl
  have e2 : (X / 18446744073709551616 % 18446744073709551616) * 2 ^ (64 - s) % 18446744073709551616 = 2 ^ (64 - s) * (X / 2 ^ s / 2 ^ (64 - s) % 2 ^ s) := by
    have h1 : X / 18446744073709551616 = X / 2 ^ s / 2 ^ (64 - s) := by rw [Nat.div_div_eq_div_mul, ← hW]
    rw [h1]
    generalize X / 2 ^ s / 2 ^ (64 - s) = Y
    rw [Nat.mod_mul_mod, Nat.mul_comm Y, show (18446744073709551616 : Nat) = 2 ^ (64 - s) * 2 ^ s by rw [Nat.mul_comm]; exact hW, Nat.mul_mod_mul_left]
  rw [e1, e2, show X / 2 ^ s % 18446744073709551616 = X / 2 ^ s % (2 ^ (64 - s) * 2 ^ s) by rw [Nat.mul_comm, ← hW], Nat.mod_mul]

/-- The bounds of what a round of 'add n times' carries. -/
theorem over_le {s o' l x n o : Nat} (h : s + 18446744073709551616 * o' = l + (x * n + o)) (hl : l < 18446744073709551616) (hx : x < 18446744073709551616) (ho : o ≤ n) : o' ≤ n := by
  have h1 : x * n ≤ 18446744073709551615 * n := Nat.mul_le_mul_right _ (by omega)
  rcases Nat.lt_or_ge n o' with h2 | h2
  · omega
  · exact h2
theorem owed_le {s o' l x n o : Nat} (h : s + (x * n + o) = l + 18446744073709551616 * o') (hs : s < 18446744073709551616) (hx : x < 18446744073709551616) (ho : o ≤ n) : o' ≤ n := by
  have h1 : x * n ≤ 18446744073709551615 * n := Nat.mul_le_mul_right _ (by omega)
  rcases Nat.lt_or_ge n o' with h2 | h2
  · omega
  · exact h2

/-- x n + m is two words. -/
theorem tp_lt (x n m : Nat) (hx : x < 18446744073709551616) (hn : n < 18446744073709551616) (hm : m < 18446744073709551616) : (x * n + m) / 18446744073709551616 < 18446744073709551616 := by
  have : x * n ≤ 18446744073709551615 * 18446744073709551615 := Nat.mul_le_mul (by omega) (by omega)
  omega
end Go.Proofs.Tm
