/- Plain mathematics of digits of base 2^64 (words): value and digits. Nothing of the program is imported. -/
namespace Go.Proofs.Tm
set_option linter.unusedVariables false
set_option maxRecDepth 20000

/-- The value of digits of base 18446744073709551616, the lowest first. -/
def wval : List Nat → Nat
  | [] => 0
  | d :: l => d + 18446744073709551616 * wval l

/-- The digits of a number: none of them 0 at the end. -/
def wds (n : Nat) : List Nat := if h : n = 0 then [] else n % 18446744073709551616 :: wds (n / 18446744073709551616)
termination_by n
decreasing_by omega

theorem wds_zero : wds 0 = [] := by rw [wds]; simp
theorem wds_pos (n : Nat) (h : n ≠ 0) : wds n = n % 18446744073709551616 :: wds (n / 18446744073709551616) := by rw [wds]; simp [h]

theorem wval_wds (n : Nat) : wval (wds n) = n := by
  induction n using Nat.strongRecOn with
  | _ n ih =>
    by_cases h : n = 0
    · subst h; rw [wds_zero]; rfl
    · rw [wds_pos n h, wval, ih (n / 18446744073709551616) (by omega)]; omega

theorem wds_lt (n : Nat) : ∀ d ∈ wds n, d < 18446744073709551616 := by
  induction n using Nat.strongRecOn with
  | _ n ih =>
    intro d hd
    by_cases h : n = 0
    · subst h; rw [wds_zero] at hd; simp at hd
    · rw [wds_pos n h] at hd
      rcases List.mem_cons.1 hd with rfl | hd
      · exact Nat.mod_lt _ (by decide)
      · exact ih _ (by omega) d hd

theorem wval_append (l m : List Nat) : wval (l ++ m) = wval l + 18446744073709551616 ^ l.length * wval m := by
  induction l with
  | nil => simp [wval]
  | cons d l ih =>
    simp only [List.cons_append, wval, ih, List.length_cons, Nat.pow_succ]
    rw [Nat.mul_add, ← Nat.mul_assoc, Nat.mul_comm 18446744073709551616 (18446744073709551616 ^ l.length)]
    omega

theorem wval_snoc (l : List Nat) (d : Nat) : wval (l ++ [d]) = wval l + 18446744073709551616 ^ l.length * d := by rw [wval_append]; simp [wval]

theorem wval_lt (l : List Nat) (h : ∀ d ∈ l, d < 18446744073709551616) : wval l < 18446744073709551616 ^ l.length := by
  induction l with
  | nil => simp [wval]
  | cons d l ih =>
    have h1 : d < 18446744073709551616 := h d (by simp)
    have h2 := ih (fun x hx => h x (by simp [hx]))
    simp only [wval, List.length_cons, Nat.pow_succ]
    omega

theorem wval_zeros (l : List Nat) (h : ∀ d ∈ l, d = 0) : wval l = 0 := by
  induction l with
  | nil => rfl
  | cons d l ih => simp only [wval]; rw [h d (by simp), ih (fun x hx => h x (by simp [hx]))]

/-- Digits without noughts at the end are the number's. -/
theorem wds_wval (l : List Nat) (h : ∀ d ∈ l, d < 18446744073709551616) (hl : ∀ d, l.getLast? = some d → d ≠ 0) : wds (wval l) = l := by
  induction l with
  | nil => exact wds_zero
  | cons d l ih =>
    have h1 : d < 18446744073709551616 := h d (by simp)
    have hv : wval (d :: l) ≠ 0 := by
      intro h0
      simp only [wval] at h0
      have hd : d = 0 := by omega
      have hl0 : wval l = 0 := by omega
      cases l with
      | nil => exact hl d rfl hd
      | cons e m =>
        have e1 := ih (fun x hx => h x (by simp [hx])) (fun x hx => hl x (by simpa [List.getLast?_cons_cons] using hx))
        rw [hl0, wds_zero] at e1
        cases e1
    rw [wds_pos _ hv]
    simp only [wval]
    rw [show (d + 18446744073709551616 * wval l) % 18446744073709551616 = d by omega, show (d + 18446744073709551616 * wval l) / 18446744073709551616 = wval l by omega]
    cases l with
    | nil => simp [wval, wds_zero]
    | cons e m => rw [ih (fun x hx => h x (by simp [hx])) (fun x hx => hl x (by simpa [List.getLast?_cons_cons] using hx))]

/-- What trim leaves. -/
theorem fit_wds (l : List Nat) (n : Nat) (h : ∀ d ∈ l, d < 18446744073709551616) (hn : n ≤ l.length) (h1 : n = 0 ∨ l[n - 1]? ≠ some 0) (h2 : ∀ j, n ≤ j → j < l.length → l[j]? = some 0) : l.take n = wds (wval l) := by
  have hz : wval (l.drop n) = 0 := wval_zeros _ (by
    intro d hd
    obtain ⟨j, hj, rfl⟩ := List.mem_iff_getElem.1 hd
    have hj' : j < l.length - n := by simpa using hj
    have := h2 (n + j) (by omega) (by omega)
    rw [List.getElem_drop]
    rw [List.getElem?_eq_getElem (by omega)] at this
    simpa using this)
  have hv : wval l = wval (l.take n) := by
    have := wval_append (l.take n) (l.drop n)
    rw [List.take_append_drop, hz] at this
    simpa using this
  rw [hv]
  refine (wds_wval (l.take n) (fun d hd => h d (List.mem_of_mem_take hd)) ?_).symm
  intro d hd
  rcases h1 with rfl | h1
  · simp at hd
  · rintro rfl
    apply h1
    rw [List.getLast?_eq_getElem?, List.length_take, Nat.min_eq_left hn] at hd
    rw [List.getElem?_take] at hd
    split at hd
    · exact hd
    · cases hd

theorem wds_length_le {m n : Nat} (h : m ≤ n) : (wds m).length ≤ (wds n).length := by
  induction n using Nat.strongRecOn generalizing m with
  | _ n ih =>
    by_cases h0 : m = 0
    · subst h0; rw [wds_zero]; simp
    · rw [wds_pos m h0, wds_pos n (by omega), List.length_cons, List.length_cons]
      exact Nat.succ_le_succ (ih (n / 18446744073709551616) (by omega) (by omega))

theorem wds_lt_of_length {m n : Nat} (h : (wds m).length < (wds n).length) : m < n := by
  rcases Nat.lt_or_ge m n with h' | h'
  · exact h'
  · have := wds_length_le h'; omega

/-- Held against one another from above: the first unlike digit tells. -/
theorem wval_cmp (a b : List Nat) (k : Nat) (x y : Nat) (ha : ∀ d ∈ a, d < 18446744073709551616) (hb : ∀ d ∈ b, d < 18446744073709551616) (hl : a.length = b.length) (hx : a[k]? = some x) (hy : b[k]? = some y) (hxy : x < y) (he : a.drop (k + 1) = b.drop (k + 1)) : wval a < wval b := by
  have hka : k < a.length := (List.getElem?_eq_some_iff.1 hx).1
  have hkb : k < b.length := (List.getElem?_eq_some_iff.1 hy).1
  have e1 : a = a.take k ++ (x :: a.drop (k + 1)) := by
    have : a[k] = x := by rw [List.getElem?_eq_getElem hka] at hx; simpa using hx
    rw [← this, ← List.drop_eq_getElem_cons hka, List.take_append_drop]
  have e2 : b = b.take k ++ (y :: b.drop (k + 1)) := by
    have : b[k] = y := by rw [List.getElem?_eq_getElem hkb] at hy; simpa using hy
    rw [← this, ← List.drop_eq_getElem_cons hkb, List.take_append_drop]
  have v1 := wval_append (a.take k) (x :: a.drop (k + 1))
  have v2 := wval_append (b.take k) (y :: b.drop (k + 1))
  rw [← e1] at v1
  rw [← e2] at v2
  have l1 : (a.take k).length = k := by simp; omega
  have l2 : (b.take k).length = k := by simp; omega
  have t1 := wval_lt (a.take k) (fun d hd => ha d (List.mem_of_mem_take hd))
  rw [l1] at v1 t1
  rw [l2] at v2
  rw [v1, v2, ← he]
  simp only [wval]
  generalize 18446744073709551616 * wval (a.drop (k + 1)) = r at *
  have : 18446744073709551616 ^ k * (x + r) + 18446744073709551616 ^ k ≤ 18446744073709551616 ^ k * (y + r) := by
    rw [← Nat.mul_succ]; exact Nat.mul_le_mul_left _ (by omega)
  omega
end Go.Proofs.Tm
