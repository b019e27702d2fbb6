/- Plain mathematics of digits of base 10000 (the document's own numbers of layer 5): value and digits. Nothing of the program is imported. -/
namespace Go.Proofs.Tm
set_option linter.unusedVariables false
set_option maxRecDepth 20000

/-- The value of digits of base 10000, the lowest first. -/
def dval : List Nat → Nat
  | [] => 0
  | d :: l => d + 10000 * dval l

/-- The digits of a number: none of them 0 at the end. -/
def digs (n : Nat) : List Nat := if h : n = 0 then [] else n % 10000 :: digs (n / 10000)
termination_by n
decreasing_by omega

theorem digs_zero : digs 0 = [] := by rw [digs]; simp
theorem digs_pos (n : Nat) (h : n ≠ 0) : digs n = n % 10000 :: digs (n / 10000) := by rw [digs]; simp [h]

theorem dval_digs (n : Nat) : dval (digs n) = n := by
  induction n using Nat.strongRecOn with
  | _ n ih =>
    by_cases h : n = 0
    · subst h; rw [digs_zero]; rfl
    · rw [digs_pos n h, dval, ih (n / 10000) (by omega)]; omega

theorem digs_lt (n : Nat) : ∀ d ∈ digs n, d < 10000 := by
  induction n using Nat.strongRecOn with
  | _ n ih =>
    intro d hd
    by_cases h : n = 0
    · subst h; rw [digs_zero] at hd; simp at hd
    · rw [digs_pos n h] at hd
      rcases List.mem_cons.1 hd with rfl | hd
      · exact Nat.mod_lt _ (by decide)
      · exact ih _ (by omega) d hd

theorem dval_append (l m : List Nat) : dval (l ++ m) = dval l + 10000 ^ l.length * dval m := by
  induction l with
  | nil => simp [dval]
  | cons d l ih =>
    simp only [List.cons_append, dval, ih, List.length_cons, Nat.pow_succ]
    rw [Nat.mul_add, ← Nat.mul_assoc, Nat.mul_comm 10000 (10000 ^ l.length)]
    omega

theorem dval_snoc (l : List Nat) (d : Nat) : dval (l ++ [d]) = dval l + 10000 ^ l.length * d := by rw [dval_append]; simp [dval]

theorem dval_lt (l : List Nat) (h : ∀ d ∈ l, d < 10000) : dval l < 10000 ^ l.length := by
  induction l with
  | nil => simp [dval]
  | cons d l ih =>
    have h1 : d < 10000 := h d (by simp)
    have h2 := ih (fun x hx => h x (by simp [hx]))
    simp only [dval, List.length_cons, Nat.pow_succ]
    omega

theorem dval_zeros (l : List Nat) (h : ∀ d ∈ l, d = 0) : dval l = 0 := by
  induction l with
  | nil => rfl
  | cons d l ih => simp only [dval]; rw [h d (by simp), ih (fun x hx => h x (by simp [hx]))]

/-- Digits without noughts at the end are the number's. -/
theorem digs_dval (l : List Nat) (h : ∀ d ∈ l, d < 10000) (hl : ∀ d, l.getLast? = some d → d ≠ 0) : digs (dval l) = l := by
  induction l with
  | nil => exact digs_zero
  | cons d l ih =>
    have h1 : d < 10000 := h d (by simp)
    have hv : dval (d :: l) ≠ 0 := by
      intro h0
      simp only [dval] at h0
      have hd : d = 0 := by omega
      have hl0 : dval l = 0 := by omega
      cases l with
      | nil => exact hl d rfl hd
      | cons e m =>
        have e1 := ih (fun x hx => h x (by simp [hx])) (fun x hx => hl x (by simpa [List.getLast?_cons_cons] using hx))
        rw [hl0, digs_zero] at e1
        cases e1
    rw [digs_pos _ hv]
    simp only [dval]
    rw [show (d + 10000 * dval l) % 10000 = d by omega, show (d + 10000 * dval l) / 10000 = dval l by omega]
    cases l with
    | nil => simp [dval, digs_zero]
    | cons e m => rw [ih (fun x hx => h x (by simp [hx])) (fun x hx => hl x (by simpa [List.getLast?_cons_cons] using hx))]

/-- What trim leaves. -/
theorem trim_digs (l : List Nat) (n : Nat) (h : ∀ d ∈ l, d < 10000) (hn : n ≤ l.length) (h1 : n = 0 ∨ l[n - 1]? ≠ some 0) (h2 : ∀ j, n ≤ j → j < l.length → l[j]? = some 0) : l.take n = digs (dval l) := by
  have hz : dval (l.drop n) = 0 := dval_zeros _ (by
    intro d hd
    obtain ⟨j, hj, rfl⟩ := List.mem_iff_getElem.1 hd
    have hj' : j < l.length - n := by simpa using hj
    have := h2 (n + j) (by omega) (by omega)
    rw [List.getElem_drop]
    rw [List.getElem?_eq_getElem (by omega)] at this
    simpa using this)
  have hv : dval l = dval (l.take n) := by
    have := dval_append (l.take n) (l.drop n)
    rw [List.take_append_drop, hz] at this
    simpa using this
  rw [hv]
  refine (digs_dval (l.take n) (fun d hd => h d (List.mem_of_mem_take hd)) ?_).symm
  intro d hd
  rcases h1 with rfl | h1
  · simp at hd
  · rintro rfl
    apply h1
    rw [List.getLast?_eq_getElem?, List.length_take, Nat.min_eq_left hn] at hd
    rw [List.getElem?_take] at hd
    split at hd
    · exact hd
    · cases hd

theorem digs_length_le {m n : Nat} (h : m ≤ n) : (digs m).length ≤ (digs n).length := by
  induction n using Nat.strongRecOn generalizing m with
  | _ n ih =>
    by_cases h0 : m = 0
    · subst h0; rw [digs_zero]; simp
    · rw [digs_pos m h0, digs_pos n (by omega), List.length_cons, List.length_cons]
      exact Nat.succ_le_succ (ih (n / 10000) (by omega) (by omega))

theorem digs_lt_of_length {m n : Nat} (h : (digs m).length < (digs n).length) : m < n := by
  rcases Nat.lt_or_ge m n with h' | h'
  · exact h'
  · have := digs_length_le h'; omega

/-- Held against one another from above: the first unlike digit tells. -/
theorem dval_cmp (a b : List Nat) (k : Nat) (x y : Nat) (ha : ∀ d ∈ a, d < 10000) (hb : ∀ d ∈ b, d < 10000) (hl : a.length = b.length) (hx : a[k]? = some x) (hy : b[k]? = some y) (hxy : x < y) (he : a.drop (k + 1) = b.drop (k + 1)) : dval a < dval b := by
  have hka : k < a.length := (List.getElem?_eq_some_iff.1 hx).1
  have hkb : k < b.length := (List.getElem?_eq_some_iff.1 hy).1
  have e1 : a = a.take k ++ (x :: a.drop (k + 1)) := by
    have : a[k] = x := by rw [List.getElem?_eq_getElem hka] at hx; simpa using hx
    rw [← this, ← List.drop_eq_getElem_cons hka, List.take_append_drop]
  have e2 : b = b.take k ++ (y :: b.drop (k + 1)) := by
    have : b[k] = y := by rw [List.getElem?_eq_getElem hkb] at hy; simpa using hy
    rw [← this, ← List.drop_eq_getElem_cons hkb, List.take_append_drop]
  have v1 := dval_append (a.take k) (x :: a.drop (k + 1))
  have v2 := dval_append (b.take k) (y :: b.drop (k + 1))
  rw [← e1] at v1
  rw [← e2] at v2
  have l1 : (a.take k).length = k := by simp; omega
  have l2 : (b.take k).length = k := by simp; omega
  have t1 := dval_lt (a.take k) (fun d hd => ha d (List.mem_of_mem_take hd))
  rw [l1] at v1 t1
  rw [l2] at v2
  rw [v1, v2, ← he]
  simp only [dval]
  generalize 10000 * dval (a.drop (k + 1)) = r at *
  have : 10000 ^ k * (x + r) + 10000 ^ k ≤ 10000 ^ k * (y + r) := by
    rw [← Nat.mul_succ]; exact Nat.mul_le_mul_left _ (by omega)
  omega
end Go.Proofs.Tm
