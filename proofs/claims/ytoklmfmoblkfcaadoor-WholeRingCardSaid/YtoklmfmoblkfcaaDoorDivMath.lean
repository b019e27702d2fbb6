/- Plain mathematics of long division, a word at a time. -/
import Derived.Test.YtoklmfmoblkfcaaDoorAa
namespace Go.Proofs.Tm
set_option linter.unusedVariables false
set_option maxRecDepth 20000

/-- The words from f on, k of them, as a number. -/
def seg (L : List Nat) (f k : Nat) : Nat := wval ((L.drop f).take k)

theorem wval_parts (L : List Nat) (f k : Nat) (h : f + k ≤ L.length) : wval L = wval (L.take f) + 18446744073709551616 ^ f * (seg L f k + 18446744073709551616 ^ k * wval (L.drop (f + k))) := by
  have e1 : L = L.take f ++ (L.drop f) := (List.take_append_drop f L).symm
  have e2 : L.drop f = (L.drop f).take k ++ (L.drop f).drop k := (List.take_append_drop k _).symm
  have l1 : (L.take f).length = f := by simp; omega
  have l2 : ((L.drop f).take k).length = k := by simp; omega
  conv => lhs; rw [e1, wval_append, l1, e2, wval_append, l2, List.drop_drop]
  rfl

theorem getD_ext {A B : List Nat} (hl : A.length = B.length) (h : ∀ j, j < A.length → A.getD j 0 = B.getD j 0) : A = B := by
  apply List.ext_getElem hl
  intro i h1 h2
  have := h i h1
  simpa [h1, h2] using this

/-- What lies outside is as it was. -/
theorem outside {L L' : List Nat} {f k : Nat} (hl : L'.length = L.length) (hf : f + k ≤ L.length) (h : ∀ j, j < f ∨ f + k ≤ j → L'.getD j 0 = L.getD j 0) : L'.take f = L.take f ∧ L'.drop (f + k) = L.drop (f + k) := by
  constructor
  · refine getD_ext (by simp [hl]) (fun j hj => ?_)
    simp only [List.length_take] at hj
    have := h j (.inl (by omega))
    rw [List.getD_eq_getElem?_getD, List.getD_eq_getElem?_getD, List.getElem?_take, List.getElem?_take, if_pos (by omega), if_pos (by omega), ← List.getD_eq_getElem?_getD, ← List.getD_eq_getElem?_getD]
    exact this
  · refine getD_ext (by simp [hl]) (fun j hj => ?_)
    have := h (f + k + j) (.inr (by omega))
    rw [List.getD_eq_getElem?_getD, List.getD_eq_getElem?_getD, List.getElem?_drop, List.getElem?_drop, ← List.getD_eq_getElem?_getD, ← List.getD_eq_getElem?_getD]
    exact this

theorem seg_eq {L L' : List Nat} {f k V o : Nat} (hl : L'.length = L.length) (hf : f + k ≤ L.length) (h : ∀ j, j < f ∨ f + k ≤ j → L'.getD j 0 = L.getD j 0)
    (he : wval L' + 18446744073709551616 ^ f * V = wval L + 18446744073709551616 ^ (f + k) * o) : seg L' f k + V = seg L f k + 18446744073709551616 ^ k * o := by
  obtain ⟨h1, h2⟩ := outside hl hf h
  rw [wval_parts L f k hf, wval_parts L' f k (by omega), h1, h2, Nat.pow_add] at he
  have hp := Nat.pow_pos (n := f) (show 0 < 18446744073709551616 by decide)
  generalize 18446744073709551616 ^ f = X at *
  generalize 18446744073709551616 ^ k = Y at *
  generalize wval (L.drop (f + k)) = Z at *
  generalize wval (L.take f) = T at *
  have e : X * (seg L' f k + V) = X * (seg L f k + Y * o) := by
    have a1 : X * (seg L' f k + Y * Z) = X * seg L' f k + X * (Y * Z) := Nat.mul_add ..
    have a2 : X * (seg L f k + Y * Z) = X * seg L f k + X * (Y * Z) := Nat.mul_add ..
    have a3 : X * Y * o = X * (Y * o) := Nat.mul_assoc ..
    rw [Nat.mul_add, Nat.mul_add]
    omega
  exact Nat.eq_of_mul_eq_mul_left hp e
theorem seg_eq2 {L L' : List Nat} {f k V o : Nat} (hl : L'.length = L.length) (hf : f + k ≤ L.length) (h : ∀ j, j < f ∨ f + k ≤ j → L'.getD j 0 = L.getD j 0)
    (he : wval L' + 18446744073709551616 ^ (f + k) * o = wval L + 18446744073709551616 ^ f * V) : seg L' f k + 18446744073709551616 ^ k * o = seg L f k + V := by
  have := seg_eq (L := L') (L' := L) (f := f) (k := k) (V := V) (o := o) hl.symm (by omega) (fun j hj => (h j hj).symm) he.symm
  exact this.symm

theorem seg_lt {L : List Nat} (f k : Nat) (h : ∀ d ∈ L, d < 18446744073709551616) : seg L f k < 18446744073709551616 ^ k := by
  have h1 := wval_lt ((L.drop f).take k) (fun d hd => h d (List.mem_of_mem_drop (List.mem_of_mem_take hd)))
  exact Nat.lt_of_lt_of_le h1 (Nat.pow_le_pow_right (by decide) (by simp; omega))

theorem seg_succ (L : List Nat) (f k : Nat) : seg L f (k + 1) = seg L f k + 18446744073709551616 ^ k * L.getD (f + k) 0 := by
  unfold seg
  rw [wval_take_succ, List.getD_eq_getElem?_getD, List.getElem?_drop, ← List.getD_eq_getElem?_getD]

/-- A guessed digit is no less than the true one. -/
theorem guess_ge {X VB top low bt M : Nat} (hM : 0 < M) (hX : X < (top * 18446744073709551616 + low + 1) * M) (hB : bt * M ≤ VB) (hlt : X < VB * 18446744073709551616) (hVB : 0 < VB) :
    X / VB ≤ if bt ≤ top then 18446744073709551615 else (top * 18446744073709551616 + low) / bt := by
  split
  · have : X / VB < 18446744073709551616 := (Nat.div_lt_iff_lt_mul hVB).2 (by rw [Nat.mul_comm]; exact hlt)
    omega
  · rename_i h
    rw [Nat.le_div_iff_mul_le (by omega)]
    have h1 : X / VB * VB ≤ X := Nat.div_mul_le_self X VB
    have h2 : X / VB * (bt * M) ≤ X / VB * VB := Nat.mul_le_mul_left _ hB
    have h3 : X / VB * bt * M < (top * 18446744073709551616 + low + 1) * M := by
      rw [Nat.mul_assoc]; omega
    have h4 := Nat.lt_of_mul_lt_mul_right h3
    omega

/-- What is owed at first is not below nought. -/
theorem owed_ge {X VB d s top o Y : Nat} (hd : X / VB ≤ d) (hVB : 0 < VB) (hY : VB ≤ Y) (he : s + d * VB + Y * top = X + Y * o) : top ≤ o := by
  rcases Nat.lt_or_ge o top with h | h
  · exfalso
    obtain ⟨k, rfl⟩ : ∃ k, top = o + 1 + k := ⟨top - o - 1, by omega⟩
    have h1 : X < (d + 1) * VB := by
      have := Nat.lt_div_mul_add (a := X) hVB
      have h2 : X / VB * VB ≤ d * VB := Nat.mul_le_mul_right _ hd
      rw [Nat.add_mul]; omega
    have h3 : Y * (o + 1 + k) = Y * o + Y + Y * k := by rw [Nat.mul_add, Nat.mul_add, Nat.mul_one]
    rw [Nat.add_mul, Nat.one_mul] at h1
    have := Nat.zero_le (Y * k)
    omega
  · exact h

/-- One step of what is owed. -/
theorem owed_step {X VB d s s2 w c Y : Nat} (hVB : 0 < VB) (hs : s < Y) (hw : 0 < w) (hc : c ≤ 1) (he : s + d * VB = X + Y * w) (h2 : s2 + Y * c = s + VB) :
    1 ≤ d ∧ X / VB ≤ d - 1 ∧ c ≤ w ∧ s2 + (d - 1) * VB = X + Y * (w - c) := by
  have hw1 : Y * w = Y * (w - 1) + Y := by
    obtain ⟨v, rfl⟩ : ∃ v, w = v + 1 := ⟨w - 1, by omega⟩
    rw [Nat.add_sub_cancel, Nat.mul_add, Nat.mul_one]
  have hd1 : 1 ≤ d := by
    rcases Nat.eq_zero_or_pos d with rfl | h
    · rw [Nat.zero_mul] at he
      have := Nat.zero_le (Y * (w - 1))
      omega
    · exact h
  obtain ⟨e, rfl⟩ : ∃ e, d = e + 1 := ⟨d - 1, by omega⟩
  have hde : (e + 1) * VB = e * VB + VB := by rw [Nat.add_mul, Nat.one_mul]
  refine ⟨hd1, ?_, by omega, ?_⟩
  · have : X < (e + 1) * VB := by have := Nat.zero_le (Y * (w - 1)); omega
    have := (Nat.div_lt_iff_lt_mul hVB).2 this
    omega
  · rw [Nat.add_sub_cancel]
    rcases (by omega : c = 0 ∨ c = 1) with rfl | rfl
    · simp only [Nat.mul_zero, Nat.add_zero, Nat.sub_zero] at *; omega
    · simp only [Nat.mul_one] at *; omega

/-- Nothing is owed: the digit is the true one. -/
theorem owed_none {X VB d s : Nat} (hVB : 0 < VB) (hd : X / VB ≤ d) (he : s + d * VB = X) : d = X / VB ∧ s = X % VB := by
  have h1 : d ≤ X / VB := (Nat.le_div_iff_mul_le hVB).2 (by omega)
  have h2 : d = X / VB := by omega
  have h3 := Nat.div_add_mod X VB
  refine ⟨h2, ?_⟩
  rw [← h2, Nat.mul_comm] at h3
  omega
end Go.Proofs.Tm
