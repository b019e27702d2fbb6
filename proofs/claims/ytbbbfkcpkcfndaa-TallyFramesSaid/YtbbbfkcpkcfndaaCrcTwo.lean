/- Plain mathematics of the sum of bytes: two bytes that are spoilt. -/
import Derived.Test.YtbbbfkcpkcfndaaCrcMath
namespace Go.Proofs.Tm
set_option linter.unusedVariables false
set_option maxRecDepth 20000

/-- Two bytes that are spoilt: what is xored. -/
def spoil (i k j : Nat) : Nat := if j = i then 85 else if j = k then 170 else 0
def eL (m i k : Nat) : List Nat := (List.range m).map (spoil i k)
/-- Four bytes, the highest first. -/
def be4 (s : Nat) : List Nat := [s / 16777216, s / 65536 % 256, s / 256 % 256, s % 256]

theorem spoil_lt (i k j : Nat) : spoil i k j < 256 := by unfold spoil; split; decide; split <;> decide
theorem eL_lt (m i k : Nat) : ∀ b ∈ eL m i k, b < 256 := by
  intro b hb; obtain ⟨j, _, rfl⟩ := List.mem_map.1 hb; exact spoil_lt _ _ _

theorem crcL_zip (c d : Nat) (l e : List Nat) (h : l.length = e.length) : crcL (c ^^^ d) (List.zipWith (· ^^^ ·) l e) = crcL c l ^^^ crcL d e := by
  induction l generalizing c d e with
  | nil =>
    obtain rfl : e = [] := List.eq_nil_of_length_eq_zero h.symm
    rfl
  | cons x l ih =>
    cases e with
    | nil => simp at h
    | cons y e =>
      simp only [List.zipWith_cons_cons, crcL, List.foldl_cons]
      rw [crcF_xor]
      exact ih _ _ e (by simpa using h)

theorem crcL_zeros (l : List Nat) (h : ∀ b ∈ l, b = 0) (d : Nat) : crcL d l = stpN (8 * l.length) d := by
  induction l generalizing d with
  | nil => rfl
  | cons x l ih =>
    have hx : x = 0 := h x (by simp)
    subst hx
    show crcL (crcF d 0) l = _
    rw [ih (fun b hb => h b (by simp [hb]))]
    unfold crcF
    rw [Nat.xor_zero, ← stpN_add, List.length_cons]; rfl

theorem eL_shift (m a i k : Nat) (h : a ≤ m) : crcL 0 (eL m (a + i) (a + k)) = crcL 0 (eL (m - a) i k) := by
  obtain ⟨q, rfl⟩ := Nat.exists_eq_add_of_le h
  have e : eL (a + q) (a + i) (a + k) = (List.range a).map (spoil (a + i) (a + k)) ++ eL q i k := by
    unfold eL
    rw [List.range_add, List.map_append, List.map_map]
    congr 1
    refine List.map_congr_left fun j _ => ?_
    simp [spoil]
  have hz : crcL 0 ((List.range a).map (spoil (a + i) (a + k))) = 0 := by
    rw [crcL_zeros _ (by
      intro b hb
      obtain ⟨j, hj, rfl⟩ := List.mem_map.1 hb
      have := List.mem_range.1 hj
      unfold spoil; rw [if_neg (by omega), if_neg (by omega)]), stpN_zero]
  rw [e, crcL_append, hz, show a + q - a = q by omega]

theorem be4_xor (s t : Nat) (hs : s < 4294967296) (ht : t < 4294967296) : be4 (s ^^^ t) = List.zipWith (· ^^^ ·) (be4 s) (be4 t) := by
  have d : ∀ p, (s ^^^ t) / 2 ^ p = s / 2 ^ p ^^^ t / 2 ^ p := fun p => by
    apply Nat.eq_of_testBit_eq; intro i; simp [Nat.testBit_div_two_pow]
  have m : ∀ x y : Nat, (x ^^^ y) % 2 ^ 8 = x % 2 ^ 8 ^^^ y % 2 ^ 8 := fun x y => by
    apply Nat.eq_of_testBit_eq; intro i
    simp only [Nat.testBit_mod_two_pow, Nat.testBit_xor]
    cases decide (i < 8) <;> simp
  have d24 := d 24
  have d16 := d 16
  have d8 := d 8
  have m16 := m (s / 2 ^ 16) (t / 2 ^ 16)
  have m8 := m (s / 2 ^ 8) (t / 2 ^ 8)
  have m0 := m s t
  rw [← d16] at m16
  rw [← d8] at m8
  simp only [be4, List.zipWith_cons_cons, List.zipWith_nil_left]
  simp only [show (2 : Nat) ^ 24 = 16777216 from rfl, show (2 : Nat) ^ 16 = 65536 from rfl, show (2 : Nat) ^ 8 = 256 from rfl] at d24 m16 m8 m0
  rw [d24, m16, m8, m0]

theorem be4_zero (s : Nat) (hs : s < 4294967296) (h : be4 s = [0, 0, 0, 0]) : s = 0 := by
  simp only [be4, List.cons.injEq, and_true] at h; omega

/-- Near ones: what is checked one by one. -/
theorem near_ne (i k q : Nat) (h : i ≤ 3 ∧ k ≤ 3 ∧ (i = 0 ∨ k = 0)) (hq : 1 ≤ q) : be4 (crcL 0 (eL q i k)) ≠ (List.range 4).map fun j => spoil i k (q + j) := by
  obtain ⟨h1, h2, h3⟩ := h
  rcases Nat.lt_or_ge q 4 with hq4 | hq4
  · have hc : (q = 1 ∨ q = 2 ∨ q = 3) ∧ ((i = 0 ∧ k = 0) ∨ (i = 0 ∧ k = 1) ∨ (i = 0 ∧ k = 2) ∨ (i = 0 ∧ k = 3) ∨ (i = 1 ∧ k = 0) ∨ (i = 2 ∧ k = 0) ∨ (i = 3 ∧ k = 0)) := by omega
    obtain ⟨rfl | rfl | rfl, ⟨rfl, rfl⟩ | ⟨rfl, rfl⟩ | ⟨rfl, rfl⟩ | ⟨rfl, rfl⟩ | ⟨rfl, rfl⟩ | ⟨rfl, rfl⟩ | ⟨rfl, rfl⟩⟩ := hc <;> decide +kernel
  · intro he
    obtain ⟨r, rfl⟩ := Nat.exists_eq_add_of_le hq4
    have e : eL (4 + r) i k = eL 4 i k ++ (List.range r).map fun j => spoil i k (4 + j) := by
      unfold eL; rw [List.range_add, List.map_append, List.map_map]; rfl
    have hz : ∀ j, spoil i k (4 + j) = 0 := fun j => by unfold spoil; rw [if_neg (by omega), if_neg (by omega)]
    have h0 : ((List.range 4).map fun j => spoil i k (4 + r + j)) = [0, 0, 0, 0] := by
      simp only [Nat.add_assoc, hz]; rfl
    rw [h0] at he
    have hl : crcL 0 (eL (4 + r) i k) < 4294967296 := crcL_lt 0 _ (by decide) (eL_lt _ _ _)
    have hD := be4_zero _ hl he
    rw [e, crcL_append, crcL_zeros _ (by intro b hb; obtain ⟨j, _, rfl⟩ := List.mem_map.1 hb; exact hz j)] at hD
    have hE := stpN_eq_zero _ _ (crcL_lt 0 _ (by decide) (eL_lt 4 i k)) hD
    have hc : ((i = 0 ∧ k = 0) ∨ (i = 0 ∧ k = 1) ∨ (i = 0 ∧ k = 2) ∨ (i = 0 ∧ k = 3) ∨ (i = 1 ∧ k = 0) ∨ (i = 2 ∧ k = 0) ∨ (i = 3 ∧ k = 0)) := by omega
    revert hE
    obtain ⟨rfl, rfl⟩ | ⟨rfl, rfl⟩ | ⟨rfl, rfl⟩ | ⟨rfl, rfl⟩ | ⟨rfl, rfl⟩ | ⟨rfl, rfl⟩ | ⟨rfl, rfl⟩ := hc <;> decide +kernel

/-- .. wherever they are. -/
theorem two_ne (n i k : Nat) (hi : i < n + 4) (hk : k < n + 4) (h1 : k ≤ i + 3) (h2 : i ≤ k + 3) : be4 (crcL 0 (eL n i k)) ≠ (List.range 4).map fun j => spoil i k (n + j) := by
  obtain ⟨a, ha⟩ : ∃ a, a = min i k := ⟨_, rfl⟩
  obtain ⟨i', rfl⟩ := Nat.exists_eq_add_of_le (show a ≤ i by omega)
  obtain ⟨k', rfl⟩ := Nat.exists_eq_add_of_le (show a ≤ k by omega)
  rcases Nat.lt_or_ge a n with h | h
  · rw [eL_shift n a i' k' (by omega)]
    have := near_ne i' k' (n - a) (by omega) (by omega)
    intro he
    apply this
    rw [he]
    refine List.map_congr_left fun j _ => ?_
    unfold spoil
    congr 1
    · simp; omega
    · congr 1; simp; omega
  · intro he
    have hz : crcL 0 (eL n (a + i') (a + k')) = 0 := by
      rw [crcL_zeros _ (by
        intro b hb
        obtain ⟨j, hj, rfl⟩ := List.mem_map.1 hb
        have := List.mem_range.1 hj
        unfold spoil; rw [if_neg (by omega), if_neg (by omega)]), stpN_zero]
    rw [hz] at he
    have e1 := congrArg (fun l => l[a - n]?) he
    simp only [List.getElem?_map] at e1
    rw [List.getElem?_range (show a - n < 4 by omega)] at e1
    simp only [Option.map_some, show n + (a - n) = a by omega] at e1
    have e2 : spoil (a + i') (a + k') a ≠ 0 := by
      unfold spoil
      split
      · decide
      · rw [if_pos (by omega)]; decide
    have e3 : (be4 0)[a - n]? = some 0 := by
      rcases (show a - n = 0 ∨ a - n = 1 ∨ a - n = 2 ∨ a - n = 3 by omega) with h | h | h | h <;> rw [h] <;> rfl
    rw [e3] at e1
    exact e2 (by simpa using e1.symm)
end Go.Proofs.Tm
