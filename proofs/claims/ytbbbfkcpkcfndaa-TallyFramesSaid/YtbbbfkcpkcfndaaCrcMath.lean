/- Plain mathematics of the sum of bytes (document layer 4). Nothing of the program is imported. -/
namespace Go.Proofs.Tm
set_option linter.unusedVariables false
set_option maxRecDepth 20000

/-- One bit's step of the sum: halved; the polynomial, if the bit that fell out is set. -/
def stp (c : Nat) : Nat := (c / 2) ^^^ (if c % 2 = 1 then 3988292384 else 0)
/-- So many steps. -/
def stpN : Nat → Nat → Nat
  | 0, c => c
  | k + 1, c => stp (stpN k c)

theorem stp_xor (a b : Nat) : stp (a ^^^ b) = stp a ^^^ stp b := by
  unfold stp
  rw [Nat.xor_div_two]
  have h := Nat.xor_mod_two_eq_one (a := a) (b := b)
  rcases Nat.mod_two_eq_zero_or_one a with ha | ha <;> rcases Nat.mod_two_eq_zero_or_one b with hb | hb <;> simp only [ha, hb, h] <;> simp
  · rw [Nat.xor_assoc]
  · rw [Nat.xor_assoc, Nat.xor_assoc, Nat.xor_comm (b / 2)]
  · apply Nat.eq_of_testBit_eq; intro i; simp; cases (a/2).testBit i <;> cases (b/2).testBit i <;> cases (Nat.testBit 3988292384 i) <;> rfl

theorem stpN_xor (k a b : Nat) : stpN k (a ^^^ b) = stpN k a ^^^ stpN k b := by
  induction k with
  | zero => rfl
  | succ k ih => simp only [stpN, ih, stp_xor]

theorem stpN_zero (k : Nat) : stpN k 0 = 0 := by
  induction k with
  | zero => rfl
  | succ k ih => simp [stpN, ih]; rfl

theorem stpN_add (i j c : Nat) : stpN (i + j) c = stpN i (stpN j c) := by
  induction i with
  | zero => simp [stpN]
  | succ i ih => rw [show i + 1 + j = i + j + 1 by omega]; simp only [stpN, ih]

theorem stp_lt (c : Nat) (h : c < 4294967296) : stp c < 4294967296 := by
  unfold stp
  refine Nat.xor_lt_two_pow (n := 32) (by omega) ?_
  split <;> decide
theorem stpN_lt (k c : Nat) (h : c < 4294967296) : stpN k c < 4294967296 := by
  induction k with
  | zero => exact h
  | succ k ih => exact stp_lt _ ih

theorem stp_eq_zero (c : Nat) (h : c < 4294967296) (h0 : stp c = 0) : c = 0 := by
  unfold stp at h0
  split at h0
  · exfalso
    have h1 : c / 2 < 2147483648 := by omega
    have h2 : (c / 2) = 3988292384 := by
      have := congrArg (· ^^^ 3988292384) h0
      simpa [Nat.xor_assoc] using this
    omega
  · simp at h0; omega
theorem stpN_eq_zero (k c : Nat) (h : c < 4294967296) (h0 : stpN k c = 0) : c = 0 := by
  induction k with
  | zero => exact h0
  | succ k ih => exact ih (stp_eq_zero _ (stpN_lt k c h) h0)

theorem xor_eq_zero (a b : Nat) (h : a ^^^ b = 0) : a = b := by
  have := congrArg (· ^^^ b) h
  simpa [Nat.xor_assoc] using this

theorem stpN_inj (k a b : Nat) (ha : a < 4294967296) (hb : b < 4294967296) (h : stpN k a = stpN k b) : a = b := by
  have h1 : stpN k (a ^^^ b) = 0 := by rw [stpN_xor, h]; simp
  exact xor_eq_zero _ _ (stpN_eq_zero k _ (Nat.xor_lt_two_pow (n := 32) ha hb) h1)

theorem stp_even (c : Nat) (h : c % 2 = 0) : stp c = c / 2 := by unfold stp; rw [if_neg (by omega)]; simp
theorem stpN_shift (k c : Nat) : stpN k (c * 2 ^ k) = c := by
  induction k generalizing c with
  | zero => simp [stpN]
  | succ k ih =>
    rw [show c * 2 ^ (k + 1) = (2 * c) * 2 ^ k by rw [Nat.pow_succ, Nat.mul_comm 2 c, Nat.mul_assoc, Nat.mul_comm 2]]
    simp only [stpN, ih]
    rw [stp_even _ (by omega)]; omega

/-- A byte goes into the sum. -/
def crcF (c x : Nat) : Nat := stpN 8 (c ^^^ x)
theorem crcF_lt (c x : Nat) (hc : c < 4294967296) (hx : x < 256) : crcF c x < 4294967296 := stpN_lt 8 _ (Nat.xor_lt_two_pow (n := 32) hc (by omega))

theorem crcF_xor (c d x y : Nat) : crcF (c ^^^ d) (x ^^^ y) = crcF c x ^^^ crcF d y := by
  unfold crcF
  rw [← stpN_xor]
  congr 1
  apply Nat.eq_of_testBit_eq; intro i; simp
  cases c.testBit i <;> cases d.testBit i <;> cases x.testBit i <;> cases y.testBit i <;> rfl

/-- By the table: what the lowest byte, xor x, is turned to, xor the rest. -/
theorem crcF_table (c x : Nat) (hx : x < 256) : crcF c x = stpN 8 ((c % 256) ^^^ x) ^^^ (c / 256) := by
  have h : c ^^^ x = ((c % 256) ^^^ x) ^^^ (c / 256) * 2 ^ 8 := by
    apply Nat.eq_of_testBit_eq
    intro i
    simp only [Nat.testBit_xor]
    rw [show (256 : Nat) = 2 ^ 8 from rfl, Nat.testBit_mod_two_pow, Nat.testBit_mul_two_pow, Nat.testBit_div_two_pow]
    by_cases hi : i < 8
    · simp [hi, show ¬ 8 ≤ i by omega]
    · have : x.testBit i = false := Nat.testBit_lt_two_pow (Nat.lt_of_lt_of_le hx (Nat.pow_le_pow_right (n := 2) (i := 8) (j := i) (by decide) (by omega)))
      simp [hi, this, show 8 ≤ i by omega, show i - 8 + 8 = i by omega]
  unfold crcF
  rw [h, stpN_xor, stpN_shift]

/-- Bit by bit: k of the byte's bits. -/
theorem crc_bits (c x k : Nat) : stpN (k + 1) (c ^^^ (x % 2 ^ (k + 1))) = stp (stpN k (c ^^^ (x % 2 ^ k)) ^^^ (x / 2 ^ k % 2)) := by
  have h : c ^^^ (x % 2 ^ (k + 1)) = (c ^^^ (x % 2 ^ k)) ^^^ (x / 2 ^ k % 2) * 2 ^ k := by
    apply Nat.eq_of_testBit_eq
    intro i
    simp only [Nat.testBit_xor, Nat.testBit_mod_two_pow, Nat.testBit_mul_two_pow]
    rcases Nat.lt_trichotomy i k with hi | hi | hi
    · simp [hi, show i < k + 1 by omega, show ¬ k ≤ i by omega]
    · subst hi
      simp only [Nat.lt_irrefl, Nat.lt_succ_self, decide_true, decide_false, Bool.true_and, Bool.false_and, Nat.le_refl, Nat.sub_self, Bool.xor_false]
      rw [Nat.testBit_eq_decide_div_mod_eq (x := x), Nat.testBit_zero]
      simp
    · have h1 : (x / 2 ^ k % 2).testBit (i - k) = false := Nat.testBit_lt_two_pow (Nat.lt_of_lt_of_le (Nat.mod_lt _ (by decide)) (by
        have : 2 ^ 1 ≤ 2 ^ (i - k) := Nat.pow_le_pow_right (by decide) (by omega)
        simpa using this))
      simp [show ¬ i < k + 1 by omega, show ¬ i < k by omega, h1]
  show stp (stpN k _) = _
  rw [h, stpN_xor, stpN_shift]

/-- The document's own step, out of the bit that fell out and the byte's. -/
theorem ref_step (c b : Nat) (hb : b < 2) : stp (c ^^^ b) = if c % 2 ≠ b then (c / 2) ^^^ 3988292384 else c / 2 := by
  have h1 : (c ^^^ b) / 2 = c / 2 := by rw [Nat.xor_div_two, show b / 2 = 0 by omega]; simp
  have h2 := Nat.xor_mod_two_eq_one (a := c) (b := b)
  unfold stp
  rw [h1]
  by_cases h : c % 2 = b
  · have : ¬ (c ^^^ b) % 2 = 1 := by rw [h2]; omega
    simp [h, this]
  · have : (c ^^^ b) % 2 = 1 := by rw [h2]; omega
    simp [h, this]

/-- The sum of bytes behind c. -/
def crcL (c : Nat) (l : List Nat) : Nat := l.foldl crcF c
theorem crcL_append (c : Nat) (l m : List Nat) : crcL c (l ++ m) = crcL (crcL c l) m := by simp [crcL, List.foldl_append]
theorem crcL_snoc (c : Nat) (l : List Nat) (x : Nat) : crcL c (l ++ [x]) = crcF (crcL c l) x := by simp [crcL]
theorem crcL_lt (c : Nat) (l : List Nat) (hc : c < 4294967296) (h : ∀ b ∈ l, b < 256) : crcL c l < 4294967296 := by
  induction l generalizing c with
  | nil => exact hc
  | cons x l ih => exact ih _ (crcF_lt c x hc (h x (by simp))) (fun b hb => h b (by simp [hb]))

def sumL (l : List Nat) : Nat := 4294967295 - crcL 4294967295 l
theorem sumL_lt (l : List Nat) : sumL l < 4294967296 := by unfold sumL; omega

theorem compl_xor (c : Nat) (h : c < 4294967296) : 4294967295 - c = c ^^^ 4294967295 := by
  have h1 : 2 ^ 32 - (c + 1) = 4294967295 - c := by omega
  apply Nat.eq_of_testBit_eq
  intro i
  rw [← h1, Nat.testBit_two_pow_sub_succ (n := 32) (by omega), Nat.testBit_xor, show (4294967295 : Nat) = 2 ^ 32 - 1 from rfl, Nat.testBit_two_pow_sub_one]
  by_cases hi : i < 32
  · simp [hi]
  · have : c.testBit i = false := Nat.testBit_lt_two_pow (Nat.lt_of_lt_of_le (show c < 2 ^ 32 from h) (Nat.pow_le_pow_right (by decide) (by omega)))
    simp [hi, this]

theorem crcL_affine (a b c : Nat) (l m n : List Nat) (hl : l.length = m.length) (hm : m.length = n.length) :
    crcL (a ^^^ b ^^^ c) (List.zipWith (· ^^^ ·) (List.zipWith (· ^^^ ·) l m) n) = crcL a l ^^^ crcL b m ^^^ crcL c n := by
  induction l generalizing a b c m n with
  | nil =>
    obtain rfl : m = [] := List.eq_nil_of_length_eq_zero hl.symm
    obtain rfl : n = [] := List.eq_nil_of_length_eq_zero hm.symm
    rfl
  | cons x l ih =>
    cases m with
    | nil => simp at hl
    | cons y m =>
      cases n with
      | nil => simp at hm
      | cons z n =>
        simp only [List.zipWith_cons_cons, crcL, List.foldl_cons]
        rw [crcF_xor, crcF_xor]
        exact ih _ _ _ m n (by simpa using hl) (by simpa using hm)

/-- From unlike sums, like bytes: unlike sums. -/
theorem crcL_inj (a b : Nat) (l : List Nat) (ha : a < 4294967296) (hb : b < 4294967296) (hl : ∀ x ∈ l, x < 256) (h : crcL a l = crcL b l) : a = b := by
  induction l generalizing a b with
  | nil => exact h
  | cons x l ih =>
    have h1 := ih _ _ (crcF_lt a x ha (hl x (by simp))) (crcF_lt b x hb (hl x (by simp))) (fun y hy => hl y (by simp [hy])) h
    have hx : x < 256 := hl x (by simp)
    have h2 := stpN_inj 8 _ _ (Nat.xor_lt_two_pow (n := 32) ha (by omega)) (Nat.xor_lt_two_pow (n := 32) hb (by omega)) h1
    have := congrArg (· ^^^ x) h2
    simpa [Nat.xor_assoc] using this

/-- The difference alone goes on. -/
theorem crcL_diff (a d : Nat) (l : List Nat) : crcL (a ^^^ d) l = crcL a l ^^^ stpN (8 * l.length) d := by
  induction l generalizing a d with
  | nil => rfl
  | cons x l ih =>
    show crcL (crcF (a ^^^ d) x) l = _
    have : crcF (a ^^^ d) x = crcF a x ^^^ stpN 8 d := by
      have := crcF_xor a d x 0
      simp only [Nat.xor_zero] at this
      rw [this]; unfold crcF; simp
    rw [this, ih, ← stpN_add, List.length_cons]
    rfl
end Go.Proofs.Tm
