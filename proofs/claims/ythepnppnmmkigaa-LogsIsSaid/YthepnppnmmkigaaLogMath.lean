/- Plain mathematics of logarithms of two as fixed numbers (layer 8). Nothing of the program is imported. -/
namespace Go.Proofs.Tm
set_option linter.unusedVariables false
set_option maxRecDepth 20000

/-- One bit more of a logarithm: what stands already, and the number on the way. -/
def lgStep (p : Nat × Nat) : Nat × Nat :=
  let y := p.2 * p.2 / 4611686018427387904
  if y < 9223372036854775808 then (2 * p.1, y) else (2 * p.1 + 1, y / 2)
def lgRun : Nat → Nat × Nat → Nat × Nat
  | 0, p => p
  | k + 1, p => lgRun k (lgStep p)
/-- The number brought among 1 and 2 to the 40. -/
def lgIn (n : Int) : Nat := if n < 1 then 1 else if n > 1099511627776 then 1099511627776 else n.toNat
def lgOf (n : Nat) : Nat := (lgRun 28 (n.log2, n * 2 ^ (62 - n.log2))).1
def lgF (n : Int) : Nat := lgOf (lgIn n)

theorem lgRun_succ (k : Nat) : ∀ p, lgRun (k + 1) p = lgStep (lgRun k p) := by
  induction k with
  | zero => intro p; rfl
  | succ k ih => intro p; show lgRun (k + 1) (lgStep p) = _; rw [ih]; rfl

/-- Numbers on the way lie at 2^62 and above, and below 2^63. -/
def LgOk (x : Nat) : Prop := 4611686018427387904 ≤ x ∧ x < 9223372036854775808

theorem lg_y {x : Nat} (h : LgOk x) : 4611686018427387904 ≤ x * x / 4611686018427387904 ∧ x * x / 4611686018427387904 < 18446744073709551616 := by
  obtain ⟨h1, h2⟩ := h
  have a := Nat.mul_le_mul h1 h1
  have b : x * x < 9223372036854775808 * 9223372036854775808 := by
    have := Nat.mul_le_mul (show x ≤ 9223372036854775807 by omega) (show x ≤ 9223372036854775807 by omega)
    omega
  constructor
  · rw [Nat.le_div_iff_mul_le (by decide)]; exact a
  · rw [Nat.div_lt_iff_lt_mul (by decide)]; exact b

theorem lgStep_ok {p : Nat × Nat} (h : LgOk p.2) : LgOk (lgStep p).2 := by
  obtain ⟨h1, h2⟩ := lg_y h
  unfold lgStep
  simp only
  generalize p.2 * p.2 / 4611686018427387904 = y at *
  split <;> exact ⟨by simp only; omega, by simp only; omega⟩

theorem lgRun_ok (k : Nat) {p : Nat × Nat} (h : LgOk p.2) : LgOk (lgRun k p).2 := by
  induction k with
  | zero => exact h
  | succ k ih => rw [lgRun_succ]; exact lgStep_ok ih

theorem lg_start (n : Nat) (h1 : 1 ≤ n) (h2 : n < 2 ^ 62) : LgOk (n * 2 ^ (62 - n.log2)) := by
  have a := Nat.log2_self_le (show n ≠ 0 by omega)
  have b : n < 2 ^ (n.log2 + 1) := Nat.lt_log2_self
  have c : n.log2 < 62 := (Nat.log2_lt (by omega)).2 h2
  have e : 2 ^ n.log2 * 2 ^ (62 - n.log2) = 4611686018427387904 := by rw [← Nat.pow_add, show n.log2 + (62 - n.log2) = 62 by omega]
  have f : 2 ^ (n.log2 + 1) * 2 ^ (62 - n.log2) = 9223372036854775808 := by rw [← Nat.pow_add, show n.log2 + 1 + (62 - n.log2) = 63 by omega]
  refine ⟨?_, ?_⟩
  · rw [← e]; exact Nat.mul_le_mul_right _ a
  · rw [← f]; exact Nat.mul_lt_mul_of_pos_right b (Nat.two_pow_pos _)

/-- So many whole ones more. -/
theorem lgRun_more (c : Nat) : ∀ k a x, lgRun k (a + c, x) = ((lgRun k (a, x)).1 + c * 2 ^ k, (lgRun k (a, x)).2) := by
  intro k
  induction k with
  | zero => intro a x; simp [lgRun]
  | succ k ih =>
    intro a x
    rw [lgRun_succ, lgRun_succ, ih]
    unfold lgStep
    simp only
    split <;> simp [Nat.pow_succ] <;> grind

theorem log2_mul_pow (n k : Nat) (h : 1 ≤ n) : (n * 2 ^ k).log2 = n.log2 + k := by
  have a := Nat.log2_self_le (show n ≠ 0 by omega)
  have b : n < 2 ^ (n.log2 + 1) := Nat.lt_log2_self
  have hp : 0 < 2 ^ k := Nat.two_pow_pos _
  have h0 : n * 2 ^ k ≠ 0 := by have := Nat.mul_le_mul h hp; omega
  have h1 : n.log2 + k ≤ (n * 2 ^ k).log2 := by
    rw [Nat.le_log2 h0, Nat.pow_add]; exact Nat.mul_le_mul_right _ a
  have h2 : (n * 2 ^ k).log2 < n.log2 + k + 1 := by
    rw [Nat.log2_lt h0, show n.log2 + k + 1 = (n.log2 + 1) + k by omega, Nat.pow_add]; exact Nat.mul_lt_mul_of_pos_right b hp
  omega

theorem lgOf_shift (n k : Nat) (h : 1 ≤ n) (h2 : n.log2 + k ≤ 62) : lgOf (n * 2 ^ k) = lgOf n + k * 2 ^ 28 := by
  unfold lgOf
  rw [log2_mul_pow n k h, Nat.mul_assoc, ← Nat.pow_add, show k + (62 - (n.log2 + k)) = 62 - n.log2 by omega, lgRun_more]

/-- It rises. -/
theorem lgStep_mono {p q : Nat × Nat} (hp : LgOk p.2) (hq : LgOk q.2) (h : p.1 < q.1 ∨ (p.1 = q.1 ∧ p.2 ≤ q.2)) : (lgStep p).1 < (lgStep q).1 ∨ ((lgStep p).1 = (lgStep q).1 ∧ (lgStep p).2 ≤ (lgStep q).2) := by
  have hy : p.1 = q.1 → p.2 * p.2 / 4611686018427387904 ≤ q.2 * q.2 / 4611686018427387904 := by
    intro e
    have h' : p.2 ≤ q.2 := by omega
    exact Nat.div_le_div_right (Nat.mul_le_mul h' h')
  unfold lgStep
  simp only
  generalize p.2 * p.2 / 4611686018427387904 = y at *
  generalize q.2 * q.2 / 4611686018427387904 = z at *
  split <;> split <;> simp only <;> omega

theorem lgRun_mono (k : Nat) {p q : Nat × Nat} (hp : LgOk p.2) (hq : LgOk q.2) (h : p.1 < q.1 ∨ (p.1 = q.1 ∧ p.2 ≤ q.2)) : (lgRun k p).1 ≤ (lgRun k q).1 := by
  have : (lgRun k p).1 < (lgRun k q).1 ∨ ((lgRun k p).1 = (lgRun k q).1 ∧ (lgRun k p).2 ≤ (lgRun k q).2) := by
    induction k with
    | zero => exact h
    | succ k ih => rw [lgRun_succ, lgRun_succ]; exact lgStep_mono (lgRun_ok k hp) (lgRun_ok k hq) ih
  omega

theorem lgOf_mono {n m : Nat} (h1 : 1 ≤ n) (h : n ≤ m) (h2 : m < 2 ^ 62) : lgOf n ≤ lgOf m := by
  have hl : n.log2 ≤ m.log2 := by
    rw [Nat.le_log2 (by omega)]; exact Nat.le_trans (Nat.log2_self_le (by omega)) h
  refine lgRun_mono 28 (lg_start n h1 (by omega)) (lg_start m (by omega) h2) ?_
  rcases Nat.lt_or_eq_of_le hl with e | e
  · exact .inl e
  · refine .inr ⟨e, ?_⟩
    simp only
    rw [e]
    exact Nat.mul_le_mul_right _ h

/-- What is told is at most the logarithm .. -/
theorem lgRun_le (n : Nat) (h1 : 1 ≤ n) (h2 : n < 2 ^ 62) (k : Nat) : let r := lgRun k (n.log2, n * 2 ^ (62 - n.log2)); 2 ^ r.1 * r.2 ≤ n ^ 2 ^ k * 4611686018427387904 := by
  induction k with
  | zero =>
    have c : n.log2 < 62 := (Nat.log2_lt (by omega)).2 h2
    simp only [lgRun, Nat.pow_zero, Nat.pow_one]
    rw [Nat.mul_left_comm, ← Nat.pow_add, show n.log2 + (62 - n.log2) = 62 by omega]
    exact Nat.le_refl _
  | succ k ih =>
    rw [lgRun_succ]
    generalize lgRun k (n.log2, n * 2 ^ (62 - n.log2)) = p at *
    obtain ⟨a, x⟩ := p
    simp only at ih ⊢
    rw [Nat.pow_succ, Nat.pow_mul, Nat.pow_two]
    generalize n ^ 2 ^ k = N at *
    have hsq := Nat.mul_le_mul ih ih
    have hy : x * x / 4611686018427387904 * 4611686018427387904 ≤ x * x := Nat.div_mul_le_self _ _
    have hkey : ∀ d z, 2 ^ d * z ≤ x * x / 4611686018427387904 → 2 ^ (2 * a + d) * z ≤ N * N * 4611686018427387904 := by
      intro d z hz
      apply Nat.le_of_mul_le_mul_right (c := 4611686018427387904) _ (by decide)
      have e1 : 2 ^ (2 * a + d) * z * 4611686018427387904 = 2 ^ a * 2 ^ a * (2 ^ d * z * 4611686018427387904) := by
        rw [Nat.pow_add, show 2 * a = a + a by omega, Nat.pow_add]; grind
      have e2 : 2 ^ d * z * 4611686018427387904 ≤ x * x := Nat.le_trans (Nat.mul_le_mul_right _ hz) hy
      rw [e1]
      refine Nat.le_trans (Nat.mul_le_mul_left _ e2) ?_
      have e3 : 2 ^ a * 2 ^ a * (x * x) = 2 ^ a * x * (2 ^ a * x) := by grind
      rw [e3]
      refine Nat.le_trans hsq (Nat.le_of_eq ?_)
      grind
    unfold lgStep
    simp only
    split
    · have := hkey 0 (x * x / 4611686018427387904) (by simp); simpa using this
    · exact hkey 1 _ (by have := Nat.div_mul_le_self (x * x / 4611686018427387904) 2; omega)

theorem lg_e3 (u t : Nat) (h : u ≤ t + 9223372036854775808) (h2 : 21267647932558653966460912964485513216 ≤ u) : u * 2305843009213693951 ≤ t * 2305843009213693952 := by omega
theorem lg_f1 (N r B M : Nat) : N * N * r * B * (M * M * B) = N * N * (B * B) * (M * M * r) := by grind
theorem lg_f2 (N m B R : Nat) : N * N * (B * B) * (m * m * R) = N * m * B * (N * m * B) * R := by grind
theorem lg_f3 (A x M R : Nat) : A * x * M * (A * x * M) * R = A * A * (M * M) * (x * x * R) := by grind
theorem lg_f4 (A t B M : Nat) : A * A * (M * M) * (t * B * M) = A * A * t * M * (M * M * B) := by grind

/-- .. and, all in all, less than two below it. -/
theorem lgRun_ge (n : Nat) (h1 : 1 ≤ n) (h2 : n < 2 ^ 62) (k : Nat) (hk : k ≤ 60) : let r := lgRun k (n.log2, n * 2 ^ (62 - n.log2)); n ^ 2 ^ k * (2305843009213693952 - (2 ^ k - 1)) * 4611686018427387904 ≤ 2 ^ r.1 * r.2 * 2305843009213693952 := by
  induction k with
  | zero =>
    have c : n.log2 < 62 := (Nat.log2_lt (by omega)).2 h2
    simp only [lgRun, Nat.pow_zero, Nat.pow_one]
    rw [Nat.mul_left_comm, ← Nat.pow_add, show n.log2 + (62 - n.log2) = 62 by omega]
    omega
  | succ k ih =>
    have ih := ih (by omega)
    rw [lgRun_succ]
    have hok := lgRun_ok k (p := (n.log2, n * 2 ^ (62 - n.log2))) (lg_start n h1 h2)
    generalize lgRun k (n.log2, n * 2 ^ (62 - n.log2)) = p at *
    obtain ⟨a, x⟩ := p
    simp only at ih hok ⊢
    have hc : 2 ^ (k + 1) - 1 = 2 * (2 ^ k - 1) + 1 := by have := Nat.two_pow_pos k; rw [Nat.pow_succ]; omega
    have hcm : 2 * (2 ^ k - 1) + 1 ≤ 2305843009213693952 := by
      rw [← hc]
      have : 2 ^ (k + 1) ≤ 2 ^ 61 := Nat.pow_le_pow_right (by decide) (by omega)
      omega
    rw [hc, Nat.pow_succ, Nat.pow_mul, Nat.pow_two]
    generalize n ^ 2 ^ k = N at *
    generalize 2 ^ k - 1 = c at *
    clear hc
    obtain ⟨m, hm⟩ : ∃ m, m = 2305843009213693952 - c := ⟨_, rfl⟩
    rw [← hm] at ih
    have hsq := Nat.mul_le_mul ih ih
    have hx : 21267647932558653966460912964485513216 ≤ x * x := Nat.mul_le_mul hok.1 hok.1
    have hy : x * x < (x * x / 4611686018427387904 + 1) * 4611686018427387904 := by
      rw [Nat.add_mul]; have := Nat.div_add_mod (x * x) 4611686018427387904; have := Nat.mod_lt (x * x) (show 0 < 4611686018427387904 by decide); omega
    have hkey : ∀ d z, x * x / 4611686018427387904 ≤ 2 ^ d * z + 1 → N * N * (2305843009213693952 - (2 * c + 1)) * 4611686018427387904 ≤ 2 ^ (2 * a + d) * z * 2305843009213693952 := by
      intro d z hz
      have e1 : 2 ^ (2 * a + d) * z = 2 ^ a * 2 ^ a * (2 ^ d * z) := by
        rw [Nat.pow_add, show 2 * a = a + a by omega, Nat.pow_add]; grind
      rw [e1]
      generalize 2 ^ d * z = t at *
      generalize hA : 2 ^ a = A at *
      -- t 2^62 is at least x x less 2 to the 63
      have e2 : x * x ≤ t * 4611686018427387904 + 9223372036854775808 := by omega
      have e3 : x * x * 2305843009213693951 ≤ t * 4611686018427387904 * 2305843009213693952 := lg_e3 _ _ e2 hx
      -- (m)(m)(M-1) >= M M (M - 2c - 1)
      have e4 : 2305843009213693952 * 2305843009213693952 * (2305843009213693952 - (2 * c + 1)) ≤ m * m * 2305843009213693951 := by
        have hmc : m + c = 2305843009213693952 := by omega
        obtain ⟨r, hr⟩ : ∃ r, r = 2305843009213693952 - (2 * c + 1) := ⟨_, rfl⟩
        rw [← hr]
        have hm2 : m = r + c + 1 := by omega
        have hM : r + 2 * c + 1 = 2305843009213693952 := by omega
        have hR : 2305843009213693951 = r + 2 * c := by omega
        rw [hR, ← hM, hm2]
        have : (r + c + 1) * (r + c + 1) * (r + 2 * c) = (r + 2 * c + 1) * (r + 2 * c + 1) * r + c * (r * c + 2 * r + 2 * ((c + 1) * (c + 1))) := by grind
        rw [this]
        exact Nat.le_add_right _ _
      generalize 2305843009213693952 - (2 * c + 1) = r at *
      apply Nat.le_of_mul_le_mul_right (c := 2305843009213693952 * 2305843009213693952 * 4611686018427387904) _ (by decide)
      have f1 := lg_f1 N r 4611686018427387904 2305843009213693952
      have f2 := lg_f2 N m 4611686018427387904 2305843009213693951
      have f3 := lg_f3 A x 2305843009213693952 2305843009213693951
      have f4 := lg_f4 A t 4611686018427387904 2305843009213693952
      rw [f1, ← f4]
      refine Nat.le_trans (Nat.mul_le_mul_left _ e4) ?_
      rw [f2]
      refine Nat.le_trans (Nat.mul_le_mul_right _ hsq) ?_
      rw [f3]
      exact Nat.mul_le_mul_left _ e3
    unfold lgStep
    simp only
    split
    · have := hkey 0 (x * x / 4611686018427387904) (by simp); simpa using this
    · exact hkey 1 (x * x / 4611686018427387904 / 2) (by omega)

/-- 2^28. -/
def lgQ : Nat := 268435456
/-- The logarithm times 2^28, but for less than two. -/
theorem lgOf_bounds (n : Nat) (h1 : 1 ≤ n) (h2 : n < 2 ^ 62) : 2 ^ lgOf n ≤ n ^ lgQ ∧ n ^ lgQ < 2 ^ (lgOf n + 2) := by
  have a := lgRun_le n h1 h2 28
  have b := lgRun_ge n h1 h2 28 (by decide)
  have c := lgRun_ok 28 (p := (n.log2, n * 2 ^ (62 - n.log2))) (lg_start n h1 h2)
  unfold lgOf
  generalize lgRun 28 (n.log2, n * 2 ^ (62 - n.log2)) = p at *
  obtain ⟨v, x⟩ := p
  simp only at a b c ⊢
  have e : (2 : Nat) ^ 28 = lgQ := by decide
  have e' : lgQ = 268435456 := rfl
  rw [e] at a b
  generalize n ^ lgQ = N at *
  rw [e'] at b
  clear e e'
  rw [Nat.pow_add]
  have hV := Nat.two_pow_pos v
  generalize 2 ^ v = V at *
  obtain ⟨c1, c2⟩ := c
  constructor
  · have := Nat.mul_le_mul_left V c1
    omega
  · have hv : V * x ≤ V * 9223372036854775808 := Nat.mul_le_mul_left _ (by omega)
    omega

theorem lgOf_prod (m n : Nat) (h1 : 1 ≤ m) (h2 : 1 ≤ n) (h3 : m * n < 2 ^ 62) : lgOf m + lgOf n ≤ lgOf (m * n) + 2 ∧ lgOf (m * n) ≤ lgOf m + lgOf n + 4 := by
  have hm : m < 2 ^ 62 := Nat.lt_of_le_of_lt (by have := Nat.mul_le_mul_left m h2; omega) h3
  have hn : n < 2 ^ 62 := Nat.lt_of_le_of_lt (by have := Nat.mul_le_mul_right n h1; omega) h3
  have hp : 1 ≤ m * n := Nat.mul_le_mul h1 h2
  obtain ⟨a1, a2⟩ := lgOf_bounds m h1 hm
  obtain ⟨b1, b2⟩ := lgOf_bounds n h2 hn
  obtain ⟨c1, c2⟩ := lgOf_bounds (m * n) hp h3
  rw [Nat.mul_pow] at c1 c2
  have d1 : 2 ^ (lgOf m + lgOf n) < 2 ^ (lgOf (m * n) + 2) := by
    rw [Nat.pow_add]; exact Nat.lt_of_le_of_lt (Nat.mul_le_mul a1 b1) c2
  have d2 : 2 ^ lgOf (m * n) < 2 ^ (lgOf m + 2 + (lgOf n + 2)) := by
    rw [Nat.pow_add]; exact Nat.lt_of_le_of_lt c1 (Nat.mul_lt_mul_of_lt_of_le a2 (Nat.le_of_lt b2) (Nat.two_pow_pos _))
  have e1 := (Nat.pow_lt_pow_iff_right (by decide)).1 d1
  have e2 := (Nat.pow_lt_pow_iff_right (by decide)).1 d2
  omega

/-- 2^20. -/
def lgR : Nat := 1048576
theorem lgOf_near (n : Nat) (h1 : 1 ≤ n) (h2 : n < 2 ^ 62) : lgOf n / 1048576 ≤ (n ^ 256).log2 ∧ (n ^ 256).log2 ≤ (lgOf n + 2) / 1048576 := by
  obtain ⟨a1, a2⟩ := lgOf_bounds n h1 h2
  have hp : n ^ 256 ≠ 0 := by have := Nat.pow_pos (n := 256) h1; omega
  have b1 := Nat.log2_self_le hp
  have b2 : n ^ 256 < 2 ^ ((n ^ 256).log2 + 1) := Nat.lt_log2_self
  rw [show lgQ = 256 * lgR by decide, Nat.pow_mul] at a1 a2
  have hR : lgR = 1048576 := rfl
  have hR0 : lgR ≠ 0 := by decide
  generalize n ^ 256 = p at *
  generalize lgR = R at *
  have c1 : 2 ^ (p.log2 * R) ≤ p ^ R := by rw [Nat.pow_mul]; exact Nat.pow_le_pow_left b1 _
  have c2 : p ^ R < 2 ^ ((p.log2 + 1) * R) := by rw [Nat.pow_mul]; exact Nat.pow_lt_pow_left b2 hR0
  have e1 := (Nat.pow_lt_pow_iff_right (by decide)).1 (Nat.lt_of_le_of_lt c1 a2)
  have e2 := (Nat.pow_lt_pow_iff_right (by decide)).1 (Nat.lt_of_le_of_lt a1 c2)
  subst hR
  omega

theorem lgOf_one : lgOf 1 = 0 := by decide +kernel
theorem lgOf_two : lgOf 2 = 268435456 := by decide +kernel
theorem lgOf_three : lgOf 3 = 425460131 := by decide +kernel

/-- Less than 2^28 for each bit. -/
theorem lgOf_lt (n : Nat) (h1 : 1 ≤ n) (h2 : n ≤ 2 ^ 40) : lgOf n ≤ 10737418240 := by
  have h := lgOf_mono h1 h2 (by decide)
  have e := lgOf_shift 1 40 (Nat.le_refl _) (by decide +kernel)
  rw [lgOf_one, Nat.one_mul] at e
  omega

theorem lgIn_le (n : Int) : 1 ≤ lgIn n ∧ lgIn n ≤ 2 ^ 40 := by unfold lgIn; split; decide; split <;> omega
theorem lgIn_of (n : Nat) (h1 : 1 ≤ n) (h2 : n ≤ 2 ^ 40) : lgIn (n : Int) = n := by unfold lgIn; split; omega; split <;> omega

/-- n times its logarithm. -/
def xlF (n : Nat) : Nat := n * lgF (n : Int)
theorem xlF_zero : xlF 0 = 0 := by unfold xlF; omega
theorem lgF_nat (n : Nat) (h1 : 1 ≤ n) (h2 : n ≤ 2 ^ 40) : lgF (n : Int) = lgOf n := by unfold lgF; rw [lgIn_of n h1 h2]
theorem lgF_le (n : Int) : lgF n ≤ 10737418240 := lgOf_lt _ (lgIn_le n).1 (lgIn_le n).2
theorem xlF_le (n : Nat) (h : n ≤ 1048576) : xlF n ≤ 11258999068426240 := by
  unfold xlF; exact Nat.mul_le_mul h (lgF_le _)
theorem lgF_mono {n m : Int} (h : n ≤ m) : lgF n ≤ lgF m := by
  unfold lgF
  refine lgOf_mono (lgIn_le n).1 ?_ (by have := (lgIn_le m).2; omega)
  unfold lgIn
  by_cases h1 : n < 1
  · rw [if_pos h1]; have := (lgIn_le m).1; unfold lgIn at this; exact this
  · rw [if_neg h1, if_neg (show ¬ m < 1 by omega)]
    by_cases h2 : m > 1099511627776
    · rw [if_pos h2]; split <;> omega
    · rw [if_neg h2, if_neg (show ¬ n > 1099511627776 by omega)]; omega
theorem xlF_mono {n m : Nat} (h : n ≤ m) : xlF n ≤ xlF m := by unfold xlF; exact Nat.mul_le_mul h (lgF_mono (by omega))
theorem lgRun_lt (e X : Nat) (k : Nat) : (lgRun k (e, X)).1 < (e + 1) * 2 ^ k := by
  induction k with
  | zero => simp [lgRun]
  | succ k ih =>
    rw [lgRun_succ, Nat.pow_succ, ← Nat.mul_assoc]
    generalize (e + 1) * 2 ^ k = N at *
    unfold lgStep
    simp only
    split <;> simp only <;> omega
theorem lgF_one : lgF 1 = 0 := by decide +kernel
theorem lgF_two : lgF 2 = 268435456 := by decide +kernel
theorem lgF_three : lgF 3 = 425460131 := by decide +kernel
end Go.Proofs.Tm
