/- Plain mathematics of yes and no of a given chance: what coins come to, and how much all tapes weigh. Nothing of the program is imported. -/
namespace Go.Proofs.Tm
set_option linter.unusedVariables false
set_option maxRecDepth 20000

/-- What coins come to: the answer, how many were taken, were there too few? -/
abbrev Came := Bool × Nat × Bool

def Came.more (k : Nat) (o : Came) : Came := (o.1, k + o.2.1, o.2.2)

/-- Of the chance 1 by 2 to the k. -/
def halfF : Nat → List Bool → Came
  | 0, _ => (true, 0, false)
  | _ + 1, [] => (false, 0, true)
  | k + 1, c :: cs => if c then Came.more 1 (halfF k cs) else (false, 1, false)

/-- What is left of r behind a coin. -/
def restF (r q : Nat) : Nat := if q ≤ 2 * r then 2 * r - q else 2 * r

/-- The digits of r by q, held against coins. -/
def digF (q : Nat) : Nat → List Bool → Came
  | _, [] => (false, 0, true)
  | r, c :: cs => if c = decide (q ≤ 2 * r) then (if restF r q = 0 then (false, 1, false) else Came.more 1 (digF q (restF r q) cs)) else (decide (q ≤ 2 * r), 1, false)

/-- Of the chance p by q. -/
def ratioF (p q : Nat) (cs : List Bool) : Came := if p = 0 then (false, 0, false) else if p = q then (true, 0, false) else digF q p cs

/-- First one thing, and if it is yes another one. -/
def thenF (o : Came) (G : List Bool → Came) (cs : List Bool) : Came := if o.1 then Came.more o.2.1 (G (cs.drop o.2.1)) else o

/-- Of the chance p by q, to the k. -/
def powF (p q : Nat) : Nat → List Bool → Came
  | 0, _ => (true, 0, false)
  | k + 1, cs => thenF (ratioF p q cs) (powF p q k) cs

theorem restF_lt {r q : Nat} (h : r < q) : restF r q < q := by unfold restF; split <;> omega

/-- All tapes of n coins, gone through: the weights of yes, of no, of what isn't done. -/
def treeG : Nat → (List Bool → Came) → Nat × Nat × Nat
  | n, G =>
    if (G []).2.2 then
      match n with
      | 0 => (0, 0, 1)
      | n + 1 =>
        let a := treeG n (fun m => G (false :: m))
        let b := treeG n (fun m => G (true :: m))
        (a.1 + b.1, a.2.1 + b.2.1, a.2.2 + b.2.2)
    else if (G []).1 then (2 ^ n, 0, 0) else (0, 2 ^ n, 0)

theorem treeG_done (n : Nat) (G : List Bool → Came) (h : (G []).2.2 = false) : treeG n G = if (G []).1 then (2 ^ n, 0, 0) else (0, 2 ^ n, 0) := by
  unfold treeG; simp [h]
theorem treeG_zero (G : List Bool → Came) (h : (G []).2.2 = true) : treeG 0 G = (0, 0, 1) := by unfold treeG; simp [h]
theorem treeG_succ (n : Nat) (G : List Bool → Came) (h : (G []).2.2 = true) : treeG (n + 1) G =
    ((treeG n (fun m => G (false :: m))).1 + (treeG n (fun m => G (true :: m))).1, (treeG n (fun m => G (false :: m))).2.1 + (treeG n (fun m => G (true :: m))).2.1, (treeG n (fun m => G (false :: m))).2.2 + (treeG n (fun m => G (true :: m))).2.2) := by
  rw [treeG]; simp [h]

/-- How many were taken doesn't count. -/
theorem treeG_same (n : Nat) : ∀ (G H : List Bool → Came), (∀ m, (G m).1 = (H m).1 ∧ (G m).2.2 = (H m).2.2) → treeG n G = treeG n H := by
  induction n with
  | zero =>
    intro G H h
    have h0 := h []
    cases hd : (G []).2.2 with
    | false => rw [treeG_done _ _ hd, treeG_done _ _ (by rw [← h0.2]; exact hd), h0.1]
    | true => rw [treeG_zero _ hd, treeG_zero _ (by rw [← h0.2]; exact hd)]
  | succ n ih =>
    intro G H h
    have h0 := h []
    cases hd : (G []).2.2 with
    | false => rw [treeG_done _ _ hd, treeG_done _ _ (by rw [← h0.2]; exact hd), h0.1]
    | true =>
      rw [treeG_succ _ _ hd, treeG_succ _ _ (by rw [← h0.2]; exact hd), ih _ (fun m => H (false :: m)) (fun m => h _), ih _ (fun m => H (true :: m)) (fun m => h _)]

theorem treeG_const (n : Nat) (G : List Bool → Came) (b : Bool) (h : ∀ m, (G m).1 = b ∧ (G m).2.2 = false) : treeG n G = if b then (2 ^ n, 0, 0) else (0, 2 ^ n, 0) := by
  rw [treeG_done _ _ (h []).2, (h []).1]

/-- No weight is more than all. -/
theorem treeG_le (n : Nat) : ∀ G : List Bool → Came, (treeG n G).1 ≤ 2 ^ n ∧ (treeG n G).2.1 ≤ 2 ^ n ∧ (treeG n G).2.2 ≤ 2 ^ n := by
  induction n with
  | zero =>
    intro G
    cases hd : (G []).2.2 with
    | false => rw [treeG_done _ _ hd]; split <;> simp
    | true => rw [treeG_zero _ hd]; simp
  | succ n ih =>
    intro G
    cases hd : (G []).2.2 with
    | false => rw [treeG_done _ _ hd]; split <;> simp
    | true =>
      rw [treeG_succ _ _ hd]
      have a := ih (fun m => G (false :: m))
      have b := ih (fun m => G (true :: m))
      rw [Nat.pow_succ]
      simp only
      omega

theorem treeG_half (k : Nat) : ∀ n, k ≤ n → treeG n (halfF k) = (2 ^ (n - k), 2 ^ n - 2 ^ (n - k), 0) := by
  induction k with
  | zero => intro n _; rw [treeG_const _ _ true (fun m => ⟨rfl, rfl⟩)]; simp
  | succ k ih =>
    intro n hn
    obtain ⟨n, rfl⟩ : ∃ m, n = m + 1 := ⟨n - 1, by omega⟩
    rw [treeG_succ _ _ rfl, treeG_const n (fun m => halfF (k + 1) (false :: m)) false (fun m => ⟨rfl, rfl⟩)]
    have e : treeG n (fun m => halfF (k + 1) (true :: m)) = treeG n (halfF k) := treeG_same n _ _ (fun m => ⟨rfl, rfl⟩)
    rw [e, ih n (by omega)]
    have hp : 2 ^ (n - k) ≤ 2 ^ n := Nat.pow_le_pow_right (by decide) (by omega)
    have h2 : 2 ^ (n + 1) = 2 ^ n + 2 ^ n := by rw [Nat.pow_succ]; omega
    rw [show n + 1 - (k + 1) = n - k by omega, h2]
    generalize 2 ^ (n - k) = x at *
    generalize 2 ^ n = y at *
    simp only [Bool.false_eq_true, if_false, Nat.zero_add, Nat.add_zero, Prod.mk.injEq, true_and, and_true]
    omega

/-- In the midst of a power: r is left of this one, j more are to come. -/
def midF (p q j r : Nat) (cs : List Bool) : Came := thenF (digF q r cs) (powF p q j) cs

theorem midF_nil (p q j r : Nat) : (midF p q j r []).2.2 = true := by simp [midF, digF, thenF]
theorem midF_off (p q j r : Nat) (m : List Bool) (c : Bool) (hc : c ≠ decide (q ≤ 2 * r)) :
    (midF p q j r (c :: m)) = if q ≤ 2 * r then Came.more 1 (powF p q j m) else (false, 1, false) := by
  unfold midF
  rw [digF, if_neg hc]
  by_cases h : q ≤ 2 * r <;> simp [thenF, h]
theorem midF_on (p q j r : Nat) (m : List Bool) (c : Bool) (hc : c = decide (q ≤ 2 * r)) :
    (midF p q j r (c :: m)).1 = (if restF r q = 0 then false else (midF p q j (restF r q) m).1) ∧ (midF p q j r (c :: m)).2.2 = (if restF r q = 0 then false else (midF p q j (restF r q) m).2.2) := by
  unfold midF
  rw [digF, if_pos hc]
  by_cases h : restF r q = 0
  · simp [thenF, h]
  · simp only [if_neg h]
    unfold thenF Came.more
    cases hd : (digF q (restF r q) m).1
    · simp [hd]
    · rw [Nat.add_comm 1]; simp

theorem powF_mid (p q j : Nat) (h0 : p ≠ 0) (h1 : p ≠ q) (m : List Bool) : powF p q (j + 1) m = midF p q j p m := by
  rw [powF, midF, ratioF, if_neg h0, if_neg h1]

/-- ALL TAPES of a power, from its midst on. -/
theorem treeG_mid (p q : Nat) (hp : 0 < p) (hpq : p < q) (n : Nat) : ∀ j r, 0 < r → r < q →
    (treeG n (midF p q j r)).1 + (treeG n (midF p q j r)).2.1 + (treeG n (midF p q j r)).2.2 = 2 ^ n ∧
    (treeG n (midF p q j r)).1 * q ^ (j + 1) ≤ r * p ^ j * 2 ^ n ∧ r * p ^ j * 2 ^ n ≤ ((treeG n (midF p q j r)).1 + (treeG n (midF p q j r)).2.2) * q ^ (j + 1) ∧
    (j = 0 → (treeG n (midF p q j r)).2.2 ≤ 1) := by
  induction n with
  | zero =>
    intro j r h0 h1
    rw [treeG_zero _ (midF_nil p q j r)]
    refine ⟨rfl, by simp, ?_, by simp⟩
    simp only [Nat.zero_add, Nat.one_mul, Nat.pow_zero, Nat.mul_one]
    have := Nat.pow_le_pow_left (Nat.le_of_lt hpq) j
    rw [Nat.pow_succ, Nat.mul_comm r]
    exact Nat.mul_le_mul this (Nat.le_of_lt h1)
  | succ n ih =>
    intro j r h0 h1
    have hq0 : 0 < q := by omega
    have hr := restF_lt h1
    -- the two ways
    have hoff : ∃ y no o, treeG n (fun m => midF p q j r ((!decide (q ≤ 2 * r)) :: m)) = (y, no, o) ∧ y + no + o = 2 ^ n ∧
        (q ≤ 2 * r → y * q ^ j ≤ p ^ j * 2 ^ n ∧ p ^ j * 2 ^ n ≤ (y + o) * q ^ j) ∧ (¬ q ≤ 2 * r → y = 0 ∧ o = 0) ∧ (j = 0 → o = 0) := by
      by_cases h : q ≤ 2 * r
      · have e : treeG n (fun m => midF p q j r ((!decide (q ≤ 2 * r)) :: m)) = treeG n (powF p q j) := treeG_same n _ _ (fun m => by rw [midF_off _ _ _ _ _ _ (by simp), if_pos h]; exact ⟨rfl, rfl⟩)
        rw [e]
        cases j with
        | zero =>
          rw [treeG_const n (powF p q 0) true (fun m => ⟨rfl, rfl⟩)]
          exact ⟨_, _, _, rfl, by simp, fun _ => by simp, fun h' => absurd h h', fun _ => rfl⟩
        | succ j =>
          have e2 : treeG n (powF p q (j + 1)) = treeG n (midF p q j p) := treeG_same n _ _ (fun m => by rw [powF_mid p q j (by omega) (by omega)]; exact ⟨rfl, rfl⟩)
          rw [e2]
          obtain ⟨a1, a2, a3, _⟩ := ih j p hp hpq
          refine ⟨_, _, _, rfl, a1, fun _ => ⟨?_, ?_⟩, fun h' => absurd h h', fun h' => by omega⟩
          · rw [Nat.pow_succ p, Nat.mul_comm (p ^ j)]; exact a2
          · rw [Nat.pow_succ p, Nat.mul_comm (p ^ j)]; exact a3
      · rw [treeG_const n (fun m => midF p q j r ((!decide (q ≤ 2 * r)) :: m)) false (fun m => by rw [midF_off _ _ _ _ _ _ (by simp), if_neg h]; exact ⟨rfl, rfl⟩)]
        exact ⟨_, _, _, rfl, by simp, fun h' => absurd h' h, fun _ => ⟨rfl, rfl⟩, fun _ => rfl⟩
    have hon : ∃ y no o, treeG n (fun m => midF p q j r (decide (q ≤ 2 * r) :: m)) = (y, no, o) ∧ y + no + o = 2 ^ n ∧
        y * q ^ (j + 1) ≤ restF r q * p ^ j * 2 ^ n ∧ restF r q * p ^ j * 2 ^ n ≤ (y + o) * q ^ (j + 1) ∧ (j = 0 → o ≤ 1) := by
      by_cases h : restF r q = 0
      · rw [treeG_const n (fun m => midF p q j r (decide (q ≤ 2 * r) :: m)) false (fun m => by
          have := midF_on p q j r m _ rfl
          rw [if_pos h, if_pos h] at this
          exact this)]
        exact ⟨_, _, _, rfl, by simp, by simp, by simp [h], fun _ => by simp⟩
      · have e : treeG n (fun m => midF p q j r (decide (q ≤ 2 * r) :: m)) = treeG n (midF p q j (restF r q)) := treeG_same n _ _ (fun m => by
          have := midF_on p q j r m _ rfl
          rw [if_neg h, if_neg h] at this
          exact this)
        rw [e]
        obtain ⟨a1, a2, a3, a4⟩ := ih j (restF r q) (by omega) hr
        exact ⟨_, _, _, rfl, a1, a2, a3, a4⟩
    obtain ⟨y1, n1, o1, e1, s1, k1, z1, q1⟩ := hoff
    obtain ⟨y2, n2, o2, e2, s2, k2, k3, q2⟩ := hon
    have hsum : treeG (n + 1) (midF p q j r) = (y1 + y2, n1 + n2, o1 + o2) := by
      rw [treeG_succ _ _ (midF_nil p q j r)]
      by_cases h : q ≤ 2 * r
      · rw [decide_eq_true h] at e1 e2
        simp only [Bool.not_true] at e1
        rw [e1, e2]
      · rw [decide_eq_false h] at e1 e2
        simp only [Bool.not_false] at e1
        rw [e1, e2]
        simp only [Prod.mk.injEq]
        omega
    rw [hsum]
    have h2 : 2 ^ (n + 1) = 2 ^ n + 2 ^ n := by rw [Nat.pow_succ]; omega
    refine ⟨by show y1 + y2 + (n1 + n2) + (o1 + o2) = _; omega, ?_, ?_, fun hj => ?_⟩
    · show (y1 + y2) * q ^ (j + 1) ≤ _
      by_cases h : q ≤ 2 * r
      · have hx := (k1 h).1
        have hrs : restF r q = 2 * r - q := by unfold restF; rw [if_pos h]
        obtain ⟨s, hs⟩ : ∃ s, 2 * r = q + s := ⟨2 * r - q, by omega⟩
        have : restF r q = s := by omega
        rw [this] at k2
        have f1 : y1 * q ^ (j + 1) ≤ q * (p ^ j * 2 ^ n) := by
          rw [Nat.pow_succ, ← Nat.mul_assoc, Nat.mul_comm]; exact Nat.mul_le_mul_left _ hx
        have f2 : r * p ^ j * 2 ^ (n + 1) = (2 * r) * (p ^ j * 2 ^ n) := by rw [Nat.pow_succ]; simp [Nat.mul_comm, Nat.mul_left_comm, Nat.mul_assoc]
        rw [f2, hs, Nat.add_mul, Nat.add_mul]
        have f3 : s * p ^ j * 2 ^ n = s * (p ^ j * 2 ^ n) := Nat.mul_assoc _ _ _
        omega
      · obtain ⟨rfl, rfl⟩ := z1 h
        have hrs : restF r q = 2 * r := by unfold restF; rw [if_neg h]
        have f2 : r * p ^ j * 2 ^ (n + 1) = 2 * r * p ^ j * 2 ^ n := by rw [Nat.pow_succ]; simp [Nat.mul_comm, Nat.mul_left_comm, Nat.mul_assoc]
        rw [f2, ← hrs, Nat.zero_add]; exact k2
    · show _ ≤ (y1 + y2 + (o1 + o2)) * q ^ (j + 1)
      by_cases h : q ≤ 2 * r
      · have hx := (k1 h).2
        have hrs : restF r q = 2 * r - q := by unfold restF; rw [if_pos h]
        obtain ⟨s, hs⟩ : ∃ s, 2 * r = q + s := ⟨2 * r - q, by omega⟩
        have : restF r q = s := by omega
        rw [this] at k3
        have f1 : q * (p ^ j * 2 ^ n) ≤ (y1 + o1) * q ^ (j + 1) := by
          have e5 : (y1 + o1) * q ^ (j + 1) = q * ((y1 + o1) * q ^ j) := by rw [Nat.pow_succ, ← Nat.mul_assoc, Nat.mul_comm]
          rw [e5]; exact Nat.mul_le_mul_left q hx
        have f2 : r * p ^ j * 2 ^ (n + 1) = (2 * r) * (p ^ j * 2 ^ n) := by rw [Nat.pow_succ]; simp [Nat.mul_comm, Nat.mul_left_comm, Nat.mul_assoc]
        rw [f2, hs, Nat.add_mul, show y1 + y2 + (o1 + o2) = (y1 + o1) + (y2 + o2) by omega, Nat.add_mul (y1 + o1)]
        have f3 : s * p ^ j * 2 ^ n = s * (p ^ j * 2 ^ n) := Nat.mul_assoc _ _ _
        omega
      · obtain ⟨rfl, rfl⟩ := z1 h
        have hrs : restF r q = 2 * r := by unfold restF; rw [if_neg h]
        have f2 : r * p ^ j * 2 ^ (n + 1) = 2 * r * p ^ j * 2 ^ n := by rw [Nat.pow_succ]; simp [Nat.mul_comm, Nat.mul_left_comm, Nat.mul_assoc]
        rw [f2, ← hrs, Nat.zero_add, Nat.zero_add]; exact k3
    · show o1 + o2 ≤ 1
      have := q1 hj
      have := q2 hj
      omega

/-- ALL TAPES of a power. -/
theorem treeG_pow (p q : Nat) (hq : 0 < q) (hpq : p ≤ q) (k n : Nat) :
    (treeG n (powF p q k)).1 + (treeG n (powF p q k)).2.1 + (treeG n (powF p q k)).2.2 = 2 ^ n ∧
    (treeG n (powF p q k)).1 * q ^ k ≤ p ^ k * 2 ^ n ∧ p ^ k * 2 ^ n ≤ ((treeG n (powF p q k)).1 + (treeG n (powF p q k)).2.2) * q ^ k ∧ (k = 1 → (treeG n (powF p q k)).2.2 ≤ 1) := by
  cases k with
  | zero => rw [treeG_const n (powF p q 0) true (fun m => ⟨rfl, rfl⟩)]; simp
  | succ k =>
    by_cases h0 : p = 0
    · subst h0
      rw [treeG_const n (powF 0 q (k + 1)) false (fun m => by simp [powF, ratioF, thenF])]
      simp
    · by_cases h1 : p = q
      · subst h1
        have : ∀ k m, (powF p p k m).1 = true ∧ (powF p p k m).2.2 = false := by
          intro k
          induction k with
          | zero => intro m; exact ⟨rfl, rfl⟩
          | succ k ih => intro m; simp only [powF, ratioF, if_neg h0, thenF, Came.more]; exact ih _
        rw [treeG_const n (powF p p (k + 1)) true (this _)]
        refine ⟨by simp, ?_, ?_, by simp⟩ <;> · simp [Nat.mul_comm]
      · have e : treeG n (powF p q (k + 1)) = treeG n (midF p q k p) := treeG_same n _ _ (fun m => by rw [powF_mid p q k h0 h1]; exact ⟨rfl, rfl⟩)
        rw [e]
        obtain ⟨a1, a2, a3, a4⟩ := treeG_mid p q (by omega) (by omega) n k p (by omega) (by omega)
        refine ⟨a1, ?_, ?_, fun h => a4 (by omega)⟩
        · rw [Nat.pow_succ p, Nat.mul_comm (p ^ k)]; exact a2
        · rw [Nat.pow_succ p, Nat.mul_comm (p ^ k)]; exact a3

end Go.Proofs.Tm
