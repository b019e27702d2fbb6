/- Plain mathematics of numbers that are drawn: what coins come to, and how much all tapes weigh. Nothing of the program is imported. -/
namespace Go.Proofs.Tm
set_option linter.unusedVariables false
set_option maxRecDepth 20000

/-- What coins come to: the number, how many were taken, were there too few? -/
abbrev CameN := Nat × Nat × Bool
def CameN.more (k : Nat) (o : CameN) : CameN := (o.1, k + o.2.1, o.2.2)

/-- So many bits of a number, of which x has come. -/
def numF : Nat → Nat → List Bool → CameN
  | 0, x, _ => (x, 0, false)
  | _ + 1, _, [] => (0, 0, true)
  | k + 1, x, c :: cs => CameN.more 1 (numF k (2 * x + c.toNat) cs)

/-- A number below n, of w bits a try; k of this try are still to come. -/
def belF (n w : Nat) : Nat → Nat → List Bool → CameN
  | _, _, [] => (0, 0, true)
  | k, x, c :: cs =>
    if k ≤ 1 then (if 2 * x + c.toNat < n then (2 * x + c.toNat, 1, false) else CameN.more 1 (belF n w w 0 cs))
    else CameN.more 1 (belF n w (k - 1) (2 * x + c.toNat) cs)

def belowF (n w : Nat) (l : List Bool) : CameN := if w = 0 then (0, 0, false) else belF n w w 0 l

/-- How many of y coins are yes, of which c have come. -/
def binF : Nat → Nat → List Bool → CameN
  | 0, c, _ => (c, 0, false)
  | _ + 1, _, [] => (0, 0, true)
  | y + 1, c, b :: cs => CameN.more 1 (binF y (c + b.toNat) cs)

theorem moreN_more (a b : Nat) (o : CameN) : CameN.more a (CameN.more b o) = CameN.more (a + b) o := by simp [CameN.more, Nat.add_assoc]
theorem moreN_zero (o : CameN) : CameN.more 0 o = o := by simp [CameN.more]

/-- One try of Below is a number of bits. -/
theorem belF_num (n w : Nat) (l : List Bool) : ∀ k x, belF n w (k + 1) x l = if (numF (k + 1) x l).2.2 then (0, (numF (k + 1) x l).2.1, true) else
    if (numF (k + 1) x l).1 < n then ((numF (k + 1) x l).1, (numF (k + 1) x l).2.1, false) else CameN.more (numF (k + 1) x l).2.1 (belF n w w 0 (l.drop (numF (k + 1) x l).2.1)) := by
  induction l with
  | nil => intro k x; simp [belF, numF]
  | cons c cs ih =>
    intro k x
    cases k with
    | zero =>
      simp only [belF, numF, CameN.more, Nat.zero_add, Nat.le_refl, if_true, Nat.add_zero, Bool.false_eq_true, if_false, List.drop_succ_cons, List.drop_zero]
    | succ k =>
      rw [belF, if_neg (by omega), Nat.add_sub_cancel, ih k, numF]
      cases h : (numF (k + 1) (2 * x + c.toNat) cs).2.2 with
      | true => simp [CameN.more, h]
      | false =>
        have hd : ∀ j, List.drop (1 + j) (c :: cs) = List.drop j cs := fun j => by rw [Nat.add_comm 1, List.drop_succ_cons]
        simp only [CameN.more, h, Bool.false_eq_true, if_false, hd]
        split <;> simp [Nat.add_comm, Nat.add_assoc]

theorem numF_lt (k : Nat) : ∀ x l, (numF k x l).1 < (x + 1) * 2 ^ k := by
  induction k with
  | zero => intro x l; simp [numF]
  | succ k ih =>
    intro x l
    cases l with
    | nil => simp only [numF]; exact Nat.mul_pos (by omega) (Nat.pow_pos (by decide))
    | cons c cs =>
      have := ih (2 * x + c.toNat) cs
      have hc : c.toNat ≤ 1 := by cases c <;> decide
      have h2 : (2 * x + c.toNat + 1) * 2 ^ k ≤ (x + 1) * 2 * 2 ^ k := Nat.mul_le_mul_right _ (by omega)
      rw [Nat.pow_succ, Nat.mul_comm (2 ^ k), ← Nat.mul_assoc]
      exact Nat.lt_of_lt_of_le this h2

theorem belF_lt {n : Nat} (hn : 0 < n) (w : Nat) (l : List Bool) : ∀ k x, (belF n w k x l).1 < n := by
  induction l with
  | nil => intro k x; simpa [belF] using hn
  | cons c cs ih =>
    intro k x
    rw [belF]
    split
    · split
      · assumption
      · exact ih _ _
    · exact ih _ _
theorem belowF_lt {n : Nat} (hn : 0 < n) (w : Nat) (l : List Bool) : (belowF n w l).1 < n := by
  unfold belowF; split
  · exact hn
  · exact belF_lt hn w l w 0
theorem binF_le (y : Nat) : ∀ c l, (binF y c l).1 ≤ c + y := by
  induction y with
  | zero => intro c l; simp [binF]
  | succ y ih =>
    intro c l
    cases l with
    | nil => simp [binF]
    | cons b cs =>
      have := ih (c + b.toNat) cs
      have hb : b.toNat ≤ 1 := by cases b <;> decide
      show (binF y (c + b.toNat) cs).1 ≤ _
      omega

/-- ALL TAPES of m coins, gone through: the weight of the answer i. -/
def cntN (i : Nat) : Nat → (List Bool → CameN) → Nat
  | m, F =>
    if (F []).2.2 then
      match m with
      | 0 => 0
      | m + 1 => cntN i m (fun l => F (false :: l)) + cntN i m (fun l => F (true :: l))
    else if (F []).1 = i then 2 ^ m else 0
/-- And of what isn't done. -/
def opnN : Nat → (List Bool → CameN) → Nat
  | m, F =>
    if (F []).2.2 then
      match m with
      | 0 => 1
      | m + 1 => opnN m (fun l => F (false :: l)) + opnN m (fun l => F (true :: l))
    else 0

theorem cntN_done (i m : Nat) (F : List Bool → CameN) (h : (F []).2.2 = false) : cntN i m F = if (F []).1 = i then 2 ^ m else 0 := by unfold cntN; simp [h]
theorem cntN_zero (i : Nat) (F : List Bool → CameN) (h : (F []).2.2 = true) : cntN i 0 F = 0 := by unfold cntN; simp [h]
theorem cntN_succ (i m : Nat) (F : List Bool → CameN) (h : (F []).2.2 = true) : cntN i (m + 1) F = cntN i m (fun l => F (false :: l)) + cntN i m (fun l => F (true :: l)) := by rw [cntN]; simp [h]
theorem opnN_done (m : Nat) (F : List Bool → CameN) (h : (F []).2.2 = false) : opnN m F = 0 := by unfold opnN; simp [h]
theorem opnN_zero (F : List Bool → CameN) (h : (F []).2.2 = true) : opnN 0 F = 1 := by unfold opnN; simp [h]
theorem opnN_succ (m : Nat) (F : List Bool → CameN) (h : (F []).2.2 = true) : opnN (m + 1) F = opnN m (fun l => F (false :: l)) + opnN m (fun l => F (true :: l)) := by rw [opnN]; simp [h]

/-- How many were taken doesn't count. -/
theorem cntN_same (i m : Nat) : ∀ (F G : List Bool → CameN), (∀ l, (F l).1 = (G l).1 ∧ (F l).2.2 = (G l).2.2) → cntN i m F = cntN i m G := by
  induction m with
  | zero =>
    intro F G h
    have h0 := h []
    cases hd : (F []).2.2 with
    | false => rw [cntN_done _ _ _ hd, cntN_done _ _ _ (by rw [← h0.2]; exact hd), h0.1]
    | true => rw [cntN_zero _ _ hd, cntN_zero _ _ (by rw [← h0.2]; exact hd)]
  | succ m ih =>
    intro F G h
    have h0 := h []
    cases hd : (F []).2.2 with
    | false => rw [cntN_done _ _ _ hd, cntN_done _ _ _ (by rw [← h0.2]; exact hd), h0.1]
    | true => rw [cntN_succ _ _ _ hd, cntN_succ _ _ _ (by rw [← h0.2]; exact hd), ih _ (fun l => G (false :: l)) (fun l => h _), ih _ (fun l => G (true :: l)) (fun l => h _)]

theorem opnN_same (m : Nat) : ∀ (F G : List Bool → CameN), (∀ l, (F l).1 = (G l).1 ∧ (F l).2.2 = (G l).2.2) → opnN m F = opnN m G := by
  induction m with
  | zero =>
    intro F G h
    have h0 := h []
    cases hd : (F []).2.2 with
    | false => rw [opnN_done _ _ hd, opnN_done _ _ (by rw [← h0.2]; exact hd)]
    | true => rw [opnN_zero _ hd, opnN_zero _ (by rw [← h0.2]; exact hd)]
  | succ m ih =>
    intro F G h
    have h0 := h []
    cases hd : (F []).2.2 with
    | false => rw [opnN_done _ _ hd, opnN_done _ _ (by rw [← h0.2]; exact hd)]
    | true => rw [opnN_succ _ _ hd, opnN_succ _ _ (by rw [← h0.2]; exact hd), ih _ (fun l => G (false :: l)) (fun l => h _), ih _ (fun l => G (true :: l)) (fun l => h _)]

/-- The sum of f over 0 to k - 1. -/
def sumTo (f : Nat → Nat) : Nat → Nat
  | 0 => 0
  | k + 1 => sumTo f k + f k
theorem sumTo_add (f g : Nat → Nat) (k : Nat) : sumTo (fun i => f i + g i) k = sumTo f k + sumTo g k := by
  induction k with
  | zero => rfl
  | succ k ih => simp only [sumTo, ih]; omega
theorem sumTo_congr {f g : Nat → Nat} (k : Nat) (h : ∀ i, i < k → f i = g i) : sumTo f k = sumTo g k := by
  induction k with
  | zero => rfl
  | succ k ih => simp only [sumTo]; rw [ih (fun i hi => h i (by omega)), h k (by omega)]
theorem sumTo_const (c k : Nat) : sumTo (fun _ => c) k = k * c := by
  induction k with
  | zero => simp [sumTo]
  | succ k ih => simp only [sumTo, ih]; rw [Nat.add_mul, Nat.one_mul]
theorem sumTo_zero (k : Nat) : sumTo (fun _ => 0) k = 0 := by rw [sumTo_const]; simp
theorem sumTo_one (x v : Nat) (k : Nat) : sumTo (fun i => if x = i then v else 0) k = if x < k then v else 0 := by
  induction k with
  | zero => simp [sumTo]
  | succ k ih =>
    simp only [sumTo, ih]
    rcases Nat.lt_trichotomy x k with h | h | h
    · rw [if_pos h, if_neg (by omega), if_pos (by omega)]; rfl
    · subst h; rw [if_neg (by omega), if_pos rfl, if_pos (by omega)]; omega
    · rw [if_neg (by omega), if_neg (by omega), if_neg (by omega)]

/-- All the weights come to all. -/
theorem allN (K m : Nat) : ∀ F : List Bool → CameN, (∀ l, (F l).2.2 = false → (F l).1 < K) → sumTo (fun i => cntN i m F) K + opnN m F = 2 ^ m := by
  induction m with
  | zero =>
    intro F hF
    cases hd : (F []).2.2 with
    | false =>
      rw [opnN_done _ _ hd, sumTo_congr K (fun i _ => cntN_done i 0 F hd), sumTo_one, if_pos (hF [] hd)]
    | true => rw [opnN_zero _ hd, sumTo_congr K (fun i _ => cntN_zero i F hd), sumTo_zero]
  | succ m ih =>
    intro F hF
    cases hd : (F []).2.2 with
    | false =>
      rw [opnN_done _ _ hd, sumTo_congr K (fun i _ => cntN_done i (m + 1) F hd), sumTo_one, if_pos (hF [] hd)]; rfl
    | true =>
      rw [opnN_succ _ _ hd, sumTo_congr K (fun i _ => cntN_succ i m F hd), sumTo_add]
      have a := ih (fun l => F (false :: l)) (fun l => hF _)
      have b := ih (fun l => F (true :: l)) (fun l => hF _)
      rw [Nat.pow_succ]
      omega

theorem cntN_le (i m : Nat) (F : List Bool → CameN) : cntN i m F ≤ 2 ^ m ∧ opnN m F ≤ 2 ^ m := by
  induction m generalizing F with
  | zero =>
    cases hd : (F []).2.2 with
    | false => rw [cntN_done _ _ _ hd, opnN_done _ _ hd]; split <;> simp
    | true => rw [cntN_zero _ _ hd, opnN_zero _ hd]; simp
  | succ m ih =>
    cases hd : (F []).2.2 with
    | false => rw [cntN_done _ _ _ hd, opnN_done _ _ hd]; split <;> simp
    | true =>
      rw [cntN_succ _ _ _ hd, opnN_succ _ _ hd]
      have a := ih (fun l => F (false :: l))
      have b := ih (fun l => F (true :: l))
      rw [Nat.pow_succ]
      omega

/-- What isn't an answer weighs nothing. -/
theorem cntN_none (i m : Nat) : ∀ F : List Bool → CameN, (∀ l, (F l).2.2 = false → (F l).1 ≠ i) → cntN i m F = 0 := by
  induction m with
  | zero =>
    intro F h
    cases hd : (F []).2.2 with
    | false => rw [cntN_done _ _ _ hd, if_neg (h [] hd)]
    | true => rw [cntN_zero _ _ hd]
  | succ m ih =>
    intro F h
    cases hd : (F []).2.2 with
    | false => rw [cntN_done _ _ _ hd, if_neg (h [] hd)]
    | true => rw [cntN_succ _ _ _ hd, ih _ (fun l => h _), ih _ (fun l => h _)]

/-! ### Below: each number weighs the same -/

theorem belF_nil (n w k x : Nat) : (belF n w k x []).2.2 = true := rfl

/-- How many of the numbers from x 2^k on, 2^k of them, are too great. -/
def badB (n k x : Nat) : Nat := (x + 1) * 2 ^ k - max n (x * 2 ^ k)
def inB (k x i : Nat) : Nat := if x * 2 ^ k ≤ i ∧ i < (x + 1) * 2 ^ k then 1 else 0

theorem bad_split (n k x : Nat) : badB n (k + 1) x = badB n k (2 * x) + badB n k (2 * x + 1) := by
  unfold badB
  rw [Nat.pow_succ]
  have e1 : (x + 1) * (2 ^ k * 2) = x * 2 ^ k + x * 2 ^ k + 2 ^ k + 2 ^ k := by rw [Nat.add_mul, Nat.one_mul, ← Nat.mul_assoc]; omega
  have e2 : x * (2 ^ k * 2) = x * 2 ^ k + x * 2 ^ k := by rw [← Nat.mul_assoc]; omega
  have e3 : (2 * x + 1) * 2 ^ k = x * 2 ^ k + x * 2 ^ k + 2 ^ k := by rw [Nat.add_mul, Nat.one_mul, Nat.mul_assoc]; omega
  have e4 : 2 * x * 2 ^ k = x * 2 ^ k + x * 2 ^ k := by rw [Nat.mul_assoc]; omega
  have e5 : (2 * x + 1 + 1) * 2 ^ k = x * 2 ^ k + x * 2 ^ k + 2 ^ k + 2 ^ k := by rw [Nat.add_mul, Nat.one_mul, e3]
  rw [e1, e2, e5, e3, e4]
  generalize x * 2 ^ k = X
  generalize 2 ^ k = Y
  omega
theorem in_split (k x i : Nat) : inB (k + 1) x i = inB k (2 * x) i + inB k (2 * x + 1) i := by
  unfold inB
  rw [Nat.pow_succ]
  have e1 : (x + 1) * (2 ^ k * 2) = x * 2 ^ k + x * 2 ^ k + 2 ^ k + 2 ^ k := by rw [Nat.add_mul, Nat.one_mul, ← Nat.mul_assoc]; omega
  have e2 : x * (2 ^ k * 2) = x * 2 ^ k + x * 2 ^ k := by rw [← Nat.mul_assoc]; omega
  have e3 : (2 * x + 1) * 2 ^ k = x * 2 ^ k + x * 2 ^ k + 2 ^ k := by rw [Nat.add_mul, Nat.one_mul, Nat.mul_assoc]; omega
  have e4 : 2 * x * 2 ^ k = x * 2 ^ k + x * 2 ^ k := by rw [Nat.mul_assoc]; omega
  have e5 : (2 * x + 1 + 1) * 2 ^ k = x * 2 ^ k + x * 2 ^ k + 2 ^ k + 2 ^ k := by rw [Nat.add_mul, Nat.one_mul, e3]
  rw [e1, e2, e5, e3, e4]
  generalize x * 2 ^ k = X
  generalize 2 ^ k = Y
  split <;> split <;> split <;> omega

theorem cnt_bel_leaf (n w : Nat) (hn : 0 < n) (m x i : Nat) (c : Bool) (hi : i < n) (a : Nat) (ha : cntN i m (belF n w w 0) = a) :
    cntN i m (fun l => belF n w 1 x (c :: l)) = inB 0 (2 * x + c.toNat) i * 2 ^ m + badB n 0 (2 * x + c.toNat) * a := by
  obtain ⟨y, hy⟩ : ∃ y, y = 2 * x + c.toNat := ⟨_, rfl⟩
  rw [← hy]
  by_cases h : y < n
  · have e : ∀ l, belF n w 1 x (c :: l) = (y, 1, false) := fun l => by rw [belF, if_pos (Nat.le_refl _), ← hy, if_pos h]
    rw [cntN_done _ _ _ (by rw [e]), e]
    have hb : badB n 0 y = 0 := by unfold badB; rw [Nat.pow_zero]; omega
    rw [hb, Nat.zero_mul, Nat.add_zero]
    unfold inB
    rw [Nat.pow_zero]
    by_cases h2 : y = i
    · rw [if_pos h2, if_pos (by omega), Nat.one_mul]
    · rw [if_neg h2, if_neg (by omega), Nat.zero_mul]
  · have e : cntN i m (fun l => belF n w 1 x (c :: l)) = cntN i m (belF n w w 0) := cntN_same i m _ _ (fun l => by rw [belF, if_pos (Nat.le_refl _), ← hy, if_neg h]; exact ⟨rfl, rfl⟩)
    have hb : badB n 0 y = 1 := by unfold badB; rw [Nat.pow_zero]; omega
    have hz : inB 0 y i = 0 := by unfold inB; rw [Nat.pow_zero, if_neg (by omega)]
    rw [e, ha, hb, hz]; omega

theorem cnt_bel (n w : Nat) (hn : 0 < n) (hw : 1 ≤ w) (hnw : n ≤ 2 ^ w) (m : Nat) : ∀ k x i, 1 ≤ k → i < n →
    cntN i m (belF n w k x) = if m < k then 0 else inB k x i * 2 ^ (m - k) + badB n k x * cntN 0 (m - k) (belF n w w 0) := by
  induction m with
  | zero => intro k x i hk hi; rw [cntN_zero _ _ (belF_nil _ _ _ _), if_pos (by omega)]
  | succ m ih =>
    intro k x i hk hi
    rw [cntN_succ _ _ _ (belF_nil _ _ _ _)]
    obtain ⟨k, rfl⟩ : ∃ j, k = j + 1 := ⟨k - 1, by omega⟩
    cases k with
    | zero =>
      have hin : ∀ j, j < n → inB w 0 j = 1 := fun j hj => by unfold inB; rw [if_pos (by omega)]
      have hsame : cntN i m (belF n w w 0) = cntN 0 m (belF n w w 0) := by
        rw [ih w 0 i hw hi, ih w 0 0 hw hn, hin i hi, hin 0 hn]
      rw [cnt_bel_leaf n w hn m x i false hi _ hsame, cnt_bel_leaf n w hn m x i true hi _ hsame, if_neg (by omega), in_split, bad_split]
      simp only [Bool.toNat_false, Bool.toNat_true, Nat.add_zero, Nat.add_sub_cancel, Nat.zero_add]
      rw [Nat.add_mul, Nat.add_mul]
      omega
    | succ k =>
      have e : ∀ c : Bool, cntN i m (fun l => belF n w (k + 1 + 1) x (c :: l)) = cntN i m (belF n w (k + 1) (2 * x + c.toNat)) := fun c => cntN_same i m _ _ (fun l => by rw [belF, if_neg (by omega)]; exact ⟨rfl, rfl⟩)
      rw [e, e, ih (k + 1) _ i (by omega) hi, ih (k + 1) _ i (by omega) hi]
      by_cases h : m < k + 1
      · rw [if_pos h, if_pos h, if_pos (by omega)]
      · rw [if_neg h, if_neg h, if_neg (by omega), in_split (k + 1) x i, bad_split n (k + 1) x, show m + 1 - (k + 1 + 1) = m - (k + 1) by omega]
        simp only [Bool.toNat_false, Bool.toNat_true, Nat.add_zero]
        rw [Nat.add_mul, Nat.add_mul]
        omega

/-- ALL TAPES of Below: each number weighs the same, and all come to all. -/
theorem below_even (n w m : Nat) (hn : 0 < n) (hnw : n ≤ 2 ^ w) (hw0 : w = 0 → n = 1) : (∀ i, i < n → cntN i m (belowF n w) = cntN 0 m (belowF n w)) ∧ (∀ i, n ≤ i → cntN i m (belowF n w) = 0) ∧ n * cntN 0 m (belowF n w) + opnN m (belowF n w) = 2 ^ m := by
  have h1 : ∀ i, i < n → cntN i m (belowF n w) = cntN 0 m (belowF n w) := by
    intro i hi
    by_cases hw : w = 0
    · have := hw0 hw
      obtain rfl : i = 0 := by omega
      rfl
    · have e : belowF n w = belF n w w 0 := by funext l; unfold belowF; rw [if_neg hw]
      have hin : ∀ j, j < n → inB w 0 j = 1 := fun j hj => by unfold inB; rw [if_pos (by omega)]
      rw [e, cnt_bel n w hn (by omega) hnw m w 0 i (by omega) hi, cnt_bel n w hn (by omega) hnw m w 0 0 (by omega) hn, hin i hi, hin 0 hn]
  refine ⟨h1, fun i hi => cntN_none i m _ (fun l _ => by have := belowF_lt hn w l; omega), ?_⟩
  have h2 := allN n m (belowF n w) (fun l _ => belowF_lt hn w l)
  rw [sumTo_congr n (fun i hi => h1 i hi), sumTo_const] at h2
  exact h2

/-! ### Binomial -/

/-- How many ways there are to k of n. -/
def chs : Nat → Nat → Nat
  | _, 0 => 1
  | 0, _ + 1 => 0
  | n + 1, k + 1 => chs n k + chs n (k + 1)

theorem binF_nil (y c : Nat) : (binF (y + 1) c []).2.2 = true := rfl
theorem cnt_bin (y : Nat) : ∀ m c k, y ≤ m → cntN (c + k) m (binF y c) = chs y k * 2 ^ (m - y) ∧ (∀ i, i < c → cntN i m (binF y c) = 0) := by
  induction y with
  | zero =>
    intro m c k hm
    refine ⟨?_, fun i hi => ?_⟩
    · rw [cntN_done _ _ _ rfl]
      show (if c = c + k then 2 ^ m else 0) = _
      cases k with
      | zero => simp [chs]
      | succ k => rw [if_neg (by omega)]; simp [chs]
    · rw [cntN_done _ _ _ rfl]
      show (if c = i then 2 ^ m else 0) = _
      rw [if_neg (by omega)]
  | succ y ih =>
    intro m c k hm
    obtain ⟨m, rfl⟩ : ∃ j, m = j + 1 := ⟨m - 1, by omega⟩
    have e : ∀ (i : Nat) (b : Bool), cntN i m (fun l => binF (y + 1) c (b :: l)) = cntN i m (binF y (c + b.toNat)) := fun i b => cntN_same i m _ _ (fun l => ⟨rfl, rfl⟩)
    refine ⟨?_, fun i hi => ?_⟩
    · rw [cntN_succ _ _ _ (binF_nil _ _), e, e]
      simp only [Bool.toNat_false, Bool.toNat_true, Nat.add_zero]
      rw [(ih m c k (by omega)).1, show m + 1 - (y + 1) = m - y by omega]
      cases k with
      | zero => rw [(ih m (c + 1) 0 (by omega)).2 (c + 0) (by omega)]; simp [chs]
      | succ k =>
        have h := (ih m (c + 1) k (by omega)).1
        rw [show c + 1 + k = c + (k + 1) by omega] at h
        rw [h, chs, Nat.add_mul, Nat.add_comm]
    · rw [cntN_succ _ _ _ (binF_nil _ _), e, e]
      simp only [Bool.toNat_false, Bool.toNat_true, Nat.add_zero]
      rw [(ih m c 0 (by omega)).2 i hi, (ih m (c + 1) 0 (by omega)).2 i (by omega)]
theorem opn_bin (y : Nat) : ∀ m c, y ≤ m → opnN m (binF y c) = 0 := by
  induction y with
  | zero => intro m c hm; rw [opnN_done _ _ rfl]
  | succ y ih =>
    intro m c hm
    obtain ⟨m, rfl⟩ : ∃ j, m = j + 1 := ⟨m - 1, by omega⟩
    have e : ∀ (b : Bool), opnN m (fun l => binF (y + 1) c (b :: l)) = opnN m (binF y (c + b.toNat)) := fun b => opnN_same m _ _ (fun l => ⟨rfl, rfl⟩)
    rw [opnN_succ _ _ (binF_nil _ _), e, e, ih m _ (by omega), ih m _ (by omega)]
end Go.Proofs.Tm
