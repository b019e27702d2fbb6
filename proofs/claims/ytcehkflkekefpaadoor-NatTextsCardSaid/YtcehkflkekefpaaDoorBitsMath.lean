/- Plain mathematics of bits, numbers and bytes (document layer 1): numbers as bits, bits as bytes, and back. Nothing of the program is imported. -/
namespace Go.Proofs.Tm
set_option linter.unusedVariables false
set_option maxRecDepth 20000

/-- The k lowest bits of n, the highest first. -/
def numBits (n : Nat) : Nat → List Bool
  | 0 => []
  | k + 1 => n.testBit k :: numBits n k

@[simp] theorem numBits_length (n k : Nat) : (numBits n k).length = k := by
  induction k with
  | zero => rfl
  | succ k ih => simp [numBits, ih]

theorem numBits_getElem? (n k i : Nat) (h : i < k) : (numBits n k)[i]? = some (n.testBit (k - 1 - i)) := by
  induction k generalizing i with
  | zero => omega
  | succ k ih =>
    cases i with
    | zero => simp [numBits]
    | succ i => simp [numBits]; rw [ih i (by omega)]; congr 2; omega

/-- A number out of bits, the highest first. -/
def val (l : List Bool) : Nat := l.foldl (fun a b => 2 * a + b.toNat) 0

theorem val_nil : val [] = 0 := rfl
theorem val_snoc (l : List Bool) (b : Bool) : val (l ++ [b]) = 2 * val l + b.toNat := by simp [val, List.foldl_append]

theorem foldl_val (l : List Bool) (a : Nat) : l.foldl (fun a b => 2 * a + b.toNat) a = a * 2 ^ l.length + val l := by
  induction l generalizing a with
  | nil => simp [val]
  | cons b l ih =>
    simp only [List.foldl_cons, val]
    rw [ih, ih (2 * 0 + b.toNat)]
    simp only [List.length_cons, Nat.pow_succ]
    rw [Nat.add_mul, Nat.add_mul]
    have : 2 * a * 2 ^ l.length = a * (2 ^ l.length * 2) := by rw [Nat.mul_comm 2 a, Nat.mul_assoc, Nat.mul_comm 2]
    omega

theorem val_cons (b : Bool) (l : List Bool) : val (b :: l) = b.toNat * 2 ^ l.length + val l := by
  show List.foldl _ _ l = _
  rw [foldl_val]; simp

theorem val_append (l m : List Bool) : val (l ++ m) = val l * 2 ^ m.length + val m := by
  show List.foldl _ _ _ = _
  rw [List.foldl_append, foldl_val]; rfl

theorem val_lt (l : List Bool) : val l < 2 ^ l.length := by
  induction l with
  | nil => simp [val]
  | cons b l ih =>
    rw [val_cons, List.length_cons, Nat.pow_succ]
    cases b <;> simp <;> omega

theorem val_numBits (n k : Nat) : val (numBits n k) = n % 2 ^ k := by
  induction k with
  | zero => simp [numBits, val, Nat.mod_one]
  | succ k ih =>
    rw [numBits, val_cons, numBits_length, ih]
    have h : n % 2 ^ (k + 1) = n % 2 ^ k + 2 ^ k * (n / 2 ^ k % 2) := by rw [Nat.pow_succ, Nat.mod_mul]
    rw [h, Nat.testBit_eq_decide_div_mod_eq]
    have h2 : n / 2 ^ k % 2 = 0 ∨ n / 2 ^ k % 2 = 1 := by omega
    rcases h2 with h2 | h2 <;> simp [h2]
    omega

theorem val_numBits_of_lt (n k : Nat) (h : n < 2 ^ k) : val (numBits n k) = n := by rw [val_numBits, Nat.mod_eq_of_lt h]

theorem val_eq_zero (l : List Bool) : val l = 0 ↔ ∀ b ∈ l, b = false := by
  induction l with
  | nil => simp [val]
  | cons b l ih =>
    rw [val_cons]
    have hp : 0 < 2 ^ l.length := Nat.two_pow_pos _
    cases b
    · simp [ih]
    · simp

/-- The bits i, .., i + k - 1 as a number; noughts behind the end. -/
def part (l : List Bool) (i : Nat) : Nat → Nat
  | 0 => 0
  | k + 1 => 2 * part l i k + (l.getD (i + k) false).toNat

theorem part_lt (l : List Bool) (i k : Nat) : part l i k < 2 ^ k := by
  induction k with
  | zero => simp [part]
  | succ k ih => simp only [part, Nat.pow_succ]; have := Bool.toNat_le (l.getD (i + k) false); omega

theorem part_congr (l m : List Bool) (i k : Nat) (h : ∀ j, j < k → l.getD (i + j) false = m.getD (i + j) false) : part l i k = part m i k := by
  induction k with
  | zero => rfl
  | succ k ih => simp only [part]; rw [ih (fun j hj => h j (by omega)), h k (by omega)]

theorem part_eq_zero (l : List Bool) (i k : Nat) (h : l.length ≤ i) : part l i k = 0 := by
  induction k with
  | zero => rfl
  | succ k ih => simp only [part, ih]; simp [show l.length ≤ i + k by omega]

def byteAt (l : List Bool) (j : Nat) : Nat := part l (8 * j) 8
theorem byteAt_lt (l : List Bool) (j : Nat) : byteAt l j < 256 := part_lt l _ 8

/-- The bits as bytes, the last one filled up with noughts. -/
def bytesOf (l : List Bool) : List Nat := (List.range ((l.length + 7) / 8)).map (byteAt l)
/-- .. with room for one bit more. -/
def bytesUp (l : List Bool) : List Nat := (List.range (l.length / 8 + 1)).map (byteAt l)

@[simp] theorem bytesOf_length (l : List Bool) : (bytesOf l).length = (l.length + 7) / 8 := by simp [bytesOf]
@[simp] theorem bytesUp_length (l : List Bool) : (bytesUp l).length = l.length / 8 + 1 := by simp [bytesUp]

theorem bytesUp_of_ne (l : List Bool) (h : l.length % 8 ≠ 0) : bytesOf l = bytesUp l := by
  unfold bytesOf bytesUp; rw [show (l.length + 7) / 8 = l.length / 8 + 1 by omega]

theorem bytesUp_of_eq (l : List Bool) (h : l.length % 8 = 0) : bytesUp l = bytesOf l ++ [0] := by
  unfold bytesOf bytesUp
  rw [show (l.length + 7) / 8 = l.length / 8 by omega, List.range_succ, List.map_append]
  congr 1
  simp only [List.map_cons, List.map_nil]
  rw [byteAt, part_eq_zero _ _ _ (by omega)]

theorem getD_snoc_lt (l : List Bool) (b : Bool) (i : Nat) (h : i ≠ l.length) : (l ++ [b]).getD i false = l.getD i false := by
  simp only [List.getD_eq_getElem?_getD]
  rcases Nat.lt_or_ge i l.length with h1 | h1
  · rw [List.getElem?_append_left h1]
  · rw [List.getElem?_append_right h1, List.getElem?_eq_none (by omega : l.length ≤ i), List.getElem?_eq_none (by simp; omega)]

theorem getD_snoc_eq (l : List Bool) (b : Bool) : (l ++ [b]).getD l.length false = b := by simp

theorem bytesOf_snoc_false (l : List Bool) : bytesOf (l ++ [false]) = bytesUp l := by
  unfold bytesOf bytesUp
  rw [show ((l ++ [false]).length + 7) / 8 = l.length / 8 + 1 by simp; omega]
  refine List.map_congr_left fun j _ => part_congr _ _ _ _ fun k _ => ?_
  rcases Nat.lt_trichotomy (8 * j + k) l.length with h | h | h
  · exact getD_snoc_lt _ _ _ (by omega)
  · rw [h, getD_snoc_eq]; simp
  · exact getD_snoc_lt _ _ _ (by omega)

theorem byteAt_snoc_other (l : List Bool) (b : Bool) (j : Nat) (h : j ≠ l.length / 8) : byteAt (l ++ [b]) j = byteAt l j :=
  part_congr _ _ _ _ fun k _ => getD_snoc_lt _ _ _ (by omega)

theorem byte_or (l : List Bool) : byteAt l (l.length / 8) ||| (128 / 2 ^ (l.length % 8)) = byteAt (l ++ [true]) (l.length / 8) := by
  have hr : l.length % 8 < 8 := Nat.mod_lt _ (by decide)
  have hd : ∀ k, l.length % 8 < k → (l ++ [true]).getD (8 * (l.length / 8) + k) false = false := fun k hk => by
    rw [getD_snoc_lt _ _ _ (by omega)]; simp [show l.length ≤ 8 * (l.length / 8) + k by omega]
  have hd' : ∀ k, l.length % 8 ≤ k → l.getD (8 * (l.length / 8) + k) false = false := fun k hk => by simp [show l.length ≤ 8 * (l.length / 8) + k by omega]
  have he : (l ++ [true]).getD (8 * (l.length / 8) + l.length % 8) false = true := by
    rw [show 8 * (l.length / 8) + l.length % 8 = l.length by omega, getD_snoc_eq]
  have hs : ∀ k, k < l.length % 8 → (l ++ [true]).getD (8 * (l.length / 8) + k) false = l.getD (8 * (l.length / 8) + k) false := fun k hk => getD_snoc_lt _ _ _ (by omega)
  unfold byteAt
  simp only [part]
  generalize l.length % 8 = r at *
  generalize 8 * (l.length / 8) = q at *
  rcases (by omega : r = 0 ∨ r = 1 ∨ r = 2 ∨ r = 3 ∨ r = 4 ∨ r = 5 ∨ r = 6 ∨ r = 7) with rfl | rfl | rfl | rfl | rfl | rfl | rfl | rfl
  · rw [he, hd 1 (by omega), hd 2 (by omega), hd 3 (by omega), hd 4 (by omega), hd 5 (by omega), hd 6 (by omega), hd 7 (by omega), hd' 0 (by omega), hd' 1 (by omega), hd' 2 (by omega), hd' 3 (by omega), hd' 4 (by omega), hd' 5 (by omega), hd' 6 (by omega), hd' 7 (by omega)]
    rfl
  · rw [hs 0 (by omega), he, hd 2 (by omega), hd 3 (by omega), hd 4 (by omega), hd 5 (by omega), hd 6 (by omega), hd 7 (by omega), hd' 1 (by omega), hd' 2 (by omega), hd' 3 (by omega), hd' 4 (by omega), hd' 5 (by omega), hd' 6 (by omega), hd' 7 (by omega)]
    generalize l.getD (q + 0) false = b0; cases b0 <;> rfl
  · rw [hs 0 (by omega), hs 1 (by omega), he, hd 3 (by omega), hd 4 (by omega), hd 5 (by omega), hd 6 (by omega), hd 7 (by omega), hd' 2 (by omega), hd' 3 (by omega), hd' 4 (by omega), hd' 5 (by omega), hd' 6 (by omega), hd' 7 (by omega)]
    generalize l.getD (q + 0) false = b0; generalize l.getD (q + 1) false = b1; cases b0 <;> cases b1 <;> rfl
  · rw [hs 0 (by omega), hs 1 (by omega), hs 2 (by omega), he, hd 4 (by omega), hd 5 (by omega), hd 6 (by omega), hd 7 (by omega), hd' 3 (by omega), hd' 4 (by omega), hd' 5 (by omega), hd' 6 (by omega), hd' 7 (by omega)]
    generalize l.getD (q + 0) false = b0; generalize l.getD (q + 1) false = b1; generalize l.getD (q + 2) false = b2; cases b0 <;> cases b1 <;> cases b2 <;> rfl
  · rw [hs 0 (by omega), hs 1 (by omega), hs 2 (by omega), hs 3 (by omega), he, hd 5 (by omega), hd 6 (by omega), hd 7 (by omega), hd' 4 (by omega), hd' 5 (by omega), hd' 6 (by omega), hd' 7 (by omega)]
    generalize l.getD (q + 0) false = b0; generalize l.getD (q + 1) false = b1; generalize l.getD (q + 2) false = b2; generalize l.getD (q + 3) false = b3; cases b0 <;> cases b1 <;> cases b2 <;> cases b3 <;> rfl
  · rw [hs 0 (by omega), hs 1 (by omega), hs 2 (by omega), hs 3 (by omega), hs 4 (by omega), he, hd 6 (by omega), hd 7 (by omega), hd' 5 (by omega), hd' 6 (by omega), hd' 7 (by omega)]
    generalize l.getD (q + 0) false = b0; generalize l.getD (q + 1) false = b1; generalize l.getD (q + 2) false = b2; generalize l.getD (q + 3) false = b3; generalize l.getD (q + 4) false = b4
    cases b0 <;> cases b1 <;> cases b2 <;> cases b3 <;> cases b4 <;> rfl
  · rw [hs 0 (by omega), hs 1 (by omega), hs 2 (by omega), hs 3 (by omega), hs 4 (by omega), hs 5 (by omega), he, hd 7 (by omega), hd' 6 (by omega), hd' 7 (by omega)]
    generalize l.getD (q + 0) false = b0; generalize l.getD (q + 1) false = b1; generalize l.getD (q + 2) false = b2; generalize l.getD (q + 3) false = b3; generalize l.getD (q + 4) false = b4; generalize l.getD (q + 5) false = b5
    cases b0 <;> cases b1 <;> cases b2 <;> cases b3 <;> cases b4 <;> cases b5 <;> rfl
  · rw [hs 0 (by omega), hs 1 (by omega), hs 2 (by omega), hs 3 (by omega), hs 4 (by omega), hs 5 (by omega), hs 6 (by omega), he, hd' 7 (by omega)]
    generalize l.getD (q + 0) false = b0; generalize l.getD (q + 1) false = b1; generalize l.getD (q + 2) false = b2; generalize l.getD (q + 3) false = b3; generalize l.getD (q + 4) false = b4; generalize l.getD (q + 5) false = b5; generalize l.getD (q + 6) false = b6
    cases b0 <;> cases b1 <;> cases b2 <;> cases b3 <;> cases b4 <;> cases b5 <;> cases b6 <;> rfl

theorem bytesOf_snoc_true (l : List Bool) : bytesOf (l ++ [true]) = (bytesUp l).set (l.length / 8) (byteAt l (l.length / 8) ||| (128 / 2 ^ (l.length % 8))) := by
  rw [byte_or]
  apply List.ext_getElem?
  intro j
  have hl : ((l ++ [true]).length + 7) / 8 = l.length / 8 + 1 := by simp; omega
  rcases Nat.lt_or_ge j (l.length / 8 + 1) with h | h
  · rw [List.getElem?_set]
    by_cases hj : l.length / 8 = j
    · subst hj
      simp [bytesOf, show l.length / 8 < (l.length + 1 + 7) / 8 by omega]
    · rw [if_neg hj]
      simp only [bytesOf, bytesUp, List.getElem?_map, hl]
      rw [List.getElem?_range h]
      simp [byteAt_snoc_other l true j (by omega)]
  · rw [List.getElem?_eq_none (by simp; omega), List.getElem?_eq_none (by simp; omega)]

/-- The bit i of bytes. -/
def bitAt (bs : List Nat) (i : Nat) : Bool := (bs.getD (i / 8) 0).testBit (7 - i % 8)
/-- All bits of bytes. -/
def bitsOf (bs : List Nat) : List Bool := (List.range (8 * bs.length)).map (bitAt bs)
@[simp] theorem bitsOf_length (bs : List Nat) : (bitsOf bs).length = 8 * bs.length := by simp [bitsOf]
theorem bitsOf_getElem? (bs : List Nat) (i : Nat) (h : i < 8 * bs.length) : (bitsOf bs)[i]? = some (bitAt bs i) := by simp [bitsOf, List.getElem?_range h]

theorem part_testBit (l : List Bool) (i k q : Nat) (h : q < k) : (part l i k).testBit (k - 1 - q) = l.getD (i + q) false := by
  induction k with
  | zero => omega
  | succ k ih =>
    simp only [part]
    by_cases hq : q = k
    · subst hq
      rw [show q + 1 - 1 - q = 0 by omega, Nat.testBit_zero]
      cases l.getD (i + q) false <;> simp <;> omega
    · rw [show k + 1 - 1 - q = (k - 1 - q) + 1 by omega, Nat.testBit_succ, ← ih (by omega)]
      congr 1
      have := Bool.toNat_le (l.getD (i + k) false)
      omega

theorem bitAt_bytesOf (l : List Bool) (i : Nat) (h : i < 8 * ((l.length + 7) / 8)) : bitAt (bytesOf l) i = l.getD i false := by
  unfold bitAt
  have hj : i / 8 < (l.length + 7) / 8 := by omega
  have e : (bytesOf l).getD (i / 8) 0 = byteAt l (i / 8) := by simp [bytesOf, List.getElem?_range hj]
  rw [e, byteAt]
  have := part_testBit l (8 * (i / 8)) 8 (i % 8) (Nat.mod_lt _ (by decide))
  rw [show 8 - 1 - i % 8 = 7 - i % 8 by omega] at this
  rw [this, show 8 * (i / 8) + i % 8 = i by omega]

/-- What was written is there, and noughts behind. -/
theorem bitsOf_bytesOf (l : List Bool) : bitsOf (bytesOf l) = l ++ List.replicate (8 * ((l.length + 7) / 8) - l.length) false := by
  apply List.ext_getElem?
  intro i
  rcases Nat.lt_or_ge i (8 * ((l.length + 7) / 8)) with h | h
  · rw [bitsOf_getElem? _ _ (by simpa using h), bitAt_bytesOf _ _ h]
    rcases Nat.lt_or_ge i l.length with h1 | h1
    · rw [List.getElem?_append_left h1]; simp [h1]
    · rw [List.getElem?_append_right h1, List.getElem?_replicate, if_pos (by omega)]; simp [h1]
  · rw [List.getElem?_eq_none (by simpa using h), List.getElem?_eq_none (by simp; omega)]

theorem take_drop_snoc (l : List Bool) (a k : Nat) (h : a + k < l.length) : (l.drop a).take (k + 1) = (l.drop a).take k ++ [l.getD (a + k) false] := by
  rw [List.take_add_one]
  congr 1
  rw [List.getElem?_drop]
  simp [h]

end Go.Proofs.Tm
