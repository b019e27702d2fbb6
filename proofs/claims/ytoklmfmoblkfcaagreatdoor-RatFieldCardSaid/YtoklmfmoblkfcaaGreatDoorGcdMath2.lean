/- Plain mathematics of Euclid's way, many steps at once, over natural numbers (layer 5, Gcd). -/
import Derived.Test.YtoklmfmoblkfcaaGreatDoorGcdMath
namespace Go.Proofs.Tm
set_option linter.unusedVariables false
set_option maxRecDepth 20000

/-- By turns. -/
def sgn (k : Nat) : Int := if k % 2 = 0 then 1 else -1
theorem sgn_succ (k : Nat) : sgn (k + 1) = -sgn k := by
  unfold sgn
  split <;> split <;> first | rfl | omega

structure AhN (m n L X Y al be x y pa pb qa qb k : Nat) : Prop where
  i : AhI (m : Int) n L X Y al be x y pa pb qa qb (sgn k)
  kq : k ≤ qb
  kp : 1 ≤ k → 1 ≤ pb
  qs : qb ≤ 4294967296
  last : 1 ≤ k → sgn k * ((qb : Int) * n - qa * m) < sgn k * ((pa : Int) * m - pb * n) ∧ sgn k * ((pa : Int) * m - pb * n) ≤ n

theorem AhN.start (m n L : Nat) (hL : 0 < L) (hnm : n ≤ m) : AhN m n L (m / L) (n / L) (m % L) (n % L) (m / L) (n / L) 1 0 0 1 0 := by
  refine ⟨?_, by omega, by omega, by omega, by omega⟩
  have h1 := Nat.div_add_mod m L
  have h2 := Nat.div_add_mod n L
  have h3 := Nat.mod_lt m hL
  have h4 := Nat.mod_lt n hL
  have h5 : n / L ≤ m / L := Nat.div_le_div_right hnm
  have e1 : (m : Int) = ((m / L : Nat) : Int) * (L : Int) + ((m % L : Nat) : Int) := by rw [← Int.natCast_mul, ← Int.natCast_add, Nat.mul_comm]; exact congrArg Int.ofNat h1.symm
  have e2 : (n : Int) = ((n / L : Nat) : Int) * (L : Int) + ((n % L : Nat) : Int) := by rw [← Int.natCast_mul, ← Int.natCast_add, Nat.mul_comm]; exact congrArg Int.ofNat h2.symm
  clear h1 h2
  generalize m / L = X at *
  generalize n / L = Y at *
  generalize m % L = al at *
  generalize n % L = be at *
  exact AhI.start (m : Int) n L (X : Int) (Y : Int) (al : Int) (be : Int) e1 e2 (by omega) (by omega) (by omega) (by omega) (by omega) (by omega) (by omega)

section
variable {m n L X Y al be x y pa pb qa qb k : Nat}

theorem AhN.xy (h : AhN m n L X Y al be x y pa pb qa qb k) : y ≤ x := by have := h.i.xy; omega

/-- The next rest's parts are no greater than the highest bits of a. -/
theorem AhN.room (h : AhN m n L X Y al be x y pa pb qa qb k) (hy : 0 < y) :
    pa + x / y * qa ≤ pb + x / y * qb ∧ pb + x / y * qb ≤ X ∧ qb ≤ pb + x / y * qb ∧ X = (pb + x / y * qb) * y + qb * (x % y) := by
  have hxy := h.xy
  have h1 : 1 ≤ x / y := (Nat.le_div_iff_mul_le hy).2 (by omega)
  have hdm := Nat.div_add_mod x y
  have hz : (x : Int) = ((x / y : Nat) : Int) * (y : Int) + ((x % y : Nat) : Int) := by rw [← Int.natCast_mul, ← Int.natCast_add, Nat.mul_comm]; exact congrArg Int.ofNat hdm.symm
  obtain ⟨a1, a2, a3, a4, a5⟩ := h.i.room (n := ((x / y : Nat) : Int)) (z := ((x % y : Nat) : Int)) (ra := ((pa + x / y * qa : Nat) : Int)) (rb := ((pb + x / y * qb : Nat) : Int)) (by omega) (by omega) hz (by omega) (by rw [Int.natCast_add, Int.natCast_mul]) (by rw [Int.natCast_add, Int.natCast_mul])
  refine ⟨by omega, by omega, by omega, ?_⟩
  have e := h.i.x0
  have e2 : X = qb * x + pb * y := by
    have : (X : Int) = ((qb * x + pb * y : Nat) : Int) := by rw [e, Int.natCast_add, Int.natCast_mul, Int.natCast_mul]
    exact Int.ofNat.inj this
  rw [e2, Nat.add_mul]
  have e3 : qb * x = qb * (y * (x / y)) + qb * (x % y) := by rw [← Nat.mul_add, hdm]
  have e4 : x / y * qb * y = qb * (y * (x / y)) := by rw [Nat.mul_comm (x / y) qb, Nat.mul_assoc, Nat.mul_comm (x / y) y]
  omega

theorem AhN.small (h : AhN m n L X Y al be x y pa pb qa qb k) (hy : 0 < y) (hX : X < 18446744073709551616) (h1 : pb + x / y * qb ≤ x % y) : pb + x / y * qb < 4294967296 := by
  obtain ⟨_, _, _, e⟩ := h.room hy
  generalize pb + x / y * qb = rb at *
  have h2 : rb * rb ≤ rb * y := Nat.mul_le_mul_left _ (by have := Nat.mod_lt x hy; omega)
  rcases Nat.lt_or_ge rb 4294967296 with h3 | h3
  · exact h3
  · have h4 : 4294967296 * 4294967296 ≤ rb * rb := Nat.mul_le_mul h3 h3
    omega

theorem AhN.step (h : AhN m n L X Y al be x y pa pb qa qb k) (hy : 0 < y) (hX : X < 18446744073709551616) (h1 : pb + x / y * qb ≤ x % y) (h2 : qb + (pb + x / y * qb) ≤ y - x % y) :
    AhN m n L X Y al be y (x % y) qa qb (pa + x / y * qa) (pb + x / y * qb) (k + 1) := by
  have hxy := h.xy
  have hn1 : 1 ≤ x / y := (Nat.le_div_iff_mul_le hy).2 (by omega)
  have hdm := Nat.div_add_mod x y
  have hzl := Nat.mod_lt x hy
  have hsm := h.small hy hX h1
  have hz : (x : Int) = ((x / y : Nat) : Int) * (y : Int) + ((x % y : Nat) : Int) := by rw [← Int.natCast_mul, ← Int.natCast_add, Nat.mul_comm]; exact congrArg Int.ofNat hdm.symm
  obtain ⟨a1, a2, a3⟩ := h.i.step (n := ((x / y : Nat) : Int)) (z := ((x % y : Nat) : Int)) (ra := ((pa + x / y * qa : Nat) : Int)) (rb := ((pb + x / y * qb : Nat) : Int)) (by omega) hz (by rw [Int.natCast_add, Int.natCast_mul]) (by rw [Int.natCast_add, Int.natCast_mul]) (by omega) (by omega)
  have hq : qb ≤ x / y * qb := Nat.le_mul_of_pos_left _ hn1
  have hq1 : 1 ≤ qb := by have := h.i.q1; omega
  refine ⟨by rw [sgn_succ]; exact a1, ?_, fun _ => hq1, by omega, fun _ => by rw [sgn_succ]; exact ⟨a2, a3⟩⟩
  rcases Nat.eq_zero_or_pos k with rfl | hk
  · omega
  · have := h.kp hk
    have := h.kq
    omega

/-- What two rests come to. -/
theorem AhN.out (h : AhN m n L X Y al be x y pa pb qa qb k) (hk : 1 ≤ k) : ∃ P Q : Nat, Q < P ∧ P ≤ n ∧ Nat.gcd P Q = Nat.gcd m n ∧
    (k % 2 = 0 → pa * m = pb * n + P ∧ qb * n = qa * m + Q) ∧ (k % 2 = 1 → pb * n = pa * m + P ∧ qa * m = qb * n + Q) := by
  obtain ⟨l1, l2⟩ := h.last hk
  have q0 := h.i.Q0
  have g := h.i.gcd
  obtain ⟨P, hP⟩ : ∃ P : Nat, (P : Int) = sgn k * ((pa : Int) * m - pb * n) := ⟨(sgn k * ((pa : Int) * m - pb * n)).toNat, by omega⟩
  obtain ⟨Q, hQ⟩ : ∃ Q : Nat, (Q : Int) = sgn k * ((qb : Int) * n - qa * m) := ⟨(sgn k * ((qb : Int) * n - qa * m)).toNat, by omega⟩
  rw [← hP, ← hQ] at g l1
  rw [← hP] at l2
  refine ⟨P, Q, by omega, by omega, by simpa [Int.gcd] using g, fun hk2 => ?_, fun hk2 => ?_⟩
  · have hs : sgn k = 1 := by unfold sgn; rw [if_pos hk2]
    rw [hs, Int.one_mul] at hP hQ
    have e1 : ((pa * m : Nat) : Int) = ((pb * n + P : Nat) : Int) := by rw [Int.natCast_add, Int.natCast_mul, Int.natCast_mul, hP]; omega
    have e2 : ((qb * n : Nat) : Int) = ((qa * m + Q : Nat) : Int) := by rw [Int.natCast_add, Int.natCast_mul, Int.natCast_mul, hQ]; omega
    exact ⟨Int.ofNat.inj e1, Int.ofNat.inj e2⟩
  · have hs : sgn k = -1 := by unfold sgn; rw [if_neg (by omega)]
    rw [hs] at hP hQ
    have e1 : ((pb * n : Nat) : Int) = ((pa * m + P : Nat) : Int) := by rw [Int.natCast_add, Int.natCast_mul, Int.natCast_mul, hP]; omega
    have e2 : ((qa * m : Nat) : Int) = ((qb * n + Q : Nat) : Int) := by rw [Int.natCast_add, Int.natCast_mul, Int.natCast_mul, hQ]; omega
    exact ⟨Int.ofNat.inj e1, Int.ofNat.inj e2⟩
end
end Go.Proofs.Tm
