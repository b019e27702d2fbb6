/- Plain mathematics of Euclid's way, many steps at once by the highest bits (layer 5, Gcd). Nothing of the program is imported. -/
namespace Go.Proofs.Tm
set_option linter.unusedVariables false
set_option maxRecDepth 20000

/-- Two rests, P = s (pa a - pb b) and Q = s (qb b - qa a), of which the highest bits are x and y; a = X L + al, b = Y L + be. -/
structure AhI (a b L X Y al be x y pa pb qa qb s : Int) : Prop where
  sg : s = 1 ∨ s = -1
  ha : a = X * L + al
  hb : b = Y * L + be
  al0 : 0 ≤ al
  alL : al < L
  be0 : 0 ≤ be
  beL : be < L
  pa0 : 0 ≤ pa
  pb0 : 0 ≤ pb
  qa0 : 0 ≤ qa
  qab : qa ≤ qb
  q1 : 1 ≤ qb
  xe : x = s * (pa * X - pb * Y)
  ye : y = s * (qb * Y - qa * X)
  x0 : X = qb * x + pb * y
  y0 : 0 ≤ y
  xy : y ≤ x
  Q0 : 0 ≤ s * (qb * b - qa * a)
  QP : s * (qb * b - qa * a) ≤ s * (pa * a - pb * b)
  pq : pb ≤ qb
  Qb : s * (qb * b - qa * a) ≤ b
  pab : pa ≤ pb ∨ (pa = 1 ∧ pb = 0 ∧ qa = 0 ∧ qb = 1)
  gcd : Int.gcd (s * (pa * a - pb * b)) (s * (qb * b - qa * a)) = Int.gcd a b

theorem AhI.start (a b L X Y al be : Int) (ha : a = X * L + al) (hb : b = Y * L + be) (h1 : 0 ≤ al) (h2 : al < L) (h3 : 0 ≤ be) (h4 : be < L) (hY : 0 ≤ Y) (hXY : Y ≤ X) (hba : b ≤ a) : AhI a b L X Y al be X Y 1 0 0 1 1 := by
  have hb0 : 0 ≤ b := by rw [hb]; have := Int.mul_nonneg hY (show 0 ≤ L by omega); omega
  refine ⟨.inl rfl, ha, hb, h1, h2, h3, h4, by omega, by omega, by omega, by omega, by omega, by omega, by omega, by omega, hY, hXY, by omega, by omega, by omega, by omega, by omega, ?_⟩
  simp

/-- How much the bits below are worth. -/
theorem ah_err (L al be ra rb s : Int) (hs : s = 1 ∨ s = -1) (h1 : 0 ≤ al) (h2 : al < L) (h3 : 0 ≤ be) (h4 : be < L) (ra0 : 0 ≤ ra) (hab : ra ≤ rb) (r1 : 1 ≤ rb) :
    -(rb * L) < s * (ra * al - rb * be) ∧ s * (ra * al - rb * be) < rb * L := by
  have e1 : 0 ≤ ra * al := Int.mul_nonneg ra0 h1
  have e2 : 0 ≤ rb * be := Int.mul_nonneg (by omega) h3
  have e3 : rb * be ≤ rb * (L - 1) := Int.mul_le_mul_of_nonneg_left (by omega) (by omega)
  have e4 : ra * al ≤ rb * al := Int.mul_le_mul_of_nonneg_right hab h1
  have e5 : rb * al ≤ rb * (L - 1) := Int.mul_le_mul_of_nonneg_left (by omega) (by omega)
  rw [Int.mul_sub, Int.mul_one] at e3 e5
  rcases hs with rfl | rfl
  · omega
  · omega

theorem int_gcd_step (P Q n : Int) : Int.gcd Q (P - n * Q) = Int.gcd P Q := by
  rw [Int.gcd_comm P Q, Int.sub_eq_add_neg, ← Int.neg_mul]
  have := Int.gcd_add_mul_left_right Q P (-n)
  rw [Int.mul_comm] at this
  exact this

theorem AhI.step {a b L X Y al be x y pa pb qa qb s n z ra rb : Int} (h : AhI a b L X Y al be x y pa pb qa qb s) (hn : 1 ≤ n) (hz : x = n * y + z) (hra : ra = pa + n * qa) (hrb : rb = pb + n * qb) (h1 : rb ≤ z) (h2 : qb + rb ≤ y - z) :
    AhI a b L X Y al be y z qa qb ra rb (-s) ∧ -s * (rb * b - ra * a) < -s * (qa * a - qb * b) ∧ -s * (qa * a - qb * b) ≤ b := by
  obtain ⟨sg, ha, hb, al0, alL, be0, beL, pa0, pb0, qa0, qab, q1, xe, ye, x0, y0, xy, Q0, QP, pq, Qb, pab, g⟩ := h
  have hnq : qb ≤ n * qb := by have := Int.mul_le_mul_of_nonneg_right hn (show 0 ≤ qb by omega); omega
  have r1 : 1 ≤ rb := by omega
  have hrab : ra ≤ rb := by
    rcases pab with h | ⟨rfl, rfl, rfl, rfl⟩
    · have := Int.mul_le_mul_of_nonneg_left qab (show 0 ≤ n by omega); omega
    · omega
  have ra0 : 0 ≤ ra := by rw [hra]; have := Int.mul_nonneg (show 0 ≤ n by omega) qa0; omega
  have ze : z = s * (ra * X - rb * Y) := by
    have : z = x - n * y := by omega
    rw [this, hra, hrb, xe, ye]; grind
  have hR : -s * (rb * b - ra * a) = z * L + s * (ra * al - rb * be) := by rw [ze, ha, hb]; grind
  have hQ : s * (qb * b - qa * a) = y * L + -s * (qa * al - qb * be) := by rw [ye, ha, hb]; grind
  have eR := ah_err L al be ra rb s sg al0 alL be0 beL ra0 hrab r1
  have eQ := ah_err L al be qa qb (-s) (by omega) al0 alL be0 beL qa0 qab q1
  have m1 : rb * L ≤ z * L := Int.mul_le_mul_of_nonneg_right h1 (by omega)
  have m2 : (qb + rb) * L ≤ (y - z) * L := Int.mul_le_mul_of_nonneg_right h2 (by omega)
  rw [Int.add_mul, Int.sub_mul] at m2
  have eP : -s * (qa * a - qb * b) = s * (qb * b - qa * a) := by grind
  refine ⟨?_, by rw [eP, hR, hQ]; omega, by rw [eP]; exact Qb⟩
  refine ⟨by omega, ha, hb, al0, alL, be0, beL, qa0, by omega, ra0, hrab, r1, ?_, ?_, ?_, by omega, by omega, by rw [hR]; omega, by rw [eP, hR, hQ]; omega, by omega, ?_, .inl qab, ?_⟩
  · rw [ye]; grind
  · rw [ze]; grind
  · rw [x0, hz, hrb]; grind
  · rw [hR]; omega
  · rw [← g, eP]
    have e : -s * (rb * b - ra * a) = s * (pa * a - pb * b) - n * (s * (qb * b - qa * a)) := by rw [hra, hrb]; grind
    rw [e, int_gcd_step]

/-- The next rest's parts are no greater than the highest bits of a. -/
theorem AhI.room {a b L X Y al be x y pa pb qa qb s n z ra rb : Int} (h : AhI a b L X Y al be x y pa pb qa qb s) (hy : 0 < y) (hn : 1 ≤ n) (hz : x = n * y + z) (hz0 : 0 ≤ z) (hra : ra = pa + n * qa) (hrb : rb = pb + n * qb) : ra ≤ rb ∧ rb ≤ X ∧ 0 ≤ n * qa ∧ 0 ≤ n * qb ∧ qb ≤ rb := by
  obtain ⟨sg, ha, hb, al0, alL, be0, beL, pa0, pb0, qa0, qab, q1, xe, ye, x0, y0, xy, Q0, QP, pq, Qb, pab, g⟩ := h
  have hnq : qb ≤ n * qb := by have := Int.mul_le_mul_of_nonneg_right hn (show 0 ≤ qb by omega); omega
  have hrab : ra ≤ rb := by
    rcases pab with h | ⟨rfl, rfl, rfl, rfl⟩
    · have := Int.mul_le_mul_of_nonneg_left qab (show 0 ≤ n by omega); omega
    · omega
  have e : X = rb * y + qb * z := by rw [x0, hz, hrb]; grind
  have e2 : 0 ≤ qb * z := Int.mul_nonneg (by omega) hz0
  have e3 : rb ≤ rb * y := by have := Int.mul_le_mul_of_nonneg_left (show 1 ≤ y by omega) (show 0 ≤ rb by omega); omega
  exact ⟨hrab, by omega, Int.mul_nonneg (by omega) qa0, Int.mul_nonneg (by omega) (by omega), by omega⟩
end Go.Proofs.Tm
