/- The law WholeSums (layer 6). -/
import Derived.Test.YtoklmfmoblkfcaaDoorBoth6
import Derived.Test.YtoklmfmoblkfcaaDoorWholeS
import Derived.Test.YtoklmfmoblkfcaaDoorWLen
import Derived.Deep.RegionHeld3
import Derived.Test.YtoklmfmoblkfcaaDoorRefZ
namespace Go.Proofs.YtoklmfmoblkfcaaDoor
open Go.RowKit Go.Proofs.Tm
set_option linter.unusedVariables false
set_option linter.unusedSimpArgs false
set_option maxRecDepth 20000

set_option maxHeartbeats 3200000 in
theorem wholeSums_law (a0 : Option Addr) (l0 c0 : Nat) (L0 : List Nat) (b0 : Bool) (a1 : Option Addr) (l1 c1 : Nat) (L1 : List Nat) (b1 : Bool) (w : World) (ht : Tab w) (hs0 : Sl w (.slice a0 l0 c0) (cu64 L0)) (hw0 : ∀ d ∈ L0, d < 18446744073709551616) (hs1 : Sl w (.slice a1 l1 c1) (cu64 L1)) (hw1 : ∀ d ∈ L1, d < 18446744073709551616) :
    Calls Tryd.prog 3 #[.agg #[.slice a0 l0 c0, .bool b0], .agg #[.slice a1 l1 c1, .bool b1]] w (fun e w' => e = .returned (.bool true) ∧ Upd [] w w') := by
  have HAW : Hid (∀ W, Upd [] w W → Calls Tryd.prog 8 #[] W (fun e w' => e = .returned (.bool true) ∧ Upd [] W w')) := fun W h => awake6 W (ht.upd0 h)
  obtain ⟨P1, hP1⟩ : ∃ P, P = wval (L0.take 5) := ⟨_, rfl⟩
  have hb1 := few_bounds L0 5 hw0
  rw [← hP1] at hb1
  have hz1 : (digs (zP b0 P1)).length ≤ 25 ∧ (digs (zM b0 P1)).length ≤ 25 := by
    unfold zP zM
    cases b0 <;> simp [digs_zero] <;> omega
  have hn1 : ((zP b0 P1 : Int) - zM b0 P1).natAbs = P1 := by
    unfold zP zM
    cases b0 <;> simp
  have HB1 : Hid (∀ W, Upd [] w W → Calls Tryd.prog 9 #[.agg #[.slice a0 l0 c0, .bool b0]] W (RBoth6 b0 P1 W)) := fun W h => by rw [hP1]; exact both6_any _ _ _ _ b0 W (hs0.upd0 h) hw0
  unfold RBoth6 at HB1
  generalize zP b0 P1 = p1 at *
  generalize zM b0 P1 = m1 at *
  obtain ⟨x, hx⟩ : ∃ r : Int, r = (p1 : Int) - m1 := ⟨_, rfl⟩
  rw [← hx] at HB1 hn1
  have lx : (wds x.natAbs).length ≤ 5 := by rw [hn1]; exact hb1.1
  obtain ⟨P2, hP2⟩ : ∃ P, P = wval (L1.take 5) := ⟨_, rfl⟩
  have hb2 := few_bounds L1 5 hw1
  rw [← hP2] at hb2
  have hz2 : (digs (zP b1 P2)).length ≤ 25 ∧ (digs (zM b1 P2)).length ≤ 25 := by
    unfold zP zM
    cases b1 <;> simp [digs_zero] <;> omega
  have hn2 : ((zP b1 P2 : Int) - zM b1 P2).natAbs = P2 := by
    unfold zP zM
    cases b1 <;> simp
  have HB2 : Hid (∀ W, Upd [] w W → Calls Tryd.prog 9 #[.agg #[.slice a1 l1 c1, .bool b1]] W (RBoth6 b1 P2 W)) := fun W h => by rw [hP2]; exact both6_any _ _ _ _ b1 W (hs1.upd0 h) hw1
  unfold RBoth6 at HB2
  generalize zP b1 P2 = p2 at *
  generalize zM b1 P2 = m2 at *
  obtain ⟨y, hy⟩ : ∃ r : Int, r = (p2 : Int) - m2 := ⟨_, rfl⟩
  rw [← hy] at HB2 hn2
  have ly : (wds y.natAbs).length ≤ 5 := by rw [hn2]; exact hb2.1
  have HADD : Hid (∀ W s t, WV W s x → WV W t y → Calls Tryd.prog 11 #[s, t] W (RWhole (x + y) W)) := fun W s t hs ht => wadd_any _ _ _ _ W hs ht (by omega) (by omega)
  have HSUB : Hid (∀ W s t, WV W s x → WV W t y → Calls Tryd.prog 13 #[s, t] W (RWhole (x - y) W)) := fun W s t hs ht => wsub_any _ _ _ _ W hs ht (by omega) (by omega)
  have HMUL : Hid (∀ W s t, WV W s x → WV W t y → Calls Tryd.prog 15 #[s, t] W (RWhole (x * y) W)) := fun W s t hs ht => wmul_any _ _ _ _ W hs ht (by omega) (by omega)
  have HMIN : Hid (∀ W s, WV W s x → Calls Tryd.prog 17 #[s] W (RWhole (-x) W)) := fun W s hs => wminus_any _ _ W hs
  have HCMP : Hid (∀ W s t, WV W s x → WV W t y → Calls Tryd.prog 18 #[s, t] W (fun e w' => e = .returned (.int .i64 (cmpZ x y)) ∧ Upd [] W w')) := fun W s t hs ht => wcmp_any _ _ _ _ W hs ht (by omega) (by omega)
  have HZA : Hid (∀ W s t, ZV W s p1 m1 → ZV W t p2 m2 → Calls Tryd.prog 12 #[s, t] W (RZ (p1 + p2) (m1 + m2) W)) := fun W s t hs ht => zadd_any _ _ _ _ _ _ W hs ht (by omega) (by omega) (by omega) (by omega)
  have HZS : Hid (∀ W s t, ZV W s p1 m1 → ZV W t m2 p2 → Calls Tryd.prog 12 #[s, t] W (RZ (p1 + m2) (m1 + p2) W)) := fun W s t hs ht => zadd_any _ _ _ _ _ _ W hs ht (by omega) (by omega) (by omega) (by omega)
  have HZM : Hid (∀ W s t, ZV W s p1 m1 → ZV W t p2 m2 → Calls Tryd.prog 16 #[s, t] W (RZ (p1 * p2 + m1 * m2) (p1 * m2 + m1 * p2) W)) := fun W s t hs ht => zmul_any _ _ _ _ _ _ W hs ht (by omega) (by omega) (by omega) (by omega)
  have HT2 : Hid (∀ W s, ZV W s p2 m2 → Calls Tryd.prog 14 #[s] W (RZ m2 p2 W)) := fun W s hs => zturn_any _ _ _ W hs
  have HT1 : Hid (∀ W s, ZV W s p1 m1 → Calls Tryd.prog 14 #[s] W (RZ m1 p1 W)) := fun W s hs => zturn_any _ _ _ W hs
  have HZC : Hid (∀ W s t, ZV W s p1 m1 → ZV W t p2 m2 → Calls Tryd.prog 19 #[s, t] W (fun e w' => e = .returned (.int .i64 (cmpZ x y)) ∧ Upd [] W w')) := fun W s t hs ht => by
    have := zcmp_any _ _ _ _ _ _ W hs ht (by omega) (by omega) (by omega) (by omega)
    rw [show cmpN (p1 + m2) (p2 + m1) = cmpZ x y from by rw [hx, hy]; exact zcmp_eq _ _ _ _] at this
    exact this
  have hml : ∀ a b : Nat, (digs a).length ≤ 25 → (digs b).length ≤ 25 → (digs (a * b)).length ≤ 50 := fun a b h1 h2 => Nat.le_trans (digs_mul_len a b) (by omega)
  have hal : ∀ a b : Nat, (digs a).length ≤ 50 → (digs b).length ≤ 50 → (digs (a + b)).length ≤ 1048576 := fun a b h1 h2 => Nat.le_trans (digs_add_len a b) (by omega)
  have HI1 : Hid (∀ W s t, Upd [] w W → WV W s (x + y) → ZV W t (p1 + p2) (m1 + m2) → Calls Tryd.prog 10 #[s, t] W (fun e w' => e = .returned (.bool true) ∧ Upd [] W w')) := fun W s t h hs hq => is6 _ _ _ _ _ W hs hq (ht.upd0 h) (wlen_add lx ly (by decide)) (hal _ _ (by omega) (by omega)) (hal _ _ (by omega) (by omega)) (by omega)
  have HI2 : Hid (∀ W s t, Upd [] w W → WV W s (x - y) → ZV W t (p1 + m2) (m1 + p2) → Calls Tryd.prog 10 #[s, t] W (fun e w' => e = .returned (.bool true) ∧ Upd [] W w')) := fun W s t h hs hq => is6 _ _ _ _ _ W hs hq (ht.upd0 h) (wlen_sub lx ly (by decide)) (hal _ _ (by omega) (by omega)) (hal _ _ (by omega) (by omega)) (by omega)
  have HI3 : Hid (∀ W s t, Upd [] w W → WV W s (x * y) → ZV W t (p1 * p2 + m1 * m2) (p1 * m2 + m1 * p2) → Calls Tryd.prog 10 #[s, t] W (fun e w' => e = .returned (.bool true) ∧ Upd [] W w')) := fun W s t h hs hq => is6 _ _ _ _ _ W hs hq (ht.upd0 h) (wlen_mul lx ly (by decide)) (hal _ _ (hml _ _ (by omega) (by omega)) (hml _ _ (by omega) (by omega))) (hal _ _ (hml _ _ (by omega) (by omega)) (hml _ _ (by omega) (by omega))) (by rw [hx, hy, Int.sub_mul, Int.mul_sub, Int.mul_sub]; simp only [Int.natCast_add, Int.natCast_mul]; omega)
  have HI4 : Hid (∀ W s t, Upd [] w W → WV W s (-x) → ZV W t (m1) (p1) → Calls Tryd.prog 10 #[s, t] W (fun e w' => e = .returned (.bool true) ∧ Upd [] W w')) := fun W s t h hs hq => is6 _ _ _ _ _ W hs hq (ht.upd0 h) (by rw [Int.natAbs_neg]; omega) (by omega) (by omega) (by omega)
  have hcc : (cmpZ x y == cmpZ x y) = true := by simp
  clear ht hs0 hw0 hs1 hw1 hP1 hb1 hz1 hn1 hx lx hP2 hb2 hz2 hn2 hy ly hml hal
  generalize cmpZ x y = cc at *
  generalize x + y = xa at *
  generalize x - y = xs at *
  generalize x * y = xm at *
  generalize -x = xn at *
  generalize p1 * p2 + m1 * m2 = pm at *
  generalize p1 * m2 + m1 * p2 = mm at *
  generalize p1 + p2 = pa at *
  generalize m1 + m2 = ma at *
  generalize p1 + m2 = ps at *
  generalize m1 + p2 = ms at *
  obtain ⟨w0, hw0⟩ : ∃ W, W = ((w.alloc (.cells #[.slice a0 l0 c0, .bool b0] 24)).alloc (.cells #[.slice a1 l1 c1, .bool b1] 24)) := ⟨_, rfl⟩
  obtain ⟨S, hS⟩ : ∃ s, s = w.heap.size := ⟨_, rfl⟩
  obtain ⟨hu0, r0, r1, hz0⟩ := rows2 w #[.slice a0 l0 c0, .bool b0] #[.slice a1 l1 c1, .bool b1] 24 24 w0 hw0 S hS
  have HU0 := Lib.hid hu0
  have HW0 := Lib.hid hw0
  have HS := Lib.hid hS
  have HZ0 := Lib.hid hz0
  have HR0 := Lib.hid r0
  have HR1 := Lib.hid r1
  clear hw0 hS hu0 r0 r1 hz0
  go_enter Tryd.func3, Tryd.ntmps3
  go_wp2_with fail
  rw [← HW0.out]
  rw [← HS.out]
  refine (HAW.out _ HU0.out).mono ?_
  rintro e w1 ⟨rfl, hu1⟩
  have HVw1 := Lib.hid hu1
  have s0 := (HR0.out.upd0 hu1).cell 0
  have s1 := (HR0.out.upd0 hu1).cell 1
  clear hu1
  go_wp2_with fail
  refine (HB1.out _ (HU0.out.trans0 HVw1.out)).mono ?_
  rintro e wa1 ⟨va1, vb1, rfl, hva1, hvb1, hua1⟩
  obtain ⟨aR1, lR1, cR1, rfl, _⟩ := hva1.open
  obtain ⟨aQ1, lQ1, cQ1, dQ1, mQ1, eQ1, rfl, _, _⟩ := hvb1.open
  generalize decide (x < 0) = bR1 at *
  obtain ⟨w3, hw3⟩ : ∃ W, W = (wa1.alloc (.cells #[.bool bR1, .slice aR1 lR1 cR1] 29)).alloc (.cells #[.slice aQ1 lQ1 cQ1, .slice dQ1 mQ1 eQ1] 33) := ⟨_, rfl⟩
  obtain ⟨K1, hK1⟩ : ∃ s, s = wa1.heap.size := ⟨_, rfl⟩
  obtain ⟨hul1, rR1, rQ1, _⟩ := rows2 wa1 #[.bool bR1, .slice aR1 lR1 cR1] #[.slice aQ1 lQ1 cQ1, .slice dQ1 mQ1 eQ1] 29 33 w3 hw3 K1 hK1
  have HL1 := Lib.hid (hua1.trans0 hul1)
  have HVw3 := Lib.hid (HVw1.out.trans0 HL1.out)
  have HX1 := Lib.hid (hva1.upd0 hul1)
  have HY1 := Lib.hid (hvb1.upd0 hul1)
  have HRR1 := Lib.hid rR1
  have HRQ1 := Lib.hid rQ1
  have t0 := (HR1.out.upd0 HVw3.out).cell 0
  have t1 := (HR1.out.upd0 HVw3.out).cell 1
  rw [hw3] at t0 t1
  have HWw3 := Lib.hid hw3
  have HKK1 := Lib.hid hK1
  clear hva1 hvb1 hua1 hul1 rR1 rQ1 hw3 hK1 s0 s1
  go_wp2_with fail
  rw [← HWw3.out, ← HKK1.out]
  rw [← HWw3.out] at t0 t1
  have s0 := t0
  have s1 := t1
  clear t0 t1
  refine (HB2.out _ (HU0.out.trans0 HVw3.out)).mono ?_
  rintro e wa2 ⟨va2, vb2, rfl, hva2, hvb2, hua2⟩
  obtain ⟨aR2, lR2, cR2, rfl, _⟩ := hva2.open
  obtain ⟨aQ2, lQ2, cQ2, dQ2, mQ2, eQ2, rfl, _, _⟩ := hvb2.open
  generalize decide (y < 0) = bR2 at *
  obtain ⟨w5, hw5⟩ : ∃ W, W = (wa2.alloc (.cells #[.bool bR2, .slice aR2 lR2 cR2] 29)).alloc (.cells #[.slice aQ2 lQ2 cQ2, .slice dQ2 mQ2 eQ2] 33) := ⟨_, rfl⟩
  obtain ⟨K2, hK2⟩ : ∃ s, s = wa2.heap.size := ⟨_, rfl⟩
  obtain ⟨hul2, rR2, rQ2, _⟩ := rows2 wa2 #[.bool bR2, .slice aR2 lR2 cR2] #[.slice aQ2 lQ2 cQ2, .slice dQ2 mQ2 eQ2] 29 33 w5 hw5 K2 hK2
  have HL2 := Lib.hid (hua2.trans0 hul2)
  have HVw5 := Lib.hid (HVw3.out.trans0 HL2.out)
  have HX2 := Lib.hid (hva2.upd0 hul2)
  have HY2 := Lib.hid (hvb2.upd0 hul2)
  have HRR2 := Lib.hid rR2
  have HRQ2 := Lib.hid rQ2
  have HXa1 := Lib.hid ((HX1.out.upd0 HL2.out))
  have HYa1 := Lib.hid ((HY1.out.upd0 HL2.out))
  have HRa1 := Lib.hid ((HRR1.out.upd0 HL2.out))
  have HRb1 := Lib.hid ((HRQ1.out.upd0 HL2.out))
  have HXa2 := Lib.hid (HX2.out)
  have HYa2 := Lib.hid (HY2.out)
  have HRa2 := Lib.hid (HRR2.out)
  have HRb2 := Lib.hid (HRQ2.out)
  have HWw5 := Lib.hid hw5
  have HKK2 := Lib.hid hK2
  clear hva2 hvb2 hua2 hul2 rR2 rQ2 hw5 hK2 s0 s1
  have hrf : Upd [] w5 w5 := Upd.refl _ _
  have HC : Hid (∀ W, Upd [] w5 W → W.cell? ⟨K1, 0, none⟩ = some (.bool bR1) ∧ W.cell? ⟨K1, 1, none⟩ = some (.slice aR1 lR1 cR1) ∧ W.cell? ⟨K1 + 1, 0, none⟩ = some (.slice aQ1 lQ1 cQ1) ∧ W.cell? ⟨K1 + 1, 1, none⟩ = some (.slice dQ1 mQ1 eQ1) ∧ W.cell? ⟨K2, 0, none⟩ = some (.bool bR2) ∧ W.cell? ⟨K2, 1, none⟩ = some (.slice aR2 lR2 cR2) ∧ W.cell? ⟨K2 + 1, 0, none⟩ = some (.slice aQ2 lQ2 cQ2) ∧ W.cell? ⟨K2 + 1, 1, none⟩ = some (.slice dQ2 mQ2 eQ2) ∧ Upd [] w5 W) := fun W h =>
    ⟨(HRa1.out.upd h (by simp <;> omega)).cell 0, (HRa1.out.upd h (by simp <;> omega)).cell 1, (HRb1.out.upd h (by simp <;> omega)).cell 0, (HRb1.out.upd h (by simp <;> omega)).cell 1, (HRa2.out.upd h (by simp <;> omega)).cell 0, (HRa2.out.upd h (by simp <;> omega)).cell 1, (HRb2.out.upd h (by simp <;> omega)).cell 0, (HRb2.out.upd h (by simp <;> omega)).cell 1, h⟩
  go_wp2_with fail
  rw [← HWw5.out, ← HKK2.out]
  go_region_held3 (fun W => W.cell? ⟨K1, 0, none⟩ = some (.bool bR1) ∧ W.cell? ⟨K1, 1, none⟩ = some (.slice aR1 lR1 cR1) ∧ W.cell? ⟨K1 + 1, 0, none⟩ = some (.slice aQ1 lQ1 cQ1) ∧ W.cell? ⟨K1 + 1, 1, none⟩ = some (.slice dQ1 mQ1 eQ1) ∧ W.cell? ⟨K2, 0, none⟩ = some (.bool bR2) ∧ W.cell? ⟨K2, 1, none⟩ = some (.slice aR2 lR2 cR2) ∧ W.cell? ⟨K2 + 1, 0, none⟩ = some (.slice aQ2 lQ2 cQ2) ∧ W.cell? ⟨K2 + 1, 1, none⟩ = some (.slice dQ2 mQ2 eQ2) ∧ Upd [] w5 W)
    ((refine HC.out _ ?_; repeat (first | (with_reducible exact huy) | (with_reducible exact hrf) | (with_reducible apply Upd.drew))))
    (first
      | (go_at_call 11; (with_reducible refine (HADD.out _ _ _ (HXa1.out.upd0 (by repeat (first | exact huy | exact hrf | apply Upd.drew | apply Upd.alloc))) (HXa2.out.upd0 (by repeat (first | exact huy | exact hrf | apply Upd.drew | apply Upd.alloc)))).mono ?_); rintro e wz ⟨vA, rfl, hvA, hu20⟩;  have HVA := Lib.hid hvA; clear hvA; have huz : Upd [] w5 wz := Upd.trans0 (by repeat (first | exact huy | exact hrf | apply Upd.drew | apply Upd.alloc)) hu20; (try clear huy); clear hu20; have huy := huz; clear huz)
      | (go_at_call 12; (with_reducible refine (HZA.out _ _ _ (HYa1.out.upd0 (by repeat (first | exact huy | exact hrf | apply Upd.drew | apply Upd.alloc))) (HYa2.out.upd0 (by repeat (first | exact huy | exact hrf | apply Upd.drew | apply Upd.alloc)))).mono ?_); rintro e wz ⟨vB, rfl, hvB, hu20⟩; have HVA := Lib.hid (HVA.out.upd0 (by first | exact hu20 | exact Upd.al hu20)); have HVB := Lib.hid hvB; clear hvB; have huz : Upd [] w5 wz := Upd.trans0 (by repeat (first | exact huy | exact hrf | apply Upd.drew | apply Upd.alloc)) hu20; (try clear huy); clear hu20; have huy := huz; clear huz)
      | (go_at_call 10; (with_reducible refine (HI1.out _ _ _ (HU0.out.trans0 (HVw5.out.trans0 (by repeat (first | exact huy | exact hrf | apply Upd.drew | apply Upd.alloc)))) (by first | exact HVA.out | exact WV.upd0 HVA.out ((Upd.refl _ _).alloc _)) (by first | exact HVB.out | exact ZV.upd0 HVB.out ((Upd.refl _ _).alloc _))).mono ?_); rintro e wz ⟨rfl, hu20⟩; have HVA := Lib.hid (HVA.out.upd0 (by first | exact hu20 | exact Upd.al hu20)); have HVB := Lib.hid (HVB.out.upd0 (by first | exact hu20 | exact Upd.al hu20));  have huz : Upd [] w5 wz := Upd.trans0 (by repeat (first | exact huy | exact hrf | apply Upd.drew | apply Upd.alloc)) hu20; (try clear huy); clear hu20; have huy := huz; clear huz)
      | (go_at_call 13; (with_reducible refine (HSUB.out _ _ _ (HXa1.out.upd0 (by repeat (first | exact huy | exact hrf | apply Upd.drew | apply Upd.alloc))) (HXa2.out.upd0 (by repeat (first | exact huy | exact hrf | apply Upd.drew | apply Upd.alloc)))).mono ?_); rintro e wz ⟨vC, rfl, hvC, hu20⟩; have HVA := Lib.hid (HVA.out.upd0 (by first | exact hu20 | exact Upd.al hu20)); have HVB := Lib.hid (HVB.out.upd0 (by first | exact hu20 | exact Upd.al hu20)); have HVC := Lib.hid hvC; clear hvC; have huz : Upd [] w5 wz := Upd.trans0 (by repeat (first | exact huy | exact hrf | apply Upd.drew | apply Upd.alloc)) hu20; (try clear huy); clear hu20; have huy := huz; clear huz)
      | (go_at_call 14; (with_reducible refine (HT2.out _ _ (HYa2.out.upd0 (by repeat (first | exact huy | exact hrf | apply Upd.drew | apply Upd.alloc)))).mono ?_); rintro e wz ⟨vD, rfl, hvD, hu20⟩; have HVA := Lib.hid (HVA.out.upd0 (by first | exact hu20 | exact Upd.al hu20)); have HVB := Lib.hid (HVB.out.upd0 (by first | exact hu20 | exact Upd.al hu20)); have HVC := Lib.hid (HVC.out.upd0 (by first | exact hu20 | exact Upd.al hu20)); have HVD := Lib.hid hvD; clear hvD; have huz : Upd [] w5 wz := Upd.trans0 (by repeat (first | exact huy | exact hrf | apply Upd.drew | apply Upd.alloc)) hu20; (try clear huy); clear hu20; have huy := huz; clear huz)
      | (go_at_call 12; (with_reducible refine (HZS.out _ _ _ (HYa1.out.upd0 (by repeat (first | exact huy | exact hrf | apply Upd.drew | apply Upd.alloc))) (by first | exact HVD.out | exact ZV.upd0 HVD.out ((Upd.refl _ _).alloc _))).mono ?_); rintro e wz ⟨vE, rfl, hvE, hu20⟩; have HVA := Lib.hid (HVA.out.upd0 (by first | exact hu20 | exact Upd.al hu20)); have HVB := Lib.hid (HVB.out.upd0 (by first | exact hu20 | exact Upd.al hu20)); have HVC := Lib.hid (HVC.out.upd0 (by first | exact hu20 | exact Upd.al hu20)); have HVD := Lib.hid (HVD.out.upd0 (by first | exact hu20 | exact Upd.al hu20)); have HVE := Lib.hid hvE; clear hvE; have huz : Upd [] w5 wz := Upd.trans0 (by repeat (first | exact huy | exact hrf | apply Upd.drew | apply Upd.alloc)) hu20; (try clear huy); clear hu20; have huy := huz; clear huz)
      | (go_at_call 10; (with_reducible refine (HI2.out _ _ _ (HU0.out.trans0 (HVw5.out.trans0 (by repeat (first | exact huy | exact hrf | apply Upd.drew | apply Upd.alloc)))) (by first | exact HVC.out | exact WV.upd0 HVC.out ((Upd.refl _ _).alloc _)) (by first | exact HVE.out | exact ZV.upd0 HVE.out ((Upd.refl _ _).alloc _))).mono ?_); rintro e wz ⟨rfl, hu20⟩; have HVA := Lib.hid (HVA.out.upd0 (by first | exact hu20 | exact Upd.al hu20)); have HVB := Lib.hid (HVB.out.upd0 (by first | exact hu20 | exact Upd.al hu20)); have HVC := Lib.hid (HVC.out.upd0 (by first | exact hu20 | exact Upd.al hu20)); have HVD := Lib.hid (HVD.out.upd0 (by first | exact hu20 | exact Upd.al hu20)); have HVE := Lib.hid (HVE.out.upd0 (by first | exact hu20 | exact Upd.al hu20));  have huz : Upd [] w5 wz := Upd.trans0 (by repeat (first | exact huy | exact hrf | apply Upd.drew | apply Upd.alloc)) hu20; (try clear huy); clear hu20; have huy := huz; clear huz)
      | (go_at_call 15; (with_reducible refine (HMUL.out _ _ _ (HXa1.out.upd0 (by repeat (first | exact huy | exact hrf | apply Upd.drew | apply Upd.alloc))) (HXa2.out.upd0 (by repeat (first | exact huy | exact hrf | apply Upd.drew | apply Upd.alloc)))).mono ?_); rintro e wz ⟨vF, rfl, hvF, hu20⟩; have HVA := Lib.hid (HVA.out.upd0 (by first | exact hu20 | exact Upd.al hu20)); have HVB := Lib.hid (HVB.out.upd0 (by first | exact hu20 | exact Upd.al hu20)); have HVC := Lib.hid (HVC.out.upd0 (by first | exact hu20 | exact Upd.al hu20)); have HVD := Lib.hid (HVD.out.upd0 (by first | exact hu20 | exact Upd.al hu20)); have HVE := Lib.hid (HVE.out.upd0 (by first | exact hu20 | exact Upd.al hu20)); have HVF := Lib.hid hvF; clear hvF; have huz : Upd [] w5 wz := Upd.trans0 (by repeat (first | exact huy | exact hrf | apply Upd.drew | apply Upd.alloc)) hu20; (try clear huy); clear hu20; have huy := huz; clear huz)
      | (go_at_call 16; (with_reducible refine (HZM.out _ _ _ (HYa1.out.upd0 (by repeat (first | exact huy | exact hrf | apply Upd.drew | apply Upd.alloc))) (HYa2.out.upd0 (by repeat (first | exact huy | exact hrf | apply Upd.drew | apply Upd.alloc)))).mono ?_); rintro e wz ⟨vG, rfl, hvG, hu20⟩; have HVA := Lib.hid (HVA.out.upd0 (by first | exact hu20 | exact Upd.al hu20)); have HVB := Lib.hid (HVB.out.upd0 (by first | exact hu20 | exact Upd.al hu20)); have HVC := Lib.hid (HVC.out.upd0 (by first | exact hu20 | exact Upd.al hu20)); have HVD := Lib.hid (HVD.out.upd0 (by first | exact hu20 | exact Upd.al hu20)); have HVE := Lib.hid (HVE.out.upd0 (by first | exact hu20 | exact Upd.al hu20)); have HVF := Lib.hid (HVF.out.upd0 (by first | exact hu20 | exact Upd.al hu20)); have HVG := Lib.hid hvG; clear hvG; have huz : Upd [] w5 wz := Upd.trans0 (by repeat (first | exact huy | exact hrf | apply Upd.drew | apply Upd.alloc)) hu20; (try clear huy); clear hu20; have huy := huz; clear huz)
      | (go_at_call 10; (with_reducible refine (HI3.out _ _ _ (HU0.out.trans0 (HVw5.out.trans0 (by repeat (first | exact huy | exact hrf | apply Upd.drew | apply Upd.alloc)))) (by first | exact HVF.out | exact WV.upd0 HVF.out ((Upd.refl _ _).alloc _)) (by first | exact HVG.out | exact ZV.upd0 HVG.out ((Upd.refl _ _).alloc _))).mono ?_); rintro e wz ⟨rfl, hu20⟩; have HVA := Lib.hid (HVA.out.upd0 (by first | exact hu20 | exact Upd.al hu20)); have HVB := Lib.hid (HVB.out.upd0 (by first | exact hu20 | exact Upd.al hu20)); have HVC := Lib.hid (HVC.out.upd0 (by first | exact hu20 | exact Upd.al hu20)); have HVD := Lib.hid (HVD.out.upd0 (by first | exact hu20 | exact Upd.al hu20)); have HVE := Lib.hid (HVE.out.upd0 (by first | exact hu20 | exact Upd.al hu20)); have HVF := Lib.hid (HVF.out.upd0 (by first | exact hu20 | exact Upd.al hu20)); have HVG := Lib.hid (HVG.out.upd0 (by first | exact hu20 | exact Upd.al hu20));  have huz : Upd [] w5 wz := Upd.trans0 (by repeat (first | exact huy | exact hrf | apply Upd.drew | apply Upd.alloc)) hu20; (try clear huy); clear hu20; have huy := huz; clear huz)
      | (go_at_call 17; (with_reducible refine (HMIN.out _ _ (HXa1.out.upd0 (by repeat (first | exact huy | exact hrf | apply Upd.drew | apply Upd.alloc)))).mono ?_); rintro e wz ⟨vH, rfl, hvH, hu20⟩; have HVA := Lib.hid (HVA.out.upd0 (by first | exact hu20 | exact Upd.al hu20)); have HVB := Lib.hid (HVB.out.upd0 (by first | exact hu20 | exact Upd.al hu20)); have HVC := Lib.hid (HVC.out.upd0 (by first | exact hu20 | exact Upd.al hu20)); have HVD := Lib.hid (HVD.out.upd0 (by first | exact hu20 | exact Upd.al hu20)); have HVE := Lib.hid (HVE.out.upd0 (by first | exact hu20 | exact Upd.al hu20)); have HVF := Lib.hid (HVF.out.upd0 (by first | exact hu20 | exact Upd.al hu20)); have HVG := Lib.hid (HVG.out.upd0 (by first | exact hu20 | exact Upd.al hu20)); have HVH := Lib.hid hvH; clear hvH; have huz : Upd [] w5 wz := Upd.trans0 (by repeat (first | exact huy | exact hrf | apply Upd.drew | apply Upd.alloc)) hu20; (try clear huy); clear hu20; have huy := huz; clear huz)
      | (go_at_call 14; (with_reducible refine (HT1.out _ _ (HYa1.out.upd0 (by repeat (first | exact huy | exact hrf | apply Upd.drew | apply Upd.alloc)))).mono ?_); rintro e wz ⟨vI, rfl, hvI, hu20⟩; have HVA := Lib.hid (HVA.out.upd0 (by first | exact hu20 | exact Upd.al hu20)); have HVB := Lib.hid (HVB.out.upd0 (by first | exact hu20 | exact Upd.al hu20)); have HVC := Lib.hid (HVC.out.upd0 (by first | exact hu20 | exact Upd.al hu20)); have HVD := Lib.hid (HVD.out.upd0 (by first | exact hu20 | exact Upd.al hu20)); have HVE := Lib.hid (HVE.out.upd0 (by first | exact hu20 | exact Upd.al hu20)); have HVF := Lib.hid (HVF.out.upd0 (by first | exact hu20 | exact Upd.al hu20)); have HVG := Lib.hid (HVG.out.upd0 (by first | exact hu20 | exact Upd.al hu20)); have HVH := Lib.hid (HVH.out.upd0 (by first | exact hu20 | exact Upd.al hu20)); have HVI := Lib.hid hvI; clear hvI; have huz : Upd [] w5 wz := Upd.trans0 (by repeat (first | exact huy | exact hrf | apply Upd.drew | apply Upd.alloc)) hu20; (try clear huy); clear hu20; have huy := huz; clear huz)
      | (go_at_call 10; (with_reducible refine (HI4.out _ _ _ (HU0.out.trans0 (HVw5.out.trans0 (by repeat (first | exact huy | exact hrf | apply Upd.drew | apply Upd.alloc)))) (by first | exact HVH.out | exact WV.upd0 HVH.out ((Upd.refl _ _).alloc _)) (by first | exact HVI.out | exact ZV.upd0 HVI.out ((Upd.refl _ _).alloc _))).mono ?_); rintro e wz ⟨rfl, hu20⟩; have HVA := Lib.hid (HVA.out.upd0 (by first | exact hu20 | exact Upd.al hu20)); have HVB := Lib.hid (HVB.out.upd0 (by first | exact hu20 | exact Upd.al hu20)); have HVC := Lib.hid (HVC.out.upd0 (by first | exact hu20 | exact Upd.al hu20)); have HVD := Lib.hid (HVD.out.upd0 (by first | exact hu20 | exact Upd.al hu20)); have HVE := Lib.hid (HVE.out.upd0 (by first | exact hu20 | exact Upd.al hu20)); have HVF := Lib.hid (HVF.out.upd0 (by first | exact hu20 | exact Upd.al hu20)); have HVG := Lib.hid (HVG.out.upd0 (by first | exact hu20 | exact Upd.al hu20)); have HVH := Lib.hid (HVH.out.upd0 (by first | exact hu20 | exact Upd.al hu20)); have HVI := Lib.hid (HVI.out.upd0 (by first | exact hu20 | exact Upd.al hu20));  have huz : Upd [] w5 wz := Upd.trans0 (by repeat (first | exact huy | exact hrf | apply Upd.drew | apply Upd.alloc)) hu20; (try clear huy); clear hu20; have huy := huz; clear huz)
      | (go_at_call 18; (with_reducible refine (HCMP.out _ _ _ (HXa1.out.upd0 (by repeat (first | exact huy | exact hrf | apply Upd.drew | apply Upd.alloc))) (HXa2.out.upd0 (by repeat (first | exact huy | exact hrf | apply Upd.drew | apply Upd.alloc)))).mono ?_); rintro e wz ⟨rfl, hu20⟩; have HVA := Lib.hid (HVA.out.upd0 (by first | exact hu20 | exact Upd.al hu20)); have HVB := Lib.hid (HVB.out.upd0 (by first | exact hu20 | exact Upd.al hu20)); have HVC := Lib.hid (HVC.out.upd0 (by first | exact hu20 | exact Upd.al hu20)); have HVD := Lib.hid (HVD.out.upd0 (by first | exact hu20 | exact Upd.al hu20)); have HVE := Lib.hid (HVE.out.upd0 (by first | exact hu20 | exact Upd.al hu20)); have HVF := Lib.hid (HVF.out.upd0 (by first | exact hu20 | exact Upd.al hu20)); have HVG := Lib.hid (HVG.out.upd0 (by first | exact hu20 | exact Upd.al hu20)); have HVH := Lib.hid (HVH.out.upd0 (by first | exact hu20 | exact Upd.al hu20)); have HVI := Lib.hid (HVI.out.upd0 (by first | exact hu20 | exact Upd.al hu20));  have huz : Upd [] w5 wz := Upd.trans0 (by repeat (first | exact huy | exact hrf | apply Upd.drew | apply Upd.alloc)) hu20; (try clear huy); clear hu20; have huy := huz; clear huz)
      | (go_at_call 19; (with_reducible refine (HZC.out _ _ _ (HYa1.out.upd0 (by repeat (first | exact huy | exact hrf | apply Upd.drew | apply Upd.alloc))) (HYa2.out.upd0 (by repeat (first | exact huy | exact hrf | apply Upd.drew | apply Upd.alloc)))).mono ?_); rintro e wz ⟨rfl, hu20⟩; have HVA := Lib.hid (HVA.out.upd0 (by first | exact hu20 | exact Upd.al hu20)); have HVB := Lib.hid (HVB.out.upd0 (by first | exact hu20 | exact Upd.al hu20)); have HVC := Lib.hid (HVC.out.upd0 (by first | exact hu20 | exact Upd.al hu20)); have HVD := Lib.hid (HVD.out.upd0 (by first | exact hu20 | exact Upd.al hu20)); have HVE := Lib.hid (HVE.out.upd0 (by first | exact hu20 | exact Upd.al hu20)); have HVF := Lib.hid (HVF.out.upd0 (by first | exact hu20 | exact Upd.al hu20)); have HVG := Lib.hid (HVG.out.upd0 (by first | exact hu20 | exact Upd.al hu20)); have HVH := Lib.hid (HVH.out.upd0 (by first | exact hu20 | exact Upd.al hu20)); have HVI := Lib.hid (HVI.out.upd0 (by first | exact hu20 | exact Upd.al hu20));  have huz : Upd [] w5 wz := Upd.trans0 (by repeat (first | exact huy | exact hrf | apply Upd.drew | apply Upd.alloc)) hu20; (try clear huy); clear hu20; have huy := huz; clear huz))
  all_goals
    go_wp2
    go_ret
    exact ⟨rfl, HU0.out.trans0 (HVw5.out.trans0 huy)⟩

end Go.Proofs.YtoklmfmoblkfcaaDoor
