/- The law RatSums (layer 7). -/
import Derived.Test.YtoklmfmoblkfcaaGreatDoorBoth7
import Derived.Test.YtoklmfmoblkfcaaGreatDoorAw7
import Derived.Test.YtoklmfmoblkfcaaGreatDoorQvM
import Derived.Test.YtoklmfmoblkfcaaGreatDoorRatS
import Derived.Test.YtoklmfmoblkfcaaGreatDoorRatI
import Derived.Test.YtoklmfmoblkfcaaGreatDoorRatZ
import Derived.Deep.RegionHeld3
namespace Go.Proofs.YtoklmfmoblkfcaaGreatDoor
open Go.RowKit Go.Proofs.Tm
set_option linter.unusedVariables false
set_option linter.unusedSimpArgs false
set_option maxRecDepth 20000

set_option maxHeartbeats 3200000 in
theorem ratSums_q (a0 : Option Addr) (l0 c0 : Nat) (L0 : List Nat) (a1 : Option Addr) (l1 c1 : Nat) (M0 : List Nat) (b0 : Bool) (a2 : Option Addr) (l2 c2 : Nat) (L1 : List Nat) (a3 : Option Addr) (l3 c3 : Nat) (M1 : List Nat) (b1 : Bool) (w : World) (ht : Tab w) (hs0 : Sl w (.slice a0 l0 c0) (cu64 L0)) (hw0 : ∀ d ∈ L0, d < 18446744073709551616) (hs1 : Sl w (.slice a1 l1 c1) (cu64 M0)) (hw1 : ∀ d ∈ M0, d < 18446744073709551616) (hs2 : Sl w (.slice a2 l2 c2) (cu64 L1)) (hw2 : ∀ d ∈ L1, d < 18446744073709551616) (hs3 : Sl w (.slice a3 l3 c3) (cu64 M1)) (hw3 : ∀ d ∈ M1, d < 18446744073709551616) (hy0 : ¬ qval (zP b1 (wval (L1.take 2))) (zM b1 (wval (L1.take 2))) (den1 (wval (M1.take 2))) = 0) :
    Calls Tryz.prog 5 #[.agg #[.slice a0 l0 c0, .slice a1 l1 c1, .bool b0], .agg #[.slice a2 l2 c2, .slice a3 l3 c3, .bool b1]] w (fun e w' => e = .returned (.bool true) ∧ Upd [] w w') := by
  have HAW : Hid (∀ W, Upd [] w W → Calls Tryz.prog 25 #[] W (fun e w' => e = .returned (.bool true) ∧ Upd [] W w')) := fun W h => awake7 W (ht.upd0 h)
  obtain ⟨P1, hP1⟩ : ∃ P, P = wval (L0.take 2) := ⟨_, rfl⟩
  obtain ⟨D1, hD1⟩ : ∃ D, D = den1 (wval (M0.take 2)) := ⟨_, rfl⟩
  have hb11 := few_bounds L0 2 hw0
  have hb21 := few_bounds M0 2 hw1
  rw [← hP1] at hb11
  have hDl1 : (wds D1).length ≤ 2 ∧ (digs D1).length ≤ 10 := by
    rw [hD1]; unfold den1; split
    · exact ⟨(by rw [wds_one 1 (by decide) (by decide)]; decide), Nat.le_trans (digs_len1 (by decide)) (by decide)⟩
    · exact hb21
  have hDp1 : 0 < D1 := by rw [hD1]; exact den1_pos _
  have hz1 : (wds (zP b0 P1)).length ≤ 2 ∧ (digs (zP b0 P1)).length ≤ 10 ∧ (wds (zM b0 P1)).length ≤ 2 ∧ (digs (zM b0 P1)).length ≤ 10 := by
    unfold zP zM
    cases b0 <;> simp [wds_zero, digs_zero] <;> omega
  have HB1 : Hid (∀ W, Upd [] w W → Calls Tryz.prog 26 #[.agg #[.slice a0 l0 c0, .slice a1 l1 c1, .bool b0]] W (RBoth b0 P1 D1 W)) := fun W h => by rw [hP1, hD1]; exact both_any _ _ _ _ _ _ _ _ b0 W (hs0.upd0 h) hw0 (hs1.upd0 h) hw1
  unfold RBoth at HB1
  generalize zP b0 P1 = p1 at *
  generalize zM b0 P1 = m1 at *
  obtain ⟨x, hx⟩ : ∃ r : Rat, r = qval p1 m1 D1 := ⟨_, rfl⟩
  have qx : QL x 2 := by rw [hx]; exact ql_qval hDp1 hz1.1 hz1.2.2.1 hDl1.1
  rw [← hx] at HB1
  obtain ⟨P2, hP2⟩ : ∃ P, P = wval (L1.take 2) := ⟨_, rfl⟩
  obtain ⟨D2, hD2⟩ : ∃ D, D = den1 (wval (M1.take 2)) := ⟨_, rfl⟩
  have hb12 := few_bounds L1 2 hw2
  have hb22 := few_bounds M1 2 hw3
  rw [← hP2] at hb12
  rw [← hP2, ← hD2] at hy0
  have hDl2 : (wds D2).length ≤ 2 ∧ (digs D2).length ≤ 10 := by
    rw [hD2]; unfold den1; split
    · exact ⟨(by rw [wds_one 1 (by decide) (by decide)]; decide), Nat.le_trans (digs_len1 (by decide)) (by decide)⟩
    · exact hb22
  have hDp2 : 0 < D2 := by rw [hD2]; exact den1_pos _
  have hz2 : (wds (zP b1 P2)).length ≤ 2 ∧ (digs (zP b1 P2)).length ≤ 10 ∧ (wds (zM b1 P2)).length ≤ 2 ∧ (digs (zM b1 P2)).length ≤ 10 := by
    unfold zP zM
    cases b1 <;> simp [wds_zero, digs_zero] <;> omega
  have HB2 : Hid (∀ W, Upd [] w W → Calls Tryz.prog 26 #[.agg #[.slice a2 l2 c2, .slice a3 l3 c3, .bool b1]] W (RBoth b1 P2 D2 W)) := fun W h => by rw [hP2, hD2]; exact both_any _ _ _ _ _ _ _ _ b1 W (hs2.upd0 h) hw2 (hs3.upd0 h) hw3
  unfold RBoth at HB2
  generalize zP b1 P2 = p2 at *
  generalize zM b1 P2 = m2 at *
  obtain ⟨y, hy⟩ : ∃ r : Rat, r = qval p2 m2 D2 := ⟨_, rfl⟩
  have qy : QL y 2 := by rw [hy]; exact ql_qval hDp2 hz2.1 hz2.2.2.1 hDl2.1
  rw [← hy] at HB2
  rw [← hy] at hy0
  have HADD : Hid (∀ W s t, RV W s x → RV W t y → Calls Tryz.prog 43 #[s, t] W (RRat (x + y) W)) := fun W s t hs ht => raddq_any _ _ _ _ W hs ht (qx.mono (by decide)) (qy.mono (by decide))
  have HSUB : Hid (∀ W s t, RV W s x → RV W t y → Calls Tryz.prog 30 #[s, t] W (RRat (x - y) W)) := fun W s t hs ht => rsubq_any _ _ _ _ W hs ht (qx.mono (by decide)) (qy.mono (by decide))
  have HMUL : Hid (∀ W s t, RV W s x → RV W t y → Calls Tryz.prog 46 #[s, t] W (RRat (x * y) W)) := fun W s t hs ht => rmulq_any _ _ _ _ W hs ht (qx.mono (by decide)) (qy.mono (by decide))
  have HCMP : Hid (∀ W s t, RV W s x → RV W t y → Calls Tryz.prog 39 #[s, t] W (fun e w' => e = .returned (.int .i64 (cmpR x y)) ∧ Upd [] W w')) := fun W s t hs ht => rcmpq_any _ _ _ _ W hs ht (qx.mono (by decide)) (qy.mono (by decide))
  have HQA : Hid (∀ W s t, QV W s p1 m1 D1 → QV W t p2 m2 D2 → Calls Tryz.prog 44 #[s, t] W (RQ (p1 * D2 + p2 * D1) (m1 * D2 + m2 * D1) (D1 * D2) W)) := fun W s t hs ht => qadd_any _ _ _ _ _ _ _ _ W hs ht (by omega) (by omega) (by omega) (by omega) (by omega) (by omega)
  have HQT : Hid (∀ W t, QV W t p2 m2 D2 → Calls Tryz.prog 45 #[t] W (RQ m2 p2 D2 W)) := fun W t ht => qturn_any _ _ _ _ W ht
  have HQS : Hid (∀ W s t, QV W s p1 m1 D1 → QV W t m2 p2 D2 → Calls Tryz.prog 44 #[s, t] W (RQ (p1 * D2 + m2 * D1) (m1 * D2 + p2 * D1) (D1 * D2) W)) := fun W s t hs ht => qadd_any _ _ _ _ _ _ _ _ W hs ht (by omega) (by omega) (by omega) (by omega) (by omega) (by omega)
  have HQM : Hid (∀ W s t, QV W s p1 m1 D1 → QV W t p2 m2 D2 → Calls Tryz.prog 47 #[s, t] W (RQ (p1 * p2 + m1 * m2) (p1 * m2 + m1 * p2) (D1 * D2) W)) := fun W s t hs ht => qmul_any _ _ _ _ _ _ _ _ W hs ht (by omega) (by omega) (by omega) (by omega) (by omega) (by omega)
  have HQC : Hid (∀ W s t, QV W s p1 m1 D1 → QV W t p2 m2 D2 → Calls Tryz.prog 48 #[s, t] W (fun e w' => e = .returned (.int .i64 (cmpR x y)) ∧ Upd [] W w')) := fun W s t hs ht => by
    have := qcmp_any _ _ _ _ _ _ _ _ W hs ht (by omega) (by omega) (by omega) (by omega) (by omega) (by omega) hDp1 hDp2
    rw [← hx, ← hy] at this
    exact this
  have hdd : 0 < D1 * D2 := Nat.mul_pos hDp1 hDp2
  have hml : ∀ a b : Nat, (digs a).length ≤ 10 → (digs b).length ≤ 10 → (digs (a * b)).length ≤ 20 := fun a b h1 h2 => Nat.le_trans (digs_mul_len a b) (by omega)
  have hal : ∀ a b : Nat, (digs a).length ≤ 20 → (digs b).length ≤ 20 → (digs (a + b)).length ≤ 1048576 := fun a b h1 h2 => Nat.le_trans (digs_add_len a b) (by omega)
  have hdl : (digs (D1 * D2)).length ≤ 1048576 := Nat.le_trans (hml _ _ hDl1.2 hDl2.2) (by decide)
  have HI1 : Hid (∀ W s t, Upd [] w W → RV W s (x + y) → QV W t (p1 * D2 + p2 * D1) (m1 * D2 + m2 * D1) (D1 * D2) → Calls Tryz.prog 38 #[s, t] W (fun e w' => e = .returned (.bool true) ∧ Upd [] W w')) := fun W s t h hs hq => is7 _ _ _ _ _ _ W hs hq (ht.upd0 h) ((ql_add qx qy).mono (by decide)) (hal _ _ (hml _ _ hz1.2.1 hDl2.2) (hml _ _ hz2.2.1 hDl1.2)) (hal _ _ (hml _ _ hz1.2.2.2 hDl2.2) (hml _ _ hz2.2.2.2 hDl1.2)) hdl hdd (by rw [qval_add hDp1 hDp2, ← hx, ← hy])
  have HI2 : Hid (∀ W s t, Upd [] w W → RV W s (x - y) → QV W t (p1 * D2 + m2 * D1) (m1 * D2 + p2 * D1) (D1 * D2) → Calls Tryz.prog 38 #[s, t] W (fun e w' => e = .returned (.bool true) ∧ Upd [] W w')) := fun W s t h hs hq => is7 _ _ _ _ _ _ W hs hq (ht.upd0 h) ((ql_sub qx qy).mono (by decide)) (hal _ _ (hml _ _ hz1.2.1 hDl2.2) (hml _ _ hz2.2.2.2 hDl1.2)) (hal _ _ (hml _ _ hz1.2.2.2 hDl2.2) (hml _ _ hz2.2.1 hDl1.2)) hdl hdd (by rw [qval_add hDp1 hDp2, ← hx, qval_turn, ← hy, Rat.sub_eq_add_neg])
  have HI3 : Hid (∀ W s t, Upd [] w W → RV W s (x * y) → QV W t (p1 * p2 + m1 * m2) (p1 * m2 + m1 * p2) (D1 * D2) → Calls Tryz.prog 38 #[s, t] W (fun e w' => e = .returned (.bool true) ∧ Upd [] W w')) := fun W s t h hs hq => is7 _ _ _ _ _ _ W hs hq (ht.upd0 h) ((ql_mul qx qy).mono (by decide)) (hal _ _ (hml _ _ hz1.2.1 hz2.2.1) (hml _ _ hz1.2.2.2 hz2.2.2.2)) (hal _ _ (hml _ _ hz1.2.1 hz2.2.2.2) (hml _ _ hz1.2.2.2 hz2.2.1)) hdl hdd (by rw [qval_mul, ← hx, ← hy])
  have hql := ql_div qx qy hy0
  obtain ⟨qq, hqq⟩ : ∃ r : Rat, r = x / y := ⟨_, rfl⟩
  have HDIV : Hid (∀ W s t, RV W s x → RV W t y → Calls Tryz.prog 42 #[s, t] W (RRatE qq 0 W)) := fun W s t hs ht => by rw [hqq]; exact rdivq_any _ _ _ _ W hs ht (qx.mono (by decide)) (qy.mono (by decide)) hy0
  have HMQ : Hid (∀ W s t, RV W s qq → RV W t y → Calls Tryz.prog 46 #[s, t] W (RRat x W)) := fun W s t hs ht => by
    have := rmulq_any _ _ _ _ W hs ht (by rw [hqq]; exact hql.mono (by decide)) (qy.mono (by decide))
    rw [hqq, Rat.div_mul_cancel hy0] at this
    exact this
  have HCX : Hid (∀ W s t, RV W s x → RV W t x → Calls Tryz.prog 39 #[s, t] W (fun e w' => e = .returned (.int .i64 0) ∧ Upd [] W w')) := fun W s t hs ht => by
    have := rcmpq_any _ _ _ _ W hs ht (qx.mono (by decide)) (qx.mono (by decide))
    rw [show cmpR x x = 0 from by unfold cmpR; rw [if_neg Rat.lt_irrefl, if_pos rfl]] at this
    exact this
  obtain ⟨ty, hty⟩ : ∃ l, l = ratTxt y := ⟨_, rfl⟩
  have hty0 : (ty == [48]) = false := by rw [hty]; exact beq_false_of_ne (fun h => hy0 (txt_is_zero h))
  have HTY : Hid (∀ W s, Upd [] w W → RV W s y → Calls Tryz.prog 28 #[s] W (fun e w' => e = .returned (.string ⟨ty.toArray⟩) ∧ Upd [] W w')) := fun W s h hs => by
    rw [hty]; exact rtextq_any _ _ W hs (ht.upd0 h) (qy.mono (by decide))
  have hcc : (cmpR x y == cmpR x y) = true := by simp
  clear ht hs0 hw0 hs1 hw1 hs2 hw2 hs3 hw3 hP1 hD1 hb11 hb21 hDl1 hDp1 hz1 hx qx hP2 hD2 hb12 hb22 hDl2 hDp2 hz2 hy qy hdd hml hal hdl hy0 hqq hql hty
  generalize cmpR x y = cc at *
  generalize x + y = xa at *
  generalize x - y = xs at *
  generalize x * y = xm at *
  generalize p1 * D2 + p2 * D1 = pa at *
  generalize m1 * D2 + m2 * D1 = ma at *
  generalize p1 * D2 + m2 * D1 = ps at *
  generalize m1 * D2 + p2 * D1 = ms at *
  generalize p1 * p2 + m1 * m2 = pm at *
  generalize p1 * m2 + m1 * p2 = mm at *
  generalize D1 * D2 = DD at *
  obtain ⟨w0, hw0⟩ : ∃ W, W = ((w.alloc (.cells #[.slice a0 l0 c0, .slice a1 l1 c1, .bool b0] 51)).alloc (.cells #[.slice a2 l2 c2, .slice a3 l3 c3, .bool b1] 51)) := ⟨_, rfl⟩
  obtain ⟨S, hS⟩ : ∃ s, s = w.heap.size := ⟨_, rfl⟩
  obtain ⟨hu0, r0, r1, hz0⟩ := rows2 w #[.slice a0 l0 c0, .slice a1 l1 c1, .bool b0] #[.slice a2 l2 c2, .slice a3 l3 c3, .bool b1] 51 51 w0 hw0 S hS
  have HU0 := Lib.hid hu0
  have HW0 := Lib.hid hw0
  have HS := Lib.hid hS
  have HZ0 := Lib.hid hz0
  have HR0 := Lib.hid r0
  have HR1 := Lib.hid r1
  clear hw0 hS hu0 r0 r1 hz0
  go_enter Tryz.func5, Tryz.ntmps5
  go_wp2_with fail
  rw [← HW0.out]
  rw [← HS.out]
  refine (HAW.out _ HU0.out).mono ?_
  rintro e w1 ⟨rfl, hu1⟩
  have HVw1 := Lib.hid hu1
  have s0 := (HR0.out.upd0 hu1).cell 0
  have s1 := (HR0.out.upd0 hu1).cell 1
  have s2 := (HR0.out.upd0 hu1).cell 2
  clear hu1
  go_wp2_with fail
  refine (HB1.out _ (HU0.out.trans0 HVw1.out)).mono ?_
  rintro e wa1 ⟨va1, vb1, rfl, hva1, hvb1, hua1⟩
  obtain ⟨aR1, lR1, cR1, dR1, mR1, eR1, rfl, _, _⟩ := hva1.open
  obtain ⟨aQ1, lQ1, cQ1, dQ1, mQ1, eQ1, fQ1, gQ1, hQ1, rfl, _, _⟩ := hvb1.open
  generalize decide (x.num < 0) = bR1 at *
  obtain ⟨w3, hw3⟩ : ∃ W, W = (wa1.alloc (.cells #[.bool bR1, .slice aR1 lR1 cR1, .slice dR1 mR1 eR1] 53)).alloc (.cells #[.slice aQ1 lQ1 cQ1, .slice dQ1 mQ1 eQ1, .slice fQ1 gQ1 hQ1] 55) := ⟨_, rfl⟩
  obtain ⟨K1, hK1⟩ : ∃ s, s = wa1.heap.size := ⟨_, rfl⟩
  obtain ⟨hul1, rR1, rQ1, _⟩ := rows2 wa1 #[.bool bR1, .slice aR1 lR1 cR1, .slice dR1 mR1 eR1] #[.slice aQ1 lQ1 cQ1, .slice dQ1 mQ1 eQ1, .slice fQ1 gQ1 hQ1] 53 55 w3 hw3 K1 hK1
  have HVw3 := Lib.hid (HVw1.out.trans0 (hua1.trans0 hul1))
  have HX1 := Lib.hid (hva1.upd0 hul1)
  have HY1 := Lib.hid (hvb1.upd0 hul1)
  have HRR1 := Lib.hid rR1
  have HRQ1 := Lib.hid rQ1
  have t0 := (HR1.out.upd0 HVw3.out).cell 0
  have t1 := (HR1.out.upd0 HVw3.out).cell 1
  have t2 := (HR1.out.upd0 HVw3.out).cell 2
  rw [hw3] at t0 t1 t2
  have HW3 := Lib.hid hw3
  have HKK1 := Lib.hid hK1
  clear hva1 hvb1 hua1 hul1 rR1 rQ1 hw3 hK1 s0 s1 s2
  go_wp2_with fail
  rw [← HW3.out, ← HKK1.out]
  rw [← HW3.out] at t0 t1 t2
  refine (HB2.out _ (HU0.out.trans0 HVw3.out)).mono ?_
  rintro e wa2 ⟨va2, vb2, rfl, hva2, hvb2, hua2⟩
  obtain ⟨aR2, lR2, cR2, dR2, mR2, eR2, rfl, _, _⟩ := hva2.open
  obtain ⟨aQ2, lQ2, cQ2, dQ2, mQ2, eQ2, fQ2, gQ2, hQ2, rfl, _, _⟩ := hvb2.open
  generalize decide (y.num < 0) = bR2 at *
  obtain ⟨w5, hw5⟩ : ∃ W, W = (wa2.alloc (.cells #[.bool bR2, .slice aR2 lR2 cR2, .slice dR2 mR2 eR2] 53)).alloc (.cells #[.slice aQ2 lQ2 cQ2, .slice dQ2 mQ2 eQ2, .slice fQ2 gQ2 hQ2] 55) := ⟨_, rfl⟩
  obtain ⟨K2, hK2⟩ : ∃ s, s = wa2.heap.size := ⟨_, rfl⟩
  obtain ⟨hul2, rR2, rQ2, _⟩ := rows2 wa2 #[.bool bR2, .slice aR2 lR2 cR2, .slice dR2 mR2 eR2] #[.slice aQ2 lQ2 cQ2, .slice dQ2 mQ2 eQ2, .slice fQ2 gQ2 hQ2] 53 55 w5 hw5 K2 hK2
  have HVw5 := Lib.hid (HVw3.out.trans0 (hua2.trans0 hul2))
  have HX2 := Lib.hid (hva2.upd0 hul2)
  have HY2 := Lib.hid (hvb2.upd0 hul2)
  have HRR2 := Lib.hid rR2
  have HRQ2 := Lib.hid rQ2
  have HU35 := Lib.hid (hua2.trans0 hul2)
  have HX1' := Lib.hid (HX1.out.upd0 HU35.out)
  have HY1' := Lib.hid (HY1.out.upd0 HU35.out)
  have HRR1' := Lib.hid (HRR1.out.upd0 HU35.out)
  have HRQ1' := Lib.hid (HRQ1.out.upd0 HU35.out)
  have s0 := HRR1'.out.cell 0
  have s1 := HRR1'.out.cell 1
  have s2 := HRR1'.out.cell 2
  rw [hw5] at s0 s1 s2
  have HW5 := Lib.hid hw5
  have HKK2 := Lib.hid hK2
  clear hva2 hvb2 hua2 hul2 rR2 rQ2 hw5 hK2 t0 t1 t2
  go_wp2_with fail
  rw [← HW5.out, ← HKK2.out]
  rw [← HW5.out] at s0 s1 s2
  refine (HDIV.out _ _ _ HX1'.out HX2.out).mono ?_
  rintro e w6 ⟨v6, rfl, hv6, hu6⟩
  obtain ⟨a9, l9, c9, d9, m9, e9, rfl, _, _⟩ := hv6.open
  generalize decide (qq.num < 0) = b9 at *
  obtain ⟨w7, hw7⟩ : ∃ W, W = w6.alloc (.cells #[.bool b9, .slice a9 l9 c9, .slice d9 m9 e9] 53) := ⟨_, rfl⟩
  obtain ⟨K3, hK3⟩ : ∃ s, s = w6.heap.size := ⟨_, rfl⟩
  obtain ⟨hu7, r9, _⟩ := rows1 w6 _ _ w7 hw7 K3 hK3
  have HU57 := Lib.hid (hu6.trans0 hu7)
  have HVw7 := Lib.hid (HVw5.out.trans0 HU57.out)
  have HQQ := Lib.hid (hv6.upd0 hu7)
  have HR9 := Lib.hid r9
  have HW7 := Lib.hid hw7
  have HKK3 := Lib.hid hK3
  have HXa := Lib.hid (HX1'.out.upd0 HU57.out)
  have HYa := Lib.hid (HY1'.out.upd0 HU57.out)
  have HXb := Lib.hid (HX2.out.upd0 HU57.out)
  have HYb := Lib.hid (HY2.out.upd0 HU57.out)
  clear hv6 hu6 hu7 r9 hw7 hK3 s0 s1 s2
  have hrf : Upd [] w7 w7 := Upd.refl _ _
  have HC : Hid (∀ W, Upd [] w7 W → W.cell? ⟨K1, 0, none⟩ = some (.bool bR1) ∧ W.cell? ⟨K1, 1, none⟩ = some (.slice aR1 lR1 cR1) ∧ W.cell? ⟨K1, 2, none⟩ = some (.slice dR1 mR1 eR1) ∧ W.cell? ⟨K1 + 1, 0, none⟩ = some (.slice aQ1 lQ1 cQ1) ∧ W.cell? ⟨K1 + 1, 1, none⟩ = some (.slice dQ1 mQ1 eQ1) ∧ W.cell? ⟨K1 + 1, 2, none⟩ = some (.slice fQ1 gQ1 hQ1) ∧ W.cell? ⟨K2, 0, none⟩ = some (.bool bR2) ∧ W.cell? ⟨K2, 1, none⟩ = some (.slice aR2 lR2 cR2) ∧ W.cell? ⟨K2, 2, none⟩ = some (.slice dR2 mR2 eR2) ∧ W.cell? ⟨K2 + 1, 0, none⟩ = some (.slice aQ2 lQ2 cQ2) ∧ W.cell? ⟨K2 + 1, 1, none⟩ = some (.slice dQ2 mQ2 eQ2) ∧ W.cell? ⟨K2 + 1, 2, none⟩ = some (.slice fQ2 gQ2 hQ2) ∧ Upd [] w7 W) := fun W h =>
    ⟨((HRR1'.out.upd0 HU57.out).upd h (by simp <;> omega)).cell 0, ((HRR1'.out.upd0 HU57.out).upd h (by simp <;> omega)).cell 1, ((HRR1'.out.upd0 HU57.out).upd h (by simp <;> omega)).cell 2, ((HRQ1'.out.upd0 HU57.out).upd h (by simp <;> omega)).cell 0, ((HRQ1'.out.upd0 HU57.out).upd h (by simp <;> omega)).cell 1, ((HRQ1'.out.upd0 HU57.out).upd h (by simp <;> omega)).cell 2, ((HRR2.out.upd0 HU57.out).upd h (by simp <;> omega)).cell 0, ((HRR2.out.upd0 HU57.out).upd h (by simp <;> omega)).cell 1, ((HRR2.out.upd0 HU57.out).upd h (by simp <;> omega)).cell 2, ((HRQ2.out.upd0 HU57.out).upd h (by simp <;> omega)).cell 0, ((HRQ2.out.upd0 HU57.out).upd h (by simp <;> omega)).cell 1, ((HRQ2.out.upd0 HU57.out).upd h (by simp <;> omega)).cell 2, h⟩
  go_wp2_with fail
  rw [← HW7.out, ← HKK3.out]
  go_region_held3 (fun W => W.cell? ⟨K1, 0, none⟩ = some (.bool bR1) ∧ W.cell? ⟨K1, 1, none⟩ = some (.slice aR1 lR1 cR1) ∧ W.cell? ⟨K1, 2, none⟩ = some (.slice dR1 mR1 eR1) ∧ W.cell? ⟨K1 + 1, 0, none⟩ = some (.slice aQ1 lQ1 cQ1) ∧ W.cell? ⟨K1 + 1, 1, none⟩ = some (.slice dQ1 mQ1 eQ1) ∧ W.cell? ⟨K1 + 1, 2, none⟩ = some (.slice fQ1 gQ1 hQ1) ∧ W.cell? ⟨K2, 0, none⟩ = some (.bool bR2) ∧ W.cell? ⟨K2, 1, none⟩ = some (.slice aR2 lR2 cR2) ∧ W.cell? ⟨K2, 2, none⟩ = some (.slice dR2 mR2 eR2) ∧ W.cell? ⟨K2 + 1, 0, none⟩ = some (.slice aQ2 lQ2 cQ2) ∧ W.cell? ⟨K2 + 1, 1, none⟩ = some (.slice dQ2 mQ2 eQ2) ∧ W.cell? ⟨K2 + 1, 2, none⟩ = some (.slice fQ2 gQ2 hQ2) ∧ Upd [] w7 W)
    ((refine HC.out _ ?_; repeat (first | (with_reducible exact huy) | (with_reducible exact hrf) | (with_reducible apply Upd.drew))))
    (first
      | (go_at_call 43; (with_reducible refine (HADD.out _ _ _ (HXa.out.upd0 (by repeat (first | exact huy | exact hrf | apply Upd.drew | apply Upd.alloc))) (HXb.out.upd0 (by repeat (first | exact huy | exact hrf | apply Upd.drew | apply Upd.alloc)))).mono ?_); rintro e wz ⟨vA, rfl, hvA, hu20⟩;  have HVA := Lib.hid hvA; clear hvA; have huz : Upd [] w7 wz := Upd.trans0 (by repeat (first | exact huy | exact hrf | apply Upd.drew | apply Upd.alloc)) hu20; (try clear huy); clear hu20; have huy := huz; clear huz)
      | (go_at_call 44; (with_reducible refine (HQA.out _ _ _ (HYa.out.upd0 (by repeat (first | exact huy | exact hrf | apply Upd.drew | apply Upd.alloc))) (HYb.out.upd0 (by repeat (first | exact huy | exact hrf | apply Upd.drew | apply Upd.alloc)))).mono ?_); rintro e wz ⟨vB, rfl, hvB, hu20⟩; have HVA := Lib.hid (HVA.out.upd0 (by first | exact hu20 | exact Upd.al hu20)); have HVB := Lib.hid hvB; clear hvB; have huz : Upd [] w7 wz := Upd.trans0 (by repeat (first | exact huy | exact hrf | apply Upd.drew | apply Upd.alloc)) hu20; (try clear huy); clear hu20; have huy := huz; clear huz)
      | (go_at_call 38; (with_reducible refine (HI1.out _ _ _ (HU0.out.trans0 (HVw7.out.trans0 (by repeat (first | exact huy | exact hrf | apply Upd.drew | apply Upd.alloc)))) (by first | exact HVA.out | exact RV.upd0 HVA.out ((Upd.refl _ _).alloc _)) (by first | exact HVB.out | exact QV.upd0 HVB.out ((Upd.refl _ _).alloc _))).mono ?_); rintro e wz ⟨rfl, hu20⟩; have HVA := Lib.hid (HVA.out.upd0 (by first | exact hu20 | exact Upd.al hu20)); have HVB := Lib.hid (HVB.out.upd0 (by first | exact hu20 | exact Upd.al hu20));  have huz : Upd [] w7 wz := Upd.trans0 (by repeat (first | exact huy | exact hrf | apply Upd.drew | apply Upd.alloc)) hu20; (try clear huy); clear hu20; have huy := huz; clear huz)
      | (go_at_call 30; (with_reducible refine (HSUB.out _ _ _ (HXa.out.upd0 (by repeat (first | exact huy | exact hrf | apply Upd.drew | apply Upd.alloc))) (HXb.out.upd0 (by repeat (first | exact huy | exact hrf | apply Upd.drew | apply Upd.alloc)))).mono ?_); rintro e wz ⟨vC, rfl, hvC, hu20⟩; have HVA := Lib.hid (HVA.out.upd0 (by first | exact hu20 | exact Upd.al hu20)); have HVB := Lib.hid (HVB.out.upd0 (by first | exact hu20 | exact Upd.al hu20)); have HVC := Lib.hid hvC; clear hvC; have huz : Upd [] w7 wz := Upd.trans0 (by repeat (first | exact huy | exact hrf | apply Upd.drew | apply Upd.alloc)) hu20; (try clear huy); clear hu20; have huy := huz; clear huz)
      | (go_at_call 45; (with_reducible refine (HQT.out _ _ (HYb.out.upd0 (by repeat (first | exact huy | exact hrf | apply Upd.drew | apply Upd.alloc)))).mono ?_); rintro e wz ⟨vD, rfl, hvD, hu20⟩; have HVA := Lib.hid (HVA.out.upd0 (by first | exact hu20 | exact Upd.al hu20)); have HVB := Lib.hid (HVB.out.upd0 (by first | exact hu20 | exact Upd.al hu20)); have HVC := Lib.hid (HVC.out.upd0 (by first | exact hu20 | exact Upd.al hu20)); have HVD := Lib.hid hvD; clear hvD; have huz : Upd [] w7 wz := Upd.trans0 (by repeat (first | exact huy | exact hrf | apply Upd.drew | apply Upd.alloc)) hu20; (try clear huy); clear hu20; have huy := huz; clear huz)
      | (go_at_call 44; (with_reducible refine (HQS.out _ _ _ (HYa.out.upd0 (by repeat (first | exact huy | exact hrf | apply Upd.drew | apply Upd.alloc))) (by first | exact HVD.out | exact QV.upd0 HVD.out ((Upd.refl _ _).alloc _))).mono ?_); rintro e wz ⟨vE, rfl, hvE, hu20⟩; have HVA := Lib.hid (HVA.out.upd0 (by first | exact hu20 | exact Upd.al hu20)); have HVB := Lib.hid (HVB.out.upd0 (by first | exact hu20 | exact Upd.al hu20)); have HVC := Lib.hid (HVC.out.upd0 (by first | exact hu20 | exact Upd.al hu20)); have HVD := Lib.hid (HVD.out.upd0 (by first | exact hu20 | exact Upd.al hu20)); have HVE := Lib.hid hvE; clear hvE; have huz : Upd [] w7 wz := Upd.trans0 (by repeat (first | exact huy | exact hrf | apply Upd.drew | apply Upd.alloc)) hu20; (try clear huy); clear hu20; have huy := huz; clear huz)
      | (go_at_call 38; (with_reducible refine (HI2.out _ _ _ (HU0.out.trans0 (HVw7.out.trans0 (by repeat (first | exact huy | exact hrf | apply Upd.drew | apply Upd.alloc)))) (by first | exact HVC.out | exact RV.upd0 HVC.out ((Upd.refl _ _).alloc _)) (by first | exact HVE.out | exact QV.upd0 HVE.out ((Upd.refl _ _).alloc _))).mono ?_); rintro e wz ⟨rfl, hu20⟩; have HVA := Lib.hid (HVA.out.upd0 (by first | exact hu20 | exact Upd.al hu20)); have HVB := Lib.hid (HVB.out.upd0 (by first | exact hu20 | exact Upd.al hu20)); have HVC := Lib.hid (HVC.out.upd0 (by first | exact hu20 | exact Upd.al hu20)); have HVD := Lib.hid (HVD.out.upd0 (by first | exact hu20 | exact Upd.al hu20)); have HVE := Lib.hid (HVE.out.upd0 (by first | exact hu20 | exact Upd.al hu20));  have huz : Upd [] w7 wz := Upd.trans0 (by repeat (first | exact huy | exact hrf | apply Upd.drew | apply Upd.alloc)) hu20; (try clear huy); clear hu20; have huy := huz; clear huz)
      | (go_at_call 46; (with_reducible refine (HMUL.out _ _ _ (HXa.out.upd0 (by repeat (first | exact huy | exact hrf | apply Upd.drew | apply Upd.alloc))) (HXb.out.upd0 (by repeat (first | exact huy | exact hrf | apply Upd.drew | apply Upd.alloc)))).mono ?_); rintro e wz ⟨vF, rfl, hvF, hu20⟩; have HVA := Lib.hid (HVA.out.upd0 (by first | exact hu20 | exact Upd.al hu20)); have HVB := Lib.hid (HVB.out.upd0 (by first | exact hu20 | exact Upd.al hu20)); have HVC := Lib.hid (HVC.out.upd0 (by first | exact hu20 | exact Upd.al hu20)); have HVD := Lib.hid (HVD.out.upd0 (by first | exact hu20 | exact Upd.al hu20)); have HVE := Lib.hid (HVE.out.upd0 (by first | exact hu20 | exact Upd.al hu20)); have HVF := Lib.hid hvF; clear hvF; have huz : Upd [] w7 wz := Upd.trans0 (by repeat (first | exact huy | exact hrf | apply Upd.drew | apply Upd.alloc)) hu20; (try clear huy); clear hu20; have huy := huz; clear huz)
      | (go_at_call 47; (with_reducible refine (HQM.out _ _ _ (HYa.out.upd0 (by repeat (first | exact huy | exact hrf | apply Upd.drew | apply Upd.alloc))) (HYb.out.upd0 (by repeat (first | exact huy | exact hrf | apply Upd.drew | apply Upd.alloc)))).mono ?_); rintro e wz ⟨vG, rfl, hvG, hu20⟩; have HVA := Lib.hid (HVA.out.upd0 (by first | exact hu20 | exact Upd.al hu20)); have HVB := Lib.hid (HVB.out.upd0 (by first | exact hu20 | exact Upd.al hu20)); have HVC := Lib.hid (HVC.out.upd0 (by first | exact hu20 | exact Upd.al hu20)); have HVD := Lib.hid (HVD.out.upd0 (by first | exact hu20 | exact Upd.al hu20)); have HVE := Lib.hid (HVE.out.upd0 (by first | exact hu20 | exact Upd.al hu20)); have HVF := Lib.hid (HVF.out.upd0 (by first | exact hu20 | exact Upd.al hu20)); have HVG := Lib.hid hvG; clear hvG; have huz : Upd [] w7 wz := Upd.trans0 (by repeat (first | exact huy | exact hrf | apply Upd.drew | apply Upd.alloc)) hu20; (try clear huy); clear hu20; have huy := huz; clear huz)
      | (go_at_call 38; (with_reducible refine (HI3.out _ _ _ (HU0.out.trans0 (HVw7.out.trans0 (by repeat (first | exact huy | exact hrf | apply Upd.drew | apply Upd.alloc)))) (by first | exact HVF.out | exact RV.upd0 HVF.out ((Upd.refl _ _).alloc _)) (by first | exact HVG.out | exact QV.upd0 HVG.out ((Upd.refl _ _).alloc _))).mono ?_); rintro e wz ⟨rfl, hu20⟩; have HVA := Lib.hid (HVA.out.upd0 (by first | exact hu20 | exact Upd.al hu20)); have HVB := Lib.hid (HVB.out.upd0 (by first | exact hu20 | exact Upd.al hu20)); have HVC := Lib.hid (HVC.out.upd0 (by first | exact hu20 | exact Upd.al hu20)); have HVD := Lib.hid (HVD.out.upd0 (by first | exact hu20 | exact Upd.al hu20)); have HVE := Lib.hid (HVE.out.upd0 (by first | exact hu20 | exact Upd.al hu20)); have HVF := Lib.hid (HVF.out.upd0 (by first | exact hu20 | exact Upd.al hu20)); have HVG := Lib.hid (HVG.out.upd0 (by first | exact hu20 | exact Upd.al hu20));  have huz : Upd [] w7 wz := Upd.trans0 (by repeat (first | exact huy | exact hrf | apply Upd.drew | apply Upd.alloc)) hu20; (try clear huy); clear hu20; have huy := huz; clear huz)
      | (go_at_call 39; (with_reducible refine (HCMP.out _ _ _ (HXa.out.upd0 (by repeat (first | exact huy | exact hrf | apply Upd.drew | apply Upd.alloc))) (HXb.out.upd0 (by repeat (first | exact huy | exact hrf | apply Upd.drew | apply Upd.alloc)))).mono ?_); rintro e wz ⟨rfl, hu20⟩; have HVA := Lib.hid (HVA.out.upd0 (by first | exact hu20 | exact Upd.al hu20)); have HVB := Lib.hid (HVB.out.upd0 (by first | exact hu20 | exact Upd.al hu20)); have HVC := Lib.hid (HVC.out.upd0 (by first | exact hu20 | exact Upd.al hu20)); have HVD := Lib.hid (HVD.out.upd0 (by first | exact hu20 | exact Upd.al hu20)); have HVE := Lib.hid (HVE.out.upd0 (by first | exact hu20 | exact Upd.al hu20)); have HVF := Lib.hid (HVF.out.upd0 (by first | exact hu20 | exact Upd.al hu20)); have HVG := Lib.hid (HVG.out.upd0 (by first | exact hu20 | exact Upd.al hu20));  have huz : Upd [] w7 wz := Upd.trans0 (by repeat (first | exact huy | exact hrf | apply Upd.drew | apply Upd.alloc)) hu20; (try clear huy); clear hu20; have huy := huz; clear huz)
      | (go_at_call 48; (with_reducible refine (HQC.out _ _ _ (HYa.out.upd0 (by repeat (first | exact huy | exact hrf | apply Upd.drew | apply Upd.alloc))) (HYb.out.upd0 (by repeat (first | exact huy | exact hrf | apply Upd.drew | apply Upd.alloc)))).mono ?_); rintro e wz ⟨rfl, hu20⟩; have HVA := Lib.hid (HVA.out.upd0 (by first | exact hu20 | exact Upd.al hu20)); have HVB := Lib.hid (HVB.out.upd0 (by first | exact hu20 | exact Upd.al hu20)); have HVC := Lib.hid (HVC.out.upd0 (by first | exact hu20 | exact Upd.al hu20)); have HVD := Lib.hid (HVD.out.upd0 (by first | exact hu20 | exact Upd.al hu20)); have HVE := Lib.hid (HVE.out.upd0 (by first | exact hu20 | exact Upd.al hu20)); have HVF := Lib.hid (HVF.out.upd0 (by first | exact hu20 | exact Upd.al hu20)); have HVG := Lib.hid (HVG.out.upd0 (by first | exact hu20 | exact Upd.al hu20));  have huz : Upd [] w7 wz := Upd.trans0 (by repeat (first | exact huy | exact hrf | apply Upd.drew | apply Upd.alloc)) hu20; (try clear huy); clear hu20; have huy := huz; clear huz))
  have s0 := (HRR2.out.upd0 (HU57.out.trans0 huy)).cell 0
  have s1 := (HRR2.out.upd0 (HU57.out.trans0 huy)).cell 1
  have s2 := (HRR2.out.upd0 (HU57.out.trans0 huy)).cell 2
  have HVz := Lib.hid huy
  clear huy hcc
  go_wp2_with fail
  refine (HTY.out _ _ (HU0.out.trans0 (HVw7.out.trans0 HVz.out)) (HXb.out.upd0 HVz.out)).mono ?_
  rintro e w8 ⟨rfl, hu8⟩
  have HZ8 := Lib.hid (HVz.out.trans0 hu8)
  have HX8 := Lib.hid (HXa.out.upd0 HZ8.out)
  have HY8 := Lib.hid (HXb.out.upd0 HZ8.out)
  have HQ8 := Lib.hid (HQQ.out.upd0 HZ8.out)
  have HV8 := Lib.hid (HU0.out.trans0 (HVw7.out.trans0 HZ8.out))
  have hrf : Upd [] w8 w8 := Upd.refl _ _
  clear hu8 s0 s1 s2
  have HC : Hid (∀ W, Upd [] w8 W → W.cell? ⟨K1, 0, none⟩ = some (.bool bR1) ∧ W.cell? ⟨K1, 1, none⟩ = some (.slice aR1 lR1 cR1) ∧ W.cell? ⟨K1, 2, none⟩ = some (.slice dR1 mR1 eR1) ∧ W.cell? ⟨K2, 0, none⟩ = some (.bool bR2) ∧ W.cell? ⟨K2, 1, none⟩ = some (.slice aR2 lR2 cR2) ∧ W.cell? ⟨K2, 2, none⟩ = some (.slice dR2 mR2 eR2) ∧ W.cell? ⟨K3, 0, none⟩ = some (.bool b9) ∧ W.cell? ⟨K3, 1, none⟩ = some (.slice a9 l9 c9) ∧ W.cell? ⟨K3, 2, none⟩ = some (.slice d9 m9 e9) ∧ Upd [] w8 W) := fun W h =>
    ⟨((HRR1'.out.upd0 (HU57.out.trans0 HZ8.out)).upd h (by simp <;> omega)).cell 0, ((HRR1'.out.upd0 (HU57.out.trans0 HZ8.out)).upd h (by simp <;> omega)).cell 1, ((HRR1'.out.upd0 (HU57.out.trans0 HZ8.out)).upd h (by simp <;> omega)).cell 2, ((HRR2.out.upd0 (HU57.out.trans0 HZ8.out)).upd h (by simp <;> omega)).cell 0, ((HRR2.out.upd0 (HU57.out.trans0 HZ8.out)).upd h (by simp <;> omega)).cell 1, ((HRR2.out.upd0 (HU57.out.trans0 HZ8.out)).upd h (by simp <;> omega)).cell 2, ((HR9.out.upd0 HZ8.out).upd h (by simp <;> omega)).cell 0, ((HR9.out.upd0 HZ8.out).upd h (by simp <;> omega)).cell 1, ((HR9.out.upd0 HZ8.out).upd h (by simp <;> omega)).cell 2, h⟩
  go_wp2_with fail
  go_region_held3 (fun W => W.cell? ⟨K1, 0, none⟩ = some (.bool bR1) ∧ W.cell? ⟨K1, 1, none⟩ = some (.slice aR1 lR1 cR1) ∧ W.cell? ⟨K1, 2, none⟩ = some (.slice dR1 mR1 eR1) ∧ W.cell? ⟨K2, 0, none⟩ = some (.bool bR2) ∧ W.cell? ⟨K2, 1, none⟩ = some (.slice aR2 lR2 cR2) ∧ W.cell? ⟨K2, 2, none⟩ = some (.slice dR2 mR2 eR2) ∧ W.cell? ⟨K3, 0, none⟩ = some (.bool b9) ∧ W.cell? ⟨K3, 1, none⟩ = some (.slice a9 l9 c9) ∧ W.cell? ⟨K3, 2, none⟩ = some (.slice d9 m9 e9) ∧ Upd [] w8 W)
    ((refine HC.out _ ?_; repeat (first | (with_reducible exact huy) | (with_reducible exact hrf) | (with_reducible apply Upd.drew))))
    (first
      | (go_at_call 46; (with_reducible refine (HMQ.out _ _ _ (HQ8.out.upd0 (by repeat (first | exact huy | exact hrf | apply Upd.drew | apply Upd.alloc))) (HY8.out.upd0 (by repeat (first | exact huy | exact hrf | apply Upd.drew | apply Upd.alloc)))).mono ?_); rintro e wz ⟨vH, rfl, hvH, hu20⟩;  have HVH := Lib.hid hvH; clear hvH; have huz : Upd [] w8 wz := Upd.trans0 (by repeat (first | exact huy | exact hrf | apply Upd.drew | apply Upd.alloc)) hu20; (try clear huy); clear hu20; have huy := huz; clear huz)
      | (go_at_call 39; (with_reducible refine (HCX.out _ _ _ (by first | exact HVH.out | exact RV.upd0 HVH.out ((Upd.refl _ _).alloc _)) (HX8.out.upd0 (by repeat (first | exact huy | exact hrf | apply Upd.drew | apply Upd.alloc)))).mono ?_); rintro e wz ⟨rfl, hu20⟩; have HVH := Lib.hid (HVH.out.upd0 (by first | exact hu20 | exact Upd.al hu20));  have huz : Upd [] w8 wz := Upd.trans0 (by repeat (first | exact huy | exact hrf | apply Upd.drew | apply Upd.alloc)) hu20; (try clear huy); clear hu20; have huy := huz; clear huz))
  go_wp2
  go_ret
  exact ⟨rfl, HV8.out.trans0 huy⟩

set_option maxHeartbeats 3200000 in
theorem ratSums_z (a0 : Option Addr) (l0 c0 : Nat) (L0 : List Nat) (a1 : Option Addr) (l1 c1 : Nat) (M0 : List Nat) (b0 : Bool) (a2 : Option Addr) (l2 c2 : Nat) (L1 : List Nat) (a3 : Option Addr) (l3 c3 : Nat) (M1 : List Nat) (b1 : Bool) (w : World) (ht : Tab w) (hs0 : Sl w (.slice a0 l0 c0) (cu64 L0)) (hw0 : ∀ d ∈ L0, d < 18446744073709551616) (hs1 : Sl w (.slice a1 l1 c1) (cu64 M0)) (hw1 : ∀ d ∈ M0, d < 18446744073709551616) (hs2 : Sl w (.slice a2 l2 c2) (cu64 L1)) (hw2 : ∀ d ∈ L1, d < 18446744073709551616) (hs3 : Sl w (.slice a3 l3 c3) (cu64 M1)) (hw3 : ∀ d ∈ M1, d < 18446744073709551616) (hy0 : qval (zP b1 (wval (L1.take 2))) (zM b1 (wval (L1.take 2))) (den1 (wval (M1.take 2))) = 0) :
    Calls Tryz.prog 5 #[.agg #[.slice a0 l0 c0, .slice a1 l1 c1, .bool b0], .agg #[.slice a2 l2 c2, .slice a3 l3 c3, .bool b1]] w (fun e w' => e = .returned (.bool true) ∧ Upd [] w w') := by
  have HAW : Hid (∀ W, Upd [] w W → Calls Tryz.prog 25 #[] W (fun e w' => e = .returned (.bool true) ∧ Upd [] W w')) := fun W h => awake7 W (ht.upd0 h)
  obtain ⟨P1, hP1⟩ : ∃ P, P = wval (L0.take 2) := ⟨_, rfl⟩
  obtain ⟨D1, hD1⟩ : ∃ D, D = den1 (wval (M0.take 2)) := ⟨_, rfl⟩
  have hb11 := few_bounds L0 2 hw0
  have hb21 := few_bounds M0 2 hw1
  rw [← hP1] at hb11
  have hDl1 : (wds D1).length ≤ 2 ∧ (digs D1).length ≤ 10 := by
    rw [hD1]; unfold den1; split
    · exact ⟨(by rw [wds_one 1 (by decide) (by decide)]; decide), Nat.le_trans (digs_len1 (by decide)) (by decide)⟩
    · exact hb21
  have hDp1 : 0 < D1 := by rw [hD1]; exact den1_pos _
  have hz1 : (wds (zP b0 P1)).length ≤ 2 ∧ (digs (zP b0 P1)).length ≤ 10 ∧ (wds (zM b0 P1)).length ≤ 2 ∧ (digs (zM b0 P1)).length ≤ 10 := by
    unfold zP zM
    cases b0 <;> simp [wds_zero, digs_zero] <;> omega
  have HB1 : Hid (∀ W, Upd [] w W → Calls Tryz.prog 26 #[.agg #[.slice a0 l0 c0, .slice a1 l1 c1, .bool b0]] W (RBoth b0 P1 D1 W)) := fun W h => by rw [hP1, hD1]; exact both_any _ _ _ _ _ _ _ _ b0 W (hs0.upd0 h) hw0 (hs1.upd0 h) hw1
  unfold RBoth at HB1
  generalize zP b0 P1 = p1 at *
  generalize zM b0 P1 = m1 at *
  obtain ⟨x, hx⟩ : ∃ r : Rat, r = qval p1 m1 D1 := ⟨_, rfl⟩
  have qx : QL x 2 := by rw [hx]; exact ql_qval hDp1 hz1.1 hz1.2.2.1 hDl1.1
  rw [← hx] at HB1
  obtain ⟨P2, hP2⟩ : ∃ P, P = wval (L1.take 2) := ⟨_, rfl⟩
  obtain ⟨D2, hD2⟩ : ∃ D, D = den1 (wval (M1.take 2)) := ⟨_, rfl⟩
  have hb12 := few_bounds L1 2 hw2
  have hb22 := few_bounds M1 2 hw3
  rw [← hP2] at hb12
  rw [← hP2, ← hD2] at hy0
  have hDl2 : (wds D2).length ≤ 2 ∧ (digs D2).length ≤ 10 := by
    rw [hD2]; unfold den1; split
    · exact ⟨(by rw [wds_one 1 (by decide) (by decide)]; decide), Nat.le_trans (digs_len1 (by decide)) (by decide)⟩
    · exact hb22
  have hDp2 : 0 < D2 := by rw [hD2]; exact den1_pos _
  have hz2 : (wds (zP b1 P2)).length ≤ 2 ∧ (digs (zP b1 P2)).length ≤ 10 ∧ (wds (zM b1 P2)).length ≤ 2 ∧ (digs (zM b1 P2)).length ≤ 10 := by
    unfold zP zM
    cases b1 <;> simp [wds_zero, digs_zero] <;> omega
  have HB2 : Hid (∀ W, Upd [] w W → Calls Tryz.prog 26 #[.agg #[.slice a2 l2 c2, .slice a3 l3 c3, .bool b1]] W (RBoth b1 P2 D2 W)) := fun W h => by rw [hP2, hD2]; exact both_any _ _ _ _ _ _ _ _ b1 W (hs2.upd0 h) hw2 (hs3.upd0 h) hw3
  unfold RBoth at HB2
  generalize zP b1 P2 = p2 at *
  generalize zM b1 P2 = m2 at *
  obtain ⟨y, hy⟩ : ∃ r : Rat, r = qval p2 m2 D2 := ⟨_, rfl⟩
  have qy : QL y 2 := by rw [hy]; exact ql_qval hDp2 hz2.1 hz2.2.2.1 hDl2.1
  rw [← hy] at HB2
  rw [← hy] at hy0
  have HADD : Hid (∀ W s t, RV W s x → RV W t y → Calls Tryz.prog 43 #[s, t] W (RRat (x + y) W)) := fun W s t hs ht => raddq_any _ _ _ _ W hs ht (qx.mono (by decide)) (qy.mono (by decide))
  have HSUB : Hid (∀ W s t, RV W s x → RV W t y → Calls Tryz.prog 30 #[s, t] W (RRat (x - y) W)) := fun W s t hs ht => rsubq_any _ _ _ _ W hs ht (qx.mono (by decide)) (qy.mono (by decide))
  have HMUL : Hid (∀ W s t, RV W s x → RV W t y → Calls Tryz.prog 46 #[s, t] W (RRat (x * y) W)) := fun W s t hs ht => rmulq_any _ _ _ _ W hs ht (qx.mono (by decide)) (qy.mono (by decide))
  have HCMP : Hid (∀ W s t, RV W s x → RV W t y → Calls Tryz.prog 39 #[s, t] W (fun e w' => e = .returned (.int .i64 (cmpR x y)) ∧ Upd [] W w')) := fun W s t hs ht => rcmpq_any _ _ _ _ W hs ht (qx.mono (by decide)) (qy.mono (by decide))
  have HQA : Hid (∀ W s t, QV W s p1 m1 D1 → QV W t p2 m2 D2 → Calls Tryz.prog 44 #[s, t] W (RQ (p1 * D2 + p2 * D1) (m1 * D2 + m2 * D1) (D1 * D2) W)) := fun W s t hs ht => qadd_any _ _ _ _ _ _ _ _ W hs ht (by omega) (by omega) (by omega) (by omega) (by omega) (by omega)
  have HQT : Hid (∀ W t, QV W t p2 m2 D2 → Calls Tryz.prog 45 #[t] W (RQ m2 p2 D2 W)) := fun W t ht => qturn_any _ _ _ _ W ht
  have HQS : Hid (∀ W s t, QV W s p1 m1 D1 → QV W t m2 p2 D2 → Calls Tryz.prog 44 #[s, t] W (RQ (p1 * D2 + m2 * D1) (m1 * D2 + p2 * D1) (D1 * D2) W)) := fun W s t hs ht => qadd_any _ _ _ _ _ _ _ _ W hs ht (by omega) (by omega) (by omega) (by omega) (by omega) (by omega)
  have HQM : Hid (∀ W s t, QV W s p1 m1 D1 → QV W t p2 m2 D2 → Calls Tryz.prog 47 #[s, t] W (RQ (p1 * p2 + m1 * m2) (p1 * m2 + m1 * p2) (D1 * D2) W)) := fun W s t hs ht => qmul_any _ _ _ _ _ _ _ _ W hs ht (by omega) (by omega) (by omega) (by omega) (by omega) (by omega)
  have HQC : Hid (∀ W s t, QV W s p1 m1 D1 → QV W t p2 m2 D2 → Calls Tryz.prog 48 #[s, t] W (fun e w' => e = .returned (.int .i64 (cmpR x y)) ∧ Upd [] W w')) := fun W s t hs ht => by
    have := qcmp_any _ _ _ _ _ _ _ _ W hs ht (by omega) (by omega) (by omega) (by omega) (by omega) (by omega) hDp1 hDp2
    rw [← hx, ← hy] at this
    exact this
  have hdd : 0 < D1 * D2 := Nat.mul_pos hDp1 hDp2
  have hml : ∀ a b : Nat, (digs a).length ≤ 10 → (digs b).length ≤ 10 → (digs (a * b)).length ≤ 20 := fun a b h1 h2 => Nat.le_trans (digs_mul_len a b) (by omega)
  have hal : ∀ a b : Nat, (digs a).length ≤ 20 → (digs b).length ≤ 20 → (digs (a + b)).length ≤ 1048576 := fun a b h1 h2 => Nat.le_trans (digs_add_len a b) (by omega)
  have hdl : (digs (D1 * D2)).length ≤ 1048576 := Nat.le_trans (hml _ _ hDl1.2 hDl2.2) (by decide)
  have HI1 : Hid (∀ W s t, Upd [] w W → RV W s (x + y) → QV W t (p1 * D2 + p2 * D1) (m1 * D2 + m2 * D1) (D1 * D2) → Calls Tryz.prog 38 #[s, t] W (fun e w' => e = .returned (.bool true) ∧ Upd [] W w')) := fun W s t h hs hq => is7 _ _ _ _ _ _ W hs hq (ht.upd0 h) ((ql_add qx qy).mono (by decide)) (hal _ _ (hml _ _ hz1.2.1 hDl2.2) (hml _ _ hz2.2.1 hDl1.2)) (hal _ _ (hml _ _ hz1.2.2.2 hDl2.2) (hml _ _ hz2.2.2.2 hDl1.2)) hdl hdd (by rw [qval_add hDp1 hDp2, ← hx, ← hy])
  have HI2 : Hid (∀ W s t, Upd [] w W → RV W s (x - y) → QV W t (p1 * D2 + m2 * D1) (m1 * D2 + p2 * D1) (D1 * D2) → Calls Tryz.prog 38 #[s, t] W (fun e w' => e = .returned (.bool true) ∧ Upd [] W w')) := fun W s t h hs hq => is7 _ _ _ _ _ _ W hs hq (ht.upd0 h) ((ql_sub qx qy).mono (by decide)) (hal _ _ (hml _ _ hz1.2.1 hDl2.2) (hml _ _ hz2.2.2.2 hDl1.2)) (hal _ _ (hml _ _ hz1.2.2.2 hDl2.2) (hml _ _ hz2.2.1 hDl1.2)) hdl hdd (by rw [qval_add hDp1 hDp2, ← hx, qval_turn, ← hy, Rat.sub_eq_add_neg])
  have HI3 : Hid (∀ W s t, Upd [] w W → RV W s (x * y) → QV W t (p1 * p2 + m1 * m2) (p1 * m2 + m1 * p2) (D1 * D2) → Calls Tryz.prog 38 #[s, t] W (fun e w' => e = .returned (.bool true) ∧ Upd [] W w')) := fun W s t h hs hq => is7 _ _ _ _ _ _ W hs hq (ht.upd0 h) ((ql_mul qx qy).mono (by decide)) (hal _ _ (hml _ _ hz1.2.1 hz2.2.1) (hml _ _ hz1.2.2.2 hz2.2.2.2)) (hal _ _ (hml _ _ hz1.2.1 hz2.2.2.2) (hml _ _ hz1.2.2.2 hz2.2.1)) hdl hdd (by rw [qval_mul, ← hx, ← hy])
  have HDIV : Hid (∀ W s t, RV W s x → RV W t y → Calls Tryz.prog 42 #[s, t] W (RRatE 0 7 W)) := fun W s t hs ht => rdivq_zero _ _ _ _ W hs ht hy0
  have HTY : Hid (∀ W s, Upd [] w W → RV W s y → Calls Tryz.prog 28 #[s] W (fun e w' => e = .returned (.string ⟨#[48]⟩) ∧ Upd [] W w')) := fun W s h hs => by
    have := rtextq_any _ _ W hs (ht.upd0 h) (qy.mono (by decide))
    rw [hy0, txt_zero] at this
    exact this
  have HTZ : Hid (∀ W s, Upd [] w W → RV W s 0 → Calls Tryz.prog 28 #[s] W (fun e w' => e = .returned (.string ⟨#[48]⟩) ∧ Upd [] W w')) := fun W s h hs => by
    have := rtextq_any _ _ W hs (ht.upd0 h) ⟨by decide +kernel, by decide +kernel⟩
    rw [txt_zero] at this
    exact this
  obtain ⟨qq, hqq⟩ : ∃ r : Rat, r = 0 := ⟨_, rfl⟩
  rw [← hqq] at HDIV HTZ
  have hcc : (cmpR x y == cmpR x y) = true := by simp
  clear ht hs0 hw0 hs1 hw1 hs2 hw2 hs3 hw3 hP1 hD1 hb11 hb21 hDl1 hDp1 hz1 hx qx hP2 hD2 hb12 hb22 hDl2 hDp2 hz2 hy qy hdd hml hal hdl hy0 hqq
  generalize cmpR x y = cc at *
  generalize x + y = xa at *
  generalize x - y = xs at *
  generalize x * y = xm at *
  generalize p1 * D2 + p2 * D1 = pa at *
  generalize m1 * D2 + m2 * D1 = ma at *
  generalize p1 * D2 + m2 * D1 = ps at *
  generalize m1 * D2 + p2 * D1 = ms at *
  generalize p1 * p2 + m1 * m2 = pm at *
  generalize p1 * m2 + m1 * p2 = mm at *
  generalize D1 * D2 = DD at *
  obtain ⟨w0, hw0⟩ : ∃ W, W = ((w.alloc (.cells #[.slice a0 l0 c0, .slice a1 l1 c1, .bool b0] 51)).alloc (.cells #[.slice a2 l2 c2, .slice a3 l3 c3, .bool b1] 51)) := ⟨_, rfl⟩
  obtain ⟨S, hS⟩ : ∃ s, s = w.heap.size := ⟨_, rfl⟩
  obtain ⟨hu0, r0, r1, hz0⟩ := rows2 w #[.slice a0 l0 c0, .slice a1 l1 c1, .bool b0] #[.slice a2 l2 c2, .slice a3 l3 c3, .bool b1] 51 51 w0 hw0 S hS
  have HU0 := Lib.hid hu0
  have HW0 := Lib.hid hw0
  have HS := Lib.hid hS
  have HZ0 := Lib.hid hz0
  have HR0 := Lib.hid r0
  have HR1 := Lib.hid r1
  clear hw0 hS hu0 r0 r1 hz0
  go_enter Tryz.func5, Tryz.ntmps5
  go_wp2_with fail
  rw [← HW0.out]
  rw [← HS.out]
  refine (HAW.out _ HU0.out).mono ?_
  rintro e w1 ⟨rfl, hu1⟩
  have HVw1 := Lib.hid hu1
  have s0 := (HR0.out.upd0 hu1).cell 0
  have s1 := (HR0.out.upd0 hu1).cell 1
  have s2 := (HR0.out.upd0 hu1).cell 2
  clear hu1
  go_wp2_with fail
  refine (HB1.out _ (HU0.out.trans0 HVw1.out)).mono ?_
  rintro e wa1 ⟨va1, vb1, rfl, hva1, hvb1, hua1⟩
  obtain ⟨aR1, lR1, cR1, dR1, mR1, eR1, rfl, _, _⟩ := hva1.open
  obtain ⟨aQ1, lQ1, cQ1, dQ1, mQ1, eQ1, fQ1, gQ1, hQ1, rfl, _, _⟩ := hvb1.open
  generalize decide (x.num < 0) = bR1 at *
  obtain ⟨w3, hw3⟩ : ∃ W, W = (wa1.alloc (.cells #[.bool bR1, .slice aR1 lR1 cR1, .slice dR1 mR1 eR1] 53)).alloc (.cells #[.slice aQ1 lQ1 cQ1, .slice dQ1 mQ1 eQ1, .slice fQ1 gQ1 hQ1] 55) := ⟨_, rfl⟩
  obtain ⟨K1, hK1⟩ : ∃ s, s = wa1.heap.size := ⟨_, rfl⟩
  obtain ⟨hul1, rR1, rQ1, _⟩ := rows2 wa1 #[.bool bR1, .slice aR1 lR1 cR1, .slice dR1 mR1 eR1] #[.slice aQ1 lQ1 cQ1, .slice dQ1 mQ1 eQ1, .slice fQ1 gQ1 hQ1] 53 55 w3 hw3 K1 hK1
  have HVw3 := Lib.hid (HVw1.out.trans0 (hua1.trans0 hul1))
  have HX1 := Lib.hid (hva1.upd0 hul1)
  have HY1 := Lib.hid (hvb1.upd0 hul1)
  have HRR1 := Lib.hid rR1
  have HRQ1 := Lib.hid rQ1
  have t0 := (HR1.out.upd0 HVw3.out).cell 0
  have t1 := (HR1.out.upd0 HVw3.out).cell 1
  have t2 := (HR1.out.upd0 HVw3.out).cell 2
  rw [hw3] at t0 t1 t2
  have HW3 := Lib.hid hw3
  have HKK1 := Lib.hid hK1
  clear hva1 hvb1 hua1 hul1 rR1 rQ1 hw3 hK1 s0 s1 s2
  go_wp2_with fail
  rw [← HW3.out, ← HKK1.out]
  rw [← HW3.out] at t0 t1 t2
  refine (HB2.out _ (HU0.out.trans0 HVw3.out)).mono ?_
  rintro e wa2 ⟨va2, vb2, rfl, hva2, hvb2, hua2⟩
  obtain ⟨aR2, lR2, cR2, dR2, mR2, eR2, rfl, _, _⟩ := hva2.open
  obtain ⟨aQ2, lQ2, cQ2, dQ2, mQ2, eQ2, fQ2, gQ2, hQ2, rfl, _, _⟩ := hvb2.open
  generalize decide (y.num < 0) = bR2 at *
  obtain ⟨w5, hw5⟩ : ∃ W, W = (wa2.alloc (.cells #[.bool bR2, .slice aR2 lR2 cR2, .slice dR2 mR2 eR2] 53)).alloc (.cells #[.slice aQ2 lQ2 cQ2, .slice dQ2 mQ2 eQ2, .slice fQ2 gQ2 hQ2] 55) := ⟨_, rfl⟩
  obtain ⟨K2, hK2⟩ : ∃ s, s = wa2.heap.size := ⟨_, rfl⟩
  obtain ⟨hul2, rR2, rQ2, _⟩ := rows2 wa2 #[.bool bR2, .slice aR2 lR2 cR2, .slice dR2 mR2 eR2] #[.slice aQ2 lQ2 cQ2, .slice dQ2 mQ2 eQ2, .slice fQ2 gQ2 hQ2] 53 55 w5 hw5 K2 hK2
  have HVw5 := Lib.hid (HVw3.out.trans0 (hua2.trans0 hul2))
  have HX2 := Lib.hid (hva2.upd0 hul2)
  have HY2 := Lib.hid (hvb2.upd0 hul2)
  have HRR2 := Lib.hid rR2
  have HRQ2 := Lib.hid rQ2
  have HU35 := Lib.hid (hua2.trans0 hul2)
  have HX1' := Lib.hid (HX1.out.upd0 HU35.out)
  have HY1' := Lib.hid (HY1.out.upd0 HU35.out)
  have HRR1' := Lib.hid (HRR1.out.upd0 HU35.out)
  have HRQ1' := Lib.hid (HRQ1.out.upd0 HU35.out)
  have s0 := HRR1'.out.cell 0
  have s1 := HRR1'.out.cell 1
  have s2 := HRR1'.out.cell 2
  rw [hw5] at s0 s1 s2
  have HW5 := Lib.hid hw5
  have HKK2 := Lib.hid hK2
  clear hva2 hvb2 hua2 hul2 rR2 rQ2 hw5 hK2 t0 t1 t2
  go_wp2_with fail
  rw [← HW5.out, ← HKK2.out]
  rw [← HW5.out] at s0 s1 s2
  refine (HDIV.out _ _ _ HX1'.out HX2.out).mono ?_
  rintro e w6 ⟨v6, rfl, hv6, hu6⟩
  obtain ⟨a9, l9, c9, d9, m9, e9, rfl, _, _⟩ := hv6.open
  generalize decide (qq.num < 0) = b9 at *
  obtain ⟨w7, hw7⟩ : ∃ W, W = w6.alloc (.cells #[.bool b9, .slice a9 l9 c9, .slice d9 m9 e9] 53) := ⟨_, rfl⟩
  obtain ⟨K3, hK3⟩ : ∃ s, s = w6.heap.size := ⟨_, rfl⟩
  obtain ⟨hu7, r9, _⟩ := rows1 w6 _ _ w7 hw7 K3 hK3
  have HU57 := Lib.hid (hu6.trans0 hu7)
  have HVw7 := Lib.hid (HVw5.out.trans0 HU57.out)
  have HQQ := Lib.hid (hv6.upd0 hu7)
  have HR9 := Lib.hid r9
  have HW7 := Lib.hid hw7
  have HKK3 := Lib.hid hK3
  have HXa := Lib.hid (HX1'.out.upd0 HU57.out)
  have HYa := Lib.hid (HY1'.out.upd0 HU57.out)
  have HXb := Lib.hid (HX2.out.upd0 HU57.out)
  have HYb := Lib.hid (HY2.out.upd0 HU57.out)
  clear hv6 hu6 hu7 r9 hw7 hK3 s0 s1 s2
  have hrf : Upd [] w7 w7 := Upd.refl _ _
  have HC : Hid (∀ W, Upd [] w7 W → W.cell? ⟨K1, 0, none⟩ = some (.bool bR1) ∧ W.cell? ⟨K1, 1, none⟩ = some (.slice aR1 lR1 cR1) ∧ W.cell? ⟨K1, 2, none⟩ = some (.slice dR1 mR1 eR1) ∧ W.cell? ⟨K1 + 1, 0, none⟩ = some (.slice aQ1 lQ1 cQ1) ∧ W.cell? ⟨K1 + 1, 1, none⟩ = some (.slice dQ1 mQ1 eQ1) ∧ W.cell? ⟨K1 + 1, 2, none⟩ = some (.slice fQ1 gQ1 hQ1) ∧ W.cell? ⟨K2, 0, none⟩ = some (.bool bR2) ∧ W.cell? ⟨K2, 1, none⟩ = some (.slice aR2 lR2 cR2) ∧ W.cell? ⟨K2, 2, none⟩ = some (.slice dR2 mR2 eR2) ∧ W.cell? ⟨K2 + 1, 0, none⟩ = some (.slice aQ2 lQ2 cQ2) ∧ W.cell? ⟨K2 + 1, 1, none⟩ = some (.slice dQ2 mQ2 eQ2) ∧ W.cell? ⟨K2 + 1, 2, none⟩ = some (.slice fQ2 gQ2 hQ2) ∧ Upd [] w7 W) := fun W h =>
    ⟨((HRR1'.out.upd0 HU57.out).upd h (by simp <;> omega)).cell 0, ((HRR1'.out.upd0 HU57.out).upd h (by simp <;> omega)).cell 1, ((HRR1'.out.upd0 HU57.out).upd h (by simp <;> omega)).cell 2, ((HRQ1'.out.upd0 HU57.out).upd h (by simp <;> omega)).cell 0, ((HRQ1'.out.upd0 HU57.out).upd h (by simp <;> omega)).cell 1, ((HRQ1'.out.upd0 HU57.out).upd h (by simp <;> omega)).cell 2, ((HRR2.out.upd0 HU57.out).upd h (by simp <;> omega)).cell 0, ((HRR2.out.upd0 HU57.out).upd h (by simp <;> omega)).cell 1, ((HRR2.out.upd0 HU57.out).upd h (by simp <;> omega)).cell 2, ((HRQ2.out.upd0 HU57.out).upd h (by simp <;> omega)).cell 0, ((HRQ2.out.upd0 HU57.out).upd h (by simp <;> omega)).cell 1, ((HRQ2.out.upd0 HU57.out).upd h (by simp <;> omega)).cell 2, h⟩
  go_wp2_with fail
  rw [← HW7.out, ← HKK3.out]
  go_region_held3 (fun W => W.cell? ⟨K1, 0, none⟩ = some (.bool bR1) ∧ W.cell? ⟨K1, 1, none⟩ = some (.slice aR1 lR1 cR1) ∧ W.cell? ⟨K1, 2, none⟩ = some (.slice dR1 mR1 eR1) ∧ W.cell? ⟨K1 + 1, 0, none⟩ = some (.slice aQ1 lQ1 cQ1) ∧ W.cell? ⟨K1 + 1, 1, none⟩ = some (.slice dQ1 mQ1 eQ1) ∧ W.cell? ⟨K1 + 1, 2, none⟩ = some (.slice fQ1 gQ1 hQ1) ∧ W.cell? ⟨K2, 0, none⟩ = some (.bool bR2) ∧ W.cell? ⟨K2, 1, none⟩ = some (.slice aR2 lR2 cR2) ∧ W.cell? ⟨K2, 2, none⟩ = some (.slice dR2 mR2 eR2) ∧ W.cell? ⟨K2 + 1, 0, none⟩ = some (.slice aQ2 lQ2 cQ2) ∧ W.cell? ⟨K2 + 1, 1, none⟩ = some (.slice dQ2 mQ2 eQ2) ∧ W.cell? ⟨K2 + 1, 2, none⟩ = some (.slice fQ2 gQ2 hQ2) ∧ Upd [] w7 W)
    ((refine HC.out _ ?_; repeat (first | (with_reducible exact huy) | (with_reducible exact hrf) | (with_reducible apply Upd.drew))))
    (first
      | (go_at_call 43; (with_reducible refine (HADD.out _ _ _ (HXa.out.upd0 (by repeat (first | exact huy | exact hrf | apply Upd.drew | apply Upd.alloc))) (HXb.out.upd0 (by repeat (first | exact huy | exact hrf | apply Upd.drew | apply Upd.alloc)))).mono ?_); rintro e wz ⟨vA, rfl, hvA, hu20⟩;  have HVA := Lib.hid hvA; clear hvA; have huz : Upd [] w7 wz := Upd.trans0 (by repeat (first | exact huy | exact hrf | apply Upd.drew | apply Upd.alloc)) hu20; (try clear huy); clear hu20; have huy := huz; clear huz)
      | (go_at_call 44; (with_reducible refine (HQA.out _ _ _ (HYa.out.upd0 (by repeat (first | exact huy | exact hrf | apply Upd.drew | apply Upd.alloc))) (HYb.out.upd0 (by repeat (first | exact huy | exact hrf | apply Upd.drew | apply Upd.alloc)))).mono ?_); rintro e wz ⟨vB, rfl, hvB, hu20⟩; have HVA := Lib.hid (HVA.out.upd0 (by first | exact hu20 | exact Upd.al hu20)); have HVB := Lib.hid hvB; clear hvB; have huz : Upd [] w7 wz := Upd.trans0 (by repeat (first | exact huy | exact hrf | apply Upd.drew | apply Upd.alloc)) hu20; (try clear huy); clear hu20; have huy := huz; clear huz)
      | (go_at_call 38; (with_reducible refine (HI1.out _ _ _ (HU0.out.trans0 (HVw7.out.trans0 (by repeat (first | exact huy | exact hrf | apply Upd.drew | apply Upd.alloc)))) (by first | exact HVA.out | exact RV.upd0 HVA.out ((Upd.refl _ _).alloc _)) (by first | exact HVB.out | exact QV.upd0 HVB.out ((Upd.refl _ _).alloc _))).mono ?_); rintro e wz ⟨rfl, hu20⟩; have HVA := Lib.hid (HVA.out.upd0 (by first | exact hu20 | exact Upd.al hu20)); have HVB := Lib.hid (HVB.out.upd0 (by first | exact hu20 | exact Upd.al hu20));  have huz : Upd [] w7 wz := Upd.trans0 (by repeat (first | exact huy | exact hrf | apply Upd.drew | apply Upd.alloc)) hu20; (try clear huy); clear hu20; have huy := huz; clear huz)
      | (go_at_call 30; (with_reducible refine (HSUB.out _ _ _ (HXa.out.upd0 (by repeat (first | exact huy | exact hrf | apply Upd.drew | apply Upd.alloc))) (HXb.out.upd0 (by repeat (first | exact huy | exact hrf | apply Upd.drew | apply Upd.alloc)))).mono ?_); rintro e wz ⟨vC, rfl, hvC, hu20⟩; have HVA := Lib.hid (HVA.out.upd0 (by first | exact hu20 | exact Upd.al hu20)); have HVB := Lib.hid (HVB.out.upd0 (by first | exact hu20 | exact Upd.al hu20)); have HVC := Lib.hid hvC; clear hvC; have huz : Upd [] w7 wz := Upd.trans0 (by repeat (first | exact huy | exact hrf | apply Upd.drew | apply Upd.alloc)) hu20; (try clear huy); clear hu20; have huy := huz; clear huz)
      | (go_at_call 45; (with_reducible refine (HQT.out _ _ (HYb.out.upd0 (by repeat (first | exact huy | exact hrf | apply Upd.drew | apply Upd.alloc)))).mono ?_); rintro e wz ⟨vD, rfl, hvD, hu20⟩; have HVA := Lib.hid (HVA.out.upd0 (by first | exact hu20 | exact Upd.al hu20)); have HVB := Lib.hid (HVB.out.upd0 (by first | exact hu20 | exact Upd.al hu20)); have HVC := Lib.hid (HVC.out.upd0 (by first | exact hu20 | exact Upd.al hu20)); have HVD := Lib.hid hvD; clear hvD; have huz : Upd [] w7 wz := Upd.trans0 (by repeat (first | exact huy | exact hrf | apply Upd.drew | apply Upd.alloc)) hu20; (try clear huy); clear hu20; have huy := huz; clear huz)
      | (go_at_call 44; (with_reducible refine (HQS.out _ _ _ (HYa.out.upd0 (by repeat (first | exact huy | exact hrf | apply Upd.drew | apply Upd.alloc))) (by first | exact HVD.out | exact QV.upd0 HVD.out ((Upd.refl _ _).alloc _))).mono ?_); rintro e wz ⟨vE, rfl, hvE, hu20⟩; have HVA := Lib.hid (HVA.out.upd0 (by first | exact hu20 | exact Upd.al hu20)); have HVB := Lib.hid (HVB.out.upd0 (by first | exact hu20 | exact Upd.al hu20)); have HVC := Lib.hid (HVC.out.upd0 (by first | exact hu20 | exact Upd.al hu20)); have HVD := Lib.hid (HVD.out.upd0 (by first | exact hu20 | exact Upd.al hu20)); have HVE := Lib.hid hvE; clear hvE; have huz : Upd [] w7 wz := Upd.trans0 (by repeat (first | exact huy | exact hrf | apply Upd.drew | apply Upd.alloc)) hu20; (try clear huy); clear hu20; have huy := huz; clear huz)
      | (go_at_call 38; (with_reducible refine (HI2.out _ _ _ (HU0.out.trans0 (HVw7.out.trans0 (by repeat (first | exact huy | exact hrf | apply Upd.drew | apply Upd.alloc)))) (by first | exact HVC.out | exact RV.upd0 HVC.out ((Upd.refl _ _).alloc _)) (by first | exact HVE.out | exact QV.upd0 HVE.out ((Upd.refl _ _).alloc _))).mono ?_); rintro e wz ⟨rfl, hu20⟩; have HVA := Lib.hid (HVA.out.upd0 (by first | exact hu20 | exact Upd.al hu20)); have HVB := Lib.hid (HVB.out.upd0 (by first | exact hu20 | exact Upd.al hu20)); have HVC := Lib.hid (HVC.out.upd0 (by first | exact hu20 | exact Upd.al hu20)); have HVD := Lib.hid (HVD.out.upd0 (by first | exact hu20 | exact Upd.al hu20)); have HVE := Lib.hid (HVE.out.upd0 (by first | exact hu20 | exact Upd.al hu20));  have huz : Upd [] w7 wz := Upd.trans0 (by repeat (first | exact huy | exact hrf | apply Upd.drew | apply Upd.alloc)) hu20; (try clear huy); clear hu20; have huy := huz; clear huz)
      | (go_at_call 46; (with_reducible refine (HMUL.out _ _ _ (HXa.out.upd0 (by repeat (first | exact huy | exact hrf | apply Upd.drew | apply Upd.alloc))) (HXb.out.upd0 (by repeat (first | exact huy | exact hrf | apply Upd.drew | apply Upd.alloc)))).mono ?_); rintro e wz ⟨vF, rfl, hvF, hu20⟩; have HVA := Lib.hid (HVA.out.upd0 (by first | exact hu20 | exact Upd.al hu20)); have HVB := Lib.hid (HVB.out.upd0 (by first | exact hu20 | exact Upd.al hu20)); have HVC := Lib.hid (HVC.out.upd0 (by first | exact hu20 | exact Upd.al hu20)); have HVD := Lib.hid (HVD.out.upd0 (by first | exact hu20 | exact Upd.al hu20)); have HVE := Lib.hid (HVE.out.upd0 (by first | exact hu20 | exact Upd.al hu20)); have HVF := Lib.hid hvF; clear hvF; have huz : Upd [] w7 wz := Upd.trans0 (by repeat (first | exact huy | exact hrf | apply Upd.drew | apply Upd.alloc)) hu20; (try clear huy); clear hu20; have huy := huz; clear huz)
      | (go_at_call 47; (with_reducible refine (HQM.out _ _ _ (HYa.out.upd0 (by repeat (first | exact huy | exact hrf | apply Upd.drew | apply Upd.alloc))) (HYb.out.upd0 (by repeat (first | exact huy | exact hrf | apply Upd.drew | apply Upd.alloc)))).mono ?_); rintro e wz ⟨vG, rfl, hvG, hu20⟩; have HVA := Lib.hid (HVA.out.upd0 (by first | exact hu20 | exact Upd.al hu20)); have HVB := Lib.hid (HVB.out.upd0 (by first | exact hu20 | exact Upd.al hu20)); have HVC := Lib.hid (HVC.out.upd0 (by first | exact hu20 | exact Upd.al hu20)); have HVD := Lib.hid (HVD.out.upd0 (by first | exact hu20 | exact Upd.al hu20)); have HVE := Lib.hid (HVE.out.upd0 (by first | exact hu20 | exact Upd.al hu20)); have HVF := Lib.hid (HVF.out.upd0 (by first | exact hu20 | exact Upd.al hu20)); have HVG := Lib.hid hvG; clear hvG; have huz : Upd [] w7 wz := Upd.trans0 (by repeat (first | exact huy | exact hrf | apply Upd.drew | apply Upd.alloc)) hu20; (try clear huy); clear hu20; have huy := huz; clear huz)
      | (go_at_call 38; (with_reducible refine (HI3.out _ _ _ (HU0.out.trans0 (HVw7.out.trans0 (by repeat (first | exact huy | exact hrf | apply Upd.drew | apply Upd.alloc)))) (by first | exact HVF.out | exact RV.upd0 HVF.out ((Upd.refl _ _).alloc _)) (by first | exact HVG.out | exact QV.upd0 HVG.out ((Upd.refl _ _).alloc _))).mono ?_); rintro e wz ⟨rfl, hu20⟩; have HVA := Lib.hid (HVA.out.upd0 (by first | exact hu20 | exact Upd.al hu20)); have HVB := Lib.hid (HVB.out.upd0 (by first | exact hu20 | exact Upd.al hu20)); have HVC := Lib.hid (HVC.out.upd0 (by first | exact hu20 | exact Upd.al hu20)); have HVD := Lib.hid (HVD.out.upd0 (by first | exact hu20 | exact Upd.al hu20)); have HVE := Lib.hid (HVE.out.upd0 (by first | exact hu20 | exact Upd.al hu20)); have HVF := Lib.hid (HVF.out.upd0 (by first | exact hu20 | exact Upd.al hu20)); have HVG := Lib.hid (HVG.out.upd0 (by first | exact hu20 | exact Upd.al hu20));  have huz : Upd [] w7 wz := Upd.trans0 (by repeat (first | exact huy | exact hrf | apply Upd.drew | apply Upd.alloc)) hu20; (try clear huy); clear hu20; have huy := huz; clear huz)
      | (go_at_call 39; (with_reducible refine (HCMP.out _ _ _ (HXa.out.upd0 (by repeat (first | exact huy | exact hrf | apply Upd.drew | apply Upd.alloc))) (HXb.out.upd0 (by repeat (first | exact huy | exact hrf | apply Upd.drew | apply Upd.alloc)))).mono ?_); rintro e wz ⟨rfl, hu20⟩; have HVA := Lib.hid (HVA.out.upd0 (by first | exact hu20 | exact Upd.al hu20)); have HVB := Lib.hid (HVB.out.upd0 (by first | exact hu20 | exact Upd.al hu20)); have HVC := Lib.hid (HVC.out.upd0 (by first | exact hu20 | exact Upd.al hu20)); have HVD := Lib.hid (HVD.out.upd0 (by first | exact hu20 | exact Upd.al hu20)); have HVE := Lib.hid (HVE.out.upd0 (by first | exact hu20 | exact Upd.al hu20)); have HVF := Lib.hid (HVF.out.upd0 (by first | exact hu20 | exact Upd.al hu20)); have HVG := Lib.hid (HVG.out.upd0 (by first | exact hu20 | exact Upd.al hu20));  have huz : Upd [] w7 wz := Upd.trans0 (by repeat (first | exact huy | exact hrf | apply Upd.drew | apply Upd.alloc)) hu20; (try clear huy); clear hu20; have huy := huz; clear huz)
      | (go_at_call 48; (with_reducible refine (HQC.out _ _ _ (HYa.out.upd0 (by repeat (first | exact huy | exact hrf | apply Upd.drew | apply Upd.alloc))) (HYb.out.upd0 (by repeat (first | exact huy | exact hrf | apply Upd.drew | apply Upd.alloc)))).mono ?_); rintro e wz ⟨rfl, hu20⟩; have HVA := Lib.hid (HVA.out.upd0 (by first | exact hu20 | exact Upd.al hu20)); have HVB := Lib.hid (HVB.out.upd0 (by first | exact hu20 | exact Upd.al hu20)); have HVC := Lib.hid (HVC.out.upd0 (by first | exact hu20 | exact Upd.al hu20)); have HVD := Lib.hid (HVD.out.upd0 (by first | exact hu20 | exact Upd.al hu20)); have HVE := Lib.hid (HVE.out.upd0 (by first | exact hu20 | exact Upd.al hu20)); have HVF := Lib.hid (HVF.out.upd0 (by first | exact hu20 | exact Upd.al hu20)); have HVG := Lib.hid (HVG.out.upd0 (by first | exact hu20 | exact Upd.al hu20));  have huz : Upd [] w7 wz := Upd.trans0 (by repeat (first | exact huy | exact hrf | apply Upd.drew | apply Upd.alloc)) hu20; (try clear huy); clear hu20; have huy := huz; clear huz))
  have s0 := (HRR2.out.upd0 (HU57.out.trans0 huy)).cell 0
  have s1 := (HRR2.out.upd0 (HU57.out.trans0 huy)).cell 1
  have s2 := (HRR2.out.upd0 (HU57.out.trans0 huy)).cell 2
  have HVz := Lib.hid (HVw7.out.trans0 huy)
  have HXz := Lib.hid (HXb.out.upd0 huy)
  have HQz := Lib.hid (HQQ.out.upd0 huy)
  have HR9z := Lib.hid (HR9.out.upd0 huy)
  clear huy hcc
  go_wp2_with fail
  refine (HTY.out _ _ (HU0.out.trans0 HVz.out) HXz.out).mono ?_
  rintro e w8 ⟨rfl, hu8⟩
  have HV8 := Lib.hid (HVz.out.trans0 hu8)
  have HQ8 := Lib.hid (HQz.out.upd0 hu8)
  have g0 := (HR9z.out.upd0 hu8).cell 0
  have g1 := (HR9z.out.upd0 hu8).cell 1
  have g2 := (HR9z.out.upd0 hu8).cell 2
  clear hu8 s0 s1 s2
  go_wp2_with fail
  refine (HTZ.out _ _ (HU0.out.trans0 HV8.out) HQ8.out).mono ?_
  rintro e w9 ⟨rfl, hu9⟩
  have HF := Lib.hid (HU0.out.trans0 (HV8.out.trans0 hu9))
  clear hu9 g0 g1 g2
  go_wp2
  go_ret
  exact ⟨rfl, HF.out⟩

theorem ratSums_law (a0 : Option Addr) (l0 c0 : Nat) (L0 : List Nat) (a1 : Option Addr) (l1 c1 : Nat) (M0 : List Nat) (b0 : Bool) (a2 : Option Addr) (l2 c2 : Nat) (L1 : List Nat) (a3 : Option Addr) (l3 c3 : Nat) (M1 : List Nat) (b1 : Bool) (w : World) (ht : Tab w) (hs0 : Sl w (.slice a0 l0 c0) (cu64 L0)) (hw0 : ∀ d ∈ L0, d < 18446744073709551616) (hs1 : Sl w (.slice a1 l1 c1) (cu64 M0)) (hw1 : ∀ d ∈ M0, d < 18446744073709551616) (hs2 : Sl w (.slice a2 l2 c2) (cu64 L1)) (hw2 : ∀ d ∈ L1, d < 18446744073709551616) (hs3 : Sl w (.slice a3 l3 c3) (cu64 M1)) (hw3 : ∀ d ∈ M1, d < 18446744073709551616) : Calls Tryz.prog 5 #[.agg #[.slice a0 l0 c0, .slice a1 l1 c1, .bool b0], .agg #[.slice a2 l2 c2, .slice a3 l3 c3, .bool b1]] w (fun e w' => e = .returned (.bool true) ∧ Upd [] w w') := by
  by_cases hy0 : qval (zP b1 (wval (L1.take 2))) (zM b1 (wval (L1.take 2))) (den1 (wval (M1.take 2))) = 0
  · exact ratSums_z a0 l0 c0 L0 a1 l1 c1 M0 b0 a2 l2 c2 L1 a3 l3 c3 M1 b1 w ht hs0 hw0 hs1 hw1 hs2 hw2 hs3 hw3 hy0
  · exact ratSums_q a0 l0 c0 L0 a1 l1 c1 M0 b0 a2 l2 c2 L1 a3 l3 c3 M1 b1 w ht hs0 hw0 hs1 hw1 hs2 hw2 hs3 hw3 hy0
end Go.Proofs.YtoklmfmoblkfcaaGreatDoor
