/- The law WholeDivides (layer 6). -/
import Derived.Test.YtoklmfmoblkfcaaDoorBoth6
import Derived.Test.YtoklmfmoblkfcaaDoorWholeS
import Derived.Test.YtoklmfmoblkfcaaDoorWLen
import Derived.Deep.RegionHeld3
import Derived.Test.YtoklmfmoblkfcaaDoorWholeDz
namespace Go.Proofs.YtoklmfmoblkfcaaDoor
open Go.RowKit Go.Proofs.Tm
set_option linter.unusedVariables false
set_option linter.unusedSimpArgs false
set_option maxRecDepth 20000

theorem ediv_le {x y q : Int} (h : q = x / y) (hy : y ≠ 0) : q.natAbs ≤ x.natAbs + 1 := by
  have h1 := Int.natAbs_ediv_le_natAbs x y
  rw [← h] at h1
  omega

set_option maxHeartbeats 3200000 in
theorem wholeDivides_q (a0 : Option Addr) (l0 c0 : Nat) (L0 : List Nat) (b0 : Bool) (a1 : Option Addr) (l1 c1 : Nat) (L1 : List Nat) (b1 : Bool) (w : World) (ht : Tab w) (hs0 : Sl w (.slice a0 l0 c0) (cu64 L0)) (hw0 : ∀ d ∈ L0, d < 18446744073709551616) (hs1 : Sl w (.slice a1 l1 c1) (cu64 L1)) (hw1 : ∀ d ∈ L1, d < 18446744073709551616) (hy0 : ¬ (zP b1 (wval (L1.take 5)) : Int) - zM b1 (wval (L1.take 5)) = 0) :
    Calls Tryd.prog 4 #[.agg #[.slice a0 l0 c0, .bool b0], .agg #[.slice a1 l1 c1, .bool b1]] w (fun e w' => e = .returned (.bool true) ∧ Upd [] w w') := by
  have HAW : Hid (∀ W, Upd [] w W → Calls Tryd.prog 8 #[] W (fun e w' => e = .returned (.bool true) ∧ Upd [] W w')) := fun W h => awake6 W (ht.upd0 h)
  obtain ⟨P1, hP1⟩ : ∃ P, P = wval (L0.take 5) := ⟨_, rfl⟩
  have hb1 := few_bounds L0 5 hw0
  rw [← hP1] at hb1
  have hz1 : (digs (zP b0 P1)).length ≤ 25 ∧ (digs (zM b0 P1)).length ≤ 25 := by
    unfold zP zM
    cases b0 <;> simp [digs_zero] <;> omega
  have hn1 : ((zP b0 P1 : Int) - zM b0 P1).natAbs = P1 := by
    unfold zP zM
    cases b0 <;> simp
  have HB1 : Hid (∀ W, Upd [] w W → Calls Tryd.prog 9 #[.agg #[.slice a0 l0 c0, .bool b0]] W (RBoth6 b0 P1 W)) := fun W h => by rw [hP1]; exact both6_any _ _ _ _ b0 W (hs0.upd0 h) hw0
  unfold RBoth6 at HB1
  generalize zP b0 P1 = p1 at *
  generalize zM b0 P1 = m1 at *
  obtain ⟨x, hx⟩ : ∃ r : Int, r = (p1 : Int) - m1 := ⟨_, rfl⟩
  rw [← hx] at HB1 hn1
  have lx : (wds x.natAbs).length ≤ 5 := by rw [hn1]; exact hb1.1
  obtain ⟨P2, hP2⟩ : ∃ P, P = wval (L1.take 5) := ⟨_, rfl⟩
  have hb2 := few_bounds L1 5 hw1
  rw [← hP2] at hb2
  rw [← hP2] at hy0
  have hz2 : (digs (zP b1 P2)).length ≤ 25 ∧ (digs (zM b1 P2)).length ≤ 25 := by
    unfold zP zM
    cases b1 <;> simp [digs_zero] <;> omega
  have hn2 : ((zP b1 P2 : Int) - zM b1 P2).natAbs = P2 := by
    unfold zP zM
    cases b1 <;> simp
  have HB2 : Hid (∀ W, Upd [] w W → Calls Tryd.prog 9 #[.agg #[.slice a1 l1 c1, .bool b1]] W (RBoth6 b1 P2 W)) := fun W h => by rw [hP2]; exact both6_any _ _ _ _ b1 W (hs1.upd0 h) hw1
  unfold RBoth6 at HB2
  generalize zP b1 P2 = p2 at *
  generalize zM b1 P2 = m2 at *
  obtain ⟨y, hy⟩ : ∃ r : Int, r = (p2 : Int) - m2 := ⟨_, rfl⟩
  rw [← hy] at HB2 hn2
  rw [← hy] at hy0
  have ly : (wds y.natAbs).length ≤ 5 := by rw [hn2]; exact hb2.1
  have HAB : Hid (∀ W s, ZV W s p2 m2 → Calls Tryd.prog 21 #[s] W (RDig y.natAbs W)) := fun W s hs => by
    have := zabs_any _ _ _ W hs (by omega) (by omega)
    rw [← hy] at this
    exact this
  have HQL : Hid (∀ W s, DV W s y.natAbs → ∃ a l c, s = .slice a l c ∧ l = (digs y.natAbs).length) := fun W s hs => by
    obtain ⟨a, c, rfl, _⟩ := dig_open hs
    exact ⟨a, _, c, rfl, rfl⟩
  have HZQ : Hid ((((digs y.natAbs).length : Int) == 0) = false) := by
    show _ = _
    have h1 : (digs y.natAbs).length ≠ 0 := fun h => by
      have h1 := digs_lt_pow y.natAbs
      rw [h, Nat.pow_zero] at h1
      omega
    exact beq_false_of_ne (by omega)
  obtain ⟨q, hq⟩ : ∃ z : Int, z = x / y := ⟨_, rfl⟩
  obtain ⟨r, hr⟩ : ∃ z : Int, z = x % y := ⟨_, rfl⟩
  have hr0 : 0 ≤ r := by rw [hr]; exact Int.emod_nonneg _ hy0
  have hr1 : r.natAbs < y.natAbs := by
    have := Int.emod_lt x hy0
    rw [← hr] at this
    omega
  have hqx : q * y + r = x := by rw [hq, hr, Int.mul_comm]; exact Int.mul_ediv_add_emod x y
  have lr : (wds r.natAbs).length ≤ 5 := Nat.le_trans (wds_length_le (by omega)) ly
  have lq : (wds q.natAbs).length ≤ 6 := by
    have h1 : q.natAbs ≤ x.natAbs + 1 := ediv_le hq hy0
    have h2 := wds_length_le h1
    have h3 := wds_length_add x.natAbs 1
    have h4 : (wds 1).length ≤ 4 := nv_len 1 (by decide)
    have h5 : (wds 1).length = 1 := by rw [wds_one 1 (by decide) (by decide)]; rfl
    omega
  have HD : Hid (∀ W s t, WV W s x → WV W t y → Calls Tryd.prog 20 #[s, t] W (RWhole2E q r 0 W)) := fun W s t hs ht => by rw [hq, hr]; exact wdm_any _ _ _ _ W hs ht (by omega) (by omega) hy0
  have HNG : Hid (∀ W s, WV W s r → Calls Tryd.prog 23 #[s] W (fun e w' => e = .returned (.bool false) ∧ Upd [] W w')) := fun W s hs => by have := wneg_any _ _ W hs; rwa [decide_eq_false (by omega)] at this
  have HA1 : Hid (∀ W s, WV W s r → Calls Tryd.prog 25 #[s] W (RNat r.natAbs W)) := fun W s hs => wabs_any _ _ W hs
  have HA2 : Hid (∀ W s, WV W s y → Calls Tryd.prog 25 #[s] W (RNat y.natAbs W)) := fun W s hs => wabs_any _ _ W hs
  have HNC : Hid (∀ W s t, NV W s r.natAbs → NV W t y.natAbs → Calls Tryd.prog 24 #[s, t] W (fun e w' => e = .returned (.int .i64 (-1)) ∧ Upd [] W w')) := fun W s t hs ht => by
    have := cmp_any _ _ _ _ W hs ht (by omega)
    rwa [cmpN_lt hr1] at this
  have HM : Hid (∀ W s t, WV W s q → WV W t y → Calls Tryd.prog 15 #[s, t] W (RWhole (q * y) W)) := fun W s t hs ht => wmul_any _ _ _ _ W hs ht (by omega) (by omega)
  have HA : Hid (∀ W s t, WV W s (q * y) → WV W t r → Calls Tryd.prog 11 #[s, t] W (RWhole x W)) := fun W s t hs ht => by have := wadd_any _ _ _ _ W hs ht (wlen_mul lq ly (by decide)) (by omega); rw [hqx] at this; exact this
  have HC0 : Hid (∀ W s t, WV W s x → WV W t x → Calls Tryd.prog 18 #[s, t] W (fun e w' => e = .returned (.int .i64 0) ∧ Upd [] W w')) := fun W s t hs ht => by have := wcmp_any _ _ _ _ W hs ht (by omega) (by omega); rw [cmpZ_self] at this; exact this
  clear ht hs0 hw0 hs1 hw1 hP1 hb1 hz1 hn1 hx lx hP2 hb2 hz2 hn2 hy ly hy0 hq hr hr0 hr1 hqx lr lq
  generalize q * y = qy at *
  generalize r.natAbs = ra at *
  generalize y.natAbs = ya at *
  obtain ⟨w0, hw0⟩ : ∃ W, W = ((w.alloc (.cells #[.slice a0 l0 c0, .bool b0] 24)).alloc (.cells #[.slice a1 l1 c1, .bool b1] 24)) := ⟨_, rfl⟩
  obtain ⟨S, hS⟩ : ∃ s, s = w.heap.size := ⟨_, rfl⟩
  obtain ⟨hu0, r0, r1, hz0⟩ := rows2 w #[.slice a0 l0 c0, .bool b0] #[.slice a1 l1 c1, .bool b1] 24 24 w0 hw0 S hS
  have HU0 := Lib.hid hu0
  have HW0 := Lib.hid hw0
  have HS := Lib.hid hS
  have HZ0 := Lib.hid hz0
  have HR0 := Lib.hid r0
  have HR1 := Lib.hid r1
  clear hw0 hS hu0 r0 r1 hz0
  go_enter Tryd.func4, Tryd.ntmps4
  go_wp2_with fail
  rw [← HW0.out]
  rw [← HS.out]
  refine (HAW.out _ HU0.out).mono ?_
  rintro e w1 ⟨rfl, hu1⟩
  have HVw1 := Lib.hid hu1
  have s0 := (HR0.out.upd0 hu1).cell 0
  have s1 := (HR0.out.upd0 hu1).cell 1
  clear hu1
  go_wp2_with fail
  refine (HB1.out _ (HU0.out.trans0 HVw1.out)).mono ?_
  rintro e wa1 ⟨va1, vb1, rfl, hva1, hvb1, hua1⟩
  obtain ⟨aR1, lR1, cR1, rfl, _⟩ := hva1.open
  obtain ⟨aQ1, lQ1, cQ1, dQ1, mQ1, eQ1, rfl, _, _⟩ := hvb1.open
  generalize decide (x < 0) = bR1 at *
  obtain ⟨w3, hw3⟩ : ∃ W, W = (wa1.alloc (.cells #[.bool bR1, .slice aR1 lR1 cR1] 29)).alloc (.cells #[.slice aQ1 lQ1 cQ1, .slice dQ1 mQ1 eQ1] 33) := ⟨_, rfl⟩
  obtain ⟨K1, hK1⟩ : ∃ s, s = wa1.heap.size := ⟨_, rfl⟩
  obtain ⟨hul1, rR1, rQ1, _⟩ := rows2 wa1 #[.bool bR1, .slice aR1 lR1 cR1] #[.slice aQ1 lQ1 cQ1, .slice dQ1 mQ1 eQ1] 29 33 w3 hw3 K1 hK1
  have HL1 := Lib.hid (hua1.trans0 hul1)
  have HVw3 := Lib.hid (HVw1.out.trans0 HL1.out)
  have HX1 := Lib.hid (hva1.upd0 hul1)
  have HY1 := Lib.hid (hvb1.upd0 hul1)
  have HRR1 := Lib.hid rR1
  have HRQ1 := Lib.hid rQ1
  have t0 := (HR1.out.upd0 HVw3.out).cell 0
  have t1 := (HR1.out.upd0 HVw3.out).cell 1
  rw [hw3] at t0 t1
  have HWw3 := Lib.hid hw3
  have HKK1 := Lib.hid hK1
  clear hva1 hvb1 hua1 hul1 rR1 rQ1 hw3 hK1 s0 s1
  go_wp2_with fail
  rw [← HWw3.out, ← HKK1.out]
  rw [← HWw3.out] at t0 t1
  have s0 := t0
  have s1 := t1
  clear t0 t1
  refine (HB2.out _ (HU0.out.trans0 HVw3.out)).mono ?_
  rintro e wa2 ⟨va2, vb2, rfl, hva2, hvb2, hua2⟩
  obtain ⟨aR2, lR2, cR2, rfl, _⟩ := hva2.open
  obtain ⟨aQ2, lQ2, cQ2, dQ2, mQ2, eQ2, rfl, _, _⟩ := hvb2.open
  generalize decide (y < 0) = bR2 at *
  obtain ⟨w5, hw5⟩ : ∃ W, W = (wa2.alloc (.cells #[.bool bR2, .slice aR2 lR2 cR2] 29)).alloc (.cells #[.slice aQ2 lQ2 cQ2, .slice dQ2 mQ2 eQ2] 33) := ⟨_, rfl⟩
  obtain ⟨K2, hK2⟩ : ∃ s, s = wa2.heap.size := ⟨_, rfl⟩
  obtain ⟨hul2, rR2, rQ2, _⟩ := rows2 wa2 #[.bool bR2, .slice aR2 lR2 cR2] #[.slice aQ2 lQ2 cQ2, .slice dQ2 mQ2 eQ2] 29 33 w5 hw5 K2 hK2
  have HL2 := Lib.hid (hua2.trans0 hul2)
  have HVw5 := Lib.hid (HVw3.out.trans0 HL2.out)
  have HX2 := Lib.hid (hva2.upd0 hul2)
  have HY2 := Lib.hid (hvb2.upd0 hul2)
  have HRR2 := Lib.hid rR2
  have HRQ2 := Lib.hid rQ2
  have HXa1 := Lib.hid ((HX1.out.upd0 HL2.out))
  have HYa1 := Lib.hid ((HY1.out.upd0 HL2.out))
  have HRa1 := Lib.hid ((HRR1.out.upd0 HL2.out))
  have HRb1 := Lib.hid ((HRQ1.out.upd0 HL2.out))
  have HXa2 := Lib.hid (HX2.out)
  have HYa2 := Lib.hid (HY2.out)
  have HRa2 := Lib.hid (HRR2.out)
  have HRb2 := Lib.hid (HRQ2.out)
  have s0 := HRa1.out.cell 0
  have s1 := HRa1.out.cell 1
  have s2 := HRa2.out.cell 0
  have s3 := HRa2.out.cell 1
  rw [hw5] at s0 s1 s2 s3
  have HWw5 := Lib.hid hw5
  have HKK2 := Lib.hid hK2
  clear hva2 hvb2 hua2 hul2 rR2 rQ2 hw5 hK2
  go_wp2_with fail
  rw [← HWw5.out, ← HKK2.out]
  rw [← HWw5.out] at s0 s1 s2 s3
  refine (HD.out _ _ _ HXa1.out HXa2.out).mono ?_
  rintro e w6 ⟨v6, v6', rfl, hv6, hv6', hu6⟩
  obtain ⟨a8, l8, c8, rfl, _⟩ := hv6.open
  obtain ⟨a9, l9, c9, rfl, _⟩ := hv6'.open
  generalize decide (q < 0) = b8 at *
  generalize decide (r < 0) = b9 at *
  obtain ⟨w7, hw7⟩ : ∃ W, W = (w6.alloc (.cells #[.bool b8, .slice a8 l8 c8] 29)).alloc (.cells #[.bool b9, .slice a9 l9 c9] 29) := ⟨_, rfl⟩
  obtain ⟨K3, hK3⟩ : ∃ s, s = w6.heap.size := ⟨_, rfl⟩
  obtain ⟨hu7, r8, r9, _⟩ := rows2 w6 #[.bool b8, .slice a8 l8 c8] #[.bool b9, .slice a9 l9 c9] 29 29 w7 hw7 K3 hK3
  have HU57 := Lib.hid (hu6.trans0 hu7)
  have HVw7 := Lib.hid (HVw5.out.trans0 HU57.out)
  have HQ7 := Lib.hid (hv6.upd0 hu7)
  have HR7 := Lib.hid (hv6'.upd0 hu7)
  have HR8 := Lib.hid r8
  have HR9 := Lib.hid r9
  have HX7 := Lib.hid (HXa1.out.upd0 HU57.out)
  have HY7 := Lib.hid (HXa2.out.upd0 HU57.out)
  have HRX7 := Lib.hid (HRa1.out.upd0 HU57.out)
  have HRY7 := Lib.hid (HRa2.out.upd0 HU57.out)
  have HZ7 := Lib.hid (HYa2.out.upd0 HU57.out)
  have t0 := (HRb2.out.upd0 HU57.out).cell 0
  have t1 := (HRb2.out.upd0 HU57.out).cell 1
  rw [hw7] at t0 t1
  have HW7 := Lib.hid hw7
  have HKK3 := Lib.hid hK3
  clear hv6 hv6' hu6 hu7 r8 r9 hw7 hK3 s0 s1 s2 s3
  go_wp2_with fail
  rw [← HW7.out, ← HKK3.out]
  rw [← HW7.out] at t0 t1
  refine (HAB.out _ _ HZ7.out).mono ?_
  rintro e w8 ⟨vd, rfl, hd8, hu8⟩
  obtain ⟨ad, ld, cd, rfl, hld⟩ := HQL.out _ _ (DV.of hd8)
  have hzq := HZQ.out
  rw [← hld] at hzq
  have HV8 := Lib.hid (HVw7.out.trans0 hu8)
  have HQ8 := Lib.hid (HQ7.out.upd0 hu8)
  have HR8r := Lib.hid (HR7.out.upd0 hu8)
  have HX8 := Lib.hid (HX7.out.upd0 hu8)
  have HY8 := Lib.hid (HY7.out.upd0 hu8)
  have HRq := Lib.hid (HR8.out.upd0 hu8)
  have HRr := Lib.hid (HR9.out.upd0 hu8)
  have HRX8 := Lib.hid (HRX7.out.upd0 hu8)
  have HRY8 := Lib.hid (HRY7.out.upd0 hu8)
  clear hd8 hu8 hld t0 t1
  have hrf : Upd [] w8 w8 := Upd.refl _ _
  have HC : Hid (∀ W, Upd [] w8 W → W.cell? ⟨K3, 0, none⟩ = some (.bool b8) ∧ W.cell? ⟨K3, 1, none⟩ = some (.slice a8 l8 c8) ∧ W.cell? ⟨K3 + 1, 0, none⟩ = some (.bool b9) ∧ W.cell? ⟨K3 + 1, 1, none⟩ = some (.slice a9 l9 c9) ∧ W.cell? ⟨K1, 0, none⟩ = some (.bool bR1) ∧ W.cell? ⟨K1, 1, none⟩ = some (.slice aR1 lR1 cR1) ∧ W.cell? ⟨K2, 0, none⟩ = some (.bool bR2) ∧ W.cell? ⟨K2, 1, none⟩ = some (.slice aR2 lR2 cR2) ∧ Upd [] w8 W) := fun W h =>
    ⟨(HRq.out.upd h (by simp <;> omega)).cell 0, (HRq.out.upd h (by simp <;> omega)).cell 1, (HRr.out.upd h (by simp <;> omega)).cell 0, (HRr.out.upd h (by simp <;> omega)).cell 1, (HRX8.out.upd h (by simp <;> omega)).cell 0, (HRX8.out.upd h (by simp <;> omega)).cell 1, (HRY8.out.upd h (by simp <;> omega)).cell 0, (HRY8.out.upd h (by simp <;> omega)).cell 1, h⟩
  go_wp2_with fail
  go_region_held3 (fun W => W.cell? ⟨K3, 0, none⟩ = some (.bool b8) ∧ W.cell? ⟨K3, 1, none⟩ = some (.slice a8 l8 c8) ∧ W.cell? ⟨K3 + 1, 0, none⟩ = some (.bool b9) ∧ W.cell? ⟨K3 + 1, 1, none⟩ = some (.slice a9 l9 c9) ∧ W.cell? ⟨K1, 0, none⟩ = some (.bool bR1) ∧ W.cell? ⟨K1, 1, none⟩ = some (.slice aR1 lR1 cR1) ∧ W.cell? ⟨K2, 0, none⟩ = some (.bool bR2) ∧ W.cell? ⟨K2, 1, none⟩ = some (.slice aR2 lR2 cR2) ∧ Upd [] w8 W)
    ((refine HC.out _ ?_; repeat (first | (with_reducible exact huy) | (with_reducible exact hrf) | (with_reducible apply Upd.drew))))
    (first
      | (go_at_call 23; (with_reducible refine (HNG.out _ _ (HR8r.out.upd0 (by repeat (first | exact huy | exact hrf | apply Upd.drew | apply Upd.alloc)))).mono ?_); rintro e wz ⟨rfl, hu20⟩;   have huz : Upd [] w8 wz := Upd.trans0 (by repeat (first | exact huy | exact hrf | apply Upd.drew | apply Upd.alloc)) hu20; (try clear huy); clear hu20; have huy := huz; clear huz)
      | (go_at_call 25; (with_reducible refine (HA1.out _ _ (HR8r.out.upd0 (by repeat (first | exact huy | exact hrf | apply Upd.drew | apply Upd.alloc)))).mono ?_); rintro e wz ⟨vA, rfl, hnA, hu20⟩;  have HNA := Lib.hid hnA; clear hnA; have huz : Upd [] w8 wz := Upd.trans0 (by repeat (first | exact huy | exact hrf | apply Upd.drew | apply Upd.alloc)) hu20; (try clear huy); clear hu20; have huy := huz; clear huz)
      | (go_at_call 25; (with_reducible refine (HA2.out _ _ (HY8.out.upd0 (by repeat (first | exact huy | exact hrf | apply Upd.drew | apply Upd.alloc)))).mono ?_); rintro e wz ⟨vB, rfl, hnB, hu20⟩; have HNA := Lib.hid (HNA.out.upd0 (by first | exact hu20 | exact Upd.al hu20)); have HNB := Lib.hid hnB; clear hnB; have huz : Upd [] w8 wz := Upd.trans0 (by repeat (first | exact huy | exact hrf | apply Upd.drew | apply Upd.alloc)) hu20; (try clear huy); clear hu20; have huy := huz; clear huz)
      | (go_at_call 24; (with_reducible refine (HNC.out _ _ _ (by first | exact HNA.out | exact HNA.out.upd0 ((Upd.refl _ _).alloc _)) (by first | exact HNB.out | exact HNB.out.upd0 ((Upd.refl _ _).alloc _))).mono ?_); rintro e wz ⟨rfl, hu20⟩; have HNA := Lib.hid (HNA.out.upd0 (by first | exact hu20 | exact Upd.al hu20)); have HNB := Lib.hid (HNB.out.upd0 (by first | exact hu20 | exact Upd.al hu20));  have huz : Upd [] w8 wz := Upd.trans0 (by repeat (first | exact huy | exact hrf | apply Upd.drew | apply Upd.alloc)) hu20; (try clear huy); clear hu20; have huy := huz; clear huz)
      | (go_at_call 15; (with_reducible refine (HM.out _ _ _ (HQ8.out.upd0 (by repeat (first | exact huy | exact hrf | apply Upd.drew | apply Upd.alloc))) (HY8.out.upd0 (by repeat (first | exact huy | exact hrf | apply Upd.drew | apply Upd.alloc)))).mono ?_); rintro e wz ⟨vC, rfl, hvC, hu20⟩; have HNA := Lib.hid (HNA.out.upd0 (by first | exact hu20 | exact Upd.al hu20)); have HNB := Lib.hid (HNB.out.upd0 (by first | exact hu20 | exact Upd.al hu20)); have HVC := Lib.hid hvC; clear hvC; have huz : Upd [] w8 wz := Upd.trans0 (by repeat (first | exact huy | exact hrf | apply Upd.drew | apply Upd.alloc)) hu20; (try clear huy); clear hu20; have huy := huz; clear huz)
      | (go_at_call 11; (with_reducible refine (HA.out _ _ _ (by first | exact HVC.out | exact WV.upd0 HVC.out ((Upd.refl _ _).alloc _)) (HR8r.out.upd0 (by repeat (first | exact huy | exact hrf | apply Upd.drew | apply Upd.alloc)))).mono ?_); rintro e wz ⟨vD, rfl, hvD, hu20⟩; have HNA := Lib.hid (HNA.out.upd0 (by first | exact hu20 | exact Upd.al hu20)); have HNB := Lib.hid (HNB.out.upd0 (by first | exact hu20 | exact Upd.al hu20)); have HVC := Lib.hid (HVC.out.upd0 (by first | exact hu20 | exact Upd.al hu20)); have HVD := Lib.hid hvD; clear hvD; have huz : Upd [] w8 wz := Upd.trans0 (by repeat (first | exact huy | exact hrf | apply Upd.drew | apply Upd.alloc)) hu20; (try clear huy); clear hu20; have huy := huz; clear huz)
      | (go_at_call 18; (with_reducible refine (HC0.out _ _ _ (by first | exact HVD.out | exact WV.upd0 HVD.out ((Upd.refl _ _).alloc _)) (HX8.out.upd0 (by repeat (first | exact huy | exact hrf | apply Upd.drew | apply Upd.alloc)))).mono ?_); rintro e wz ⟨rfl, hu20⟩; have HNA := Lib.hid (HNA.out.upd0 (by first | exact hu20 | exact Upd.al hu20)); have HNB := Lib.hid (HNB.out.upd0 (by first | exact hu20 | exact Upd.al hu20)); have HVC := Lib.hid (HVC.out.upd0 (by first | exact hu20 | exact Upd.al hu20)); have HVD := Lib.hid (HVD.out.upd0 (by first | exact hu20 | exact Upd.al hu20));  have huz : Upd [] w8 wz := Upd.trans0 (by repeat (first | exact huy | exact hrf | apply Upd.drew | apply Upd.alloc)) hu20; (try clear huy); clear hu20; have huy := huz; clear huz))
  all_goals
    go_wp2
    go_ret
    exact ⟨rfl, HU0.out.trans0 (HV8.out.trans0 huy)⟩

set_option maxHeartbeats 3200000 in
theorem wholeDivides_z (a0 : Option Addr) (l0 c0 : Nat) (L0 : List Nat) (b0 : Bool) (a1 : Option Addr) (l1 c1 : Nat) (L1 : List Nat) (b1 : Bool) (w : World) (ht : Tab w) (hs0 : Sl w (.slice a0 l0 c0) (cu64 L0)) (hw0 : ∀ d ∈ L0, d < 18446744073709551616) (hs1 : Sl w (.slice a1 l1 c1) (cu64 L1)) (hw1 : ∀ d ∈ L1, d < 18446744073709551616) (hy0 : (zP b1 (wval (L1.take 5)) : Int) - zM b1 (wval (L1.take 5)) = 0) :
    Calls Tryd.prog 4 #[.agg #[.slice a0 l0 c0, .bool b0], .agg #[.slice a1 l1 c1, .bool b1]] w (fun e w' => e = .returned (.bool true) ∧ Upd [] w w') := by
  have HAW : Hid (∀ W, Upd [] w W → Calls Tryd.prog 8 #[] W (fun e w' => e = .returned (.bool true) ∧ Upd [] W w')) := fun W h => awake6 W (ht.upd0 h)
  obtain ⟨P1, hP1⟩ : ∃ P, P = wval (L0.take 5) := ⟨_, rfl⟩
  have hb1 := few_bounds L0 5 hw0
  rw [← hP1] at hb1
  have hz1 : (digs (zP b0 P1)).length ≤ 25 ∧ (digs (zM b0 P1)).length ≤ 25 := by
    unfold zP zM
    cases b0 <;> simp [digs_zero] <;> omega
  have hn1 : ((zP b0 P1 : Int) - zM b0 P1).natAbs = P1 := by
    unfold zP zM
    cases b0 <;> simp
  have HB1 : Hid (∀ W, Upd [] w W → Calls Tryd.prog 9 #[.agg #[.slice a0 l0 c0, .bool b0]] W (RBoth6 b0 P1 W)) := fun W h => by rw [hP1]; exact both6_any _ _ _ _ b0 W (hs0.upd0 h) hw0
  unfold RBoth6 at HB1
  generalize zP b0 P1 = p1 at *
  generalize zM b0 P1 = m1 at *
  obtain ⟨x, hx⟩ : ∃ r : Int, r = (p1 : Int) - m1 := ⟨_, rfl⟩
  rw [← hx] at HB1 hn1
  have lx : (wds x.natAbs).length ≤ 5 := by rw [hn1]; exact hb1.1
  obtain ⟨P2, hP2⟩ : ∃ P, P = wval (L1.take 5) := ⟨_, rfl⟩
  have hb2 := few_bounds L1 5 hw1
  rw [← hP2] at hb2
  rw [← hP2] at hy0
  have hz2 : (digs (zP b1 P2)).length ≤ 25 ∧ (digs (zM b1 P2)).length ≤ 25 := by
    unfold zP zM
    cases b1 <;> simp [digs_zero] <;> omega
  have hn2 : ((zP b1 P2 : Int) - zM b1 P2).natAbs = P2 := by
    unfold zP zM
    cases b1 <;> simp
  have HB2 : Hid (∀ W, Upd [] w W → Calls Tryd.prog 9 #[.agg #[.slice a1 l1 c1, .bool b1]] W (RBoth6 b1 P2 W)) := fun W h => by rw [hP2]; exact both6_any _ _ _ _ b1 W (hs1.upd0 h) hw1
  unfold RBoth6 at HB2
  generalize zP b1 P2 = p2 at *
  generalize zM b1 P2 = m2 at *
  obtain ⟨y, hy⟩ : ∃ r : Int, r = (p2 : Int) - m2 := ⟨_, rfl⟩
  rw [← hy] at HB2 hn2
  rw [← hy] at hy0
  have ly : (wds y.natAbs).length ≤ 5 := by rw [hn2]; exact hb2.1
  have HAB : Hid (∀ W s, ZV W s p2 m2 → Calls Tryd.prog 21 #[s] W (RDig y.natAbs W)) := fun W s hs => by
    have := zabs_any _ _ _ W hs (by omega) (by omega)
    rw [← hy] at this
    exact this
  have HQL : Hid (∀ W s, DV W s y.natAbs → ∃ a l c, s = .slice a l c ∧ l = (digs y.natAbs).length) := fun W s hs => by
    obtain ⟨a, c, rfl, _⟩ := dig_open hs
    exact ⟨a, _, c, rfl, rfl⟩
  have HZQ : Hid ((((digs y.natAbs).length : Int) == 0) = true) := by
    show _ = _
    rw [hy0]; simp [digs_zero]
  have HD : Hid (∀ W s t, WV W s x → WV W t y → Calls Tryd.prog 20 #[s, t] W (RWhole2E 0 0 7 W)) := fun W s t hs ht => wdm_zero _ _ _ _ W hs ht hy0
  have HT0 : Hid (∀ W s, Upd [] w W → WV W s 0 → Calls Tryd.prog 22 #[s] W (fun e w' => e = .returned (.string ⟨#[48]⟩) ∧ Upd [] W w')) := fun W s h hs => by
    have := wtext_any _ _ W hs (ht.upd0 h) (by decide +kernel)
    rw [ztxt_0] at this
    exact this
  obtain ⟨q, hq⟩ : ∃ z : Int, z = 0 := ⟨_, rfl⟩
  obtain ⟨r, hr⟩ : ∃ z : Int, z = 0 := ⟨_, rfl⟩
  have HTq : Hid (∀ W s, Upd [] w W → WV W s q → Calls Tryd.prog 22 #[s] W (fun e w' => e = .returned (.string ⟨#[48]⟩) ∧ Upd [] W w')) := by rw [hq]; exact HT0
  have HTr : Hid (∀ W s, Upd [] w W → WV W s r → Calls Tryd.prog 22 #[s] W (fun e w' => e = .returned (.string ⟨#[48]⟩) ∧ Upd [] W w')) := by rw [hr]; exact HT0
  have HD' : Hid (∀ W s t, WV W s x → WV W t y → Calls Tryd.prog 20 #[s, t] W (RWhole2E q r 7 W)) := by rw [hq, hr]; exact HD
  clear HD HT0
  have HD := HD'
  clear HD'
  clear ht hs0 hw0 hs1 hw1 hP1 hb1 hz1 hn1 hx lx hP2 hb2 hz2 hn2 hy ly hy0 hq hr
  generalize y.natAbs = ya at *
  obtain ⟨w0, hw0⟩ : ∃ W, W = ((w.alloc (.cells #[.slice a0 l0 c0, .bool b0] 24)).alloc (.cells #[.slice a1 l1 c1, .bool b1] 24)) := ⟨_, rfl⟩
  obtain ⟨S, hS⟩ : ∃ s, s = w.heap.size := ⟨_, rfl⟩
  obtain ⟨hu0, r0, r1, hz0⟩ := rows2 w #[.slice a0 l0 c0, .bool b0] #[.slice a1 l1 c1, .bool b1] 24 24 w0 hw0 S hS
  have HU0 := Lib.hid hu0
  have HW0 := Lib.hid hw0
  have HS := Lib.hid hS
  have HZ0 := Lib.hid hz0
  have HR0 := Lib.hid r0
  have HR1 := Lib.hid r1
  clear hw0 hS hu0 r0 r1 hz0
  go_enter Tryd.func4, Tryd.ntmps4
  go_wp2_with fail
  rw [← HW0.out]
  rw [← HS.out]
  refine (HAW.out _ HU0.out).mono ?_
  rintro e w1 ⟨rfl, hu1⟩
  have HVw1 := Lib.hid hu1
  have s0 := (HR0.out.upd0 hu1).cell 0
  have s1 := (HR0.out.upd0 hu1).cell 1
  clear hu1
  go_wp2_with fail
  refine (HB1.out _ (HU0.out.trans0 HVw1.out)).mono ?_
  rintro e wa1 ⟨va1, vb1, rfl, hva1, hvb1, hua1⟩
  obtain ⟨aR1, lR1, cR1, rfl, _⟩ := hva1.open
  obtain ⟨aQ1, lQ1, cQ1, dQ1, mQ1, eQ1, rfl, _, _⟩ := hvb1.open
  generalize decide (x < 0) = bR1 at *
  obtain ⟨w3, hw3⟩ : ∃ W, W = (wa1.alloc (.cells #[.bool bR1, .slice aR1 lR1 cR1] 29)).alloc (.cells #[.slice aQ1 lQ1 cQ1, .slice dQ1 mQ1 eQ1] 33) := ⟨_, rfl⟩
  obtain ⟨K1, hK1⟩ : ∃ s, s = wa1.heap.size := ⟨_, rfl⟩
  obtain ⟨hul1, rR1, rQ1, _⟩ := rows2 wa1 #[.bool bR1, .slice aR1 lR1 cR1] #[.slice aQ1 lQ1 cQ1, .slice dQ1 mQ1 eQ1] 29 33 w3 hw3 K1 hK1
  have HL1 := Lib.hid (hua1.trans0 hul1)
  have HVw3 := Lib.hid (HVw1.out.trans0 HL1.out)
  have HX1 := Lib.hid (hva1.upd0 hul1)
  have HY1 := Lib.hid (hvb1.upd0 hul1)
  have HRR1 := Lib.hid rR1
  have HRQ1 := Lib.hid rQ1
  have t0 := (HR1.out.upd0 HVw3.out).cell 0
  have t1 := (HR1.out.upd0 HVw3.out).cell 1
  rw [hw3] at t0 t1
  have HWw3 := Lib.hid hw3
  have HKK1 := Lib.hid hK1
  clear hva1 hvb1 hua1 hul1 rR1 rQ1 hw3 hK1 s0 s1
  go_wp2_with fail
  rw [← HWw3.out, ← HKK1.out]
  rw [← HWw3.out] at t0 t1
  have s0 := t0
  have s1 := t1
  clear t0 t1
  refine (HB2.out _ (HU0.out.trans0 HVw3.out)).mono ?_
  rintro e wa2 ⟨va2, vb2, rfl, hva2, hvb2, hua2⟩
  obtain ⟨aR2, lR2, cR2, rfl, _⟩ := hva2.open
  obtain ⟨aQ2, lQ2, cQ2, dQ2, mQ2, eQ2, rfl, _, _⟩ := hvb2.open
  generalize decide (y < 0) = bR2 at *
  obtain ⟨w5, hw5⟩ : ∃ W, W = (wa2.alloc (.cells #[.bool bR2, .slice aR2 lR2 cR2] 29)).alloc (.cells #[.slice aQ2 lQ2 cQ2, .slice dQ2 mQ2 eQ2] 33) := ⟨_, rfl⟩
  obtain ⟨K2, hK2⟩ : ∃ s, s = wa2.heap.size := ⟨_, rfl⟩
  obtain ⟨hul2, rR2, rQ2, _⟩ := rows2 wa2 #[.bool bR2, .slice aR2 lR2 cR2] #[.slice aQ2 lQ2 cQ2, .slice dQ2 mQ2 eQ2] 29 33 w5 hw5 K2 hK2
  have HL2 := Lib.hid (hua2.trans0 hul2)
  have HVw5 := Lib.hid (HVw3.out.trans0 HL2.out)
  have HX2 := Lib.hid (hva2.upd0 hul2)
  have HY2 := Lib.hid (hvb2.upd0 hul2)
  have HRR2 := Lib.hid rR2
  have HRQ2 := Lib.hid rQ2
  have HXa1 := Lib.hid ((HX1.out.upd0 HL2.out))
  have HYa1 := Lib.hid ((HY1.out.upd0 HL2.out))
  have HRa1 := Lib.hid ((HRR1.out.upd0 HL2.out))
  have HRb1 := Lib.hid ((HRQ1.out.upd0 HL2.out))
  have HXa2 := Lib.hid (HX2.out)
  have HYa2 := Lib.hid (HY2.out)
  have HRa2 := Lib.hid (HRR2.out)
  have HRb2 := Lib.hid (HRQ2.out)
  have s0 := HRa1.out.cell 0
  have s1 := HRa1.out.cell 1
  have s2 := HRa2.out.cell 0
  have s3 := HRa2.out.cell 1
  rw [hw5] at s0 s1 s2 s3
  have HWw5 := Lib.hid hw5
  have HKK2 := Lib.hid hK2
  clear hva2 hvb2 hua2 hul2 rR2 rQ2 hw5 hK2
  go_wp2_with fail
  rw [← HWw5.out, ← HKK2.out]
  rw [← HWw5.out] at s0 s1 s2 s3
  refine (HD.out _ _ _ HXa1.out HXa2.out).mono ?_
  rintro e w6 ⟨v6, v6', rfl, hv6, hv6', hu6⟩
  obtain ⟨a8, l8, c8, rfl, _⟩ := hv6.open
  obtain ⟨a9, l9, c9, rfl, _⟩ := hv6'.open
  generalize decide (q < 0) = b8 at *
  generalize decide (r < 0) = b9 at *
  obtain ⟨w7, hw7⟩ : ∃ W, W = (w6.alloc (.cells #[.bool b8, .slice a8 l8 c8] 29)).alloc (.cells #[.bool b9, .slice a9 l9 c9] 29) := ⟨_, rfl⟩
  obtain ⟨K3, hK3⟩ : ∃ s, s = w6.heap.size := ⟨_, rfl⟩
  obtain ⟨hu7, r8, r9, _⟩ := rows2 w6 #[.bool b8, .slice a8 l8 c8] #[.bool b9, .slice a9 l9 c9] 29 29 w7 hw7 K3 hK3
  have HU57 := Lib.hid (hu6.trans0 hu7)
  have HVw7 := Lib.hid (HVw5.out.trans0 HU57.out)
  have HQ7 := Lib.hid (hv6.upd0 hu7)
  have HR7 := Lib.hid (hv6'.upd0 hu7)
  have HR8 := Lib.hid r8
  have HR9 := Lib.hid r9
  have HX7 := Lib.hid (HXa1.out.upd0 HU57.out)
  have HY7 := Lib.hid (HXa2.out.upd0 HU57.out)
  have HRX7 := Lib.hid (HRa1.out.upd0 HU57.out)
  have HRY7 := Lib.hid (HRa2.out.upd0 HU57.out)
  have HZ7 := Lib.hid (HYa2.out.upd0 HU57.out)
  have t0 := (HRb2.out.upd0 HU57.out).cell 0
  have t1 := (HRb2.out.upd0 HU57.out).cell 1
  rw [hw7] at t0 t1
  have HW7 := Lib.hid hw7
  have HKK3 := Lib.hid hK3
  clear hv6 hv6' hu6 hu7 r8 r9 hw7 hK3 s0 s1 s2 s3
  go_wp2_with fail
  rw [← HW7.out, ← HKK3.out]
  rw [← HW7.out] at t0 t1
  refine (HAB.out _ _ HZ7.out).mono ?_
  rintro e w8 ⟨vd, rfl, hd8, hu8⟩
  obtain ⟨ad, ld, cd, rfl, hld⟩ := HQL.out _ _ (DV.of hd8)
  have hzq := HZQ.out
  rw [← hld] at hzq
  have HV8 := Lib.hid (HVw7.out.trans0 hu8)
  have HQ8 := Lib.hid (HQ7.out.upd0 hu8)
  have HR8r := Lib.hid (HR7.out.upd0 hu8)
  have HX8 := Lib.hid (HX7.out.upd0 hu8)
  have HY8 := Lib.hid (HY7.out.upd0 hu8)
  have HRq := Lib.hid (HR8.out.upd0 hu8)
  have HRr := Lib.hid (HR9.out.upd0 hu8)
  have HRX8 := Lib.hid (HRX7.out.upd0 hu8)
  have HRY8 := Lib.hid (HRY7.out.upd0 hu8)
  clear hd8 hu8 hld t0 t1
  have s0 := HRq.out.cell 0
  have s1 := HRq.out.cell 1
  go_wp2_with fail
  refine (HTq.out _ _ (HU0.out.trans0 HV8.out) HQ8.out).mono ?_
  rintro e w9 ⟨rfl, hu9⟩
  have HV9 := Lib.hid (HV8.out.trans0 hu9)
  have HR9r := Lib.hid (HR8r.out.upd0 hu9)
  have t0 := (HRr.out.upd0 hu9).cell 0
  have t1 := (HRr.out.upd0 hu9).cell 1
  clear hu9 s0 s1
  go_wp2_with fail
  refine (HTr.out _ _ (HU0.out.trans0 HV9.out) HR9r.out).mono ?_
  rintro e wA ⟨rfl, huA⟩
  have HF := Lib.hid (HU0.out.trans0 (HV9.out.trans0 huA))
  clear huA t0 t1
  go_wp2
  go_ret
  exact ⟨rfl, HF.out⟩

theorem wholeDivides_law (a0 : Option Addr) (l0 c0 : Nat) (L0 : List Nat) (b0 : Bool) (a1 : Option Addr) (l1 c1 : Nat) (L1 : List Nat) (b1 : Bool) (w : World) (ht : Tab w) (hs0 : Sl w (.slice a0 l0 c0) (cu64 L0)) (hw0 : ∀ d ∈ L0, d < 18446744073709551616) (hs1 : Sl w (.slice a1 l1 c1) (cu64 L1)) (hw1 : ∀ d ∈ L1, d < 18446744073709551616) : Calls Tryd.prog 4 #[.agg #[.slice a0 l0 c0, .bool b0], .agg #[.slice a1 l1 c1, .bool b1]] w (fun e w' => e = .returned (.bool true) ∧ Upd [] w w') := by
  by_cases hy0 : (zP b1 (wval (L1.take 5)) : Int) - zM b1 (wval (L1.take 5)) = 0
  · exact wholeDivides_z a0 l0 c0 L0 b0 a1 l1 c1 L1 b1 w ht hs0 hw0 hs1 hw1 hy0
  · exact wholeDivides_q a0 l0 c0 L0 b0 a1 l1 c1 L1 b1 w ht hs0 hw0 hs1 hw1 hy0
end Go.Proofs.YtoklmfmoblkfcaaDoor
