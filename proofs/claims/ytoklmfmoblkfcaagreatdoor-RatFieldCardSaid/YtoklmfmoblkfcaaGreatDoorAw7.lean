/- The fixed fact that each statement of layer 7 asks first; Make, Half; Is; what is equal. -/
import Derived.Test.YtoklmfmoblkfcaaGreatDoorRatQ
import Derived.Test.YtoklmfmoblkfcaaGreatDoorRatN
import Derived.Test.YtoklmfmoblkfcaaGreatDoorRatA
import Derived.Test.YtoklmfmoblkfcaaGreatDoorRatC
import Derived.Test.YtoklmfmoblkfcaaGreatDoorRatTx
import Derived.Test.YtoklmfmoblkfcaaGreatDoorRefT
import Derived.Test.YtoklmfmoblkfcaaGreatDoorAc
import Derived.Deep.RegionHeld3
import Derived.Deep.DeepCutAuto
namespace Go.Proofs.YtoklmfmoblkfcaaGreatDoor
open Go.RowKit Go.Proofs.Tm
set_option linter.unusedVariables false
set_option linter.unusedSimpArgs false
set_option maxRecDepth 20000

set_option maxHeartbeats 800000 in
theorem rmake_any (p q : Int) (w : World) (p1 : -9223372036854775808 ≤ p) (p2 : p ≤ 9223372036854775807) (q1 : -9223372036854775808 ≤ q) (q2 : q ≤ 9223372036854775807) (hq : q ≠ 0) :
    Calls Tryz.prog 59 #[.int .i64 p, .int .i64 q] w (RRatE (Rat.divInt p q) 0 w) := by
  have hl : ∀ n : Int, -9223372036854775808 ≤ n → n ≤ 9223372036854775807 → (wds n.natAbs).length ≤ 1073741824 := fun n h1 h2 => Nat.le_trans (nv_len n.natAbs (by omega)) (by decide)
  have HO1 : Hid (∀ W, Calls Tryz.prog 12 #[.int .i64 p] W (RWhole p W)) := fun W => whole_of p W p1 p2
  have HO2 : Hid (∀ W, Calls Tryz.prog 12 #[.int .i64 q] W (RWhole q W)) := fun W => whole_of q W q1 q2
  obtain ⟨qv, hqv⟩ : ∃ r, r = Rat.divInt p q := ⟨_, rfl⟩
  have HFR : Hid (∀ W s t, WV W s p → WV W t q → Calls Tryz.prog 33 #[s, t] W (RRatE qv 0 W)) := fun W s t hs ht => by rw [hqv]; exact frac_any s t p q W hs ht hq (hl p p1 p2) (hl q q1 q2)
  rw [← hqv]
  clear hl p1 p2 q1 q2 hq hqv
  obtain ⟨w0, hw0⟩ : ∃ W, W = (w.alloc (.cells #[.bool false, .slice none 0 0, .slice none 0 0] 53)) := ⟨_, rfl⟩
  obtain ⟨S, hS⟩ : ∃ s, s = w.heap.size := ⟨_, rfl⟩
  obtain ⟨hu0, r0, hz0⟩ := rows1 w #[.bool false, .slice none 0 0, .slice none 0 0] 53 w0 hw0 S hS
  have HU0 := Lib.hid hu0
  have HW0 := Lib.hid hw0
  have HS := Lib.hid hS
  have HZ0 := Lib.hid hz0
  have hcA : ∀ W, Upd [] w0 W → W.cell? ⟨S, 0, none⟩ = some (.bool false) ∧ W.cell? ⟨S, 1, none⟩ = some (.slice none 0 0) ∧ W.cell? ⟨S, 2, none⟩ = some (.slice none 0 0) ∧ W.frozen? ⟨S, 0, none⟩ = false ∧ W.frozen? ⟨S, 1, none⟩ = false ∧ W.frozen? ⟨S, 2, none⟩ = false := fun W h => ⟨(r0.upd0 h).cell 0, (r0.upd0 h).cell 1, (r0.upd0 h).cell 2, (r0.upd0 h).frozen 0, (r0.upd0 h).frozen 1, (r0.upd0 h).frozen 2⟩
  have HRES := Lib.hid r0
  clear hw0 hS hu0 r0 hz0
  go_enter Tryz.func59, Tryz.ntmps59
  go_wp2_with fail
  rw [← HW0.out]
  rw [← HS.out]
  refine (HO1.out _).mono ?_
  rintro e w1 ⟨v1, rfl, hv1, hu1⟩
  have HV1 := Lib.hid hu1
  have HW1 := Lib.hid hv1
  clear hu1 hv1
  go_wp2_with fail
  refine (HO2.out _).mono ?_
  rintro e w2 ⟨v2, rfl, hv2, hu2⟩
  have HV2 := Lib.hid (HV1.out.trans0 hu2)
  have HW12 := Lib.hid (HW1.out.upd0 hu2)
  have HW2 := Lib.hid hv2
  clear hu2 hv2
  go_wp2_with fail
  refine (HFR.out _ _ _ HW12.out HW2.out).mono ?_
  rintro e w3 ⟨vF, rfl, hvF, hu3⟩
  have huy : Upd [] w0 w3 := HV2.out.trans0 hu3
  clear hu3
  obtain ⟨aF, lF, cF, dF, mF, eF, rfl, _, _⟩ := hvF.open
  have HF := Lib.hid hvF
  obtain ⟨x0, x1, x2, x3, x4, x5⟩ := hcA _ huy
  clear hvF
  have HP := Lib.hid (NewR.set ⟨HRES.out.upd0 huy, by have := HS.out; omega⟩ (HU0.out.trans0 huy) HF.out)
  clear hcA huy
  generalize decide ((qv).num < 0) = pF at *
  have z0 := HP.out.row.cell 0
  have z1 := HP.out.row.cell 1
  have z2 := HP.out.row.cell 2
  go_wp2
  refine bodyPost_ret (v := .tuple #[.agg #[.bool pF, .slice aF lF cF, .slice dF mF eF], .int .i64 0]) (by simp [results, Tryz.results59, go_sem, z0, z1, z2]) rfl ?_
  exact ⟨_, rfl, HP.out.rv, HP.out.upd⟩

theorem half_q (n : Nat) : (mkRat 1 (2 ^ n)).num = 1 ∧ (mkRat 1 (2 ^ n)).den = 2 ^ n := mk_of 1 (2 ^ n) (Nat.ne_of_gt (Nat.pow_pos (by decide))) (by simp)
theorem pow2_len (n : Nat) (h : n ≤ 8192) : (wds (2 ^ n)).length ≤ 129 := by
  obtain ⟨E, hE⟩ : ∃ E, E = 129 := ⟨_, rfl⟩
  rw [← hE, wds_length_le_iff]
  have e : (18446744073709551616 : Nat) = 2 ^ 64 := by decide
  rw [e, ← Nat.pow_mul]
  exact Nat.pow_lt_pow_right (by decide) (by omega)

set_option maxHeartbeats 1600000 in
theorem rhalf_any (n : Nat) (w : World) (hn : n ≤ 8192) :
    Calls Tryz.prog 50 #[.int .i64 (n : Int)] w (RRatE (mkRat 1 (2 ^ n)) 0 w) := by
  obtain ⟨qv, hqv⟩ : ∃ r, r = mkRat 1 (2 ^ n) := ⟨_, rfl⟩
  obtain ⟨e1, e2⟩ := half_q n
  rw [← hqv] at e1 e2 ⊢
  have HSH : Hid (∀ W s, NV W s 1 → Calls Tryz.prog 51 #[s, .int .i64 (n : Int)] W (RNatE qv.den 0 W)) := fun W s hs => by
    have := shl_any s 1 n W hs (Nat.le_trans (nv_len 1 (by decide)) (by decide)) hn
    rw [Nat.one_mul, ← e2] at this
    exact this
  have HO : Hid (∀ W, Calls Tryz.prog 12 #[.int .i64 1] W (RWhole qv.num W)) := fun W => by rw [e1]; exact whole_of 1 W (by decide) (by decide)
  have HFIT : Hid (∀ W s t, WV W s qv.num → NV W t qv.den → Calls Tryz.prog 83 #[s, t] W (RRat qv W)) := fun W s t hs ht => by
    have := fit_q _ _ _ _ W hs ht qv.den_nz qv.reduced (by rw [e2]; have := pow2_len n hn; omega)
    rw [Rat.mkRat_self] at this
    exact this
  clear hn hqv e1 e2
  obtain ⟨w0, hw0⟩ : ∃ W, W = (w.alloc (.cells #[.bool false, .slice none 0 0, .slice none 0 0] 53)) := ⟨_, rfl⟩
  obtain ⟨S, hS⟩ : ∃ s, s = w.heap.size := ⟨_, rfl⟩
  obtain ⟨hu0, r0, hz0⟩ := rows1 w #[.bool false, .slice none 0 0, .slice none 0 0] 53 w0 hw0 S hS
  have HU0 := Lib.hid hu0
  have HW0 := Lib.hid hw0
  have HS := Lib.hid hS
  have HZ0 := Lib.hid hz0
  have HRES0 := Lib.hid r0
  clear hw0 hS hu0 r0 hz0
  go_enter Tryz.func50, Tryz.ntmps50
  go_wp2_with fail
  rw [← HW0.out]
  rw [← HS.out]
  refine (of1 1 1 rfl (by decide) _ _ HZ0.out.symm).mono ?_
  rintro e w1 ⟨v1, rfl, hn1, hu1⟩
  have HV1 := Lib.hid (Upd.al hu1)
  have HN1 := Lib.hid hn1
  clear hu1 hn1
  go_wp2_with fail
  refine (HSH.out _ _ HN1.out).mono ?_
  rintro e w2 ⟨v2, rfl, hn2, hu2⟩
  obtain ⟨a4, l4, c4, rfl, hn2o⟩ := nvOpen hn2
  obtain ⟨w3, hw3⟩ : ∃ W, W = w2.alloc (.cells #[.slice a4 l4 c4] 27) := ⟨_, rfl⟩
  obtain ⟨K, hK⟩ : ∃ s, s = w2.heap.size := ⟨_, rfl⟩
  obtain ⟨hu3, r4, hz3⟩ := rows1 w2 #[.slice a4 l4 c4] 27 w3 hw3 K hK
  have HVw3 := Lib.hid (HV1.out.trans0 (hu2.trans0 hu3))
  have HN4 := Lib.hid (hn2o.upd0 hu3)
  have HR4 := Lib.hid r4
  have hk1 : K ≠ S := by have h1 := HZ0.out; have h2 := HV1.out.size; have h3 := hu2.size; omega
  have HUB := Lib.hid (HU0.out.trans0 HVw3.out)
  have HRES := Lib.hid (HRES0.out.upd0 HVw3.out)
  have HW3 := Lib.hid hw3
  have HK := Lib.hid hK
  clear hn2 hn2o hu2 hu3 r4 hz3 hw3 hK
  go_wp2_with fail
  rw [← HW3.out, ← HK.out]
  have hrf : Upd [] w3 w3 := Upd.refl _ _
  have HC : Hid (∀ W, Upd [S] w3 W → W.cell? ⟨K, 0, none⟩ = some (.slice a4 l4 c4) ∧ Upd [S] w3 W) := fun W h =>
    ⟨(HR4.out.upd h (by simp <;> omega)).cell 0, h⟩
  have hcA : ∀ W, Upd [] w3 W → W.cell? ⟨S, 0, none⟩ = some (.bool false) ∧ W.cell? ⟨S, 1, none⟩ = some (.slice none 0 0) ∧ W.cell? ⟨S, 2, none⟩ = some (.slice none 0 0) ∧ W.frozen? ⟨S, 0, none⟩ = false ∧ W.frozen? ⟨S, 1, none⟩ = false ∧ W.frozen? ⟨S, 2, none⟩ = false := fun W h => ⟨(HRES.out.upd0 h).cell 0, (HRES.out.upd0 h).cell 1, (HRES.out.upd0 h).cell 2, (HRES.out.upd0 h).frozen 0, (HRES.out.upd0 h).frozen 1, (HRES.out.upd0 h).frozen 2⟩
  go_region_held3 (fun W => W.cell? ⟨K, 0, none⟩ = some (.slice a4 l4 c4) ∧ Upd [S] w3 W)
    ((refine HC.out _ ?_; repeat (first | (with_reducible refine Upd.setCell ?_ (.inl (by simp)) _) | (with_reducible exact huy.mono (by simp)) | (with_reducible exact hrf.mono (by simp)) | (with_reducible apply Upd.drew) | (with_reducible apply Upd.alloc))))
    (first
      | (go_at_call 12; (with_reducible refine (HO.out _).mono ?_); rintro e wz ⟨vA, rfl, hvA, hu20⟩;  have HVA := Lib.hid hvA; clear hvA; have huz : Upd [] w3 wz := Upd.trans0 (by repeat (first | exact huy | exact hrf | apply Upd.drew | apply Upd.alloc)) hu20; (try clear huy); clear hu20; have huy := huz; clear huz)
      | (go_at_call 83; (with_reducible refine (HFIT.out _ _ _ (by first | exact HVA.out | exact HVA.out.upd0 ((Upd.refl _ _).alloc _)) (HN4.out.upd0 (by repeat (first | exact huy | exact hrf | apply Upd.drew | apply Upd.alloc)))).mono ?_); rintro e wz ⟨vF, rfl, hFv, hu20⟩; have HVA := Lib.hid (HVA.out.upd0 (by first | exact hu20 | exact Upd.al hu20)); obtain ⟨aF, lF, cF, dF, mF, eF, rfl, _, _⟩ := hFv.open; have HF := Lib.hid hFv; clear hFv; have huz : Upd [] w3 wz := Upd.trans0 (by repeat (first | exact huy | exact hrf | apply Upd.drew | apply Upd.alloc)) hu20; (try clear huy); clear hu20; have huy := huz; clear huz; obtain ⟨x0, x1, x2, x3, x4, x5⟩ := hcA _ huy))
  all_goals
    have HP := Lib.hid (NewR.set ⟨HRES.out.upd0 huy, by have := HS.out; omega⟩ (HUB.out.trans0 huy) HF.out)
    clear hcA huy
    generalize decide (qv.num < 0) = pF at *
    have z0 := HP.out.row.cell 0
    have z1 := HP.out.row.cell 1
    have z2 := HP.out.row.cell 2
    go_wp2
    refine bodyPost_ret (v := .tuple #[.agg #[.bool pF, .slice aF lF cF, .slice dF mF eF], .int .i64 0]) (by simp [results, Tryz.results50, go_sem, z0, z1, z2]) rfl ?_
    exact ⟨_, rfl, HP.out.rv, HP.out.upd⟩

theorem txt56 : ratTxt (Rat.divInt 1 2 + Rat.divInt (-1) (-3)) = [53, 47, 54] := by decide +kernel
theorem ql_lit {q : Rat} (h1 : q.num.natAbs < 2 ^ 255) (h2 : q.den < 2 ^ 255) : QL q 4 := ⟨nv_len _ h1, nv_len _ h2⟩

set_option maxHeartbeats 1600000 in
theorem awake7 (w : World) (ht : Tab w) :
    Calls Tryz.prog 25 #[] w (fun e w' => e = .returned (.bool true) ∧ Upd [] w w') := by
  obtain ⟨x, hx⟩ : ∃ r, r = Rat.divInt 1 2 := ⟨_, rfl⟩
  obtain ⟨y, hy⟩ : ∃ r, r = Rat.divInt (-1) (-3) := ⟨_, rfl⟩
  have qx : QL x 4 := by rw [hx]; exact ql_lit (by decide +kernel) (by decide +kernel)
  have qy : QL y 4 := by rw [hy]; exact ql_lit (by decide +kernel) (by decide +kernel)
  have HM1 : Hid (∀ W, Calls Tryz.prog 59 #[.int .i64 1, .int .i64 2] W (RRatE x 0 W)) := fun W => by rw [hx]; exact rmake_any 1 2 W (by decide) (by decide) (by decide) (by decide) (by decide)
  have HM2 : Hid (∀ W, Calls Tryz.prog 59 #[.int .i64 (-1), .int .i64 (-3)] W (RRatE y 0 W)) := fun W => by rw [hy]; exact rmake_any (-1) (-3) W (by decide) (by decide) (by decide) (by decide) (by decide)
  have HAD : Hid (∀ W s t, RV W s x → RV W t y → Calls Tryz.prog 43 #[s, t] W (RRat (x + y) W)) := fun W s t hs ht => raddq_any _ _ _ _ W hs ht (qx.mono (by decide)) (qy.mono (by decide))
  have HTX : Hid (∀ W s, Upd [] w W → RV W s (x + y) → Calls Tryz.prog 28 #[s] W (fun e w' => e = .returned (.string ⟨#[53, 47, 54]⟩) ∧ Upd [] W w')) := fun W s h hs => by
    have := rtextq_any _ _ W hs (ht.upd0 h) ((ql_add qx qy).mono (by decide))
    rw [hx, hy, txt56] at this
    exact this
  clear ht qx qy hx hy
  go_enter Tryz.func25, Tryz.ntmps25
  go_wp2_with fail
  refine (HM1.out _).mono ?_
  rintro e w1 ⟨v1, rfl, hv1, hu1⟩
  obtain ⟨a1, l1, c1, d1, m1, e1, rfl, _, _⟩ := hv1.open
  generalize decide (x.num < 0) = b1 at *
  obtain ⟨w2, hw2⟩ : ∃ W, W = w1.alloc (.cells #[.bool b1, .slice a1 l1 c1, .slice d1 m1 e1] 53) := ⟨_, rfl⟩
  obtain ⟨K1, hk1⟩ : ∃ s, s = w1.heap.size := ⟨_, rfl⟩
  obtain ⟨hu2, r1, hz2⟩ := rows1 w1 _ _ w2 hw2 K1 hk1
  have HV2 := Lib.hid (hu1.trans0 hu2)
  have HX2 := Lib.hid (hv1.upd0 hu2)
  have HK1 := Lib.hid r1
  have HW2 := Lib.hid hw2
  have HKK1 := Lib.hid hk1
  clear hu1 hu2 hv1 r1 hz2 hw2 hk1
  go_wp2_with fail
  rw [← HW2.out, ← HKK1.out]
  refine (HM2.out _).mono ?_
  rintro e w3 ⟨v3, rfl, hv3, hu3⟩
  obtain ⟨a2, l2, c2, d2, m2, e2, rfl, _, _⟩ := hv3.open
  generalize decide (y.num < 0) = b2 at *
  obtain ⟨w4, hw4⟩ : ∃ W, W = w3.alloc (.cells #[.bool b2, .slice a2 l2 c2, .slice d2 m2 e2] 53) := ⟨_, rfl⟩
  obtain ⟨K2, hk2⟩ : ∃ s, s = w3.heap.size := ⟨_, rfl⟩
  obtain ⟨hu4, r2, hz4⟩ := rows1 w3 _ _ w4 hw4 K2 hk2
  have HV4 := Lib.hid (HV2.out.trans0 (hu3.trans0 hu4))
  have HX4 := Lib.hid (HX2.out.upd0 (hu3.trans0 hu4))
  have HY4 := Lib.hid (hv3.upd0 hu4)
  have HR1 := Lib.hid (HK1.out.upd0 (hu3.trans0 hu4))
  have s0 := HR1.out.cell 0
  have s1 := HR1.out.cell 1
  have s2 := HR1.out.cell 2
  have s3 := r2.cell 0
  have s4 := r2.cell 1
  have s5 := r2.cell 2
  rw [hw4] at s0 s1 s2 s3 s4 s5
  have HW4 := Lib.hid hw4
  have HKK2 := Lib.hid hk2
  clear hu3 hu4 hv3 r2 hz4 hw4 hk2
  go_wp2_with fail
  rw [← HW4.out]
  refine (HAD.out _ _ _ HX4.out HY4.out).mono ?_
  rintro e w5 ⟨v5, rfl, hv5, hu5⟩
  have HV5 := Lib.hid (HV4.out.trans0 hu5)
  have HS5 := Lib.hid hv5
  clear hu5 hv5 s0 s1 s2 s3 s4 s5
  go_wp2_with fail
  refine (HTX.out _ _ HV5.out HS5.out).mono ?_
  rintro e w6 ⟨rfl, hu6⟩
  have HF := Lib.hid (HV5.out.trans0 hu6)
  clear hu6
  go_wp2
  go_ret
  exact ⟨rfl, HF.out⟩

set_option maxHeartbeats 1600000 in
theorem is7 (u v : Value) (q : Rat) (p m d : Nat) (w : World) (hu : RV w u q) (hv : QV w v p m d) (ht : Tab w) (hq : QL q 1073741824) (hpl : (digs p).length ≤ 1048576) (hml : (digs m).length ≤ 1048576) (hdl : (digs d).length ≤ 1048576) (hd0 : 0 < d) (he : q = qval p m d) :
    Calls Tryz.prog 38 #[u, v] w (fun e w' => e = .returned (.bool true) ∧ Upd [] w w') := by
  obtain ⟨a0, l0, c0, d0, m0, e0, rfl, _, _⟩ := hu.open
  obtain ⟨a1, l1, c1, d1, m1, e1, f1, g1, h1, rfl, hz, hdd⟩ := hv.open
  have HT1 : Hid (∀ W, Upd [] w W → Calls Tryz.prog 28 #[.agg #[.bool (decide (q.num < 0)), .slice a0 l0 c0, .slice d0 m0 e0]] W (fun e w' => e = .returned (.string ⟨(ratTxt q).toArray⟩) ∧ Upd [] W w')) := fun W h => rtextq_any _ _ W (hu.upd0 h) (ht.upd0 h) hq
  have HT2 : Hid (∀ W, Upd [] w W → Calls Tryz.prog 88 #[.agg #[.slice a1 l1 c1, .slice d1 m1 e1, .slice f1 g1 h1]] W (fun e w' => e = .returned (.string ⟨(ratTxt q).toArray⟩) ∧ Upd [] W w')) := fun W h => by rw [he]; exact qtext_any _ _ _ _ W (hv.upd0 h) hpl hml hdl hd0
  generalize ratTxt q = tx at *
  generalize decide (q.num < 0) = b0 at *
  clear hu hv ht hq hpl hml hdl hd0 he hz hdd
  obtain ⟨w0, hw0⟩ : ∃ W, W = ((w.alloc (.cells #[.bool b0, .slice a0 l0 c0, .slice d0 m0 e0] 53)).alloc (.cells #[.slice a1 l1 c1, .slice d1 m1 e1, .slice f1 g1 h1] 55)) := ⟨_, rfl⟩
  obtain ⟨S, hS⟩ : ∃ s, s = w.heap.size := ⟨_, rfl⟩
  obtain ⟨hu0, r0, r1, hz0⟩ := rows2 w #[.bool b0, .slice a0 l0 c0, .slice d0 m0 e0] #[.slice a1 l1 c1, .slice d1 m1 e1, .slice f1 g1 h1] 53 55 w0 hw0 S hS
  have HU0 := Lib.hid hu0
  have HW0 := Lib.hid hw0
  have HS := Lib.hid hS
  have HZ0 := Lib.hid hz0
  have HR0 := Lib.hid r0
  have HR1 := Lib.hid r1
  have hrf : Upd [] w0 w0 := Upd.refl _ _
  clear hw0 hS hu0 r0 r1 hz0
  have HC : Hid (∀ W, Upd [] w0 W → W.cell? ⟨S, 0, none⟩ = some (.bool b0) ∧ W.cell? ⟨S, 1, none⟩ = some (.slice a0 l0 c0) ∧ W.cell? ⟨S, 2, none⟩ = some (.slice d0 m0 e0) ∧ W.cell? ⟨S + 1, 0, none⟩ = some (.slice a1 l1 c1) ∧ W.cell? ⟨S + 1, 1, none⟩ = some (.slice d1 m1 e1) ∧ W.cell? ⟨S + 1, 2, none⟩ = some (.slice f1 g1 h1) ∧ Upd [] w0 W) := fun W h =>
    ⟨(HR0.out.upd h (by simp <;> omega)).cell 0, (HR0.out.upd h (by simp <;> omega)).cell 1, (HR0.out.upd h (by simp <;> omega)).cell 2, (HR1.out.upd h (by simp <;> omega)).cell 0, (HR1.out.upd h (by simp <;> omega)).cell 1, (HR1.out.upd h (by simp <;> omega)).cell 2, h⟩
  go_enter Tryz.func38, Tryz.ntmps38
  go_wp2_with fail
  rw [← HW0.out]
  rw [← HS.out]
  go_region_held3 (fun W => W.cell? ⟨S, 0, none⟩ = some (.bool b0) ∧ W.cell? ⟨S, 1, none⟩ = some (.slice a0 l0 c0) ∧ W.cell? ⟨S, 2, none⟩ = some (.slice d0 m0 e0) ∧ W.cell? ⟨S + 1, 0, none⟩ = some (.slice a1 l1 c1) ∧ W.cell? ⟨S + 1, 1, none⟩ = some (.slice d1 m1 e1) ∧ W.cell? ⟨S + 1, 2, none⟩ = some (.slice f1 g1 h1) ∧ Upd [] w0 W)
    ((refine HC.out _ ?_; repeat (first | exact huy | exact hrf | apply Upd.drew)))
    (first
      | (go_at_call 28; (with_reducible refine (HT1.out _ (HU0.out.trans0 (by repeat (first | exact huy | exact hrf | apply Upd.drew | apply Upd.alloc)))).mono ?_); rintro e wz ⟨rfl, hu20⟩;   have huz : Upd [] w0 wz := Upd.trans0 (by repeat (first | exact huy | exact hrf | apply Upd.drew | apply Upd.alloc)) hu20; (try clear huy); clear hu20; have huy := huz; clear huz)
      | (go_at_call 88; (with_reducible refine (HT2.out _ (HU0.out.trans0 (by repeat (first | exact huy | exact hrf | apply Upd.drew | apply Upd.alloc)))).mono ?_); rintro e wz ⟨rfl, hu20⟩;   have huz : Upd [] w0 wz := Upd.trans0 (by repeat (first | exact huy | exact hrf | apply Upd.drew | apply Upd.alloc)) hu20; (try clear huy); clear hu20; have huy := huz; clear huz))
  all_goals
    go_wp2
    go_ret
    exact ⟨by simp, HU0.out.trans0 huy⟩

end Go.Proofs.YtoklmfmoblkfcaaGreatDoor
