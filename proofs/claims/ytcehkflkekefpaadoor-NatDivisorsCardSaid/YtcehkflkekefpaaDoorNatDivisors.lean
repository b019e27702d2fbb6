/- The law NatDivisors (layer 5). -/
import Derived.Test.YtcehkflkekefpaaDoorNatIs
import Derived.Test.YtcehkflkekefpaaDoorNatWake
import Derived.Test.YtcehkflkekefpaaDoorNatFewB
import Derived.Test.YtcehkflkekefpaaDoorNatMul2
import Derived.Test.YtcehkflkekefpaaDoorNatGcd
import Derived.Test.YtcehkflkekefpaaDoorRefGcd
import Derived.Test.YtcehkflkekefpaaDoorAb
import Derived.Deep.RegionHeld3
namespace Go.Proofs.YtcehkflkekefpaaDoor
open Go.RowKit Go.Proofs.Tm
set_option linter.unusedVariables false
set_option linter.unusedSimpArgs false
set_option maxRecDepth 20000

theorem gcd_lt {a b X : Nat} (ha : a < X) (hb : b < X) : Nat.gcd a b < X := by
  rcases Nat.eq_zero_or_pos a with rfl | h
  · rw [Nat.gcd_zero_left]; exact hb
  · exact Nat.lt_of_le_of_lt (Nat.gcd_le_left _ h) ha
theorem mul_wlen {a b j k : Nat} (ha : (wds a).length ≤ j) (hb : (wds b).length ≤ k) : (wds (a * b)).length ≤ j + k := by
  rw [wds_length_le_iff] at *
  rw [Nat.pow_add]
  exact Nat.mul_lt_mul'' ha hb

set_option maxHeartbeats 3200000 in
theorem natDivisors_law (a0 : Option Addr) (cap0 : Nat) (p : List Nat) (a1 : Option Addr) (cap1 : Nat) (q : List Nat) (a2 : Option Addr) (cap2 : Nat) (r : List Nat) (w : World) (ht : Tab w)
    (hp : Sl w (.slice a0 p.length cap0) (cu64 p)) (hpw : ∀ d ∈ p, d < 18446744073709551616) (hq : Sl w (.slice a1 q.length cap1) (cu64 q)) (hqw : ∀ d ∈ q, d < 18446744073709551616) (hr : Sl w (.slice a2 r.length cap2) (cu64 r)) (hrw : ∀ d ∈ r, d < 18446744073709551616) :
    Calls Tryd.prog 5 #[.slice a0 p.length cap0, .slice a1 q.length cap1, .slice a2 r.length cap2] w fun e w' => e = .returned (.bool true) ∧ Upd [] w w' := by
  have HT : Hid (∀ W, Upd [] w W → Tab W) := fun W h => ht.upd0 h
  have HP : Hid (∀ W, Upd [] w W → Calls Tryd.prog 13 #[.slice a0 p.length cap0, .int .i64 3] W (RFew (p.take 3) W)) := fun W h => few_any a0 cap0 p 3 (by decide) W (hp.upd0 h)
  have HQ : Hid (∀ W, Upd [] w W → Calls Tryd.prog 13 #[.slice a1 q.length cap1, .int .i64 3] W (RFew (q.take 3) W)) := fun W h => few_any a1 cap1 q 3 (by decide) W (hq.upd0 h)
  have HR : Hid (∀ W, Upd [] w W → Calls Tryd.prog 13 #[.slice a2 r.length cap2, .int .i64 2] W (RFew (r.take 2) W)) := fun W h => few_any a2 cap2 r 2 (by decide) W (hr.upd0 h)
  have HOF : Hid (∀ W v L, Sl W v (cu64 L) → L.length ≤ 3 → (∀ d ∈ L, d < 18446744073709551616) → Calls Tryd.prog 14 #[v] W (RNat (wval L) W)) := fun W v L h1 h2 h3 => of_any v L W h1 (by omega) h3
  have HRF : Hid (∀ W v L, Sl W v (cu64 L) → L.length ≤ 3 → (∀ d ∈ L, d < 18446744073709551616) → Calls Tryd.prog 15 #[v] W (RDig (wval L) W)) := fun W v L h1 h2 h3 => rof_any v L W h1 h3 (by omega)
  have HBA : Hid (_ ∧ _) := few_bounds p 3 hpw
  have HBB : Hid (_ ∧ _) := few_bounds q 3 hqw
  have HBC : Hid (_ ∧ _) := few_bounds r 2 hrw
  have HPW : Hid (∀ d ∈ p.take 3, d < 18446744073709551616) := fun d hd => hpw d (List.mem_of_mem_take hd)
  have HQW : Hid (∀ d ∈ q.take 3, d < 18446744073709551616) := fun d hd => hqw d (List.mem_of_mem_take hd)
  have HRW : Hid (∀ d ∈ r.take 2, d < 18446744073709551616) := fun d hd => hrw d (List.mem_of_mem_take hd)
  have HPL : Hid ((p.take 3).length ≤ 3) := by show _ ≤ _; rw [List.length_take]; omega
  have HQL : Hid ((q.take 3).length ≤ 3) := by show _ ≤ _; rw [List.length_take]; omega
  have HRL : Hid ((r.take 2).length ≤ 3) := by show _ ≤ _; rw [List.length_take]; omega
  generalize p.take 3 = P at *
  generalize q.take 3 = Q at *
  generalize r.take 2 = R at *
  obtain ⟨lp, hlp⟩ : ∃ l, l = p.length := ⟨_, rfl⟩
  obtain ⟨lq, hlq⟩ : ∃ l, l = q.length := ⟨_, rfl⟩
  obtain ⟨lr, hlr⟩ : ∃ l, l = r.length := ⟨_, rfl⟩
  rw [← hlp] at HP ⊢
  rw [← hlq] at HQ ⊢
  rw [← hlr] at HR ⊢
  clear ht hp hpw hq hqw hr hrw hlp hlq hlr
  go_enter Tryd.func5, Tryd.ntmps5
  go_wp2_with fail
  refine (awake_any _ (HT.out _ (Upd.refl _ _))).mono ?_
  rintro e w1 ⟨rfl, hu1⟩
  have HU1 := Lib.hid hu1
  clear hu1
  go_wp2_with fail
  refine (HP.out _ HU1.out).mono ?_
  rintro e w2 ⟨v2, rfl, hs2, rfl⟩
  have HS2 := Lib.hid hs2
  clear hs2
  go_wp2_with fail
  refine (HQ.out _ HU1.out).mono ?_
  rintro e w3 ⟨v3, rfl, hs3, rfl⟩
  have HS3 := Lib.hid hs3
  clear hs3
  go_wp2_with fail
  refine (HR.out _ HU1.out).mono ?_
  rintro e w4 ⟨v4, rfl, hs4, rfl⟩
  have HS4 := Lib.hid hs4
  clear hs4
  go_wp2_with fail
  -- THE DOCUMENT'S NUMBERS
  refine (HRF.out _ _ _ HS2.out HPL.out HPW.out).mono ?_
  rintro e w5 ⟨v5, rfl, hs5, hu5⟩
  have HD5 := Lib.hid hs5
  have HU5 := Lib.hid hu5
  clear hs5 hu5
  go_wp2_with fail
  refine (HRF.out _ _ _ (HS3.out.upd0 HU5.out) HQL.out HQW.out).mono ?_
  rintro e w6 ⟨v6, rfl, hs6, hu6⟩
  have HD6 := Lib.hid hs6
  have HU6 := Lib.hid (HU5.out.trans0 hu6)
  have HD5' := Lib.hid (HD5.out.upd0 hu6)
  clear hs6 hu6
  go_wp2_with fail
  refine (HRF.out _ _ _ (HS4.out.upd0 HU6.out) HRL.out HRW.out).mono ?_
  rintro e w7 ⟨v7, rfl, hs7, hu7⟩
  have HD7 := Lib.hid hs7
  have HU7 := Lib.hid (HU6.out.trans0 hu7)
  have HD6' := Lib.hid (HD6.out.upd0 hu7)
  have HD5'' := Lib.hid (HD5'.out.upd0 hu7)
  clear hs7 hu7
  go_wp2_with fail
  -- THE NUMBERS
  refine (HOF.out _ _ _ (HS2.out.upd0 HU7.out) HPL.out HPW.out).mono ?_
  rintro e w8 ⟨v8, rfl, hn8, hu8⟩
  have HN8 := Lib.hid hn8
  have HU8 := Lib.hid (HU7.out.trans0 hu8)
  have HV8 := Lib.hid hu8
  clear hn8 hu8
  go_wp2_with fail
  refine (HOF.out _ _ _ (HS4.out.upd0 HU8.out) HRL.out HRW.out).mono ?_
  rintro e w9 ⟨v9, rfl, hn9, hu9⟩
  have HM := Lib.hid (mul_any _ _ _ _ w9 (HN8.out.upd0 hu9) hn9 (by have := HBA.out.1; omega) (by have := HBC.out.1; omega))
  have HU9 := Lib.hid (HU8.out.trans0 hu9)
  have HV9 := Lib.hid (HV8.out.trans0 hu9)
  clear hn9 hu9
  go_wp2_with fail
  refine HM.out.mono ?_
  rintro e w10 ⟨v10, rfl, hn10, hu10⟩
  have HN10 := Lib.hid hn10
  have HU10 := Lib.hid (HU9.out.trans0 hu10)
  have HV10 := Lib.hid (HV9.out.trans0 hu10)
  clear hn10 hu10 HM
  go_wp2_with fail
  refine (HOF.out _ _ _ (HS3.out.upd0 HU10.out) HQL.out HQW.out).mono ?_
  rintro e w11 ⟨v11, rfl, hn11, hu11⟩
  have HN11 := Lib.hid hn11
  have HU11 := Lib.hid (HU10.out.trans0 hu11)
  have HV11 := Lib.hid (HV10.out.trans0 hu11)
  have HW11 := Lib.hid hu11
  clear hn11 hu11
  go_wp2_with fail
  refine (HOF.out _ _ _ (HS4.out.upd0 HU11.out) HRL.out HRW.out).mono ?_
  rintro e w12 ⟨v12, rfl, hn12, hu12⟩
  have HM := Lib.hid (mul_any _ _ _ _ w12 (HN11.out.upd0 hu12) hn12 (by have := HBB.out.1; omega) (by have := HBC.out.1; omega))
  have HU12 := Lib.hid (HU11.out.trans0 hu12)
  have HV12 := Lib.hid (HV11.out.trans0 hu12)
  have HW12 := Lib.hid (HW11.out.trans0 hu12)
  clear hn12 hu12
  go_wp2_with fail
  refine HM.out.mono ?_
  rintro e w13 ⟨v13, rfl, hn13, hu13⟩
  have hn10 := HN10.out.upd0 (HW12.out.trans0 hu13)
  have HV13 := Lib.hid (HV12.out.trans0 hu13)
  have HU13 := Lib.hid (HU1.out.trans0 (HU12.out.trans0 hu13))
  clear hu13 HM
  generalize wval P = A at *
  generalize wval Q = B at *
  generalize wval R = C at *
  have HBAC : Hid (∀ n, n = A * C → (wds n).length ≤ 5) := fun n h => by rw [h]; exact mul_wlen HBA.out.1 HBC.out.1
  have HBBC : Hid (∀ n, n = B * C → (wds n).length ≤ 5) := fun n h => by rw [h]; exact mul_wlen HBB.out.1 HBC.out.1
  obtain ⟨x10, c10, rfl, _, _⟩ := hn10.open
  obtain ⟨x13, c13, rfl, _, _⟩ := hn13.open
  generalize (wds (A * C)).length = l10 at *
  generalize (wds (B * C)).length = l13 at *
  have HNA := Lib.hid hn10
  have HNB := Lib.hid hn13
  obtain ⟨w14, hw14⟩ : ∃ W, W = (w13.alloc (.cells #[.slice x10 l10 c10] 26)).alloc (.cells #[.slice x13 l13 c13] 26) := ⟨_, rfl⟩
  obtain ⟨k13, hk13⟩ : ∃ k, k = w13.heap.size := ⟨_, rfl⟩
  obtain ⟨hu14, hbx14⟩ := two_boxes w13 _ _ _ _ w14 hw14 k13 hk13
  have HBX : Hid (∀ W, Upd [] w14 W → W.cell? ⟨k13, 0, none⟩ = some (.slice x10 l10 c10) ∧ W.cell? ⟨k13 + 1, 0, none⟩ = some (.slice x13 l13 c13)) := hbx14
  have HA14 : Hid (∀ W, Upd [] w14 W → NV W (.agg #[.slice x10 l10 c10]) (A * C)) := fun W h => (HNA.out.upd0 hu14).upd0 h
  have HB14 : Hid (∀ W, Upd [] w14 W → NV W (.agg #[.slice x13 l13 c13]) (B * C)) := fun W h => (HNB.out.upd0 hu14).upd0 h
  have HDA : Hid (∀ W, Upd [] w14 W → Sl W v5 (ci64 (digs A))) := fun W h => ((HD5''.out.upd0 HV13.out).upd0 hu14).upd0 h
  have HDB : Hid (∀ W, Upd [] w14 W → Sl W v6 (ci64 (digs B))) := fun W h => ((HD6'.out.upd0 HV13.out).upd0 hu14).upd0 h
  have HDC : Hid (∀ W, Upd [] w14 W → Sl W v7 (ci64 (digs C))) := fun W h => ((HD7.out.upd0 HV13.out).upd0 hu14).upd0 h
  have HUT : Hid (∀ W, Upd [] w14 W → Upd [] w W) := fun W h => HU13.out.trans0 (hu14.trans0 h)
  have HW14 := Lib.hid hw14
  have HK := Lib.hid hk13
  clear hn10 hn13 hw14 hk13 hu14 hbx14 HNA HNB HD5 HD5' HD5'' HD6 HD6' HD7 HU5 HU6 HU7 HU8 HU9 HU10 HU11 HU12 HU13 HV8 HV9 HV10 HV11 HV12 HV13 HW11 HW12 HN8 HN10 HN11 HS2 HS3 HS4
  go_wp2_with fail
  rw [← HW14.out, ← HK.out]
  refine (gcd_any _ _ _ _ w14 (HA14.out _ (Upd.refl _ _)) (HB14.out _ (Upd.refl _ _)) (by have := HBAC.out _ rfl; omega) (by have := HBBC.out _ rfl; omega)).mono ?_
  rintro e w15 ⟨v15, rfl, hn15, hu15⟩
  rw [Nat.gcd_mul_right] at hn15
  obtain ⟨x15, c15, rfl, _, _⟩ := hn15.open
  obtain ⟨D, hD⟩ : ∃ D, D = Nat.gcd A B := ⟨_, rfl⟩
  have hDl : (wds D).length ≤ 3 := by
    rw [hD, wds_length_le_iff]
    exact gcd_lt ((wds_length_le_iff _ _).1 HBA.out.1) ((wds_length_le_iff _ _).1 HBB.out.1)
  rw [← hD] at hn15 ⊢
  have HGL := Lib.hid (mul_wlen hDl HBC.out.1)
  have HDL := Lib.hid hDl
  have HDE := Lib.hid hD
  obtain ⟨l15, hl15⟩ : ∃ l, l = (wds (D * C)).length := ⟨_, rfl⟩
  rw [← hl15] at hn15 ⊢
  obtain ⟨w16, hw16⟩ : ∃ W, W = w15.alloc (.cells #[.slice x15 l15 c15] 26) := ⟨_, rfl⟩
  obtain ⟨k15, hk15⟩ : ∃ k, k = w15.heap.size := ⟨_, rfl⟩
  have hu16 : Upd [] w15 w16 := by rw [hw16]; exact (Upd.refl _ _).alloc _
  have hbx16 : Box w16 k15 (.slice x15 l15 c15) 26 := by rw [hw16, hk15]; exact Box.new _ _ _
  have HU16 := Lib.hid (hu15.trans0 hu16)
  have HC : Hid (∀ W, Upd [] w16 W → W.cell? ⟨k13, 0, none⟩ = some (.slice x10 l10 c10) ∧ W.cell? ⟨k13 + 1, 0, none⟩ = some (.slice x13 l13 c13) ∧ W.cell? ⟨k15, 0, none⟩ = some (.slice x15 l15 c15) ∧ Upd [] w16 W) := fun W h =>
    ⟨(HBX.out _ (HU16.out.trans0 h)).1, (HBX.out _ (HU16.out.trans0 h)).2, (hbx16.upd h).cell, h⟩
  have hn16 := hn15.upd0 hu16
  have HGD : Hid (∀ W, Upd [] w16 W → Calls Tryd.prog 31 #[v5, v6] W (RDig D W)) := fun W h => by
    have := rgcd_any _ _ A B W (HDA.out _ (HU16.out.trans0 h)) (HDB.out _ (HU16.out.trans0 h)) (by have := HBA.out.2; omega) (by have := HBB.out.2; omega)
    rw [← HDE.out] at this
    exact this
  have HMU : Hid (∀ W v, Upd [] w16 W → Sl W v (ci64 (digs D)) → Calls Tryd.prog 29 #[v, v7] W (RDig (D * C) W)) := fun W v h hv =>
    rmul_any _ _ D C W hv (HDC.out _ (HU16.out.trans0 h)) (by have := digs_wlen ((wds_length_le_iff _ _).1 HDL.out); omega) (by have := HBC.out.2; omega)
  have HIS : Hid (∀ W v, Upd [] w16 W → Sl W v (ci64 (digs (D * C))) → Calls Tryd.prog 19 #[.agg #[.slice x15 l15 c15], v] W fun e w' => e = .returned (.bool true) ∧ Upd [] W w') := fun W v h hv =>
    is_any _ _ (D * C) W (hn16.upd0 h) hv (HT.out _ (HUT.out _ (HU16.out.trans0 h))) (by have := HGL.out; omega) (by have := digs_wlen ((wds_length_le_iff _ _).1 HGL.out); omega)
  have HGG : Hid (∀ W, Upd [] w16 W → Calls Tryd.prog 30 #[.agg #[.slice x13 l13 c13], .agg #[.slice x10 l10 c10]] W (RNat (D * C) W)) := fun W h => by
    have := gcd_any _ _ _ _ W (HB14.out _ (HU16.out.trans0 h)) (HA14.out _ (HU16.out.trans0 h)) (by have := HBBC.out _ rfl; omega) (by have := HBAC.out _ rfl; omega)
    rw [Nat.gcd_mul_right, Nat.gcd_comm, ← HDE.out] at this
    exact this
  have HCE : Hid (∀ W v, Upd [] w16 W → NV W v (D * C) → Calls Tryd.prog 20 #[.agg #[.slice x15 l15 c15], v] W fun e w' => e = .returned (.int .i64 0) ∧ Upd [] W w') := fun W v h hv => by
    have := cmp_any _ _ (D * C) (D * C) W (hn16.upd0 h) hv (by have := HGL.out; omega)
    unfold cmpN at this
    rw [if_neg (Nat.lt_irrefl _), if_pos rfl] at this
    exact this
  have hrf : Upd [] w16 w16 := Upd.refl _ _
  have HW16 := Lib.hid hw16
  have HK15 := Lib.hid hk15
  clear hu15 hu16 hn15 hn16 hbx16 hw16 hk15 hD hDl hl15
  go_wp2_with fail
  rw [← HW16.out, ← HK15.out]
  go_region_held3 (fun W => W.cell? ⟨k13, 0, none⟩ = some (.slice x10 l10 c10) ∧ W.cell? ⟨k13 + 1, 0, none⟩ = some (.slice x13 l13 c13) ∧ W.cell? ⟨k15, 0, none⟩ = some (.slice x15 l15 c15) ∧ Upd [] w16 W)
    (first
      | exact HC.out _ huy
      | exact HC.out _ huy.drew
      | exact HC.out _ hrf.drew
      | exact HC.out _ hrf)
    (first
      | (go_at_call 31; (with_reducible refine (HGD.out _ (by first | exact huy | exact hrf.drew | exact hrf)).mono ?_); rintro e wz ⟨vD, rfl, hsD, hu20⟩; have HSD := Lib.hid hsD; clear hsD; have huz : Upd [] w16 wz := (by first | exact huy.trans0 hu20 | exact hrf.drew.trans0 hu20 | exact hrf.trans0 hu20); (try clear huy); clear hu20; have huy := huz; clear huz)
      | (go_at_call 29; (with_reducible refine (HMU.out _ _ huy HSD.out).mono ?_); rintro e wz ⟨vM, rfl, hsM, hu20⟩; have HSM := Lib.hid hsM; clear hsM; have huz : Upd [] w16 wz := (by first | exact huy.trans0 hu20 | exact hrf.drew.trans0 hu20 | exact hrf.trans0 hu20); (try clear huy); clear hu20; have huy := huz; clear huz)
      | (go_at_call 19; (with_reducible refine (HIS.out _ _ huy HSM.out).mono ?_); rintro e wz ⟨rfl, hu20⟩; have huz : Upd [] w16 wz := (by first | exact huy.trans0 hu20 | exact hrf.drew.trans0 hu20 | exact hrf.trans0 hu20); (try clear huy); clear hu20; have huy := huz; clear huz)
      | (go_at_call 30; (with_reducible refine (HGG.out _ (by first | exact huy | exact hrf.drew | exact hrf)).mono ?_); rintro e wz ⟨vG, rfl, hnG, hu20⟩; have HNG := Lib.hid hnG; clear hnG; have huz : Upd [] w16 wz := (by first | exact huy.trans0 hu20 | exact hrf.drew.trans0 hu20 | exact hrf.trans0 hu20); (try clear huy); clear hu20; have huy := huz; clear huz)
      | (go_at_call 20; (with_reducible refine (HCE.out _ _ huy HNG.out).mono ?_); rintro e wz ⟨rfl, hu20⟩; have huz : Upd [] w16 wz := (by first | exact huy.trans0 hu20 | exact hrf.drew.trans0 hu20 | exact hrf.trans0 hu20); (try clear huy); clear hu20; have huy := huz; clear huz))
  all_goals
    go_wp2
    go_ret
    exact ⟨rfl, HUT.out _ (HU16.out.trans0 huy)⟩
end Go.Proofs.YtcehkflkekefpaaDoor
