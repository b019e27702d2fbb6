/- Whole numbers (layer 6): DivMod of numbers below 0; whole. -/
import Derived.Test.YtoklmfmoblkfcaaDoorWholeD
namespace Go.Proofs.YtoklmfmoblkfcaaDoor
open Go.RowKit Go.Proofs.Tm
set_option linter.unusedVariables false
set_option linter.unusedSimpArgs false
set_option maxRecDepth 20000

set_option maxHeartbeats 3200000 in
theorem wdm_odd (u v : Value) (x y : Int) (w : World) (hu : WV w u x) (hv : WV w v y) (hlx : (wds x.natAbs).length ≤ 1073741824) (hly : (wds y.natAbs).length ≤ 1073741824) (hy0 : y ≠ 0) (hx0 : x < 0) (hm0 : x.natAbs % y.natAbs ≠ 0) :
    Calls Tryd.prog 20 #[u, v] w (RWhole2E (x / y) (x % y) 0 w) := by
  obtain ⟨a0, l0, c0, rfl, hn0⟩ := hu.open
  obtain ⟨a1, l1, c1, rfl, hn1⟩ := hv.open
  have hny : 0 < y.natAbs := by omega
  have HD : Hid (∀ W, Upd [] w W → Calls Tryd.prog 37 #[.agg #[.slice a0 l0 c0], .agg #[.slice a1 l1 c1]] W (RNat2E (x.natAbs / y.natAbs) (x.natAbs % y.natAbs) 0 W)) := fun W h => divmod_any _ _ _ _ W (hn0.upd0 h) (hn1.upd0 h) hny hlx
  obtain ⟨e1, e2⟩ := ediv_neg x y hy0 hx0 hm0
  have HMQ : Hid (∀ W s, NV W s (x.natAbs / y.natAbs + 1) → Calls Tryd.prog 31 #[.bool (true != decide (y < 0)), s] W (RWhole (x / y) W)) := fun W s hs => by
    have := wmake_any (true != decide (y < 0)) _ _ W hs
    rw [e1] at this
    exact this
  have HMR : Hid (∀ W s, NV W s (y.natAbs - x.natAbs % y.natAbs) → Calls Tryd.prog 31 #[.bool false, s] W (RWhole (x % y) W)) := fun W s hs => by
    have := wmake_any false _ _ W hs
    rw [if_neg (by decide), e2] at this
    exact this
  have hlo : (wds (x.natAbs / y.natAbs)).length ≤ 1073741824 := Nat.le_trans (wds_length_le (Nat.div_le_self _ _)) hlx
  have hmy : x.natAbs % y.natAbs ≤ y.natAbs := Nat.le_of_lt (Nat.mod_lt _ hny)
  have HAD : Hid (∀ W s t, NV W s (x.natAbs / y.natAbs) → NV W t 1 → Calls Tryd.prog 41 #[s, t] W (RNat (x.natAbs / y.natAbs + 1) W)) := fun W s t hs ht => add_any _ _ _ _ W hs ht (by omega) (Nat.le_trans (nv_len 1 (by decide)) (by decide))
  have HSB : Hid (∀ W s, Upd [] w W → NV W s (x.natAbs % y.natAbs) → Calls Tryd.prog 42 #[.agg #[.slice a1 l1 c1], s] W (RNatE (y.natAbs - x.natAbs % y.natAbs) 0 W)) := fun W s h hs => sub_any _ _ _ _ W (hn1.upd0 h) hs (by omega) hmy
  have HZE : Hid (∀ W s, NV W s (x.natAbs % y.natAbs) → Calls Tryd.prog 36 #[s] W (fun e w' => e = .returned (.bool (decide (x.natAbs % y.natAbs = 0))) ∧ Upd [] W w')) := fun W s hs => zero_any _ _ W hs
  rw [decide_eq_false hm0] at HZE
  have hx : decide (x < 0) = true := by simpa using hx0
  rw [Bool.true_bne] at HMQ
  rw [hx]
  generalize decide (y < 0) = b1 at *
  clear hu hv hn0 hn1 hlx hly hy0 e1 e2 hny hx0 hx hm0 hlo hmy
  generalize x.natAbs / y.natAbs = o at *
  generalize x.natAbs % y.natAbs = r at *
  obtain ⟨w0, hw0⟩ : ∃ W, W = ((((w.alloc (.cells #[.bool true, .slice a0 l0 c0] 29)).alloc (.cells #[.bool b1, .slice a1 l1 c1] 29)).alloc (.cells #[.bool false, .slice none 0 0] 29)).alloc (.cells #[.bool false, .slice none 0 0] 29)) := ⟨_, rfl⟩
  obtain ⟨S, hS⟩ : ∃ s, s = w.heap.size := ⟨_, rfl⟩
  obtain ⟨hu0, r0, r1, r2, r3, hz0⟩ := rows4 w #[.bool true, .slice a0 l0 c0] #[.bool b1, .slice a1 l1 c1] #[.bool false, .slice none 0 0] #[.bool false, .slice none 0 0] 29 29 29 29 w0 hw0 S hS
  have HU0 := Lib.hid hu0
  have HW0 := Lib.hid hw0
  have HS := Lib.hid hS
  have HZ0 := Lib.hid hz0
  have HR0 := Lib.hid r0
  have HR1 := Lib.hid r1
  have HR2 := Lib.hid r2
  have HR3 := Lib.hid r3
  have hp0 := r0.cell 0
  have hp1 := r0.cell 1
  have hp2 := r1.cell 0
  have hp3 := r1.cell 1
  clear hw0 hS hu0 r0 r1 r2 r3 hz0
  go_enter Tryd.func20, Tryd.ntmps20
  go_wp2_with fail
  rw [← HW0.out]
  rw [← HS.out]
  refine (HD.out _ HU0.out).mono ?_
  rintro e w1 ⟨v1, v2, rfl, hn5, hn6, hu1⟩
  obtain ⟨a5, l5, c5, rfl, hn5'⟩ := nvOpen hn5
  obtain ⟨a6, l6, c6, rfl, hn6'⟩ := nvOpen hn6
  obtain ⟨w2, hw2⟩ : ∃ W, W = (w1.alloc (.cells #[.slice a5 l5 c5] 27)).alloc (.cells #[.slice a6 l6 c6] 27) := ⟨_, rfl⟩
  obtain ⟨K, hK⟩ : ∃ s, s = w1.heap.size := ⟨_, rfl⟩
  obtain ⟨hu2, r7, r8, hz2⟩ := rows2 w1 #[.slice a5 l5 c5] #[.slice a6 l6 c6] 27 27 w2 hw2 K hK
  have HV2 := Lib.hid (hu1.trans0 hu2)
  have HN5 := Lib.hid (hn5'.upd0 hu2)
  have HN6 := Lib.hid (hn6'.upd0 hu2)
  have HR7 := Lib.hid r7
  have HR8 := Lib.hid r8
  have HZ2 := Lib.hid hz2
  have HKS := Lib.hid (show S + 1 + 1 + 1 + 1 ≤ K by have h1 := HZ0.out; have h2 := hu1.size; omega)
  have hc0 := (HR0.out.upd0 HV2.out).cell 0
  have hc1 := (HR0.out.upd0 HV2.out).cell 1
  have hc2 := (HR1.out.upd0 HV2.out).cell 0
  have hc3 := (HR1.out.upd0 HV2.out).cell 1
  have hc7 := r7.cell 0
  have hc8 := r8.cell 0
  rw [hw2] at hc0
  rw [hw2] at hc1
  rw [hw2] at hc2
  rw [hw2] at hc3
  rw [hw2] at hc7
  rw [hw2] at hc8
  have HW2 := Lib.hid hw2
  have HK := Lib.hid hK
  clear hn5 hn6 hn5' hn6' hu1 hu2 r7 r8 hz2 hw2 hK hp0 hp1 hp2 hp3
  go_wp2_with fail
  rw [← HW2.out, ← HK.out]
  rw [← HW2.out] at hc0 hc1 hc2 hc3 hc7 hc8
  refine (HZE.out _ _ HN6.out).mono ?_
  rintro e w3 ⟨rfl, hu3⟩
  have HV3 := Lib.hid (HV2.out.trans0 hu3)
  have HN53 := Lib.hid (HN5.out.upd0 hu3)
  have HN63 := Lib.hid (HN6.out.upd0 hu3)
  have HR73 := Lib.hid (HR7.out.upd0 hu3)
  have HR83 := Lib.hid (HR8.out.upd0 hu3)
  clear hc0 hc1 hc2 hc3 hc7 hc8 hu3
  have hrf : Upd [] w3 w3 := Upd.refl _ _
  have hcA : ∀ W, Upd [] w3 W → W.cell? ⟨K, 0, none⟩ = some (.slice a5 l5 c5) ∧ W.frozen? ⟨K, 0, none⟩ = false := fun W h => ⟨(HR73.out.upd0 h).cell 0, (HR73.out.upd0 h).frozen 0⟩
  have kk0 := HR73.out.cell 0
  have lk3 := HR73.out.lt
  have mk3 : ¬ K = w3.heap.size := by omega
  go_wp2_with fail
  go_region_with
    (first
      | (go_at_call 29; refine (ofw 1 1 rfl (by decide) _ _ (sl_cell (by go_simp))).mono ?_; rintro e wz ⟨v4, rfl, hn4, hu20⟩; have HN4 := Lib.hid hn4; clear hn4; have huy : Upd [] w3 wz := Upd.trans0 (by repeat (first | exact huy | exact hrf | apply Upd.drew | apply Upd.alloc)) hu20; clear hu20; obtain ⟨x0, x1⟩ := hcA _ huy; have lkz := World.block_lt_of_cell? wz _ x0; (try dsimp only at lkz); have mkz : ¬ K = wz.heap.size := by omega)
      | (go_at_call 41; (with_reducible refine (HAD.out _ _ _ (HN53.out.upd0 (by repeat (first | exact huy | exact hrf | apply Upd.drew | apply Upd.alloc))) HN4.out).mono ?_); rintro e wz ⟨vA, rfl, hnA, hu20⟩;  obtain ⟨a9, l9, c9, rfl, hnAo⟩ := nvOpen hnA; have HN9 := Lib.hid hnAo; clear hnA hnAo; have huz : Upd [] w3 wz := Upd.trans0 (by repeat (first | exact huy | exact hrf | apply Upd.drew | apply Upd.alloc)) hu20; (try clear huy); clear hu20; have huy := huz; clear huz; obtain ⟨x0, x1⟩ := hcA _ huy))
  all_goals
    obtain ⟨w5, hw5⟩ : ∃ W, W = wz.setCell ⟨K, 0, none⟩ (.slice a9 l9 c9) := ⟨_, rfl⟩
    have hK7 := HR73.out.upd0 huy
    have h1 := HKS.out
    have hr7 : Row w5 K #[.slice a9 l9 c9] 27 := by rw [hw5]; exact hK7.set 0 _
    have hr8 : Row w5 (K + 1) #[.slice a6 l6 c6] 27 := by rw [hw5]; exact (HR83.out.upd0 huy).other _ _ (by show K ≠ K + 1; omega)
    have hr0 : Row w5 S #[.bool true, .slice a0 l0 c0] 29 := by rw [hw5]; exact (HR0.out.upd0 (HV3.out.trans0 huy)).other _ _ (by show K ≠ S; omega)
    have hr1 : Row w5 (S + 1) #[.bool b1, .slice a1 l1 c1] 29 := by rw [hw5]; exact (HR1.out.upd0 (HV3.out.trans0 huy)).other _ _ (by show K ≠ S + 1; omega)
    have hr2 : Row w5 (S + 1 + 1) #[.bool false, .slice none 0 0] 29 := by rw [hw5]; exact (HR2.out.upd0 (HV3.out.trans0 huy)).other _ _ (by show K ≠ S + 1 + 1; omega)
    have hr3 : Row w5 (S + 1 + 1 + 1) #[.bool false, .slice none 0 0] 29 := by rw [hw5]; exact (HR3.out.upd0 (HV3.out.trans0 huy)).other _ _ (by show K ≠ S + 1 + 1 + 1; omega)
    have hu5 : Upd [] w0 w5 := by rw [hw5]; exact (HV3.out.trans0 huy).setCell (.inr (by have h2 := HZ0.out; show _ ≤ K; omega)) _
    have HN7 := Lib.hid (show NV w5 (.agg #[.slice a9 l9 c9]) (o + 1) from by rw [hw5]; exact HN9.out.putr hK7 nw1 _ _)
    have HN8 := Lib.hid (show NV w5 (.agg #[.slice a6 l6 c6]) r from by rw [hw5]; exact (HN63.out.upd0 huy).putr hK7 nw1 _ _)
    have HR75 := Lib.hid hr7
    have HR85 := Lib.hid hr8
    have HR05 := Lib.hid hr0
    have HR15 := Lib.hid hr1
    have HR25 := Lib.hid hr2
    have HR35 := Lib.hid hr3
    have HV5 := Lib.hid hu5
    have HW5 := Lib.hid hw5
    have t1 := hr1.cell 1
    have t2 := hr8.cell 0
    rw [hw5] at t1 t2
    clear hw5 hK7 h1 hr7 hr8 hr0 hr1 hr2 hr3 hu5 huy x0 x1 kk0 hcA lk3 mk3 lkz mkz
    go_wp2_with fail
    rw [← HW5.out]
    rw [← HW5.out] at t1 t2
    refine (HSB.out _ _ (HU0.out.trans0 HV5.out) HN8.out).mono ?_
    rintro e w6 ⟨v6, rfl, hn6, hu6⟩
    obtain ⟨aB, lB, cB, rfl, hnB⟩ := nvOpen hn6
    obtain ⟨w7, hw7⟩ : ∃ W, W = w6.setCell ⟨K + 1, 0, none⟩ (.slice aB lB cB) := ⟨_, rfl⟩
    have h1 := HKS.out
    have hK8 := HR85.out.upd0 hu6
    have gB0 := hK8.cell 0
    have gB1 := hK8.frozen 0
    have HRA := Lib.hid (show Row w7 K #[.slice a9 l9 c9] 27 from by rw [hw7]; exact (HR75.out.upd0 hu6).other _ _ (by show K + 1 ≠ K; omega))
    have HRB := Lib.hid (show Row w7 (K + 1) #[.slice aB lB cB] 27 from by rw [hw7]; exact hK8.set 0 _)
    have HR0' := Lib.hid (show Row w7 S #[.bool true, .slice a0 l0 c0] 29 from by rw [hw7]; exact (HR05.out.upd0 hu6).other _ _ (by show K + 1 ≠ S; omega))
    have HR1' := Lib.hid (show Row w7 (S + 1) #[.bool b1, .slice a1 l1 c1] 29 from by rw [hw7]; exact (HR15.out.upd0 hu6).other _ _ (by show K + 1 ≠ S + 1; omega))
    have HR2' := Lib.hid (show Row w7 (S + 1 + 1) #[.bool false, .slice none 0 0] 29 from by rw [hw7]; exact (HR25.out.upd0 hu6).other _ _ (by show K + 1 ≠ S + 1 + 1; omega))
    have HR3' := Lib.hid (show Row w7 (S + 1 + 1 + 1) #[.bool false, .slice none 0 0] 29 from by rw [hw7]; exact (HR35.out.upd0 hu6).other _ _ (by show K + 1 ≠ S + 1 + 1 + 1; omega))
    have HV7 := Lib.hid (show Upd [] w0 w7 from by rw [hw7]; exact (HV5.out.trans0 hu6).setCell (.inr (by have h2 := HZ0.out; show _ ≤ K + 1; omega)) _)
    have HNQ := Lib.hid (show NV w7 (.agg #[.slice a9 l9 c9]) (o + 1) from by rw [hw7]; exact (HN7.out.upd0 hu6).putr hK8 nw1 _ _)
    have HNR := Lib.hid (show NV w7 (.agg #[.slice aB lB cB]) (y.natAbs - r) from by rw [hw7]; exact hnB.putr hK8 nw1 _ _)
    have HW7 := Lib.hid hw7
    have s0 := HR0'.out.cell 0
    have s1 := HR1'.out.cell 0
    have s2 := HRA.out.cell 0
    have s3 := HRB.out.cell 0
    rw [hw7] at s0 s1 s2 s3
    clear hw7 h1 hK8 hu6 hn6 hnB t1 t2
    go_wp2_with fail
    rw [← HW7.out]
    clear s0 s1 s2 s3 gB0 gB1 hrf
    have hrf : Upd [] w7 w7 := Upd.refl _ _
    have hk1 := HKS.out
    have HC : Hid (∀ W, Upd [S + 1 + 1, S + 1 + 1 + 1] w7 W → W.cell? ⟨S, 0, none⟩ = some (.bool true) ∧ W.cell? ⟨S, 1, none⟩ = some (.slice a0 l0 c0) ∧ W.cell? ⟨S + 1, 0, none⟩ = some (.bool b1) ∧ W.cell? ⟨S + 1, 1, none⟩ = some (.slice a1 l1 c1) ∧ W.cell? ⟨K, 0, none⟩ = some (.slice a9 l9 c9) ∧ W.cell? ⟨K + 1, 0, none⟩ = some (.slice aB lB cB) ∧ Upd [S + 1 + 1, S + 1 + 1 + 1] w7 W) := fun W h =>
      ⟨(HR0'.out.upd h (by simp <;> omega)).cell 0, (HR0'.out.upd h (by simp <;> omega)).cell 1, (HR1'.out.upd h (by simp <;> omega)).cell 0, (HR1'.out.upd h (by simp <;> omega)).cell 1, (HRA.out.upd h (by simp <;> omega)).cell 0, (HRB.out.upd h (by simp <;> omega)).cell 0, h⟩
    have HRQ := Lib.hid HR2'.out
    have HRR := Lib.hid HR3'.out
    have hcA : ∀ W, Upd [] w7 W → W.cell? ⟨S + 1 + 1, 0, none⟩ = some (.bool false) ∧ W.cell? ⟨S + 1 + 1, 1, none⟩ = some (.slice none 0 0) ∧ W.frozen? ⟨S + 1 + 1, 0, none⟩ = false ∧ W.frozen? ⟨S + 1 + 1, 1, none⟩ = false := fun W h => ⟨(HRQ.out.upd0 h).cell 0, (HRQ.out.upd0 h).cell 1, (HRQ.out.upd0 h).frozen 0, (HRQ.out.upd0 h).frozen 1⟩
    have hcB : ∀ W, Upd [] w7 W → W.cell? ⟨S + 1 + 1 + 1, 0, none⟩ = some (.bool false) ∧ W.cell? ⟨S + 1 + 1 + 1, 1, none⟩ = some (.slice none 0 0) ∧ W.frozen? ⟨S + 1 + 1 + 1, 0, none⟩ = false ∧ W.frozen? ⟨S + 1 + 1 + 1, 1, none⟩ = false := fun W h => ⟨(HRR.out.upd0 h).cell 0, (HRR.out.upd0 h).cell 1, (HRR.out.upd0 h).frozen 0, (HRR.out.upd0 h).frozen 1⟩
    have hS1 : S + 1 + 1 ≠ S + 1 + 1 + 1 := by omega
    have hS2 : S + 1 + 1 + 1 ≠ S + 1 + 1 := by omega
    clear hk1
    go_region_held3 (fun W => W.cell? ⟨S, 0, none⟩ = some (.bool true) ∧ W.cell? ⟨S, 1, none⟩ = some (.slice a0 l0 c0) ∧ W.cell? ⟨S + 1, 0, none⟩ = some (.bool b1) ∧ W.cell? ⟨S + 1, 1, none⟩ = some (.slice a1 l1 c1) ∧ W.cell? ⟨K, 0, none⟩ = some (.slice a9 l9 c9) ∧ W.cell? ⟨K + 1, 0, none⟩ = some (.slice aB lB cB) ∧ Upd [S + 1 + 1, S + 1 + 1 + 1] w7 W)
      ((refine HC.out _ ?_; repeat (first | (with_reducible refine Upd.setCell ?_ (.inl (by simp)) _) | (with_reducible exact huy.mono (by simp)) | (with_reducible exact hrf.mono (by simp)) | (with_reducible apply Upd.drew) | (with_reducible apply Upd.alloc))))
      (first
        | (go_at_call 31; (with_reducible refine (HMQ.out _ _ (HNQ.out.upd0 (by repeat (first | exact huy | exact hrf | apply Upd.drew | apply Upd.alloc)))).mono ?_); rintro e wz ⟨vq, rfl, hvq, hu20⟩;  obtain ⟨aq, lq, cq, rfl, _⟩ := hvq.open; have HVQ := Lib.hid hvq; clear hvq; have huz : Upd [] w7 wz := Upd.trans0 (by repeat (first | exact huy | exact hrf | apply Upd.drew | apply Upd.alloc)) hu20; (try clear huy); clear hu20; have huy := huz; clear huz)
        | (go_at_call 31; (with_reducible refine (HMR.out _ _ (HNR.out.upd0 (by repeat (first | exact huy | exact hrf | apply Upd.drew | apply Upd.alloc)))).mono ?_); rintro e wz ⟨vr, rfl, hvr, hu20⟩; have HVQ := Lib.hid (HVQ.out.upd0 (by first | exact hu20 | exact Upd.al hu20)); obtain ⟨ar, lr, cr, rfl, _⟩ := hvr.open; have HVR := Lib.hid hvr; clear hvr; have huz : Upd [] w7 wz := Upd.trans0 (by repeat (first | exact huy | exact hrf | apply Upd.drew | apply Upd.alloc)) hu20; (try clear huy); clear hu20; have huy := huz; clear huz; obtain ⟨x0, x1, x2, x3⟩ := hcA _ huy; obtain ⟨y0, y1, y2, y3⟩ := hcB _ huy))
    all_goals
      have HP := Lib.hid (put2W hS1 (by have := HS.out; omega) (by have := HS.out; omega) (HRQ.out.upd0 huy) (HRR.out.upd0 huy) (HU0.out.trans0 (HV7.out.trans0 huy)) HVQ.out HVR.out)
      have HP2 := Lib.hid (put2W hS2 (by have := HS.out; omega) (by have := HS.out; omega) (HRR.out.upd0 huy) (HRQ.out.upd0 huy) (HU0.out.trans0 (HV7.out.trans0 huy)) HVR.out HVQ.out)
      clear hcA hcB huy
      generalize decide (x / y < 0) = p7 at *
      generalize decide (x % y < 0) = p8 at *
      first
        | (have z0 := HP.out.ri.cell 0
           have z1 := HP.out.ri.cell 1
           have z2 := HP.out.rj.cell 0
           have z3 := HP.out.rj.cell 1
           go_wp2
           refine bodyPost_ret (v := .tuple #[.agg #[.bool p7, .slice aq lq cq], .agg #[.bool p8, .slice ar lr cr], .int .i64 0]) (by simp [results, Tryd.results20, go_sem, z0, z1, z2, z3]) rfl ?_
           exact ⟨_, _, rfl, HP.out.vi, HP.out.vj, HP.out.u⟩)
        | (have z0 := HP2.out.ri.cell 0
           have z1 := HP2.out.ri.cell 1
           have z2 := HP2.out.rj.cell 0
           have z3 := HP2.out.rj.cell 1
           go_wp2
           refine bodyPost_ret (v := .tuple #[.agg #[.bool p7, .slice aq lq cq], .agg #[.bool p8, .slice ar lr cr], .int .i64 0]) (by simp [results, Tryd.results20, go_sem, z0, z1, z2, z3]) rfl ?_
           exact ⟨_, _, rfl, HP2.out.vj, HP2.out.vi, HP2.out.u⟩)

end Go.Proofs.YtoklmfmoblkfcaaDoor
