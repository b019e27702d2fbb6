/- Fractions (layer 7): Div. -/
import Derived.Test.YtoklmfmoblkfcaaGreatDoorRatM
namespace Go.Proofs.YtoklmfmoblkfcaaGreatDoor
open Go.RowKit Go.Proofs.Tm
set_option linter.unusedVariables false
set_option linter.unusedSimpArgs false
set_option maxRecDepth 20000

set_option maxHeartbeats 1600000 in
theorem rdivq_any (u v : Value) (x y : Rat) (w : World) (hu : RV w u x) (hv : RV w v y) (hx : QL x 67108864) (hy : QL y 67108864) (hy0 : y ≠ 0) :
    Calls Tryz.prog 42 #[u, v] w (RRatE (x / y) 0 w) := by
  obtain ⟨a0, l0, c0, d0, m0, e0, rfl, hw0', hd0'⟩ := hu.open
  obtain ⟨a1, l1, c1, d1, m1, e1, rfl, hw1', hd1'⟩ := hv.open
  have hyn : y.num ≠ 0 := fun e => hy0 (Rat.num_eq_zero.1 e)
  obtain ⟨i1, i2⟩ := inv_num y hyn
  have hql := ql_inv hy hy0
  obtain ⟨yi, hyi⟩ : ∃ r : Rat, r = y⁻¹ := ⟨_, rfl⟩
  have hdv : x / y = x * yi := by rw [hyi, Rat.div_def]
  rw [← hyi] at i1 i2 hql
  have HAY : Hid (∀ W, Upd [] w W → Calls Tryz.prog 19 #[.agg #[.bool (decide (y.num < 0)), .slice a1 l1 c1]] W (RNat y.num.natAbs W)) := fun W h => wabs_any _ _ W (hw1'.upd0 h)
  have HNY : Hid (∀ W, Upd [] w W → Calls Tryz.prog 17 #[.agg #[.bool (decide (y.num < 0)), .slice a1 l1 c1]] W (fun e w' => e = .returned (.bool (decide (y.num < 0))) ∧ Upd [] W w')) := fun W h => wneg_any _ _ W (hw1'.upd0 h)
  have HDY : Hid (∀ W, Upd [] w W → Calls Tryz.prog 36 #[.agg #[.bool (decide (y.num < 0)), .slice a1 l1 c1, .slice d1 m1 e1]] W (RNat y.den W)) := fun W h => den_any _ y W (hv.upd0 h)
  have HZE : Hid (∀ W s, NV W s y.num.natAbs → Calls Tryz.prog 56 #[s] W (fun e w' => e = .returned (.bool false) ∧ Upd [] W w')) := fun W s hs => by
    have := zero_any _ _ W hs
    rwa [decide_eq_false (by omega)] at this
  have HMK : Hid (∀ W s, NV W s y.den → Calls Tryz.prog 35 #[.bool (decide (y.num < 0)), s] W (RWhole yi.num W)) := fun W s hs => by
    have := wmake_any (decide (y.num < 0)) _ _ W hs
    simp only [decide_eq_true_eq] at this
    rw [← i1] at this
    exact this
  have HFIT : Hid (∀ W s t, WV W s yi.num → NV W t y.num.natAbs → Calls Tryz.prog 83 #[s, t] W (RRat yi W)) := fun W s t hs ht => by
    rw [← i2] at ht
    have := fit_q _ _ _ _ W hs ht yi.den_nz yi.reduced (by have := hql.2; omega)
    rw [Rat.mkRat_self] at this
    exact this
  have HMU : Hid (∀ W s, Upd [] w W → RV W s yi → Calls Tryz.prog 46 #[.agg #[.bool (decide (x.num < 0)), .slice a0 l0 c0, .slice d0 m0 e0], s] W (RRat (x / y) W)) := fun W s h hs => by rw [hdv]; exact rmulq_any _ _ _ _ W (hu.upd0 h) hs hx hql
  generalize decide (x.num < 0) = b0 at *
  generalize decide (y.num < 0) = b1 at *
  clear hu hv hx hy hw0' hd0' hw1' hd1' hql hyn i1 i2 hy0 hdv hyi
  obtain ⟨w0, hw0⟩ : ∃ W, W = (((w.alloc (.cells #[.bool b0, .slice a0 l0 c0, .slice d0 m0 e0] 53)).alloc (.cells #[.bool b1, .slice a1 l1 c1, .slice d1 m1 e1] 53)).alloc (.cells #[.bool false, .slice none 0 0, .slice none 0 0] 53)) := ⟨_, rfl⟩
  obtain ⟨S, hS⟩ : ∃ s, s = w.heap.size := ⟨_, rfl⟩
  obtain ⟨hu0, r0, r1, r2, hz0⟩ := rows3 w #[.bool b0, .slice a0 l0 c0, .slice d0 m0 e0] #[.bool b1, .slice a1 l1 c1, .slice d1 m1 e1] #[.bool false, .slice none 0 0, .slice none 0 0] 53 53 53 w0 hw0 S hS
  have HU0 := Lib.hid hu0
  have HW0 := Lib.hid hw0
  have HS := Lib.hid hS
  have HZ0 := Lib.hid hz0
  have HR0 := Lib.hid r0
  have HR1 := Lib.hid r1
  have HR2 := Lib.hid r2
  have hp0 := r1.cell 0
  have hp1 := r1.cell 1
  clear hw0 hS hu0 r0 r1 r2 hz0
  go_enter Tryz.func42, Tryz.ntmps42
  go_wp2_with fail
  rw [← HW0.out]
  rw [← HS.out]
  refine (HAY.out _ HU0.out).mono ?_
  rintro e w1 ⟨v1, rfl, hn1, hu1⟩
  have HV1 := Lib.hid hu1
  have HN1 := Lib.hid hn1
  clear hu1 hn1 hp0 hp1
  go_wp2_with fail
  refine (HZE.out _ _ HN1.out).mono ?_
  rintro e w2 ⟨rfl, hu2⟩
  have HVw2 := Lib.hid (HV1.out.trans0 hu2)
  clear hu2 HN1 HV1
  have hz0 := HZ0.out
  go_wp2_with fail
  have hrf : Upd [] w2 w2 := Upd.refl _ _
  have HC : Hid (∀ W, Upd [] w2 W → W.cell? ⟨S + 1, 0, none⟩ = some (.bool b1) ∧ W.cell? ⟨S + 1, 1, none⟩ = some (.slice a1 l1 c1) ∧ W.cell? ⟨S + 1, 2, none⟩ = some (.slice d1 m1 e1) ∧ Upd [] w2 W) := fun W h =>
    ⟨((HR1.out.upd0 HVw2.out).upd h (by simp <;> omega)).cell 0, ((HR1.out.upd0 HVw2.out).upd h (by simp <;> omega)).cell 1, ((HR1.out.upd0 HVw2.out).upd h (by simp <;> omega)).cell 2, h⟩
  go_cut [6] (fun v6 wx => ∃ (kQ : Nat) (bQ : Bool) (sQ : Option Addr) (lQ cQ : Nat) (sP : Option Addr) (lP cP : Nat), v6 = .pointer (some ⟨kQ, 0, none⟩) ∧ Hid (NewR w2 (yi) wx kQ bQ sQ lQ cQ sP lP cP))
  case first =>
    go_region_held3 (fun W => W.cell? ⟨S + 1, 0, none⟩ = some (.bool b1) ∧ W.cell? ⟨S + 1, 1, none⟩ = some (.slice a1 l1 c1) ∧ W.cell? ⟨S + 1, 2, none⟩ = some (.slice d1 m1 e1) ∧ Upd [] w2 W)
      ((refine HC.out _ ?_; repeat (first | (with_reducible refine Upd.setCell ?_ (.inr hrk.lo) _) | (with_reducible refine Upd.setCell ?_ (.inr huy.size) _) | (with_reducible exact huy) | (with_reducible exact hrf) | (with_reducible apply Upd.drew) | (with_reducible apply Upd.alloc))))
      (first
        | (go_at_call 17; (with_reducible refine (HNY.out _ (HU0.out.trans0 (HVw2.out.trans0 (by repeat (first | exact huy | exact hrf | apply Upd.drew | apply Upd.alloc))))).mono ?_); rintro e wz ⟨rfl, hu20⟩;   have huz : Upd [] w2 wz := Upd.trans0 (by repeat (first | exact huy | exact hrf | apply Upd.drew | apply Upd.alloc)) hu20; (try have hrk := NewRow.upd hrk hu20); (try have hrk := NewRow.of (by first | exact huy | exact hrf.drew | exact hrf) hu20); (try have hrk := NewRow.of0 hrf hu20); (try clear huy); clear hu20; have huy := huz; clear huz)
        | (go_at_call 36; (with_reducible refine (HDY.out _ (HU0.out.trans0 (HVw2.out.trans0 (by repeat (first | exact huy | exact hrf | apply Upd.drew | apply Upd.alloc))))).mono ?_); rintro e wz ⟨vA, rfl, hnA, hu20⟩;  have HNA := Lib.hid hnA; clear hnA; have huz : Upd [] w2 wz := Upd.trans0 (by repeat (first | exact huy | exact hrf | apply Upd.drew | apply Upd.alloc)) hu20; (try have hrk := NewRow.upd hrk hu20); (try have hrk := NewRow.of (by first | exact huy | exact hrf.drew | exact hrf) hu20); (try have hrk := NewRow.of0 hrf hu20); (try clear huy); clear hu20; have huy := huz; clear huz)
        | (go_at_call 35; (with_reducible refine (HMK.out _ _ (by first | exact HNA.out | exact HNA.out.upd0 ((Upd.refl _ _).alloc _))).mono ?_); rintro e wz ⟨vB, rfl, hvB, hu20⟩; have HNA := Lib.hid (HNA.out.upd0 (by first | exact hu20 | exact Upd.al hu20)); have HVB := Lib.hid hvB; clear hvB; have huz : Upd [] w2 wz := Upd.trans0 (by repeat (first | exact huy | exact hrf | apply Upd.drew | apply Upd.alloc)) hu20; (try have hrk := NewRow.upd hrk hu20); (try have hrk := NewRow.of (by first | exact huy | exact hrf.drew | exact hrf) hu20); (try have hrk := NewRow.of0 hrf hu20); (try clear huy); clear hu20; have huy := huz; clear huz)
        | (go_at_call 19; (with_reducible refine (HAY.out _ (HU0.out.trans0 (HVw2.out.trans0 (by repeat (first | exact huy | exact hrf | apply Upd.drew | apply Upd.alloc))))).mono ?_); rintro e wz ⟨vC, rfl, hnC, hu20⟩; have HNA := Lib.hid (HNA.out.upd0 (by first | exact hu20 | exact Upd.al hu20)); have HVB := Lib.hid (HVB.out.upd0 (by first | exact hu20 | exact Upd.al hu20)); have HNC := Lib.hid hnC; clear hnC; have huz : Upd [] w2 wz := Upd.trans0 (by repeat (first | exact huy | exact hrf | apply Upd.drew | apply Upd.alloc)) hu20; (try have hrk := NewRow.upd hrk hu20); (try have hrk := NewRow.of (by first | exact huy | exact hrf.drew | exact hrf) hu20); (try have hrk := NewRow.of0 hrf hu20); (try clear huy); clear hu20; have huy := huz; clear huz)
        | (go_at_call 83; (with_reducible refine (HFIT.out _ _ _ (by first | exact HVB.out | exact HVB.out.upd0 ((Upd.refl _ _).alloc _)) (by first | exact HNC.out | exact HNC.out.upd0 ((Upd.refl _ _).alloc _))).mono ?_); rintro e wz ⟨vG, rfl, hGv, hu20⟩; have HNA := Lib.hid (HNA.out.upd0 (by first | exact hu20 | exact Upd.al hu20)); have HVB := Lib.hid (HVB.out.upd0 (by first | exact hu20 | exact Upd.al hu20)); have HNC := Lib.hid (HNC.out.upd0 (by first | exact hu20 | exact Upd.al hu20)); obtain ⟨aG, lG, cG, dG, mG, eG, rfl, _, _⟩ := hGv.open; have HG := Lib.hid hGv; clear hGv; have huz : Upd [] w2 wz := Upd.trans0 (by repeat (first | exact huy | exact hrf | apply Upd.drew | apply Upd.alloc)) hu20; (try have hrk := NewRow.upd hrk hu20); (try have hrk := NewRow.of (by first | exact huy | exact hrf.drew | exact hrf) hu20); (try have hrk := NewRow.of0 hrf hu20); (try clear huy); clear hu20; have huy := huz; clear huz; (try have y0 := hrk.row.cell 0); (try have g0 := hrk.row.frozen 0); (try have y1 := hrk.row.cell 1); (try have g1 := hrk.row.frozen 1); (try have y2 := hrk.row.cell 2); (try have g2 := hrk.row.frozen 2)))
    all_goals
      go_wp2_with fail
      go_meet
      first
        | exact ⟨_, _, _, _, _, _, _, _, rfl, Lib.hid (NewR.set hrk huy HG.out)⟩
        | exact ⟨_, _, _, _, _, _, _, _, rfl, Lib.hid (NewR.new huy HG.out)⟩
  case rest =>
    obtain ⟨k6, p6, a6, l6, c6, d6, m6, e6, rfl, HK6⟩ := hcut
    obtain ⟨w3, hw3⟩ : ∃ W, W = wc := ⟨_, rfl⟩
    rw [← hw3] at HK6 ⊢
    have hUw3 : Upd [] w2 w3 := HK6.out.upd
    have hlo6 := HK6.out.lo
    clear hrf HC hw3
    have HVw3 := Lib.hid (HVw2.out.trans0 hUw3)
    have HQ6 := Lib.hid HK6.out.rv
    have HUB := Lib.hid (HU0.out.trans0 HVw3.out)
    have HRES := Lib.hid (HR2.out.upd0 HVw3.out)
    have hk1 : k6 ≠ S + 1 + 1 := by have h1 := HZ0.out; have h2 := HVw2.out.size; omega
    have s0 := (HR0.out.upd0 HVw3.out).cell 0
    have s1 := (HR0.out.upd0 HVw3.out).cell 1
    have s2 := (HR0.out.upd0 HVw3.out).cell 2
    have s3 := HK6.out.row.cell 0
    have s4 := HK6.out.row.cell 1
    have s5 := HK6.out.row.cell 2
    have hcA : ∀ W, Upd [] w3 W → W.cell? ⟨S + 1 + 1, 0, none⟩ = some (.bool false) ∧ W.cell? ⟨S + 1 + 1, 1, none⟩ = some (.slice none 0 0) ∧ W.cell? ⟨S + 1 + 1, 2, none⟩ = some (.slice none 0 0) ∧ W.frozen? ⟨S + 1 + 1, 0, none⟩ = false ∧ W.frozen? ⟨S + 1 + 1, 1, none⟩ = false ∧ W.frozen? ⟨S + 1 + 1, 2, none⟩ = false := fun W h => ⟨(HRES.out.upd0 h).cell 0, (HRES.out.upd0 h).cell 1, (HRES.out.upd0 h).cell 2, (HRES.out.upd0 h).frozen 0, (HRES.out.upd0 h).frozen 1, (HRES.out.upd0 h).frozen 2⟩
    go_wp2_with fail
    refine (HMU.out _ _ HUB.out HQ6.out).mono ?_
    rintro e w4 ⟨vF, rfl, hvF, huy⟩
    obtain ⟨aF, lF, cF, dF, mF, eF, rfl, _, _⟩ := hvF.open
    have HF := Lib.hid hvF
    obtain ⟨x0, x1, x2, x3, x4, x5⟩ := hcA _ huy
    clear hvF s0 s1 s2 s3 s4 s5
    have HP := Lib.hid (NewR.set ⟨HRES.out.upd0 huy, by have := HS.out; omega⟩ (HUB.out.trans0 huy) HF.out)
    clear hcA huy
    generalize decide ((x / y).num < 0) = pF at *
    have z0 := HP.out.row.cell 0
    have z1 := HP.out.row.cell 1
    have z2 := HP.out.row.cell 2
    go_wp2
    refine bodyPost_ret (v := .tuple #[.agg #[.bool pF, .slice aF lF cF, .slice dF mF eF], .int .i64 0]) (by simp [results, Tryz.results42, go_sem, z0, z1, z2]) rfl ?_
    exact ⟨_, rfl, HP.out.rv, HP.out.upd⟩

end Go.Proofs.YtoklmfmoblkfcaaGreatDoor
