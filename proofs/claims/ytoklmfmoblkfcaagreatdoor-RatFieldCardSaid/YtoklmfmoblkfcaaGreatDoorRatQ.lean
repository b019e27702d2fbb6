/- Fractions (layer 7): Frac. -/
import Derived.Test.YtoklmfmoblkfcaaGreatDoorAc
import Derived.Test.YtoklmfmoblkfcaaGreatDoorRatF
import Derived.Test.YtoklmfmoblkfcaaGreatDoorNatGcd
namespace Go.Proofs.YtoklmfmoblkfcaaGreatDoor
open Go.RowKit Go.Proofs.Tm
set_option linter.unusedVariables false
set_option linter.unusedSimpArgs false
set_option maxRecDepth 20000

set_option maxHeartbeats 3200000 in
theorem frac_any (u v : Value) (p q : Int) (w : World) (hu : WV w u p) (hv : WV w v q) (hq : q ≠ 0) (hlp : (wds p.natAbs).length ≤ 1073741824) (hlq : (wds q.natAbs).length ≤ 1073741824) :
    Calls Tryz.prog 33 #[u, v] w (RRatE (Rat.divInt p q) 0 w) := by
  obtain ⟨a0, l0, c0, rfl, _⟩ := hu.open
  obtain ⟨a1, l1, c1, rfl, _⟩ := hv.open
  obtain ⟨g, hg⟩ : ∃ g, g = Nat.gcd p.natAbs q.natAbs := ⟨_, rfl⟩
  have hgp : 0 < g := by rw [hg]; exact Nat.gcd_pos_of_pos_right _ (by omega)
  have hgl : g ≤ q.natAbs := by rw [hg]; exact Nat.le_of_dvd (by omega) (Nat.gcd_dvd_right _ _)
  obtain ⟨z, hz⟩ : ∃ z : Int, z = (Rat.divInt p q).num := ⟨_, rfl⟩
  obtain ⟨dd, hdd⟩ : ∃ d : Nat, d = q.natAbs / g := ⟨_, rfl⟩
  have hfr := frac_eq p q hq
  rw [← hg, ← hz] at hfr
  have hdn : (Rat.divInt p q).den = dd := by rw [hdd]; exact hfr.2
  have HFR : Hid (mkRat z dd = Rat.divInt p q) := by show _ = _; rw [hz, ← hdn]; exact Rat.mkRat_self _
  have hd0 : dd ≠ 0 := by rw [← hdn]; exact (Rat.divInt p q).den_nz
  have hcp : Nat.gcd z.natAbs dd = 1 := by rw [hz, ← hdn]; exact (Rat.divInt p q).reduced
  have HAX : Hid (∀ W, Upd [] w W → Calls Tryz.prog 19 #[.agg #[.bool (decide (p < 0)), .slice a0 l0 c0]] W (RNat p.natAbs W)) := fun W h => wabs_any _ p W (hu.upd0 h)
  have HAY : Hid (∀ W, Upd [] w W → Calls Tryz.prog 19 #[.agg #[.bool (decide (q < 0)), .slice a1 l1 c1]] W (RNat q.natAbs W)) := fun W h => wabs_any _ q W (hv.upd0 h)
  have HNX : Hid (∀ W, Upd [] w W → Calls Tryz.prog 17 #[.agg #[.bool (decide (p < 0)), .slice a0 l0 c0]] W (fun e w' => e = .returned (.bool (decide (p < 0))) ∧ Upd [] W w')) := fun W h => wneg_any _ p W (hu.upd0 h)
  have HNY : Hid (∀ W, Upd [] w W → Calls Tryz.prog 17 #[.agg #[.bool (decide (q < 0)), .slice a1 l1 c1]] W (fun e w' => e = .returned (.bool (decide (q < 0))) ∧ Upd [] W w')) := fun W h => wneg_any _ q W (hv.upd0 h)
  have HZE : Hid (∀ W s, NV W s q.natAbs → Calls Tryz.prog 56 #[s] W (fun e w' => e = .returned (.bool false) ∧ Upd [] W w')) := fun W s hs => by
    have := zero_any _ _ W hs
    rwa [decide_eq_false (by omega)] at this
  have HG : Hid (∀ W s t, NV W s p.natAbs → NV W t q.natAbs → Calls Tryz.prog 37 #[s, t] W (RNat g W)) := fun W s t hs ht => by rw [hg]; exact gcd_any _ _ _ _ W hs ht hlp hlq
  have HBX : Hid (∀ W s t, NV W s p.natAbs → NV W t g → Calls Tryz.prog 82 #[s, t] W (RNat (p.natAbs / g) W)) := fun W s t hs ht => by_any _ _ _ _ W hs ht hgp hlp
  have HBY : Hid (∀ W s t, NV W s q.natAbs → NV W t g → Calls Tryz.prog 82 #[s, t] W (RNat dd W)) := fun W s t hs ht => by rw [hdd]; exact by_any _ _ _ _ W hs ht hgp hlq
  have HMK : Hid (∀ W s, NV W s (p.natAbs / g) → Calls Tryz.prog 35 #[.bool (decide (p < 0) != decide (q < 0)), s] W (RWhole z W)) := fun W s hs => by
    have := wmake_any (decide (p < 0) != decide (q < 0)) _ _ W hs
    rw [← hfr.1] at this
    exact this
  have hdl : (wds dd).length ≤ 1073741824 := Nat.le_trans (wds_length_le (by rw [hdd]; exact Nat.div_le_self _ _)) hlq
  have HFIT : Hid (∀ W s t, WV W s z → NV W t dd → Calls Tryz.prog 83 #[s, t] W (RRat (mkRat z dd) W)) := fun W s t hs ht => fit_q _ _ _ _ W hs ht hd0 hcp (by omega)
  generalize decide (p < 0) = b0 at *
  generalize decide (q < 0) = b1 at *
  obtain ⟨bq, hbq⟩ : ∃ b, b = (b0 != b1) := ⟨_, rfl⟩
  rw [← hbq] at HMK
  have hb1 : (b0 != b1) = bq := hbq.symm
  have hb2 : (!(b0 == b1)) = bq := by rw [hbq]; cases b0 <;> cases b1 <;> rfl
  clear hu hv hg hgp hgl hz hdd hfr hdn hd0 hcp hdl hlp hlq hq hbq
  obtain ⟨w0, hw0⟩ : ∃ W, W = (((w.alloc (.cells #[.bool b0, .slice a0 l0 c0] 29)).alloc (.cells #[.bool b1, .slice a1 l1 c1] 29)).alloc (.cells #[.bool false, .slice none 0 0, .slice none 0 0] 53)) := ⟨_, rfl⟩
  obtain ⟨S, hS⟩ : ∃ s, s = w.heap.size := ⟨_, rfl⟩
  obtain ⟨hu0, r0, r1, r2, hz0⟩ := rows3 w #[.bool b0, .slice a0 l0 c0] #[.bool b1, .slice a1 l1 c1] #[.bool false, .slice none 0 0, .slice none 0 0] 29 29 53 w0 hw0 S hS
  have HU0 := Lib.hid hu0
  have HW0 := Lib.hid hw0
  have HS := Lib.hid hS
  have HZ0 := Lib.hid hz0
  have HR0 := Lib.hid r0
  have HR1 := Lib.hid r1
  have HR2 := Lib.hid r2
  have hp0 := r1.cell 0
  have hp1 := r1.cell 1
  clear hw0 hS hu0 r0 r1 r2 hz0
  go_enter Tryz.func33, Tryz.ntmps33
  go_wp2_with fail
  rw [← HW0.out]
  rw [← HS.out]
  refine (HAY.out _ HU0.out).mono ?_
  rintro e w1 ⟨v1, rfl, hn1, hu1⟩
  have HV1 := Lib.hid hu1
  have HN1 := Lib.hid hn1
  clear hu1 hn1 hp0 hp1
  go_wp2_with fail
  refine (HZE.out _ _ HN1.out).mono ?_
  rintro e w2 ⟨rfl, hu2⟩
  have HV := Lib.hid (HV1.out.trans0 hu2)
  clear hu2 HN1 HV1
  go_wp2_with fail
  have hrf : Upd [] w2 w2 := Upd.refl _ _
  have HC : Hid (∀ W, Upd [] w2 W → W.cell? ⟨S, 0, none⟩ = some (.bool b0) ∧ W.cell? ⟨S, 1, none⟩ = some (.slice a0 l0 c0) ∧ W.cell? ⟨S + 1, 0, none⟩ = some (.bool b1) ∧ W.cell? ⟨S + 1, 1, none⟩ = some (.slice a1 l1 c1) ∧ Upd [] w2 W) := fun W h =>
    ⟨((HR0.out.upd0 HV.out).upd h (by simp <;> omega)).cell 0, ((HR0.out.upd0 HV.out).upd h (by simp <;> omega)).cell 1, ((HR1.out.upd0 HV.out).upd h (by simp <;> omega)).cell 0, ((HR1.out.upd0 HV.out).upd h (by simp <;> omega)).cell 1, h⟩
  go_cut [6] (fun v6 wx => ∃ (kQ : Nat) (sQ : Option Addr) (lQ cQ : Nat), v6 = .pointer (some ⟨kQ, 0, none⟩) ∧ Hid (NewN w2 (g) wx kQ sQ lQ cQ))
  case first =>
    go_region_held3 (fun W => W.cell? ⟨S, 0, none⟩ = some (.bool b0) ∧ W.cell? ⟨S, 1, none⟩ = some (.slice a0 l0 c0) ∧ W.cell? ⟨S + 1, 0, none⟩ = some (.bool b1) ∧ W.cell? ⟨S + 1, 1, none⟩ = some (.slice a1 l1 c1) ∧ Upd [] w2 W)
      ((refine HC.out _ ?_; repeat (first | (with_reducible refine Upd.setCell ?_ (.inr hrk.lo) _) | (with_reducible refine Upd.setCell ?_ (.inr huy.size) _) | (with_reducible exact huy) | (with_reducible exact hrf) | (with_reducible apply Upd.drew) | (with_reducible apply Upd.alloc))))
      (first
        | (go_at_call 19; (with_reducible refine (HAX.out _ (HU0.out.trans0 (HV.out.trans0 (by repeat (first | exact huy | exact hrf | apply Upd.drew | apply Upd.alloc))))).mono ?_); rintro e wz ⟨vA, rfl, hnA, hu20⟩;  have HNA := Lib.hid hnA; clear hnA; have huz : Upd [] w2 wz := Upd.trans0 (by repeat (first | exact huy | exact hrf | apply Upd.drew | apply Upd.alloc)) hu20; (try have hrk := NewRow.upd hrk hu20); (try have hrk := NewRow.of (by first | exact huy | exact hrf.drew | exact hrf) hu20); (try have hrk := NewRow.of0 hrf hu20); (try clear huy); clear hu20; have huy := huz; clear huz)
        | (go_at_call 19; (with_reducible refine (HAY.out _ (HU0.out.trans0 (HV.out.trans0 (by repeat (first | exact huy | exact hrf | apply Upd.drew | apply Upd.alloc))))).mono ?_); rintro e wz ⟨vB, rfl, hnB, hu20⟩; have HNA := Lib.hid (HNA.out.upd0 (by first | exact hu20 | exact Upd.al hu20)); have HNB := Lib.hid hnB; clear hnB; have huz : Upd [] w2 wz := Upd.trans0 (by repeat (first | exact huy | exact hrf | apply Upd.drew | apply Upd.alloc)) hu20; (try have hrk := NewRow.upd hrk hu20); (try have hrk := NewRow.of (by first | exact huy | exact hrf.drew | exact hrf) hu20); (try have hrk := NewRow.of0 hrf hu20); (try clear huy); clear hu20; have huy := huz; clear huz)
        | (go_at_call 37; (with_reducible refine (HG.out _ _ _ (by first | exact HNA.out | exact HNA.out.upd0 ((Upd.refl _ _).alloc _)) (by first | exact HNB.out | exact HNB.out.upd0 ((Upd.refl _ _).alloc _))).mono ?_); rintro e wz ⟨vG, rfl, hnG, hu20⟩; have HNA := Lib.hid (HNA.out.upd0 (by first | exact hu20 | exact Upd.al hu20)); have HNB := Lib.hid (HNB.out.upd0 (by first | exact hu20 | exact Upd.al hu20)); obtain ⟨aG, lG, cG, rfl, hnGo⟩ := nvOpen hnG; have HG := Lib.hid hnGo; clear hnG hnGo; have huz : Upd [] w2 wz := Upd.trans0 (by repeat (first | exact huy | exact hrf | apply Upd.drew | apply Upd.alloc)) hu20; (try have hrk := NewRow.upd hrk hu20); (try have hrk := NewRow.of (by first | exact huy | exact hrf.drew | exact hrf) hu20); (try have hrk := NewRow.of0 hrf hu20); (try clear huy); clear hu20; have huy := huz; clear huz; (try have y0 := hrk.row.cell 0); (try have g0 := hrk.row.frozen 0)))
    all_goals
      go_wp2_with fail
      go_meet
      first
        | exact ⟨_, _, _, _, rfl, Lib.hid (NewN.set hrk huy HG.out)⟩
        | exact ⟨_, _, _, _, rfl, Lib.hid (NewN.new huy HG.out)⟩
  case rest =>
    obtain ⟨k6, a6, l6, c6, rfl, HK6⟩ := hcut
    obtain ⟨w3, hw3⟩ : ∃ W, W = wc := ⟨_, rfl⟩
    rw [← hw3] at HK6 ⊢
    have hUw3 : Upd [] w2 w3 := HK6.out.upd
    have hlo6 := HK6.out.lo
    clear hrf HC hw3
    have HV3 := Lib.hid (HV.out.trans0 hUw3)
    have HG6 := Lib.hid HK6.out.nv
    go_wp2_with fail
    have hrf : Upd [] w3 w3 := Upd.refl _ _
    have HC : Hid (∀ W, Upd [] w3 W → W.cell? ⟨S, 0, none⟩ = some (.bool b0) ∧ W.cell? ⟨S, 1, none⟩ = some (.slice a0 l0 c0) ∧ W.cell? ⟨S + 1, 0, none⟩ = some (.bool b1) ∧ W.cell? ⟨S + 1, 1, none⟩ = some (.slice a1 l1 c1) ∧ W.cell? ⟨k6, 0, none⟩ = some (.slice a6 l6 c6) ∧ Upd [] w3 W) := fun W h =>
      ⟨((HR0.out.upd0 HV3.out).upd h (by simp <;> omega)).cell 0, ((HR0.out.upd0 HV3.out).upd h (by simp <;> omega)).cell 1, ((HR1.out.upd0 HV3.out).upd h (by simp <;> omega)).cell 0, ((HR1.out.upd0 HV3.out).upd h (by simp <;> omega)).cell 1, (HK6.out.row.upd h (by simp <;> omega)).cell 0, h⟩
    go_cut [7] (fun v7 wx => ∃ (kQ : Nat) (bQ : Bool) (sQ : Option Addr) (lQ cQ : Nat), v7 = .pointer (some ⟨kQ, 0, none⟩) ∧ Hid (NewW w3 (z) wx kQ bQ sQ lQ cQ))
    case first =>
      go_region_held3 (fun W => W.cell? ⟨S, 0, none⟩ = some (.bool b0) ∧ W.cell? ⟨S, 1, none⟩ = some (.slice a0 l0 c0) ∧ W.cell? ⟨S + 1, 0, none⟩ = some (.bool b1) ∧ W.cell? ⟨S + 1, 1, none⟩ = some (.slice a1 l1 c1) ∧ W.cell? ⟨k6, 0, none⟩ = some (.slice a6 l6 c6) ∧ Upd [] w3 W)
        ((refine HC.out _ ?_; repeat (first | (with_reducible refine Upd.setCell ?_ (.inr hrk.lo) _) | (with_reducible refine Upd.setCell ?_ (.inr huy.size) _) | (with_reducible exact huy) | (with_reducible exact hrf) | (with_reducible apply Upd.drew) | (with_reducible apply Upd.alloc))))
        (first
          | (go_at_call 17; (with_reducible refine (HNX.out _ (HU0.out.trans0 (HV3.out.trans0 (by repeat (first | exact huy | exact hrf | apply Upd.drew | apply Upd.alloc))))).mono ?_); rintro e wz ⟨rfl, hu20⟩;   have huz : Upd [] w3 wz := Upd.trans0 (by repeat (first | exact huy | exact hrf | apply Upd.drew | apply Upd.alloc)) hu20; (try have hrk := NewRow.upd hrk hu20); (try have hrk := NewRow.of (by first | exact huy | exact hrf.drew | exact hrf) hu20); (try have hrk := NewRow.of0 hrf hu20); (try clear huy); clear hu20; have huy := huz; clear huz)
          | (go_at_call 17; (with_reducible refine (HNY.out _ (HU0.out.trans0 (HV3.out.trans0 (by repeat (first | exact huy | exact hrf | apply Upd.drew | apply Upd.alloc))))).mono ?_); rintro e wz ⟨rfl, hu20⟩;   have huz : Upd [] w3 wz := Upd.trans0 (by repeat (first | exact huy | exact hrf | apply Upd.drew | apply Upd.alloc)) hu20; (try have hrk := NewRow.upd hrk hu20); (try have hrk := NewRow.of (by first | exact huy | exact hrf.drew | exact hrf) hu20); (try have hrk := NewRow.of0 hrf hu20); (try clear huy); clear hu20; have huy := huz; clear huz)
          | (go_at_call 19; (with_reducible refine (HAX.out _ (HU0.out.trans0 (HV3.out.trans0 (by repeat (first | exact huy | exact hrf | apply Upd.drew | apply Upd.alloc))))).mono ?_); rintro e wz ⟨vA, rfl, hnA, hu20⟩;  have HNA := Lib.hid hnA; clear hnA; have huz : Upd [] w3 wz := Upd.trans0 (by repeat (first | exact huy | exact hrf | apply Upd.drew | apply Upd.alloc)) hu20; (try have hrk := NewRow.upd hrk hu20); (try have hrk := NewRow.of (by first | exact huy | exact hrf.drew | exact hrf) hu20); (try have hrk := NewRow.of0 hrf hu20); (try clear huy); clear hu20; have huy := huz; clear huz)
          | (go_at_call 82; (with_reducible refine (HBX.out _ _ _ (by first | exact HNA.out | exact HNA.out.upd0 ((Upd.refl _ _).alloc _)) (HG6.out.upd0 (by repeat (first | exact huy | exact hrf | apply Upd.drew | apply Upd.alloc)))).mono ?_); rintro e wz ⟨vB, rfl, hnB, hu20⟩; have HNA := Lib.hid (HNA.out.upd0 (by first | exact hu20 | exact Upd.al hu20)); have HNB := Lib.hid hnB; clear hnB; have huz : Upd [] w3 wz := Upd.trans0 (by repeat (first | exact huy | exact hrf | apply Upd.drew | apply Upd.alloc)) hu20; (try have hrk := NewRow.upd hrk hu20); (try have hrk := NewRow.of (by first | exact huy | exact hrf.drew | exact hrf) hu20); (try have hrk := NewRow.of0 hrf hu20); (try clear huy); clear hu20; have huy := huz; clear huz)
          | (go_at_call 35; (with_reducible refine (HMK.out _ _ (by first | exact HNB.out | exact HNB.out.upd0 ((Upd.refl _ _).alloc _))).mono ?_); rintro e wz ⟨vM, rfl, hvM, hu20⟩; have HNA := Lib.hid (HNA.out.upd0 (by first | exact hu20 | exact Upd.al hu20)); have HNB := Lib.hid (HNB.out.upd0 (by first | exact hu20 | exact Upd.al hu20)); obtain ⟨aM, lM, cM, rfl, _⟩ := hvM.open; have HM := Lib.hid hvM; clear hvM; have huz : Upd [] w3 wz := Upd.trans0 (by repeat (first | exact huy | exact hrf | apply Upd.drew | apply Upd.alloc)) hu20; (try have hrk := NewRow.upd hrk hu20); (try have hrk := NewRow.of (by first | exact huy | exact hrf.drew | exact hrf) hu20); (try have hrk := NewRow.of0 hrf hu20); (try clear huy); clear hu20; have huy := huz; clear huz; (try have y0 := hrk.row.cell 0); (try have g0 := hrk.row.frozen 0); (try have y1 := hrk.row.cell 1); (try have g1 := hrk.row.frozen 1)))
      all_goals
        go_wp2_with fail
        go_meet
        first
          | exact ⟨_, _, _, _, _, rfl, Lib.hid (NewW.set hrk huy HM.out)⟩
          | exact ⟨_, _, _, _, _, rfl, Lib.hid (NewW.new huy HM.out)⟩
    case rest =>
      obtain ⟨k7, p7, a7, l7, c7, rfl, HK7⟩ := hcut
      obtain ⟨w4, hw4⟩ : ∃ W, W = wc := ⟨_, rfl⟩
      rw [← hw4] at HK7 ⊢
      have hUw4 : Upd [] w3 w4 := HK7.out.upd
      have hlo7 := HK7.out.lo
      clear hrf HC hw4
      have HV4 := Lib.hid (HV3.out.trans0 hUw4)
      have HG6' := Lib.hid (HG6.out.upd0 hUw4)
      have HW7 := Lib.hid HK7.out.wv
      have HUB := Lib.hid (HU0.out.trans0 HV4.out)
      have HRES := Lib.hid (HR2.out.upd0 HV4.out)
      have hkk : k6 ≠ S + 1 + 1 ∧ k7 ≠ S + 1 + 1 := by have h1 := HZ0.out; have h2 := HV.out.size; have h3 := hUw3.size; omega
      obtain ⟨hk1, hk2⟩ := hkk
      rw [HFR.out] at HFIT
      have hrf : Upd [] w4 w4 := Upd.refl _ _
      have HC : Hid (∀ W, Upd [S + 1 + 1] w4 W → W.cell? ⟨k7, 0, none⟩ = some (.bool p7) ∧ W.cell? ⟨k7, 1, none⟩ = some (.slice a7 l7 c7) ∧ W.cell? ⟨S + 1, 0, none⟩ = some (.bool b1) ∧ W.cell? ⟨S + 1, 1, none⟩ = some (.slice a1 l1 c1) ∧ W.cell? ⟨k6, 0, none⟩ = some (.slice a6 l6 c6) ∧ Upd [S + 1 + 1] w4 W) := fun W h =>
        ⟨(HK7.out.row.upd h (by simp <;> omega)).cell 0, (HK7.out.row.upd h (by simp <;> omega)).cell 1, ((HR1.out.upd0 HV4.out).upd h (by simp <;> omega)).cell 0, ((HR1.out.upd0 HV4.out).upd h (by simp <;> omega)).cell 1, ((HK6.out.row.upd0 hUw4).upd h (by simp <;> omega)).cell 0, h⟩
      have hcA : ∀ W, Upd [] w4 W → W.cell? ⟨S + 1 + 1, 0, none⟩ = some (.bool false) ∧ W.cell? ⟨S + 1 + 1, 1, none⟩ = some (.slice none 0 0) ∧ W.cell? ⟨S + 1 + 1, 2, none⟩ = some (.slice none 0 0) ∧ W.frozen? ⟨S + 1 + 1, 0, none⟩ = false ∧ W.frozen? ⟨S + 1 + 1, 1, none⟩ = false ∧ W.frozen? ⟨S + 1 + 1, 2, none⟩ = false := fun W h => ⟨(HRES.out.upd0 h).cell 0, (HRES.out.upd0 h).cell 1, (HRES.out.upd0 h).cell 2, (HRES.out.upd0 h).frozen 0, (HRES.out.upd0 h).frozen 1, (HRES.out.upd0 h).frozen 2⟩
      go_wp2_with fail
      go_region_held3 (fun W => W.cell? ⟨k7, 0, none⟩ = some (.bool p7) ∧ W.cell? ⟨k7, 1, none⟩ = some (.slice a7 l7 c7) ∧ W.cell? ⟨S + 1, 0, none⟩ = some (.bool b1) ∧ W.cell? ⟨S + 1, 1, none⟩ = some (.slice a1 l1 c1) ∧ W.cell? ⟨k6, 0, none⟩ = some (.slice a6 l6 c6) ∧ Upd [S + 1 + 1] w4 W)
        ((refine HC.out _ ?_; repeat (first | (with_reducible refine Upd.setCell ?_ (.inl (by simp)) _) | (with_reducible exact huy.mono (by simp)) | (with_reducible exact hrf.mono (by simp)) | (with_reducible apply Upd.drew) | (with_reducible apply Upd.alloc))))
        (first
          | (go_at_call 19; (with_reducible refine (HAY.out _ (HU0.out.trans0 (HV4.out.trans0 (by repeat (first | exact huy | exact hrf | apply Upd.drew | apply Upd.alloc))))).mono ?_); rintro e wz ⟨vA, rfl, hnA, hu20⟩;  have HNA := Lib.hid hnA; clear hnA; have huz : Upd [] w4 wz := Upd.trans0 (by repeat (first | exact huy | exact hrf | apply Upd.drew | apply Upd.alloc)) hu20; (try clear huy); clear hu20; have huy := huz; clear huz)
          | (go_at_call 82; (with_reducible refine (HBY.out _ _ _ (by first | exact HNA.out | exact HNA.out.upd0 ((Upd.refl _ _).alloc _)) (HG6'.out.upd0 (by repeat (first | exact huy | exact hrf | apply Upd.drew | apply Upd.alloc)))).mono ?_); rintro e wz ⟨vB, rfl, hnB, hu20⟩; have HNA := Lib.hid (HNA.out.upd0 (by first | exact hu20 | exact Upd.al hu20)); have HNB := Lib.hid hnB; clear hnB; have huz : Upd [] w4 wz := Upd.trans0 (by repeat (first | exact huy | exact hrf | apply Upd.drew | apply Upd.alloc)) hu20; (try clear huy); clear hu20; have huy := huz; clear huz)
          | (go_at_call 83; (with_reducible refine (HFIT.out _ _ _ (HW7.out.upd0 (by repeat (first | exact huy | exact hrf | apply Upd.drew | apply Upd.alloc))) (by first | exact HNB.out | exact HNB.out.upd0 ((Upd.refl _ _).alloc _))).mono ?_); rintro e wz ⟨vF, rfl, hvF, hu20⟩; have HNA := Lib.hid (HNA.out.upd0 (by first | exact hu20 | exact Upd.al hu20)); have HNB := Lib.hid (HNB.out.upd0 (by first | exact hu20 | exact Upd.al hu20)); obtain ⟨aF, lF, cF, dF, mF, eF, rfl, _, _⟩ := hvF.open; have HF := Lib.hid hvF; clear hvF; have huz : Upd [] w4 wz := Upd.trans0 (by repeat (first | exact huy | exact hrf | apply Upd.drew | apply Upd.alloc)) hu20; (try clear huy); clear hu20; have huy := huz; clear huz; obtain ⟨x0, x1, x2, x3, x4, x5⟩ := hcA _ huy))
      all_goals
        have HP := Lib.hid (NewR.set ⟨HRES.out.upd0 huy, by have := HS.out; omega⟩ (HUB.out.trans0 huy) HF.out)
        clear hcA huy
        generalize decide ((Rat.divInt p q).num < 0) = pF at *
        have z0 := HP.out.row.cell 0
        have z1 := HP.out.row.cell 1
        have z2 := HP.out.row.cell 2
        go_wp2
        refine bodyPost_ret (v := .tuple #[.agg #[.bool pF, .slice aF lF cF, .slice dF mF eF], .int .i64 0]) (by simp [results, Tryz.results33, go_sem, z0, z1, z2]) rfl ?_
        exact ⟨_, rfl, HP.out.rv, HP.out.upd⟩

end Go.Proofs.YtoklmfmoblkfcaaGreatDoor
