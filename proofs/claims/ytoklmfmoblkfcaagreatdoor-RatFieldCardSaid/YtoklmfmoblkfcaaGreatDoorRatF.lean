/- Fractions (layer 7): fit. -/
import Derived.Test.YtoklmfmoblkfcaaGreatDoorAb
import Derived.Test.YtoklmfmoblkfcaaGreatDoorNatOfw
import Derived.Deep.RegionHeld3
import Derived.Deep.DeepCutAuto
namespace Go.Proofs.YtoklmfmoblkfcaaGreatDoor
open Go.RowKit Go.Proofs.Tm
set_option linter.unusedVariables false
set_option linter.unusedSimpArgs false
set_option maxRecDepth 20000

theorem rv_of {w : World} {z : Int} {d : Nat} {s t : Value} (h0 : d ≠ 0) (hc : Nat.gcd z.natAbs d = 1) (hw : WV w (.agg #[.bool (decide (z < 0)), s]) z) (hn : NV w (.agg #[t]) (if d = 1 then 0 else d)) : RV w (.agg #[.bool (decide (z < 0)), s, t]) (mkRat z d) := by
  obtain ⟨e1, e2⟩ := mk_of z d h0 hc
  obtain ⟨s', he, hz⟩ := hw
  simp only [Value.agg.injEq, Array.mk.injEq, List.cons.injEq, and_true, true_and] at he
  subst he
  refine ⟨s, t, by rw [e1], by rw [e1]; exact hz, ?_⟩
  unfold denN
  rw [e2]
  exact hn
theorem cmp_one (d : Nat) : (cmpN d 1 == 0) = decide (d = 1) := by
  unfold cmpN
  by_cases h : d < 1
  · rw [if_pos h]; have : d = 0 := by omega
    subst this; rfl
  · rw [if_neg h]
    by_cases h1 : d = 1
    · rw [if_pos h1]; simp [h1]
    · rw [if_neg h1]; simp [h1]

set_option maxHeartbeats 1600000 in
theorem fit_q (u v : Value) (z : Int) (d : Nat) (w : World) (hu : WV w u z) (hv : NV w v d) (h0 : d ≠ 0) (hc : Nat.gcd z.natAbs d = 1) (hl : (wds d).length ≤ 1099511627776) :
    Calls Tryz.prog 83 #[u, v] w (RRat (mkRat z d) w) := by
  obtain ⟨a0, l0, c0, rfl, _⟩ := hu.open
  obtain ⟨a1, l1, c1, rfl, h1⟩ := nvOpen hv
  have HCMP : Hid (∀ W v, Upd [] w W → NV W v 1 → Calls Tryz.prog 52 #[.agg #[.slice a1 l1 c1], v] W (fun e w' => e = .returned (.int .i64 (cmpN d 1)) ∧ Upd [] W w')) := fun W v h hv => cmp_any _ _ _ _ W (h1.upd0 h) hv hl
  have HRV : Hid (∀ W t, Upd [] w W → NV W (.agg #[t]) (if d = 1 then 0 else d) → RV W (.agg #[.bool (decide (z < 0)), .slice a0 l0 c0, t]) (mkRat z d)) := fun W t h hn => rv_of h0 hc (hu.upd0 h) hn
  have HN1 := Lib.hid h1
  generalize decide (z < 0) = b0 at *
  clear hu hv h1 h0 hc hl
  obtain ⟨w0, hw0⟩ : ∃ W, W = (((w.alloc (.cells #[.bool b0, .slice a0 l0 c0] 29)).alloc (.cells #[.slice a1 l1 c1] 27)).alloc (.cells #[.bool false, .slice none 0 0, .slice none 0 0] 53)) := ⟨_, rfl⟩
  obtain ⟨S, hS⟩ : ∃ s, s = w.heap.size := ⟨_, rfl⟩
  obtain ⟨hu0, r0, r1, r2, hz0⟩ := rows3 w #[.bool b0, .slice a0 l0 c0] #[.slice a1 l1 c1] #[.bool false, .slice none 0 0, .slice none 0 0] 29 27 53 w0 hw0 S hS
  have HU0 := Lib.hid hu0
  have HW0 := Lib.hid hw0
  have HS := Lib.hid hS
  have HZ0 := Lib.hid hz0
  have HC1 : Hid (∀ W, Upd [] w0 W → W.cell? ⟨S + 1, 0, none⟩ = some (.slice a1 l1 c1) ∧ Upd [] w0 W) := fun W h =>
    ⟨(r1.upd h (by simp <;> omega)).cell 0, h⟩
  have HR0 := Lib.hid r0
  have HR1 := Lib.hid r1
  have HRES := Lib.hid r2
  have hrf : Upd [] w0 w0 := Upd.refl _ _
  clear hw0 hS hu0 r0 r1 r2 hz0
  go_enter Tryz.func83, Tryz.ntmps83
  go_wp2_with fail
  rw [← HW0.out]
  rw [← HS.out]
  go_cut [9] (fun v9 wx => v9 = .bool (cmpN d 1 == 0) ∧ Upd [] w0 wx)
  case first =>
    go_region_held3 (fun W => W.cell? ⟨S + 1, 0, none⟩ = some (.slice a1 l1 c1) ∧ Upd [] w0 W)
      ((refine HC1.out _ ?_; repeat (first | (with_reducible refine Upd.setCell ?_ (.inr hrk.lo) _) | (with_reducible refine Upd.setCell ?_ (.inr huy.size) _) | (with_reducible exact huy) | (with_reducible exact hrf) | (with_reducible apply Upd.drew) | (with_reducible apply Upd.alloc))))
      (first
        | (go_at_call 32; refine (ofw 1 1 rfl (by decide) _ _ (sl_cell (by go_simp))).mono ?_; rintro e wz ⟨v4, rfl, hn4, hu20⟩; have HN4 := Lib.hid hn4; clear hn4; have huy : Upd [] w0 wz := Upd.trans0 (by repeat (first | exact huy | exact hrf | apply Upd.drew | apply Upd.alloc)) hu20; clear hu20)
        | (go_at_call 52; (with_reducible refine (HCMP.out _ _ (HU0.out.trans0 (by repeat (first | exact huy | exact hrf | apply Upd.drew | apply Upd.alloc))) HN4.out).mono ?_); rintro e wz ⟨rfl, hu20⟩;   have huz : Upd [] w0 wz := Upd.trans0 (by repeat (first | exact huy | exact hrf | apply Upd.drew | apply Upd.alloc)) hu20; (try clear huy); clear hu20; have huy := huz; clear huz))
    all_goals
      go_wp2_with fail
      go_meet
      exact ⟨rfl, huy⟩
  case rest =>
    obtain ⟨rfl, hu⟩ := hcut
    rw [cmp_one]
    have q0 := (HR0.out.upd0 hu).cell 0
    have q1 := (HR0.out.upd0 hu).cell 1
    have q2 := (HR1.out.upd0 hu).cell 0
    have q3 := (HR1.out.upd0 hu).frozen 0
    have x0 := (HRES.out.upd0 hu).cell 0
    have x1 := (HRES.out.upd0 hu).cell 1
    have x2 := (HRES.out.upd0 hu).cell 2
    have x3 := (HRES.out.upd0 hu).frozen 0
    have x4 := (HRES.out.upd0 hu).frozen 1
    have x5 := (HRES.out.upd0 hu).frozen 2
    by_cases hd : d = 1
    · rw [decide_eq_true hd]
      have HX := HRV.out wc (.slice none 0 0) (HU0.out.trans0 hu) (by rw [if_pos hd]; exact NV.zero _)
      have hS1 : w.heap.size ≤ S + 1 := by have := HS.out; omega
      have HP := Lib.hid (NewR.set (w := w) (W := wc.setCell ⟨S + 1, 0, none⟩ (.slice none 0 0)) ⟨(HRES.out.upd0 hu).other _ _ (by show S + 1 ≠ S + 1 + 1; omega), by show _ ≤ S + 1 + 1; omega⟩ ((HU0.out.trans0 hu).setCell (.inr hS1) _) (HX.putr (HR1.out.upd0 hu) nw1 _ _))
      have z0 := HP.out.row.cell 0
      have z1 := HP.out.row.cell 1
      have z2 := HP.out.row.cell 2
      clear hd HX hu hS1
      go_wp2
      refine bodyPost_ret (v := .agg #[.bool b0, .slice a0 l0 c0, .slice none 0 0]) (by simp [results, Tryz.results83, go_sem, z0, z1, z2]) rfl ?_
      exact ⟨_, rfl, HP.out.rv, HP.out.upd⟩
    · rw [decide_eq_false hd]
      have HX := HRV.out wc (.slice a1 l1 c1) (HU0.out.trans0 hu) (by rw [if_neg hd]; exact (HN1.out.upd0 HU0.out).upd0 hu)
      have HP := Lib.hid (NewR.set (w := w) ⟨HRES.out.upd0 hu, by have := HS.out; omega⟩ (HU0.out.trans0 hu) HX)
      have z0 := HP.out.row.cell 0
      have z1 := HP.out.row.cell 1
      have z2 := HP.out.row.cell 2
      clear hd HX hu
      go_wp2
      refine bodyPost_ret (v := .agg #[.bool b0, .slice a0 l0 c0, .slice a1 l1 c1]) (by simp [results, Tryz.results83, go_sem, z0, z1, z2]) rfl ?_
      exact ⟨_, rfl, HP.out.rv, HP.out.upd⟩

end Go.Proofs.YtoklmfmoblkfcaaGreatDoor
