/- Fractions (layer 7): Whole, Num, Den, Nat, fit. -/
import Derived.Test.YtoklmfmoblkfcaaGreatDoorAb
import Derived.Test.YtoklmfmoblkfcaaGreatDoorNatOfw
import Derived.Deep.RegionHeld3
namespace Go.Proofs.YtoklmfmoblkfcaaGreatDoor
open Go.RowKit Go.Proofs.Tm
set_option linter.unusedVariables false
set_option linter.unusedSimpArgs false
set_option maxRecDepth 20000

set_option maxHeartbeats 400000 in
theorem rwhole_any (v : Value) (q : Rat) (w : World) (hu : RV w v q) :
    Calls Tryz.prog 41 #[v] w (fun e w' => e = .returned (.bool (decide (q.den = 1))) ∧ Upd [] w w') := by
  obtain ⟨a0, l0, c0, d0, m0, e0, rfl, _, hd⟩ := hu.open
  have HZ : Hid (∀ W, Upd [] w W → Calls Tryz.prog 56 #[.agg #[.slice d0 m0 e0]] W (fun e w' => e = .returned (.bool (decide (q.den = 1))) ∧ Upd [] W w')) := fun W h => by
    have := zero_any _ _ W (hd.upd0 h)
    rw [denN_zero] at this
    exact this
  generalize decide (q.den = 1) = z at *
  generalize decide (q.num < 0) = b0 at *
  clear hu hd
  obtain ⟨w0, hw0⟩ : ∃ W, W = (w.alloc (.cells #[.bool b0, .slice a0 l0 c0, .slice d0 m0 e0] 53)) := ⟨_, rfl⟩
  obtain ⟨S, hS⟩ : ∃ s, s = w.heap.size := ⟨_, rfl⟩
  obtain ⟨hu0, r0, hz0⟩ := rows1 w #[.bool b0, .slice a0 l0 c0, .slice d0 m0 e0] 53 w0 hw0 S hS
  have HU0 := Lib.hid hu0
  have HW0 := Lib.hid hw0
  have HS := Lib.hid hS
  have HZ0 := Lib.hid hz0
  have hc := r0.cell 2
  clear hw0 hS hu0 r0 hz0
  go_enter Tryz.func41, Tryz.ntmps41
  go_wp2_with fail
  rw [← HW0.out]
  rw [← HS.out]
  refine (HZ.out _ HU0.out).mono ?_
  rintro e w1 ⟨rfl, hu1⟩
  have HF := Lib.hid (HU0.out.trans0 hu1)
  clear hu1
  go_wp2
  go_ret
  exact ⟨rfl, HF.out⟩

set_option maxHeartbeats 400000 in
theorem num_any (v : Value) (q : Rat) (w : World) (hu : RV w v q) :
    Calls Tryz.prog 34 #[v] w (RWhole q.num w) := by
  obtain ⟨a0, l0, c0, d0, m0, e0, rfl, hw, _⟩ := hu.open
  have H0 := Lib.hid hw
  generalize decide (q.num < 0) = b0 at *
  clear hu hw
  obtain ⟨hu0, _, r1, _⟩ := rows2 w #[.bool b0, .slice a0 l0 c0, .slice d0 m0 e0] #[.bool b0, .slice a0 l0 c0] 53 29 _ rfl _ rfl
  have z0 := r1.cell 0
  have z1 := r1.cell 1
  have HF : Hid (RWhole q.num w (.returned (.agg #[.bool b0, .slice a0 l0 c0])) _) := ⟨_, rfl, H0.out.upd0 hu0, hu0⟩
  clear r1 hu0
  go_enter Tryz.func34, Tryz.ntmps34
  go_wp2
  refine bodyPost_ret (v := .agg #[.bool b0, .slice a0 l0 c0]) (by simp [results, Tryz.results34, go_sem, z0, z1]) rfl ?_
  exact HF.out

set_option maxHeartbeats 800000 in
theorem den_any (v : Value) (q : Rat) (w : World) (hu : RV w v q) :
    Calls Tryz.prog 36 #[v] w (RNat q.den w) := by
  obtain ⟨a0, l0, c0, d0, m0, e0, rfl, _, hd⟩ := hu.open
  have HWH : Hid (∀ W, Upd [] w W → Calls Tryz.prog 41 #[.agg #[.bool (decide (q.num < 0)), .slice a0 l0 c0, .slice d0 m0 e0]] W (fun e w' => e = .returned (.bool (decide (q.den = 1))) ∧ Upd [] W w')) := fun W h => rwhole_any _ q W (hu.upd0 h)
  have HND : Hid (NV w (.agg #[.slice d0 m0 e0]) (denN q)) := hd
  generalize decide (q.num < 0) = b0 at *
  clear hu hd
  obtain ⟨w0, hw0⟩ : ∃ W, W = ((w.alloc (.cells #[.bool b0, .slice a0 l0 c0, .slice d0 m0 e0] 53)).alloc (.cells #[.slice none 0 0] 27)) := ⟨_, rfl⟩
  obtain ⟨S, hS⟩ : ∃ s, s = w.heap.size := ⟨_, rfl⟩
  obtain ⟨hu0, r0, r1, hz0⟩ := rows2 w #[.bool b0, .slice a0 l0 c0, .slice d0 m0 e0] #[.slice none 0 0] 53 27 w0 hw0 S hS
  have HU0 := Lib.hid hu0
  have HW0 := Lib.hid hw0
  have HS := Lib.hid hS
  have HZ0 := Lib.hid hz0
  have HRX := Lib.hid r0
  have HRES := Lib.hid r1
  have hp0 := r0.cell 0
  have hp1 := r0.cell 1
  have hp2 := r0.cell 2
  have hcA : ∀ W, Upd [] w0 W → W.cell? ⟨S + 1, 0, none⟩ = some (.slice none 0 0) ∧ W.frozen? ⟨S + 1, 0, none⟩ = false := fun W h => ⟨(r1.upd0 h).cell 0, (r1.upd0 h).frozen 0⟩
  clear hw0 hS hu0 r0 r1 hz0
  by_cases hq : q.den = 1
  · rw [decide_eq_true hq] at HWH
    have HQ := Lib.hid hq
    clear hq
    go_enter Tryz.func36, Tryz.ntmps36
    go_wp2_with fail
    rw [← HW0.out]
    rw [← HS.out]
    refine (HWH.out _ HU0.out).mono ?_
    rintro e w1 ⟨rfl, hu1⟩
    have HU1 := Lib.hid hu1
    clear hp0 hp1 hp2 hu1
    go_wp2_with fail
    refine (of1 1 1 rfl (by decide) _ _ rfl).mono ?_
    rintro e w2 ⟨v2, rfl, hn2, hu2⟩
    obtain ⟨a2, l2, c2, rfl, hn2'⟩ := nvOpen hn2
    have H2 := Lib.hid hn2'
    have huy : Upd [] w0 w2 := HU1.out.trans0 (Upd.al hu2)
    obtain ⟨x0, x1⟩ := hcA _ huy
    clear hn2 hn2' hu2
    have HP := Lib.hid (NewN.set ⟨HRES.out.upd0 huy, by have := HS.out; omega⟩ (HU0.out.trans0 huy) H2.out)
    clear hcA huy
    have z0 := HP.out.row.cell 0
    go_wp2
    refine bodyPost_ret (v := .agg #[.slice a2 l2 c2]) (by simp [results, Tryz.results36, go_sem, z0]) rfl ?_
    exact ⟨_, rfl, by rw [HQ.out]; exact HP.out.nv, HP.out.upd⟩
  · rw [decide_eq_false hq] at HWH
    have HQ := Lib.hid hq
    clear hq
    go_enter Tryz.func36, Tryz.ntmps36
    go_wp2_with fail
    rw [← HW0.out]
    rw [← HS.out]
    refine (HWH.out _ HU0.out).mono ?_
    rintro e w1 ⟨rfl, huy⟩
    have H2 : Hid (NV w1 (.agg #[.slice d0 m0 e0]) q.den) := by
      have := (HND.out.upd0 HU0.out).upd0 huy
      unfold denN at this
      rw [if_neg HQ.out] at this
      exact this
    obtain ⟨x0, x1⟩ := hcA _ huy
    have hp2' := (HRX.out.upd0 huy).cell 2
    clear hp0 hp1 hp2
    have HP := Lib.hid (NewN.set ⟨HRES.out.upd0 huy, by have := HS.out; omega⟩ (HU0.out.trans0 huy) H2.out)
    clear hcA huy
    have z0 := HP.out.row.cell 0
    go_wp2
    refine bodyPost_ret (v := .agg #[.slice d0 m0 e0]) (by simp [results, Tryz.results36, go_sem, z0]) rfl ?_
    exact ⟨_, rfl, HP.out.nv, HP.out.upd⟩

end Go.Proofs.YtoklmfmoblkfcaaGreatDoor
