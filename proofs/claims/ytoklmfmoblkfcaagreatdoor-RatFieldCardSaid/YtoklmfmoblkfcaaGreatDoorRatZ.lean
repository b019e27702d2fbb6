/- Fractions (layer 7): Div by 0, Frac by 0, Pow below 0. -/
import Derived.Test.YtoklmfmoblkfcaaGreatDoorRatL
import Derived.Test.YtoklmfmoblkfcaaGreatDoorRatD
import Derived.Test.YtoklmfmoblkfcaaGreatDoorAc
namespace Go.Proofs.YtoklmfmoblkfcaaGreatDoor
open Go.RowKit Go.Proofs.Tm
set_option linter.unusedVariables false
set_option linter.unusedSimpArgs false
set_option maxRecDepth 20000

theorem rv_zero (w : World) : RV w (.agg #[.bool false, .slice none 0 0, .slice none 0 0]) 0 := ⟨_, _, rfl, NV.zero _, NV.zero _⟩

set_option maxHeartbeats 800000 in
theorem rdivq_zero (u v : Value) (x y : Rat) (w : World) (hu : RV w u x) (hv : RV w v y) (hy : y = 0) :
    Calls Tryz.prog 42 #[u, v] w (RRatE 0 7 w) := by
  obtain ⟨a0, l0, c0, d0, m0, e0, rfl, hw0', hd0'⟩ := hu.open
  obtain ⟨a1, l1, c1, d1, m1, e1, rfl, hw1', hd1'⟩ := hv.open
  subst hy
  have HAY : Hid (∀ W, Upd [] w W → Calls Tryz.prog 19 #[.agg #[.bool (decide ((0 : Rat).num < 0)), .slice a1 l1 c1]] W (RNat 0 W)) := fun W h => wabs_any _ _ W (hw1'.upd0 h)
  have HZE : Hid (∀ W s, NV W s 0 → Calls Tryz.prog 56 #[s] W (fun e w' => e = .returned (.bool true) ∧ Upd [] W w')) := fun W s hs => zero_any _ _ W hs
  generalize decide (x.num < 0) = b0 at *
  generalize decide ((0 : Rat).num < 0) = b1 at *
  clear hu hv hw0' hd0' hw1' hd1'
  obtain ⟨w0, hw0⟩ : ∃ W, W = (((w.alloc (.cells #[.bool b0, .slice a0 l0 c0, .slice d0 m0 e0] 53)).alloc (.cells #[.bool b1, .slice a1 l1 c1, .slice d1 m1 e1] 53)).alloc (.cells #[.bool false, .slice none 0 0, .slice none 0 0] 53)) := ⟨_, rfl⟩
  obtain ⟨S, hS⟩ : ∃ s, s = w.heap.size := ⟨_, rfl⟩
  obtain ⟨hu0, r0, r1, r2, hz0⟩ := rows3 w #[.bool b0, .slice a0 l0 c0, .slice d0 m0 e0] #[.bool b1, .slice a1 l1 c1, .slice d1 m1 e1] #[.bool false, .slice none 0 0, .slice none 0 0] 53 53 53 w0 hw0 S hS
  have HU0 := Lib.hid hu0
  have HW0 := Lib.hid hw0
  have HS := Lib.hid hS
  have HZ0 := Lib.hid hz0
  have HR1 := Lib.hid r1
  have HR2 := Lib.hid r2
  have hp0 := r1.cell 0
  have hp1 := r1.cell 1
  clear hw0 hS hu0 r0 r1 r2 hz0
  go_enter Tryz.func42, Tryz.ntmps42
  go_wp2_with fail
  rw [← HW0.out]
  rw [← HS.out]
  refine (HAY.out _ HU0.out).mono ?_
  rintro e w1 ⟨v1, rfl, hn1, hu1⟩
  have HV1 := Lib.hid hu1
  have HN1 := Lib.hid hn1
  clear hu1 hn1 hp0 hp1
  go_wp2_with fail
  refine (HZE.out _ _ HN1.out).mono ?_
  rintro e w2 ⟨rfl, hu2⟩
  have huy := HV1.out.trans0 hu2
  have hr := HR2.out.upd0 huy
  have x0 := hr.cell 0
  have x1 := hr.cell 1
  have x2 := hr.cell 2
  have x3 := hr.frozen 0
  have x4 := hr.frozen 1
  have x5 := hr.frozen 2
  have HP := Lib.hid (NewR.set ⟨hr, by have := HS.out; omega⟩ (HU0.out.trans0 huy) (rv_zero w2))
  clear hr huy hu2
  have z0 := HP.out.row.cell 0
  have z1 := HP.out.row.cell 1
  have z2 := HP.out.row.cell 2
  go_wp2
  refine bodyPost_ret (v := .tuple #[.agg #[.bool false, .slice none 0 0, .slice none 0 0], .int .i64 7]) (by simp [results, Tryz.results42, go_sem, z0, z1, z2]) rfl ?_
  exact ⟨_, rfl, HP.out.rv, HP.out.upd⟩

set_option maxHeartbeats 800000 in
theorem frac_zero (u v : Value) (p : Int) (w : World) (hu : WV w u p) (hv : WV w v 0) :
    Calls Tryz.prog 33 #[u, v] w (RRatE 0 7 w) := by
  obtain ⟨a0, l0, c0, rfl, _⟩ := hu.open
  obtain ⟨a1, l1, c1, rfl, _⟩ := hv.open
  have HAY : Hid (∀ W, Upd [] w W → Calls Tryz.prog 19 #[.agg #[.bool (decide ((0 : Int) < 0)), .slice a1 l1 c1]] W (RNat 0 W)) := fun W h => wabs_any _ _ W (hv.upd0 h)
  have HZE : Hid (∀ W s, NV W s 0 → Calls Tryz.prog 56 #[s] W (fun e w' => e = .returned (.bool true) ∧ Upd [] W w')) := fun W s hs => zero_any _ _ W hs
  generalize decide (p < 0) = b0 at *
  generalize decide ((0 : Int) < 0) = b1 at *
  clear hu hv
  obtain ⟨w0, hw0⟩ : ∃ W, W = (((w.alloc (.cells #[.bool b0, .slice a0 l0 c0] 29)).alloc (.cells #[.bool b1, .slice a1 l1 c1] 29)).alloc (.cells #[.bool false, .slice none 0 0, .slice none 0 0] 53)) := ⟨_, rfl⟩
  obtain ⟨S, hS⟩ : ∃ s, s = w.heap.size := ⟨_, rfl⟩
  obtain ⟨hu0, r0, r1, r2, hz0⟩ := rows3 w #[.bool b0, .slice a0 l0 c0] #[.bool b1, .slice a1 l1 c1] #[.bool false, .slice none 0 0, .slice none 0 0] 29 29 53 w0 hw0 S hS
  have HU0 := Lib.hid hu0
  have HW0 := Lib.hid hw0
  have HS := Lib.hid hS
  have HZ0 := Lib.hid hz0
  have HR1 := Lib.hid r1
  have HR2 := Lib.hid r2
  have hp0 := r1.cell 0
  have hp1 := r1.cell 1
  clear hw0 hS hu0 r0 r1 r2 hz0
  go_enter Tryz.func33, Tryz.ntmps33
  go_wp2_with fail
  rw [← HW0.out]
  rw [← HS.out]
  refine (HAY.out _ HU0.out).mono ?_
  rintro e w1 ⟨v1, rfl, hn1, hu1⟩
  have HV1 := Lib.hid hu1
  have HN1 := Lib.hid hn1
  clear hu1 hn1 hp0 hp1
  go_wp2_with fail
  refine (HZE.out _ _ HN1.out).mono ?_
  rintro e w2 ⟨rfl, hu2⟩
  have huy := HV1.out.trans0 hu2
  have hr := HR2.out.upd0 huy
  have x0 := hr.cell 0
  have x1 := hr.cell 1
  have x2 := hr.cell 2
  have x3 := hr.frozen 0
  have x4 := hr.frozen 1
  have x5 := hr.frozen 2
  have HP := Lib.hid (NewR.set ⟨hr, by have := HS.out; omega⟩ (HU0.out.trans0 huy) (rv_zero w2))
  clear hr huy hu2
  have z0 := HP.out.row.cell 0
  have z1 := HP.out.row.cell 1
  have z2 := HP.out.row.cell 2
  go_wp2
  refine bodyPost_ret (v := .tuple #[.agg #[.bool false, .slice none 0 0, .slice none 0 0], .int .i64 7]) (by simp [results, Tryz.results33, go_sem, z0, z1, z2]) rfl ?_
  exact ⟨_, rfl, HP.out.rv, HP.out.upd⟩

end Go.Proofs.YtoklmfmoblkfcaaGreatDoor
