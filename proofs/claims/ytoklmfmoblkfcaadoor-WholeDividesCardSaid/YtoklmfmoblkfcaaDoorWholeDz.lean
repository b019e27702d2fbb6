/- Whole numbers (layer 6): DivMod by 0. -/
import Derived.Test.YtoklmfmoblkfcaaDoorWholeD
namespace Go.Proofs.YtoklmfmoblkfcaaDoor
open Go.RowKit Go.Proofs.Tm
set_option linter.unusedVariables false
set_option linter.unusedSimpArgs false
set_option maxRecDepth 20000

set_option maxHeartbeats 1600000 in
theorem wdm_zero (u v : Value) (x y : Int) (w : World) (hu : WV w u x) (hv : WV w v y) (hy : y = 0) :
    Calls Tryd.prog 20 #[u, v] w (RWhole2E 0 0 7 w) := by
  obtain ⟨a0, l0, c0, rfl, hn0⟩ := hu.open
  obtain ⟨a1, l1, c1, rfl, hn1⟩ := hv.open
  have hn1' : NV w (.agg #[.slice a1 l1 c1]) 0 := by rw [hy] at hn1; exact hn1
  have HD : Hid (∀ W, Upd [] w W → Calls Tryd.prog 37 #[.agg #[.slice a0 l0 c0], .agg #[.slice a1 l1 c1]] W (RNat2E 0 0 7 W)) := fun W h => divmod_zero _ _ _ W (hn0.upd0 h) (hn1'.upd0 h)
  generalize decide (x < 0) = b0 at *
  generalize decide (y < 0) = b1 at *
  clear hu hv hn0 hn1 hn1' hy
  obtain ⟨w0, hw0⟩ : ∃ W, W = ((((w.alloc (.cells #[.bool b0, .slice a0 l0 c0] 29)).alloc (.cells #[.bool b1, .slice a1 l1 c1] 29)).alloc (.cells #[.bool false, .slice none 0 0] 29)).alloc (.cells #[.bool false, .slice none 0 0] 29)) := ⟨_, rfl⟩
  obtain ⟨S, hS⟩ : ∃ s, s = w.heap.size := ⟨_, rfl⟩
  obtain ⟨hu0, r0, r1, r2, r3, hz0⟩ := rows4 w #[.bool b0, .slice a0 l0 c0] #[.bool b1, .slice a1 l1 c1] #[.bool false, .slice none 0 0] #[.bool false, .slice none 0 0] 29 29 29 29 w0 hw0 S hS
  have HU0 := Lib.hid hu0
  have HW0 := Lib.hid hw0
  have HS := Lib.hid hS
  have HZ0 := Lib.hid hz0
  have HR2 := Lib.hid r2
  have HR3 := Lib.hid r3
  have hp0 := r0.cell 0
  have hp1 := r0.cell 1
  have hp2 := r1.cell 0
  have hp3 := r1.cell 1
  clear hw0 hS hu0 r0 r1 r2 r3 hz0
  go_enter Tryd.func20, Tryd.ntmps20
  go_wp2_with fail
  rw [← HW0.out]
  rw [← HS.out]
  refine (HD.out _ HU0.out).mono ?_
  rintro e w1 ⟨v1, v2, rfl, hn5, hn6, hu1⟩
  obtain ⟨a5, l5, c5, rfl, _⟩ := nvOpen hn5
  obtain ⟨a6, l6, c6, rfl, _⟩ := nvOpen hn6
  obtain ⟨w2, hw2⟩ : ∃ W, W = (w1.alloc (.cells #[.slice a5 l5 c5] 27)).alloc (.cells #[.slice a6 l6 c6] 27) := ⟨_, rfl⟩
  have hu2 : Upd [] w1 w2 := by rw [hw2]; exact ((Upd.refl _ _).alloc _).alloc _
  have huy := hu1.trans0 hu2
  have q2 := HR2.out.upd0 huy
  have q3 := HR3.out.upd0 huy
  have x0 := q2.cell 0
  have x1 := q2.cell 1
  have x4 := q2.frozen 0
  have x5 := q2.frozen 1
  have x6 := q3.cell 0
  have x7 := q3.cell 1
  have x8 := q3.frozen 0
  have x9 := q3.frozen 1
  have hS1 : S + 1 + 1 ≠ S + 1 + 1 + 1 := by omega
  have hS2 : S + 1 + 1 + 1 ≠ S + 1 + 1 := by omega
  have HP := Lib.hid (put2W hS1 (by have := HS.out; omega) (by have := HS.out; omega) q2 q3 (HU0.out.trans0 huy) (wv_zero w2) (wv_zero w2))
  have HP2 := Lib.hid (put2W hS2 (by have := HS.out; omega) (by have := HS.out; omega) q3 q2 (HU0.out.trans0 huy) (wv_zero w2) (wv_zero w2))
  rw [hw2] at x0 x1 x4 x5 x6 x7 x8 x9
  have HW2 := Lib.hid hw2
  clear hw2 hu2 huy q2 q3 hn5 hn6 hu1 hp0 hp1 hp2 hp3
  go_wp2_with fail
  all_goals
    go_wp2
    rw [← HW2.out]
    first
      | (have z0 := HP.out.ri.cell 0
         have z1 := HP.out.ri.cell 1
         have z2 := HP.out.rj.cell 0
         have z3 := HP.out.rj.cell 1
         refine bodyPost_ret (v := .tuple #[.agg #[.bool false, .slice none 0 0], .agg #[.bool false, .slice none 0 0], .int .i64 7]) (by simp [results, Tryd.results20, go_sem, z0, z1, z2, z3]) rfl ?_
         exact ⟨_, _, rfl, HP.out.vi, HP.out.vj, HP.out.u⟩)
      | (have z0 := HP2.out.ri.cell 0
         have z1 := HP2.out.ri.cell 1
         have z2 := HP2.out.rj.cell 0
         have z3 := HP2.out.rj.cell 1
         refine bodyPost_ret (v := .tuple #[.agg #[.bool false, .slice none 0 0], .agg #[.bool false, .slice none 0 0], .int .i64 7]) (by simp [results, Tryd.results20, go_sem, z0, z1, z2, z3]) rfl ?_
         exact ⟨_, _, rfl, HP2.out.vj, HP2.out.vi, HP2.out.u⟩)

end Go.Proofs.YtoklmfmoblkfcaaDoor
