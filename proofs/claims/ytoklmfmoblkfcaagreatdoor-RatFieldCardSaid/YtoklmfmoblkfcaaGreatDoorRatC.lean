/- Fractions (layer 7): Cmp. -/
import Derived.Test.YtoklmfmoblkfcaaGreatDoorRatL
import Derived.Test.YtoklmfmoblkfcaaGreatDoorRatD
import Derived.Test.YtoklmfmoblkfcaaGreatDoorRatT
import Derived.Deep.DeepCutAuto
namespace Go.Proofs.YtoklmfmoblkfcaaGreatDoor
open Go.RowKit Go.Proofs.Tm
set_option linter.unusedVariables false
set_option linter.unusedSimpArgs false
set_option maxRecDepth 20000

set_option maxHeartbeats 1600000 in
theorem rcmpq_any (u v : Value) (x y : Rat) (w : World) (hu : RV w u x) (hv : RV w v y) (hx : QL x 67108864) (hy : QL y 67108864) :
    Calls Tryz.prog 39 #[u, v] w (fun e w' => e = .returned (.int .i64 (cmpR x y)) ∧ Upd [] w w') := by
  obtain ⟨a0, l0, c0, d0, m0, e0, rfl, hw0', hd0'⟩ := hu.open
  obtain ⟨a1, l1, c1, d1, m1, e1, rfl, hw1', hd1'⟩ := hv.open
  have HT1 : Hid (∀ W t, Upd [] w W → NV W t y.den → Calls Tryz.prog 89 #[.agg #[.bool (decide (x.num < 0)), .slice a0 l0 c0], t] W (RWhole (x.num * (y.den : Int)) W)) := fun W t h ht => times_any _ _ _ _ W (hw0'.upd0 h) ht (by have := hx.1; omega) (by have := hy.2; omega)
  have HT2 : Hid (∀ W t, Upd [] w W → NV W t x.den → Calls Tryz.prog 89 #[.agg #[.bool (decide (y.num < 0)), .slice a1 l1 c1], t] W (RWhole (y.num * (x.den : Int)) W)) := fun W t h ht => times_any _ _ _ _ W (hw1'.upd0 h) ht (by have := hy.1; omega) (by have := hx.2; omega)
  have lt1 : (wds (x.num * (y.den : Int)).natAbs).length ≤ 1099511627776 := by
    rw [Int.natAbs_mul]; have := wds_length_mul x.num.natAbs (y.den : Int).natAbs; have := hx.1; have := hy.2; simp only [Int.natAbs_natCast] at *; omega
  have lt2 : (wds (y.num * (x.den : Int)).natAbs).length ≤ 1099511627776 := by
    rw [Int.natAbs_mul]; have := wds_length_mul y.num.natAbs (x.den : Int).natAbs; have := hy.1; have := hx.2; simp only [Int.natAbs_natCast] at *; omega
  have HWC : Hid (∀ W s t, WV W s (x.num * (y.den : Int)) → WV W t (y.num * (x.den : Int)) → Calls Tryz.prog 23 #[s, t] W (fun e w' => e = .returned (.int .i64 (cmpR x y)) ∧ Upd [] W w')) := fun W s t hs ht => by
    have := wcmp_any _ _ _ _ W hs ht lt1 lt2
    rw [cmpR_eq] at this
    exact this
  have HDX : Hid (∀ W, Upd [] w W → Calls Tryz.prog 36 #[.agg #[.bool (decide (x.num < 0)), .slice a0 l0 c0, .slice d0 m0 e0]] W (RNat x.den W)) := fun W h => den_any _ x W (hu.upd0 h)
  have HDY : Hid (∀ W, Upd [] w W → Calls Tryz.prog 36 #[.agg #[.bool (decide (y.num < 0)), .slice a1 l1 c1, .slice d1 m1 e1]] W (RNat y.den W)) := fun W h => den_any _ y W (hv.upd0 h)
  generalize decide (x.num < 0) = b0 at *
  generalize decide (y.num < 0) = b1 at *
  clear hu hv hx hy hw0' hd0' hw1' hd1' lt1 lt2
  generalize (x.num * (y.den : Int)) = xt at *
  generalize (y.num * (x.den : Int)) = yt at *
  obtain ⟨w0, hw0⟩ : ∃ W, W = ((w.alloc (.cells #[.bool b0, .slice a0 l0 c0, .slice d0 m0 e0] 53)).alloc (.cells #[.bool b1, .slice a1 l1 c1, .slice d1 m1 e1] 53)) := ⟨_, rfl⟩
  obtain ⟨S, hS⟩ : ∃ s, s = w.heap.size := ⟨_, rfl⟩
  obtain ⟨hu0, r0, r1, hz0⟩ := rows2 w #[.bool b0, .slice a0 l0 c0, .slice d0 m0 e0] #[.bool b1, .slice a1 l1 c1, .slice d1 m1 e1] 53 53 w0 hw0 S hS
  have HU0 := Lib.hid hu0
  have HW0 := Lib.hid hw0
  have HS := Lib.hid hS
  have HZ0 := Lib.hid hz0
  have HR0 := Lib.hid r0
  have HR1 := Lib.hid r1
  have hrf : Upd [] w0 w0 := Upd.refl _ _
  clear hw0 hS hu0 r0 r1 hz0
  have HC : Hid (∀ W, Upd [] w0 W → W.cell? ⟨S, 0, none⟩ = some (.bool b0) ∧ W.cell? ⟨S, 1, none⟩ = some (.slice a0 l0 c0) ∧ W.cell? ⟨S, 2, none⟩ = some (.slice d0 m0 e0) ∧ W.cell? ⟨S + 1, 0, none⟩ = some (.bool b1) ∧ W.cell? ⟨S + 1, 1, none⟩ = some (.slice a1 l1 c1) ∧ W.cell? ⟨S + 1, 2, none⟩ = some (.slice d1 m1 e1) ∧ Upd [] w0 W) := fun W h =>
    ⟨(HR0.out.upd h (by simp <;> omega)).cell 0, (HR0.out.upd h (by simp <;> omega)).cell 1, (HR0.out.upd h (by simp <;> omega)).cell 2, (HR1.out.upd h (by simp <;> omega)).cell 0, (HR1.out.upd h (by simp <;> omega)).cell 1, (HR1.out.upd h (by simp <;> omega)).cell 2, h⟩
  go_enter Tryz.func39, Tryz.ntmps39
  go_wp2_with fail
  rw [← HW0.out]
  rw [← HS.out]
  go_region_held3 (fun W => W.cell? ⟨S, 0, none⟩ = some (.bool b0) ∧ W.cell? ⟨S, 1, none⟩ = some (.slice a0 l0 c0) ∧ W.cell? ⟨S, 2, none⟩ = some (.slice d0 m0 e0) ∧ W.cell? ⟨S + 1, 0, none⟩ = some (.bool b1) ∧ W.cell? ⟨S + 1, 1, none⟩ = some (.slice a1 l1 c1) ∧ W.cell? ⟨S + 1, 2, none⟩ = some (.slice d1 m1 e1) ∧ Upd [] w0 W)
    ((refine HC.out _ ?_; repeat (first | (with_reducible refine Upd.setCell ?_ (.inr hrk.lo) _) | (with_reducible refine Upd.setCell ?_ (.inr huy.size) _) | (with_reducible exact huy) | (with_reducible exact hrf) | (with_reducible apply Upd.drew) | (with_reducible apply Upd.alloc))))
    (first
      | (go_at_call 36; (with_reducible refine (HDY.out _ (HU0.out.trans0 (by repeat (first | exact huy | exact hrf | apply Upd.drew | apply Upd.alloc)))).mono ?_); rintro e wz ⟨vA, rfl, hnA, hu20⟩;  have HNA := Lib.hid hnA; clear hnA; have huz : Upd [] w0 wz := Upd.trans0 (by repeat (first | exact huy | exact hrf | apply Upd.drew | apply Upd.alloc)) hu20; (try clear huy); clear hu20; have huy := huz; clear huz)
      | (go_at_call 89; (with_reducible refine (HT1.out _ _ (HU0.out.trans0 (by repeat (first | exact huy | exact hrf | apply Upd.drew | apply Upd.alloc))) (by first | exact HNA.out | exact HNA.out.upd0 ((Upd.refl _ _).alloc _))).mono ?_); rintro e wz ⟨vB, rfl, hvB, hu20⟩; have HNA := Lib.hid (HNA.out.upd0 (by first | exact hu20 | exact Upd.al hu20)); have HVB := Lib.hid hvB; clear hvB; have huz : Upd [] w0 wz := Upd.trans0 (by repeat (first | exact huy | exact hrf | apply Upd.drew | apply Upd.alloc)) hu20; (try clear huy); clear hu20; have huy := huz; clear huz)
      | (go_at_call 36; (with_reducible refine (HDX.out _ (HU0.out.trans0 (by repeat (first | exact huy | exact hrf | apply Upd.drew | apply Upd.alloc)))).mono ?_); rintro e wz ⟨vC, rfl, hnC, hu20⟩; have HNA := Lib.hid (HNA.out.upd0 (by first | exact hu20 | exact Upd.al hu20)); have HVB := Lib.hid (HVB.out.upd0 (by first | exact hu20 | exact Upd.al hu20)); have HNC := Lib.hid hnC; clear hnC; have huz : Upd [] w0 wz := Upd.trans0 (by repeat (first | exact huy | exact hrf | apply Upd.drew | apply Upd.alloc)) hu20; (try clear huy); clear hu20; have huy := huz; clear huz)
      | (go_at_call 89; (with_reducible refine (HT2.out _ _ (HU0.out.trans0 (by repeat (first | exact huy | exact hrf | apply Upd.drew | apply Upd.alloc))) (by first | exact HNC.out | exact HNC.out.upd0 ((Upd.refl _ _).alloc _))).mono ?_); rintro e wz ⟨vD, rfl, hvD, hu20⟩; have HNA := Lib.hid (HNA.out.upd0 (by first | exact hu20 | exact Upd.al hu20)); have HVB := Lib.hid (HVB.out.upd0 (by first | exact hu20 | exact Upd.al hu20)); have HNC := Lib.hid (HNC.out.upd0 (by first | exact hu20 | exact Upd.al hu20)); have HVD := Lib.hid hvD; clear hvD; have huz : Upd [] w0 wz := Upd.trans0 (by repeat (first | exact huy | exact hrf | apply Upd.drew | apply Upd.alloc)) hu20; (try clear huy); clear hu20; have huy := huz; clear huz)
      | (go_at_call 23; (with_reducible refine (HWC.out _ _ _ (by first | exact HVB.out | exact HVB.out.upd0 ((Upd.refl _ _).alloc _)) (by first | exact HVD.out | exact HVD.out.upd0 ((Upd.refl _ _).alloc _))).mono ?_); rintro e wz ⟨rfl, hu20⟩; have HNA := Lib.hid (HNA.out.upd0 (by first | exact hu20 | exact Upd.al hu20)); have HVB := Lib.hid (HVB.out.upd0 (by first | exact hu20 | exact Upd.al hu20)); have HNC := Lib.hid (HNC.out.upd0 (by first | exact hu20 | exact Upd.al hu20)); have HVD := Lib.hid (HVD.out.upd0 (by first | exact hu20 | exact Upd.al hu20));  have huz : Upd [] w0 wz := Upd.trans0 (by repeat (first | exact huy | exact hrf | apply Upd.drew | apply Upd.alloc)) hu20; (try clear huy); clear hu20; have huy := huz; clear huz))
  all_goals
    go_wp2
    go_ret
    exact ⟨rfl, HU0.out.trans0 huy⟩

end Go.Proofs.YtoklmfmoblkfcaaGreatDoor
