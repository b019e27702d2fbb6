/- The statements' own fixed fact of layer 3 (awake). -/
import Derived.Test.YtbbbfkcpkcfndaaPackRW
namespace Go.Proofs.Ytbbbfkcpkcfndaa
open Go.RowKit Go.Proofs.Tm
set_option linter.unusedVariables false
set_option maxRecDepth 20000

set_option maxHeartbeats 1600000 in
theorem awake3 (w : World) : Calls Try.prog 52 #[] w fun e w' => e = .returned (.bool true) ∧ Upd [] w w' := by
  go_enter Try.func52, Try.ntmps52
  go_wp2_with fail
  refine (vnew_ok 3 3 w (by decide) (by decide) (by decide)).mono ?_
  rintro e w1 ⟨p, rfl, g, hv, hu, hp, hg⟩
  have hpg := hv.lt
  have hpg2 := hv.glt
  have S1 := Lib.hid (vset_ok p g 3 [0, 0, 0] w1 0 1 hv (by decide) (by decide))
  have HU := Lib.hid hu
  clear hv hu
  go_wp2_with fail
  refine S1.out.mono ?_
  rintro e w2 ⟨rfl, hv2, hu2⟩
  have S2 := Lib.hid (vset_ok p g 3 [1, 0, 0] w2 1 5 hv2 (by decide) (by decide))
  have HU2 := Lib.hid (HU.out.trans hu2 (by intro x hx; simp at hx; subst hx; right; exact hg))
  clear hv2 hu2
  go_wp2_with fail
  refine S2.out.mono ?_
  rintro e w3 ⟨rfl, hv3, hu3⟩
  have S3 := Lib.hid (vset_ok p g 3 [1, 5, 0] w3 2 7 hv3 (by decide) (by decide))
  have HU3 := Lib.hid (HU2.out.trans hu3 (by intro x hx; simp at hx; subst hx; right; exact hg))
  clear hv3 hu3
  go_wp2_with fail
  refine S3.out.mono ?_
  rintro e w4 ⟨rfl, hv4, hu4⟩
  have hv4' : Vec w4 p g 3 [1, 5, 7] := hv4
  have HU4 := Lib.hid (HU3.out.trans hu4 (by intro x hx; simp at hx; subst hx; right; exact hg))
  have hl4 := hv4'.lt
  have hl4' := hv4'.glt
  have HW := Lib.hid (vwrite_any p g 3 [1, 5, 7] w4.heap.size none [] _ (hv4'.upd0 ((Upd.refl _ _).alloc _)) (Wr.zero w4) (by omega) (by omega) (by simp) (by simp))
  have HV4 := Lib.hid hv4'
  clear hv4 hu4 hv4'
  go_wp2_with fail
  refine HW.out.mono ?_
  rintro e w5 ⟨rfl, g5, hw5, hu5, hf5⟩
  have HW5 := Lib.hid hw5
  have HU5 : Hid (Upd [] w4 w5) := ((Upd.refl [] w4).alloc _).trans hu5 (by intro x hx; simp at hx; subst hx; exact .inr (Nat.le_refl _))
  have HG := Lib.hid (vget_ok p g 3 [1, 5, 7] w5 1 (HV4.out.upd0 HU5.out) (by decide))
  clear hw5 hu5 hf5
  go_wp2_with fail
  refine HG.out.mono ?_
  rintro e w6 ⟨rfl, n, rfl⟩
  have hlen := len_any _ _ _ (w5.drewN n) (HW5.out.upd ((Upd.refl [] _).drewN n) (by simp) (by simp))
  rw [show (([] : List Bool) ++ allBits 3 [1, 5, 7]).length = 9 by decide] at hlen
  have HL := Lib.hid hlen
  have HO := Lib.hid (vset_over p g 3 [1, 5, 7] (w5.drewN n) 0 8 (HV4.out.upd0 (HU5.out.drewN n)) (by decide) (by decide))
  clear hlen
  go_wp2_with fail
  refine HL.out.mono ?_
  rintro e w7 ⟨rfl, rfl⟩
  go_wp2_with fail
  refine HO.out.mono ?_
  rintro e w8 ⟨rfl, rfl⟩
  go_wp2
  go_ret
  exact ⟨rfl, HU4.out.trans0 (HU5.out.drewN n)⟩
end Go.Proofs.Ytbbbfkcpkcfndaa
