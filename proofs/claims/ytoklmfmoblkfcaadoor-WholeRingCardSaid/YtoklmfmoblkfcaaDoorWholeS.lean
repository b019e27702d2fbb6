/- Whole numbers (layer 6): Sub. -/
import Derived.Test.YtoklmfmoblkfcaaDoorWholeA
namespace Go.Proofs.YtoklmfmoblkfcaaDoor
open Go.RowKit Go.Proofs.Tm
set_option linter.unusedVariables false
set_option linter.unusedSimpArgs false
set_option maxRecDepth 20000

set_option maxHeartbeats 1600000 in
theorem wsub_any (u v : Value) (x y : Int) (w : World) (hu : WV w u x) (hv : WV w v y) (hlx : (wds x.natAbs).length ≤ 1099511627776) (hly : (wds y.natAbs).length ≤ 1099511627776) :
    Calls Tryd.prog 13 #[u, v] w (RWhole (x - y) w) := by
  obtain ⟨a0, l0, c0, rfl, _⟩ := hu.open
  obtain ⟨a1, l1, c1, rfl, _⟩ := hv.open
  obtain ⟨yn, hyn⟩ : ∃ z : Int, z = -y := ⟨_, rfl⟩
  have HMI : Hid (∀ W, Upd [] w W → Calls Tryd.prog 17 #[.agg #[.bool (decide (y < 0)), .slice a1 l1 c1]] W (RWhole yn W)) := fun W h => by rw [hyn]; exact wminus_any _ _ W (hv.upd0 h)
  have HAD : Hid (∀ W s, Upd [] w W → WV W s yn → Calls Tryd.prog 11 #[.agg #[.bool (decide (x < 0)), .slice a0 l0 c0], s] W (RWhole (x - y) W)) := fun W s h hs => by
    have := wadd_any _ _ _ _ W (hu.upd0 h) hs hlx (by rw [hyn, Int.natAbs_neg]; exact hly)
    rw [show x + yn = x - y by omega] at this
    exact this
  generalize decide (x < 0) = b0 at *
  generalize decide (y < 0) = b1 at *
  clear hu hv hlx hly hyn
  obtain ⟨w0, hw0⟩ : ∃ W, W = (((w.alloc (.cells #[.bool b0, .slice a0 l0 c0] 29)).alloc (.cells #[.bool b1, .slice a1 l1 c1] 29)).alloc (.cells #[.bool false, .slice none 0 0] 29)) := ⟨_, rfl⟩
  obtain ⟨S, hS⟩ : ∃ s, s = w.heap.size := ⟨_, rfl⟩
  obtain ⟨hu0, r0, r1, r2, hz0⟩ := rows3 w #[.bool b0, .slice a0 l0 c0] #[.bool b1, .slice a1 l1 c1] #[.bool false, .slice none 0 0] 29 29 29 w0 hw0 S hS
  have HU0 := Lib.hid hu0
  have HW0 := Lib.hid hw0
  have HS := Lib.hid hS
  have HZ0 := Lib.hid hz0
  have HC : Hid (∀ W, Upd [S + 1 + 1] w0 W → W.cell? ⟨S, 0, none⟩ = some (.bool b0) ∧ W.cell? ⟨S, 1, none⟩ = some (.slice a0 l0 c0) ∧ W.cell? ⟨S + 1, 0, none⟩ = some (.bool b1) ∧ W.cell? ⟨S + 1, 1, none⟩ = some (.slice a1 l1 c1) ∧ Upd [S + 1 + 1] w0 W) := fun W h =>
    ⟨(r0.upd h (by simp <;> omega)).cell 0, (r0.upd h (by simp <;> omega)).cell 1, (r1.upd h (by simp <;> omega)).cell 0, (r1.upd h (by simp <;> omega)).cell 1, h⟩
  have hcA : ∀ W, Upd [] w0 W → W.cell? ⟨S + 1 + 1, 0, none⟩ = some (.bool false) ∧ W.cell? ⟨S + 1 + 1, 1, none⟩ = some (.slice none 0 0) ∧ W.frozen? ⟨S + 1 + 1, 0, none⟩ = false ∧ W.frozen? ⟨S + 1 + 1, 1, none⟩ = false := fun W h => ⟨(r2.upd0 h).cell 0, (r2.upd0 h).cell 1, (r2.upd0 h).frozen 0, (r2.upd0 h).frozen 1⟩
  have HRES := Lib.hid r2
  have hrf : Upd [] w0 w0 := Upd.refl _ _
  clear hw0 hS hu0 r0 r1 r2 hz0
  go_enter Tryd.func13, Tryd.ntmps13
  go_wp2_with fail
  rw [← HW0.out]
  rw [← HS.out]
  go_region_held3 (fun W => W.cell? ⟨S, 0, none⟩ = some (.bool b0) ∧ W.cell? ⟨S, 1, none⟩ = some (.slice a0 l0 c0) ∧ W.cell? ⟨S + 1, 0, none⟩ = some (.bool b1) ∧ W.cell? ⟨S + 1, 1, none⟩ = some (.slice a1 l1 c1) ∧ Upd [S + 1 + 1] w0 W)
    ((refine HC.out _ ?_; repeat (first | (with_reducible refine Upd.setCell ?_ (.inl (by simp)) _) | (with_reducible exact huy.mono (by simp)) | (with_reducible exact hrf.mono (by simp)) | (with_reducible apply Upd.drew) | (with_reducible apply Upd.alloc))))
    (first
      | (go_at_call 17; (with_reducible refine (HMI.out _ (HU0.out.trans0 (by repeat (first | exact huy | exact hrf | apply Upd.drew | apply Upd.alloc)))).mono ?_); rintro e wz ⟨vM, rfl, hvM, hu20⟩;  have HVM := Lib.hid hvM; clear hvM; have huz : Upd [] w0 wz := Upd.trans0 (by repeat (first | exact huy | exact hrf | apply Upd.drew | apply Upd.alloc)) hu20; (try clear huy); clear hu20; have huy := huz; clear huz)
      | (go_at_call 11; (with_reducible refine (HAD.out _ _ (HU0.out.trans0 (by repeat (first | exact huy | exact hrf | apply Upd.drew | apply Upd.alloc))) (by first | exact HVM.out | exact HVM.out.upd0 ((Upd.refl _ _).alloc _))).mono ?_); rintro e wz ⟨vK, rfl, hvK, hu20⟩; have HVM := Lib.hid (HVM.out.upd0 (by first | exact hu20 | exact Upd.al hu20)); obtain ⟨aK, lK, cK, rfl, _⟩ := hvK.open; have HK := Lib.hid hvK; clear hvK; have huz : Upd [] w0 wz := Upd.trans0 (by repeat (first | exact huy | exact hrf | apply Upd.drew | apply Upd.alloc)) hu20; (try clear huy); clear hu20; have huy := huz; clear huz; obtain ⟨x0, x1, x2, x3⟩ := hcA _ huy))
  all_goals
    have HP := Lib.hid (NewW.set ⟨HRES.out.upd0 huy, by have := HS.out; omega⟩ (HU0.out.trans0 huy) HK.out)
    clear hcA huy
    generalize decide (x - y < 0) = pK at *
    have z0 := HP.out.row.cell 0
    have z1 := HP.out.row.cell 1
    go_wp2
    refine bodyPost_ret (v := .agg #[.bool pK, .slice aK lK cK]) (by simp [results, Tryd.results13, go_sem, z0, z1]) rfl ?_
    exact ⟨_, rfl, HP.out.wv, HP.out.upd⟩

end Go.Proofs.YtoklmfmoblkfcaaDoor
