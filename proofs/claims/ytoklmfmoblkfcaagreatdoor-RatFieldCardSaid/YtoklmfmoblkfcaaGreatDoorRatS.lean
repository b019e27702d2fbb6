/- Fractions (layer 7): Sub. -/
import Derived.Test.YtoklmfmoblkfcaaGreatDoorRatA
namespace Go.Proofs.YtoklmfmoblkfcaaGreatDoor
open Go.RowKit Go.Proofs.Tm
set_option linter.unusedVariables false
set_option linter.unusedSimpArgs false
set_option maxRecDepth 20000

set_option maxHeartbeats 1600000 in
theorem rsubq_any (u v : Value) (x y : Rat) (w : World) (hu : RV w u x) (hv : RV w v y) (hx : QL x 67108864) (hy : QL y 67108864) :
    Calls Tryz.prog 30 #[u, v] w (RRat (x - y) w) := by
  obtain ⟨a0, l0, c0, d0, m0, e0, rfl, hw0', hd0'⟩ := hu.open
  obtain ⟨a1, l1, c1, d1, m1, e1, rfl, hw1', hd1'⟩ := hv.open
  have hql := ql_neg hy
  obtain ⟨zn, hzn⟩ : ∃ z : Int, z = -y.num := ⟨_, rfl⟩
  have HMI : Hid (∀ W, Upd [] w W → Calls Tryz.prog 79 #[.agg #[.bool (decide (y.num < 0)), .slice a1 l1 c1]] W (RWhole zn W)) := fun W h => by rw [hzn]; exact wminus_any _ _ W (hw1'.upd0 h)
  have HAD : Hid (∀ W s, Upd [] w W → RV W s (-y) → Calls Tryz.prog 43 #[.agg #[.bool (decide (x.num < 0)), .slice a0 l0 c0, .slice d0 m0 e0], s] W (RRat (x - y) W)) := fun W s h hs => by rw [Rat.sub_eq_add_neg]; exact raddq_any _ _ _ _ W (hu.upd0 h) hs hx hql
  have HRN : Hid (∀ W b a l c, Upd [] w W → WV W (.agg #[.bool b, .slice a l c]) zn → RV W (.agg #[.bool b, .slice a l c, .slice d1 m1 e1]) (-y)) := fun W b a l c h hw => by
    obtain ⟨s, he, hz⟩ := hw
    simp only [Value.agg.injEq, Array.mk.injEq, List.cons.injEq, and_true, Value.bool.injEq] at he
    obtain ⟨rfl, rfl⟩ := he
    rw [hzn] at hz ⊢
    exact ⟨_, _, by rw [Rat.neg_num], by rw [Rat.neg_num]; exact hz, by have h2 := hd1'.upd0 h; unfold denN at h2 ⊢; rw [Rat.neg_den]; exact h2⟩
  generalize decide (x.num < 0) = b0 at *
  generalize decide (y.num < 0) = b1 at *
  clear hu hv hx hy hw0' hd0' hw1' hd1' hql hzn
  obtain ⟨w0, hw0⟩ : ∃ W, W = (((w.alloc (.cells #[.bool b0, .slice a0 l0 c0, .slice d0 m0 e0] 53)).alloc (.cells #[.bool b1, .slice a1 l1 c1, .slice d1 m1 e1] 53)).alloc (.cells #[.bool false, .slice none 0 0, .slice none 0 0] 53)) := ⟨_, rfl⟩
  obtain ⟨S, hS⟩ : ∃ s, s = w.heap.size := ⟨_, rfl⟩
  obtain ⟨hu0, r0, r1, r2, hz0⟩ := rows3 w #[.bool b0, .slice a0 l0 c0, .slice d0 m0 e0] #[.bool b1, .slice a1 l1 c1, .slice d1 m1 e1] #[.bool false, .slice none 0 0, .slice none 0 0] 53 53 53 w0 hw0 S hS
  have HU0 := Lib.hid hu0
  have HW0 := Lib.hid hw0
  have HS := Lib.hid hS
  have HZ0 := Lib.hid hz0
  have HR0 := Lib.hid r0
  have HR1 := Lib.hid r1
  have HRES := Lib.hid r2
  have HUB := Lib.hid HU0.out
  clear hw0 hS hu0 r0 r1 r2 hz0
  go_enter Tryz.func30, Tryz.ntmps30
  go_wp2_with fail
  rw [← HW0.out]
  rw [← HS.out]
  have hrf : Upd [] w0 w0 := Upd.refl _ _
  have HC : Hid (∀ W, Upd [S + 1 + 1] w0 W → W.cell? ⟨S, 0, none⟩ = some (.bool b0) ∧ W.cell? ⟨S, 1, none⟩ = some (.slice a0 l0 c0) ∧ W.cell? ⟨S, 2, none⟩ = some (.slice d0 m0 e0) ∧ W.cell? ⟨S + 1, 0, none⟩ = some (.bool b1) ∧ W.cell? ⟨S + 1, 1, none⟩ = some (.slice a1 l1 c1) ∧ W.cell? ⟨S + 1, 2, none⟩ = some (.slice d1 m1 e1) ∧ Upd [S + 1 + 1] w0 W) := fun W h =>
    ⟨(HR0.out.upd h (by simp <;> omega)).cell 0, (HR0.out.upd h (by simp <;> omega)).cell 1, (HR0.out.upd h (by simp <;> omega)).cell 2, (HR1.out.upd h (by simp <;> omega)).cell 0, (HR1.out.upd h (by simp <;> omega)).cell 1, (HR1.out.upd h (by simp <;> omega)).cell 2, h⟩
  have hcA : ∀ W, Upd [] w0 W → W.cell? ⟨S + 1 + 1, 0, none⟩ = some (.bool false) ∧ W.cell? ⟨S + 1 + 1, 1, none⟩ = some (.slice none 0 0) ∧ W.cell? ⟨S + 1 + 1, 2, none⟩ = some (.slice none 0 0) ∧ W.frozen? ⟨S + 1 + 1, 0, none⟩ = false ∧ W.frozen? ⟨S + 1 + 1, 1, none⟩ = false ∧ W.frozen? ⟨S + 1 + 1, 2, none⟩ = false := fun W h => ⟨(HRES.out.upd0 h).cell 0, (HRES.out.upd0 h).cell 1, (HRES.out.upd0 h).cell 2, (HRES.out.upd0 h).frozen 0, (HRES.out.upd0 h).frozen 1, (HRES.out.upd0 h).frozen 2⟩
  go_region_held3 (fun W => W.cell? ⟨S, 0, none⟩ = some (.bool b0) ∧ W.cell? ⟨S, 1, none⟩ = some (.slice a0 l0 c0) ∧ W.cell? ⟨S, 2, none⟩ = some (.slice d0 m0 e0) ∧ W.cell? ⟨S + 1, 0, none⟩ = some (.bool b1) ∧ W.cell? ⟨S + 1, 1, none⟩ = some (.slice a1 l1 c1) ∧ W.cell? ⟨S + 1, 2, none⟩ = some (.slice d1 m1 e1) ∧ Upd [S + 1 + 1] w0 W)
    ((refine HC.out _ ?_; repeat (first | (with_reducible refine Upd.setCell ?_ (.inl (by simp)) _) | (with_reducible exact huy.mono (by simp)) | (with_reducible exact hrf.mono (by simp)) | (with_reducible apply Upd.drew) | (with_reducible apply Upd.alloc))))
    (first
      | (go_at_call 79; (with_reducible refine (HMI.out _ (HU0.out.trans0 (by repeat (first | exact huy | exact hrf | apply Upd.drew | apply Upd.alloc)))).mono ?_); rintro e wz ⟨vM, rfl, hvM, hu20⟩;  obtain ⟨aM, lM, cM, rfl, _⟩ := hvM.open; have HVM := Lib.hid hvM; clear hvM; have hr := HRN.out _ _ _ _ _ (HU0.out.trans0 (Upd.trans0 (by repeat (first | exact huy | exact hrf | apply Upd.drew | apply Upd.alloc)) hu20)) HVM.out; have HRM := Lib.hid hr; clear hr; have huz : Upd [] w0 wz := Upd.trans0 (by repeat (first | exact huy | exact hrf | apply Upd.drew | apply Upd.alloc)) hu20; (try clear huy); clear hu20; have huy := huz; clear huz)
      | (go_at_call 43; (with_reducible refine (HAD.out _ _ (HU0.out.trans0 (by repeat (first | exact huy | exact hrf | apply Upd.drew | apply Upd.alloc))) (by first | exact HRM.out | exact HRM.out.upd0 ((Upd.refl _ _).alloc _))).mono ?_); rintro e wz ⟨vF, rfl, hFv, hu20⟩; have HVM := Lib.hid (HVM.out.upd0 (by first | exact hu20 | exact Upd.al hu20)); have HRM := Lib.hid (HRM.out.upd0 (by first | exact hu20 | exact Upd.al hu20)); obtain ⟨aF, lF, cF, dF, mF, eF, rfl, _, _⟩ := hFv.open; have HF := Lib.hid hFv; clear hFv; have huz : Upd [] w0 wz := Upd.trans0 (by repeat (first | exact huy | exact hrf | apply Upd.drew | apply Upd.alloc)) hu20; (try clear huy); clear hu20; have huy := huz; clear huz; obtain ⟨x0, x1, x2, x3, x4, x5⟩ := hcA _ huy))
  all_goals
    have HP := Lib.hid (NewR.set ⟨HRES.out.upd0 huy, by have := HS.out; omega⟩ (HUB.out.trans0 huy) HF.out)
    clear hcA huy
    generalize decide ((x - y).num < 0) = pF at *
    have z0 := HP.out.row.cell 0
    have z1 := HP.out.row.cell 1
    have z2 := HP.out.row.cell 2
    go_wp2
    refine bodyPost_ret (v := .agg #[.bool pF, .slice aF lF cF, .slice dF mF eF]) (by simp [results, Tryz.results30, go_sem, z0, z1, z2]) rfl ?_
    exact ⟨_, rfl, HP.out.rv, HP.out.upd⟩

end Go.Proofs.YtoklmfmoblkfcaaGreatDoor
