/- Fractions (layer 7): times. -/
import Derived.Test.YtoklmfmoblkfcaaGreatDoorAb
import Derived.Deep.RegionHeld3
namespace Go.Proofs.YtoklmfmoblkfcaaGreatDoor
open Go.RowKit Go.Proofs.Tm
set_option linter.unusedVariables false
set_option linter.unusedSimpArgs false
set_option maxRecDepth 20000

set_option maxHeartbeats 1600000 in
theorem times_any (u v : Value) (z : Int) (n : Nat) (w : World) (hu : WV w u z) (hv : NV w v n) (hlz : (wds z.natAbs).length ≤ 274877906944) (hln : (wds n).length ≤ 274877906944) :
    Calls Tryz.prog 89 #[u, v] w (RWhole (z * (n : Int)) w) := by
  obtain ⟨a0, l0, c0, rfl, _⟩ := hu.open
  obtain ⟨a1, l1, c1, rfl, h1⟩ := nvOpen hv
  have HK : Hid (∀ W, Upd [] w W → Calls Tryz.prog 35 #[.bool false, .agg #[.slice a1 l1 c1]] W (RWhole ((n : Nat) : Int) W)) := fun W h => wmake_any false _ n W (h1.upd0 h)
  have HM : Hid (∀ W v, Upd [] w W → WV W v ((n : Nat) : Int) → Calls Tryz.prog 97 #[.agg #[.bool (decide (z < 0)), .slice a0 l0 c0], v] W (RWhole (z * (n : Int)) W)) := fun W v h hv => wmul_any _ _ z n W (hu.upd0 h) hv hlz (by simpa using hln)
  generalize decide (z < 0) = b0 at *
  clear hu hv h1 hlz hln
  obtain ⟨w0, hw0⟩ : ∃ W, W = (((w.alloc (.cells #[.bool b0, .slice a0 l0 c0] 29)).alloc (.cells #[.slice a1 l1 c1] 27)).alloc (.cells #[.bool false, .slice none 0 0] 29)) := ⟨_, rfl⟩
  obtain ⟨S, hS⟩ : ∃ s, s = w.heap.size := ⟨_, rfl⟩
  obtain ⟨hu0, r0, r1, r2, hz0⟩ := rows3 w #[.bool b0, .slice a0 l0 c0] #[.slice a1 l1 c1] #[.bool false, .slice none 0 0] 29 27 29 w0 hw0 S hS
  have HU0 := Lib.hid hu0
  have HW0 := Lib.hid hw0
  have HS := Lib.hid hS
  have HZ0 := Lib.hid hz0
  have HC : Hid (∀ W, Upd [S + 1 + 1] w0 W → W.cell? ⟨S, 0, none⟩ = some (.bool b0) ∧ W.cell? ⟨S, 1, none⟩ = some (.slice a0 l0 c0) ∧ W.cell? ⟨S + 1, 0, none⟩ = some (.slice a1 l1 c1) ∧ Upd [S + 1 + 1] w0 W) := fun W h =>
    ⟨(r0.upd h (by simp <;> omega)).cell 0, (r0.upd h (by simp <;> omega)).cell 1, (r1.upd h (by simp <;> omega)).cell 0, h⟩
  have hcA : ∀ W, Upd [] w0 W → W.cell? ⟨S + 1 + 1, 0, none⟩ = some (.bool false) ∧ W.cell? ⟨S + 1 + 1, 1, none⟩ = some (.slice none 0 0) ∧ W.frozen? ⟨S + 1 + 1, 0, none⟩ = false ∧ W.frozen? ⟨S + 1 + 1, 1, none⟩ = false := fun W h => ⟨(r2.upd0 h).cell 0, (r2.upd0 h).cell 1, (r2.upd0 h).frozen 0, (r2.upd0 h).frozen 1⟩
  have HR2 := Lib.hid r2
  have hrf : Upd [] w0 w0 := Upd.refl _ _
  clear hw0 hS hu0 r0 r1 r2 hz0
  go_enter Tryz.func89, Tryz.ntmps89
  go_wp2_with fail
  rw [← HW0.out]
  rw [← HS.out]
  go_region_held3 (fun W => W.cell? ⟨S, 0, none⟩ = some (.bool b0) ∧ W.cell? ⟨S, 1, none⟩ = some (.slice a0 l0 c0) ∧ W.cell? ⟨S + 1, 0, none⟩ = some (.slice a1 l1 c1) ∧ Upd [S + 1 + 1] w0 W)
    ((refine HC.out _ ?_; repeat (first | (with_reducible refine Upd.setCell ?_ (.inl (by simp)) _) | (with_reducible exact huy.mono (by simp)) | (with_reducible exact hrf.mono (by simp)) | (with_reducible apply Upd.drew) | (with_reducible apply Upd.alloc))))
    (first
      | (go_at_call 35; (with_reducible refine (HK.out _ (HU0.out.trans0 (by repeat (first | exact huy | exact hrf | apply Upd.drew | apply Upd.alloc)))).mono ?_); rintro e wz ⟨vK, rfl, hvK, hu20⟩;  have HVK := Lib.hid hvK; clear hvK; have huz : Upd [] w0 wz := Upd.trans0 (by repeat (first | exact huy | exact hrf | apply Upd.drew | apply Upd.alloc)) hu20; (try clear huy); clear hu20; have huy := huz; clear huz)
      | (go_at_call 97; (with_reducible refine (HM.out _ _ (HU0.out.trans0 (by repeat (first | exact huy | exact hrf | apply Upd.drew | apply Upd.alloc))) HVK.out).mono ?_); rintro e wz ⟨vM, rfl, hvM, hu20⟩;  obtain ⟨aM, lM, cM, rfl, _⟩ := hvM.open; have HVM := Lib.hid hvM; clear hvM; have huz : Upd [] w0 wz := Upd.trans0 (by repeat (first | exact huy | exact hrf | apply Upd.drew | apply Upd.alloc)) hu20; (try clear huy); clear hu20; have huy := huz; clear huz; obtain ⟨x1, x2, x3, x4⟩ := hcA _ huy))
  all_goals
    have HP := Lib.hid (wv_put (by have := HS.out; omega) (HR2.out.upd0 huy) (HU0.out.trans0 huy) HVM.out)
    clear hcA huy
    generalize decide (z * (n : Int) < 0) = p at *
    have z0 := HP.out.c0
    have z1 := HP.out.c1
    go_wp2
    refine bodyPost_ret (v := .agg #[.bool p, .slice aM lM cM]) (by simp [results, Tryz.results89, go_sem, z0, z1]) rfl ?_
    exact ⟨_, rfl, HP.out.v, HP.out.u⟩

end Go.Proofs.YtoklmfmoblkfcaaGreatDoor
