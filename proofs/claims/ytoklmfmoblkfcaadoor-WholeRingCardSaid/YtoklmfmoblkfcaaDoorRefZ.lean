/- The document's whole numbers (layer 6): contracts. -/
import Derived.Test.YtoklmfmoblkfcaaDoorZV
import Derived.Test.YtoklmfmoblkfcaaDoorRefSub
import Derived.Test.YtoklmfmoblkfcaaDoorRefText
import Derived.Deep.RegionHeld3
namespace Go.Proofs.YtoklmfmoblkfcaaDoor
open Go.RowKit Go.Proofs.Tm
set_option linter.unusedVariables false
set_option linter.unusedSimpArgs false
set_option maxRecDepth 20000

set_option maxHeartbeats 1600000 in
theorem zadd_any (u v : Value) (p m pp mm : Nat) (w : World) (hu : ZV w u p m) (hv : ZV w v pp mm) (hpl : (digs p).length ≤ 1048576) (hml : (digs m).length ≤ 1048576) (hppl : (digs pp).length ≤ 1048576) (hmml : (digs mm).length ≤ 1048576) :
    Calls Tryd.prog 12 #[u, v] w (RZ (p + pp) (m + mm) w) := by
  obtain ⟨a0, l0, c0, d0, m0, e0, rfl, hp0q, hm0q⟩ := hu.open
  obtain ⟨a1, l1, c1, d1, m1, e1, rfl, hp1q, hm1q⟩ := hv.open
  have HA1 : Hid (∀ W, Upd [] w W → Calls Tryd.prog 43 #[.slice a0 l0 c0, .slice a1 l1 c1] W (RDig (p + pp) W)) := fun W h => dadd (hp0q.upd0 h) (hp1q.upd0 h) (by omega) (by omega)
  have HA2 : Hid (∀ W, Upd [] w W → Calls Tryd.prog 43 #[.slice d0 m0 e0, .slice d1 m1 e1] W (RDig (m + mm) W)) := fun W h => dadd (hm0q.upd0 h) (hm1q.upd0 h) (by omega) (by omega)
  clear hu hv hp0q hm0q hp1q hm1q hpl hml hppl hmml
  obtain ⟨w0, hw0⟩ : ∃ W, W = (((w.alloc (.cells #[.slice a0 l0 c0, .slice d0 m0 e0] 33)).alloc (.cells #[.slice a1 l1 c1, .slice d1 m1 e1] 33)).alloc (.cells #[.slice none 0 0, .slice none 0 0] 33)) := ⟨_, rfl⟩
  obtain ⟨S, hS⟩ : ∃ s, s = w.heap.size := ⟨_, rfl⟩
  obtain ⟨hu0, r0, r1, r2, hz0⟩ := rows3 w #[.slice a0 l0 c0, .slice d0 m0 e0] #[.slice a1 l1 c1, .slice d1 m1 e1] #[.slice none 0 0, .slice none 0 0] 33 33 33 w0 hw0 S hS
  have HU0 := Lib.hid hu0
  have HW0 := Lib.hid hw0
  have HS := Lib.hid hS
  have HZ0 := Lib.hid hz0
  have HC : Hid (∀ W, Upd [S + 1 + 1] w0 W → W.cell? ⟨S, 0, none⟩ = some (.slice a0 l0 c0) ∧ W.cell? ⟨S, 1, none⟩ = some (.slice d0 m0 e0) ∧ W.cell? ⟨S + 1, 0, none⟩ = some (.slice a1 l1 c1) ∧ W.cell? ⟨S + 1, 1, none⟩ = some (.slice d1 m1 e1) ∧ Upd [S + 1 + 1] w0 W) := fun W h =>
    ⟨(r0.upd h (by simp <;> omega)).cell 0, (r0.upd h (by simp <;> omega)).cell 1, (r1.upd h (by simp <;> omega)).cell 0, (r1.upd h (by simp <;> omega)).cell 1, h⟩
  have hcA : ∀ W, Upd [] w0 W → W.cell? ⟨S + 1 + 1, 0, none⟩ = some (.slice none 0 0) ∧ W.cell? ⟨S + 1 + 1, 1, none⟩ = some (.slice none 0 0) ∧ W.frozen? ⟨S + 1 + 1, 0, none⟩ = false ∧ W.frozen? ⟨S + 1 + 1, 1, none⟩ = false := fun W h => ⟨(r2.upd0 h).cell 0, (r2.upd0 h).cell 1, (r2.upd0 h).frozen 0, (r2.upd0 h).frozen 1⟩
  have HRES := Lib.hid r2
  have hrf : Upd [] w0 w0 := Upd.refl _ _
  clear hw0 hS hu0 r0 r1 r2 hz0
  go_enter Tryd.func12, Tryd.ntmps12
  go_wp2_with fail
  rw [← HW0.out]
  rw [← HS.out]
  go_region_held3 (fun W => W.cell? ⟨S, 0, none⟩ = some (.slice a0 l0 c0) ∧ W.cell? ⟨S, 1, none⟩ = some (.slice d0 m0 e0) ∧ W.cell? ⟨S + 1, 0, none⟩ = some (.slice a1 l1 c1) ∧ W.cell? ⟨S + 1, 1, none⟩ = some (.slice d1 m1 e1) ∧ Upd [S + 1 + 1] w0 W)
    ((refine HC.out _ ?_; repeat (first | (with_reducible refine Upd.setCell ?_ (.inl (by simp)) _) | (with_reducible exact huy.mono (by simp)) | (with_reducible exact hrf.mono (by simp)) | (with_reducible apply Upd.drew) | (with_reducible apply Upd.alloc))))
    (first
      | (go_at_call 43; (with_reducible refine (HA1.out _ (HU0.out.trans0 (by repeat (first | exact huy | exact hrf | apply Upd.drew | apply Upd.alloc)))).mono ?_); rintro e wz ⟨vA, rfl, hdA, hu20⟩;  obtain ⟨aA, lA, cA, rfl⟩ := DV.open hdA; have HDA := Lib.hid (DV.of hdA); clear hdA; have huz : Upd [] w0 wz := Upd.trans0 (by repeat (first | exact huy | exact hrf | apply Upd.drew | apply Upd.alloc)) hu20; (try clear huy); clear hu20; have huy := huz; clear huz)
      | (go_at_call 43; (with_reducible refine (HA2.out _ (HU0.out.trans0 (by repeat (first | exact huy | exact hrf | apply Upd.drew | apply Upd.alloc)))).mono ?_); rintro e wz ⟨vB, rfl, hdB, hu20⟩; have HDA := Lib.hid (HDA.out.upd0 (by first | exact hu20 | exact Upd.al hu20)); obtain ⟨dX, mX, eX, rfl⟩ := DV.open hdB; have HDB := Lib.hid (DV.of hdB); clear hdB; have HX : Hid (ZV wz (.agg #[.slice aA lA cA, .slice dX mX eX]) (p + pp) (m + mm)) := ⟨_, _, rfl, HDA.out, HDB.out⟩; obtain ⟨aX, hAX⟩ : ∃ s, s = aA := ⟨_, rfl⟩; obtain ⟨lX, hLX⟩ : ∃ s, s = lA := ⟨_, rfl⟩; obtain ⟨cX, hCX⟩ : ∃ s, s = cA := ⟨_, rfl⟩; subst hAX hLX hCX; have huz : Upd [] w0 wz := Upd.trans0 (by repeat (first | exact huy | exact hrf | apply Upd.drew | apply Upd.alloc)) hu20; (try clear huy); clear hu20; have huy := huz; clear huz; obtain ⟨x0, x1, x2, x3⟩ := hcA _ huy))
  all_goals
    have HP := Lib.hid (NewZ.set ⟨HRES.out.upd0 huy, by have := HS.out; omega⟩ (HU0.out.trans0 huy) HX.out)
    clear hcA huy
    have z0 := HP.out.row.cell 0
    have z1 := HP.out.row.cell 1
    go_wp2
    refine bodyPost_ret (v := .agg #[.slice aX lX cX, .slice dX mX eX]) (by simp [results, Tryd.results12, go_sem, z0, z1]) rfl ?_
    exact ⟨_, rfl, HP.out.zv, HP.out.upd⟩

set_option maxHeartbeats 1600000 in
theorem zmul_any (u v : Value) (p m pp mm : Nat) (w : World) (hu : ZV w u p m) (hv : ZV w v pp mm) (hpl : (digs p).length ≤ 1048576) (hml : (digs m).length ≤ 1048576) (hppl : (digs pp).length ≤ 1048576) (hmml : (digs mm).length ≤ 1048576) :
    Calls Tryd.prog 16 #[u, v] w (RZ (p * pp + m * mm) (p * mm + m * pp) w) := by
  obtain ⟨a0, l0, c0, d0, m0, e0, rfl, hp0q, hm0q⟩ := hu.open
  obtain ⟨a1, l1, c1, d1, m1, e1, rfl, hp1q, hm1q⟩ := hv.open
  have HM1 : Hid (∀ W, Upd [] w W → Calls Tryd.prog 44 #[.slice a0 l0 c0, .slice a1 l1 c1] W (RDig (p * pp) W)) := fun W h => dmul (hp0q.upd0 h) (hp1q.upd0 h) (by omega) (by omega)
  have HM2 : Hid (∀ W, Upd [] w W → Calls Tryd.prog 44 #[.slice d0 m0 e0, .slice d1 m1 e1] W (RDig (m * mm) W)) := fun W h => dmul (hm0q.upd0 h) (hm1q.upd0 h) (by omega) (by omega)
  have HM3 : Hid (∀ W, Upd [] w W → Calls Tryd.prog 44 #[.slice a0 l0 c0, .slice d1 m1 e1] W (RDig (p * mm) W)) := fun W h => dmul (hp0q.upd0 h) (hm1q.upd0 h) (by omega) (by omega)
  have HM4 : Hid (∀ W, Upd [] w W → Calls Tryd.prog 44 #[.slice d0 m0 e0, .slice a1 l1 c1] W (RDig (m * pp) W)) := fun W h => dmul (hm0q.upd0 h) (hp1q.upd0 h) (by omega) (by omega)
  have HA1 : Hid (∀ W s t, DV W s (p * pp) → DV W t (m * mm) → Calls Tryd.prog 43 #[s, t] W (RDig (p * pp + m * mm) W)) := fun W s t hs ht => dadd hs ht (by have := digs_mul_len p pp; omega) (by have := digs_mul_len m mm; omega)
  have HA2 : Hid (∀ W s t, DV W s (p * mm) → DV W t (m * pp) → Calls Tryd.prog 43 #[s, t] W (RDig (p * mm + m * pp) W)) := fun W s t hs ht => dadd hs ht (by have := digs_mul_len p mm; omega) (by have := digs_mul_len m pp; omega)
  -- generalize p * pp + m * mm = XP at *
  -- generalize p * mm + m * pp = XM at *
  clear hu hv hp0q hm0q hp1q hm1q hpl hml hppl hmml
  obtain ⟨w0, hw0⟩ : ∃ W, W = (((w.alloc (.cells #[.slice a0 l0 c0, .slice d0 m0 e0] 33)).alloc (.cells #[.slice a1 l1 c1, .slice d1 m1 e1] 33)).alloc (.cells #[.slice none 0 0, .slice none 0 0] 33)) := ⟨_, rfl⟩
  obtain ⟨S, hS⟩ : ∃ s, s = w.heap.size := ⟨_, rfl⟩
  obtain ⟨hu0, r0, r1, r2, hz0⟩ := rows3 w #[.slice a0 l0 c0, .slice d0 m0 e0] #[.slice a1 l1 c1, .slice d1 m1 e1] #[.slice none 0 0, .slice none 0 0] 33 33 33 w0 hw0 S hS
  have HU0 := Lib.hid hu0
  have HW0 := Lib.hid hw0
  have HS := Lib.hid hS
  have HZ0 := Lib.hid hz0
  have HC : Hid (∀ W, Upd [S + 1 + 1] w0 W → W.cell? ⟨S, 0, none⟩ = some (.slice a0 l0 c0) ∧ W.cell? ⟨S, 1, none⟩ = some (.slice d0 m0 e0) ∧ W.cell? ⟨S + 1, 0, none⟩ = some (.slice a1 l1 c1) ∧ W.cell? ⟨S + 1, 1, none⟩ = some (.slice d1 m1 e1) ∧ Upd [S + 1 + 1] w0 W) := fun W h =>
    ⟨(r0.upd h (by simp <;> omega)).cell 0, (r0.upd h (by simp <;> omega)).cell 1, (r1.upd h (by simp <;> omega)).cell 0, (r1.upd h (by simp <;> omega)).cell 1, h⟩
  have hcA : ∀ W, Upd [] w0 W → W.cell? ⟨S + 1 + 1, 0, none⟩ = some (.slice none 0 0) ∧ W.cell? ⟨S + 1 + 1, 1, none⟩ = some (.slice none 0 0) ∧ W.frozen? ⟨S + 1 + 1, 0, none⟩ = false ∧ W.frozen? ⟨S + 1 + 1, 1, none⟩ = false := fun W h => ⟨(r2.upd0 h).cell 0, (r2.upd0 h).cell 1, (r2.upd0 h).frozen 0, (r2.upd0 h).frozen 1⟩
  have HRES := Lib.hid r2
  have hrf : Upd [] w0 w0 := Upd.refl _ _
  clear hw0 hS hu0 r0 r1 r2 hz0
  go_enter Tryd.func16, Tryd.ntmps16
  go_wp2_with fail
  rw [← HW0.out]
  rw [← HS.out]
  go_region_held3 (fun W => W.cell? ⟨S, 0, none⟩ = some (.slice a0 l0 c0) ∧ W.cell? ⟨S, 1, none⟩ = some (.slice d0 m0 e0) ∧ W.cell? ⟨S + 1, 0, none⟩ = some (.slice a1 l1 c1) ∧ W.cell? ⟨S + 1, 1, none⟩ = some (.slice d1 m1 e1) ∧ Upd [S + 1 + 1] w0 W)
    ((refine HC.out _ ?_; repeat (first | (with_reducible refine Upd.setCell ?_ (.inl (by simp)) _) | (with_reducible exact huy.mono (by simp)) | (with_reducible exact hrf.mono (by simp)) | (with_reducible apply Upd.drew) | (with_reducible apply Upd.alloc))))
    (first
      | (go_at_call 44; (with_reducible refine (HM1.out _ (HU0.out.trans0 (by repeat (first | exact huy | exact hrf | apply Upd.drew | apply Upd.alloc)))).mono ?_); rintro e wz ⟨vA, rfl, hdA, hu20⟩;  obtain ⟨aA, lA, cA, rfl⟩ := DV.open hdA; have HDA := Lib.hid (DV.of hdA); clear hdA; have huz : Upd [] w0 wz := Upd.trans0 (by repeat (first | exact huy | exact hrf | apply Upd.drew | apply Upd.alloc)) hu20; (try clear huy); clear hu20; have huy := huz; clear huz)
      | (go_at_call 44; (with_reducible refine (HM2.out _ (HU0.out.trans0 (by repeat (first | exact huy | exact hrf | apply Upd.drew | apply Upd.alloc)))).mono ?_); rintro e wz ⟨vB, rfl, hdB, hu20⟩; have HDA := Lib.hid (HDA.out.upd0 (by first | exact hu20 | exact Upd.al hu20)); obtain ⟨aB, lB, cB, rfl⟩ := DV.open hdB; have HDB := Lib.hid (DV.of hdB); clear hdB; have huz : Upd [] w0 wz := Upd.trans0 (by repeat (first | exact huy | exact hrf | apply Upd.drew | apply Upd.alloc)) hu20; (try clear huy); clear hu20; have huy := huz; clear huz)
      | (go_at_call 43; (with_reducible refine (HA1.out _ _ _ (by first | exact HDA.out | exact DV.upd0 HDA.out ((Upd.refl _ _).alloc _)) (by first | exact HDB.out | exact DV.upd0 HDB.out ((Upd.refl _ _).alloc _))).mono ?_); rintro e wz ⟨vC, rfl, hdC, hu20⟩; have HDA := Lib.hid (HDA.out.upd0 (by first | exact hu20 | exact Upd.al hu20)); have HDB := Lib.hid (HDB.out.upd0 (by first | exact hu20 | exact Upd.al hu20)); obtain ⟨aX, lX, cX, rfl⟩ := DV.open hdC; have HDC := Lib.hid (DV.of hdC); clear hdC; have huz : Upd [] w0 wz := Upd.trans0 (by repeat (first | exact huy | exact hrf | apply Upd.drew | apply Upd.alloc)) hu20; (try clear huy); clear hu20; have huy := huz; clear huz)
      | (go_at_call 44; (with_reducible refine (HM3.out _ (HU0.out.trans0 (by repeat (first | exact huy | exact hrf | apply Upd.drew | apply Upd.alloc)))).mono ?_); rintro e wz ⟨vD, rfl, hdD, hu20⟩; have HDA := Lib.hid (HDA.out.upd0 (by first | exact hu20 | exact Upd.al hu20)); have HDB := Lib.hid (HDB.out.upd0 (by first | exact hu20 | exact Upd.al hu20)); have HDC := Lib.hid (HDC.out.upd0 (by first | exact hu20 | exact Upd.al hu20)); obtain ⟨aD, lD, cD, rfl⟩ := DV.open hdD; have HDD := Lib.hid (DV.of hdD); clear hdD; have huz : Upd [] w0 wz := Upd.trans0 (by repeat (first | exact huy | exact hrf | apply Upd.drew | apply Upd.alloc)) hu20; (try clear huy); clear hu20; have huy := huz; clear huz)
      | (go_at_call 44; (with_reducible refine (HM4.out _ (HU0.out.trans0 (by repeat (first | exact huy | exact hrf | apply Upd.drew | apply Upd.alloc)))).mono ?_); rintro e wz ⟨vE, rfl, hdE, hu20⟩; have HDA := Lib.hid (HDA.out.upd0 (by first | exact hu20 | exact Upd.al hu20)); have HDB := Lib.hid (HDB.out.upd0 (by first | exact hu20 | exact Upd.al hu20)); have HDC := Lib.hid (HDC.out.upd0 (by first | exact hu20 | exact Upd.al hu20)); have HDD := Lib.hid (HDD.out.upd0 (by first | exact hu20 | exact Upd.al hu20)); obtain ⟨aE, lE, cE, rfl⟩ := DV.open hdE; have HDE := Lib.hid (DV.of hdE); clear hdE; have huz : Upd [] w0 wz := Upd.trans0 (by repeat (first | exact huy | exact hrf | apply Upd.drew | apply Upd.alloc)) hu20; (try clear huy); clear hu20; have huy := huz; clear huz)
      | (go_at_call 43; (with_reducible refine (HA2.out _ _ _ (by first | exact HDD.out | exact DV.upd0 HDD.out ((Upd.refl _ _).alloc _)) (by first | exact HDE.out | exact DV.upd0 HDE.out ((Upd.refl _ _).alloc _))).mono ?_); rintro e wz ⟨vF, rfl, hdF, hu20⟩; have HDA := Lib.hid (HDA.out.upd0 (by first | exact hu20 | exact Upd.al hu20)); have HDB := Lib.hid (HDB.out.upd0 (by first | exact hu20 | exact Upd.al hu20)); have HDC := Lib.hid (HDC.out.upd0 (by first | exact hu20 | exact Upd.al hu20)); have HDD := Lib.hid (HDD.out.upd0 (by first | exact hu20 | exact Upd.al hu20)); have HDE := Lib.hid (HDE.out.upd0 (by first | exact hu20 | exact Upd.al hu20)); obtain ⟨dX, mX, eX, rfl⟩ := DV.open hdF; have HDF := Lib.hid (DV.of hdF); clear hdF; have HX : Hid (ZV wz (.agg #[.slice aX lX cX, .slice dX mX eX]) (p * pp + m * mm) (p * mm + m * pp)) := ⟨_, _, rfl, HDC.out, HDF.out⟩; have huz : Upd [] w0 wz := Upd.trans0 (by repeat (first | exact huy | exact hrf | apply Upd.drew | apply Upd.alloc)) hu20; (try clear huy); clear hu20; have huy := huz; clear huz; obtain ⟨x0, x1, x2, x3⟩ := hcA _ huy))
  all_goals
    have HP := Lib.hid (NewZ.set ⟨HRES.out.upd0 huy, by have := HS.out; omega⟩ (HU0.out.trans0 huy) HX.out)
    clear hcA huy
    have z0 := HP.out.row.cell 0
    have z1 := HP.out.row.cell 1
    go_wp2
    refine bodyPost_ret (v := .agg #[.slice aX lX cX, .slice dX mX eX]) (by simp [results, Tryd.results16, go_sem, z0, z1]) rfl ?_
    exact ⟨_, rfl, HP.out.zv, HP.out.upd⟩

set_option maxHeartbeats 1600000 in
theorem zcmp_any (u v : Value) (p m pp mm : Nat) (w : World) (hu : ZV w u p m) (hv : ZV w v pp mm) (hpl : (digs p).length ≤ 1048576) (hml : (digs m).length ≤ 1048576) (hppl : (digs pp).length ≤ 1048576) (hmml : (digs mm).length ≤ 1048576) :
    Calls Tryd.prog 19 #[u, v] w (fun e w' => e = .returned (.int .i64 (cmpN (p + mm) (pp + m))) ∧ Upd [] w w') := by
  obtain ⟨a0, l0, c0, d0, m0, e0, rfl, hp0q, hm0q⟩ := hu.open
  obtain ⟨a1, l1, c1, d1, m1, e1, rfl, hp1q, hm1q⟩ := hv.open
  have HA1 : Hid (∀ W, Upd [] w W → Calls Tryd.prog 43 #[.slice a0 l0 c0, .slice d1 m1 e1] W (RDig (p + mm) W)) := fun W h => dadd (hp0q.upd0 h) (hm1q.upd0 h) (by omega) (by omega)
  have HA2 : Hid (∀ W, Upd [] w W → Calls Tryd.prog 43 #[.slice a1 l1 c1, .slice d0 m0 e0] W (RDig (pp + m) W)) := fun W h => dadd (hp1q.upd0 h) (hm0q.upd0 h) (by omega) (by omega)
  have HCM : Hid (∀ W s t, DV W s (p + mm) → DV W t (pp + m) → Calls Tryd.prog 45 #[s, t] W (fun e w' => e = .returned (.int .i64 (cmpN (p + mm) (pp + m))) ∧ Upd [] W w')) := fun W s t hs ht => dcmp hs ht (by have := digs_add_len p mm; omega) (by have := digs_add_len pp m; omega)
  clear hu hv hp0q hm0q hp1q hm1q hpl hml hppl hmml
  obtain ⟨w0, hw0⟩ : ∃ W, W = ((w.alloc (.cells #[.slice a0 l0 c0, .slice d0 m0 e0] 33)).alloc (.cells #[.slice a1 l1 c1, .slice d1 m1 e1] 33)) := ⟨_, rfl⟩
  obtain ⟨S, hS⟩ : ∃ s, s = w.heap.size := ⟨_, rfl⟩
  obtain ⟨hu0, r0, r1, hz0⟩ := rows2 w #[.slice a0 l0 c0, .slice d0 m0 e0] #[.slice a1 l1 c1, .slice d1 m1 e1] 33 33 w0 hw0 S hS
  have HU0 := Lib.hid hu0
  have HW0 := Lib.hid hw0
  have HS := Lib.hid hS
  have HZ0 := Lib.hid hz0
  have HR0 := Lib.hid r0
  have HR1 := Lib.hid r1
  have hrf : Upd [] w0 w0 := Upd.refl _ _
  clear hw0 hS hu0 r0 r1 hz0
  have HC : Hid (∀ W, Upd [] w0 W → W.cell? ⟨S, 0, none⟩ = some (.slice a0 l0 c0) ∧ W.cell? ⟨S, 1, none⟩ = some (.slice d0 m0 e0) ∧ W.cell? ⟨S + 1, 0, none⟩ = some (.slice a1 l1 c1) ∧ W.cell? ⟨S + 1, 1, none⟩ = some (.slice d1 m1 e1) ∧ Upd [] w0 W) := fun W h =>
    ⟨(HR0.out.upd h (by simp <;> omega)).cell 0, (HR0.out.upd h (by simp <;> omega)).cell 1, (HR1.out.upd h (by simp <;> omega)).cell 0, (HR1.out.upd h (by simp <;> omega)).cell 1, h⟩
  go_enter Tryd.func19, Tryd.ntmps19
  go_wp2_with fail
  rw [← HW0.out]
  rw [← HS.out]
  go_region_held3 (fun W => W.cell? ⟨S, 0, none⟩ = some (.slice a0 l0 c0) ∧ W.cell? ⟨S, 1, none⟩ = some (.slice d0 m0 e0) ∧ W.cell? ⟨S + 1, 0, none⟩ = some (.slice a1 l1 c1) ∧ W.cell? ⟨S + 1, 1, none⟩ = some (.slice d1 m1 e1) ∧ Upd [] w0 W)
    ((refine HC.out _ ?_; repeat (first | exact huy | exact hrf | apply Upd.drew)))
    (first
      | (go_at_call 43; (with_reducible refine (HA1.out _ (HU0.out.trans0 (by repeat (first | exact huy | exact hrf | apply Upd.drew | apply Upd.alloc)))).mono ?_); rintro e wz ⟨vA, rfl, hdA, hu20⟩;  obtain ⟨aA, lA, cA, rfl⟩ := DV.open hdA; have HDA := Lib.hid (DV.of hdA); clear hdA; have huz : Upd [] w0 wz := Upd.trans0 (by repeat (first | exact huy | exact hrf | apply Upd.drew | apply Upd.alloc)) hu20; (try clear huy); clear hu20; have huy := huz; clear huz)
      | (go_at_call 43; (with_reducible refine (HA2.out _ (HU0.out.trans0 (by repeat (first | exact huy | exact hrf | apply Upd.drew | apply Upd.alloc)))).mono ?_); rintro e wz ⟨vB, rfl, hdB, hu20⟩; have HDA := Lib.hid (HDA.out.upd0 (by first | exact hu20 | exact Upd.al hu20)); obtain ⟨aB, lB, cB, rfl⟩ := DV.open hdB; have HDB := Lib.hid (DV.of hdB); clear hdB; have huz : Upd [] w0 wz := Upd.trans0 (by repeat (first | exact huy | exact hrf | apply Upd.drew | apply Upd.alloc)) hu20; (try clear huy); clear hu20; have huy := huz; clear huz)
      | (go_at_call 45; (with_reducible refine (HCM.out _ _ _ (by first | exact HDA.out | exact DV.upd0 HDA.out ((Upd.refl _ _).alloc _)) (by first | exact HDB.out | exact DV.upd0 HDB.out ((Upd.refl _ _).alloc _))).mono ?_); rintro e wz ⟨rfl, hu20⟩; have HDA := Lib.hid (HDA.out.upd0 (by first | exact hu20 | exact Upd.al hu20)); have HDB := Lib.hid (HDB.out.upd0 (by first | exact hu20 | exact Upd.al hu20));  have huz : Upd [] w0 wz := Upd.trans0 (by repeat (first | exact huy | exact hrf | apply Upd.drew | apply Upd.alloc)) hu20; (try clear huy); clear hu20; have huy := huz; clear huz))
  all_goals
    go_wp2
    go_ret
    exact ⟨rfl, HU0.out.trans0 huy⟩

end Go.Proofs.YtoklmfmoblkfcaaDoor
