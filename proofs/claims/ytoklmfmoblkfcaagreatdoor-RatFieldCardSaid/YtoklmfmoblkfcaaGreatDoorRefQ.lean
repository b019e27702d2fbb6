/- The document's fractions (layer 7): by, Add, Mul, Turn, Cmp, Small, Frac. -/
import Derived.Test.YtoklmfmoblkfcaaGreatDoorRefZ2
import Derived.Test.YtoklmfmoblkfcaaGreatDoorAa
import Derived.Test.YtoklmfmoblkfcaaGreatDoorRatL
namespace Go.Proofs.YtoklmfmoblkfcaaGreatDoor
open Go.RowKit Go.Proofs.Tm
set_option linter.unusedVariables false
set_option linter.unusedSimpArgs false
set_option maxRecDepth 20000

set_option maxHeartbeats 800000 in
theorem qby_any (u s : Value) (p m d : Nat) (w : World) (hu : ZV w u p m) (hs : DV w s d) (hpl : (digs p).length ≤ 1048576) (hml : (digs m).length ≤ 1048576) (hdl : (digs d).length ≤ 1048576) :
    Calls Tryz.prog 94 #[u, s] w (RZ (p * d) (m * d) w) := by
  obtain ⟨a0, l0, c0, d0, m0, e0, rfl, hp, hm⟩ := hu.open
  obtain ⟨a1, l1, c1, rfl⟩ := DV.open hs
  have hl0 : (digs 0).length ≤ 1048576 := by rw [digs_zero]; simp
  have HM : Hid (∀ W, Upd [] w W → Calls Tryz.prog 98 #[.agg #[.slice a0 l0 c0, .slice d0 m0 e0], .agg #[.slice a1 l1 c1, .slice none 0 0]] W (RZ (p * d) (m * d) W)) := fun W h => by
    have := zmul_any _ (.agg #[.slice a1 l1 c1, .slice none 0 0]) p m d 0 W (hu.upd0 h) ⟨_, _, rfl, hs.upd0 h, DV.nil _⟩ hpl hml hdl hl0
    simp only [Nat.mul_zero, Nat.add_zero, Nat.zero_add] at this
    exact this
  clear hu hs hp hm hpl hml hdl hl0
  obtain ⟨w0, hw0⟩ : ∃ W, W = ((w.alloc (.cells #[.slice a0 l0 c0, .slice d0 m0 e0] 33)).alloc (.cells #[.slice none 0 0, .slice none 0 0] 33)) := ⟨_, rfl⟩
  obtain ⟨S, hS⟩ : ∃ s, s = w.heap.size := ⟨_, rfl⟩
  obtain ⟨hu0, r0, r1, hz0⟩ := rows2 w #[.slice a0 l0 c0, .slice d0 m0 e0] #[.slice none 0 0, .slice none 0 0] 33 33 w0 hw0 S hS
  have HU0 := Lib.hid hu0
  have HW0 := Lib.hid hw0
  have HS := Lib.hid hS
  have HZ0 := Lib.hid hz0
  have hcA : ∀ W, Upd [] w0 W → W.cell? ⟨S + 1, 0, none⟩ = some (.slice none 0 0) ∧ W.cell? ⟨S + 1, 1, none⟩ = some (.slice none 0 0) ∧ W.frozen? ⟨S + 1, 0, none⟩ = false ∧ W.frozen? ⟨S + 1, 1, none⟩ = false := fun W h => ⟨(r1.upd0 h).cell 0, (r1.upd0 h).cell 1, (r1.upd0 h).frozen 0, (r1.upd0 h).frozen 1⟩
  have HRES := Lib.hid r1
  have hp0 := r0.cell 0
  have hp1 := r0.cell 1
  clear hw0 hS hu0 r0 r1 hz0
  go_enter Tryz.func94, Tryz.ntmps94
  go_wp2_with fail
  rw [← HW0.out]
  rw [← HS.out]
  refine (HM.out _ HU0.out).mono ?_
  rintro e w1 ⟨v1, rfl, hz1, huy⟩
  obtain ⟨aX, lX, cX, dX, mX, eX, rfl, _, _⟩ := ZV.open hz1
  have HX := Lib.hid hz1
  obtain ⟨x0, x1, x2, x3⟩ := hcA _ huy
  clear hz1 hp0 hp1
  have HP := Lib.hid (NewZ.set ⟨HRES.out.upd0 huy, by have := HS.out; omega⟩ (HU0.out.trans0 huy) HX.out)
  clear hcA huy
  have z0 := HP.out.row.cell 0
  have z1 := HP.out.row.cell 1
  go_wp2
  refine bodyPost_ret (v := .agg #[.slice aX lX cX, .slice dX mX eX]) (by simp [results, Tryz.results94, go_sem, z0, z1]) rfl ?_
  exact ⟨_, rfl, HP.out.zv, HP.out.upd⟩

theorem ZV.parts {w : World} {a b : Value} {p m : Nat} (h : ZV w (.agg #[a, b]) p m) : DV w a p ∧ DV w b m := by
  obtain ⟨a', b', he, h1, h2⟩ := h
  simp only [Value.agg.injEq, Array.mk.injEq, List.cons.injEq, and_true] at he
  obtain ⟨rfl, rfl⟩ := he
  exact ⟨h1, h2⟩

set_option maxHeartbeats 1600000 in
theorem qadd_any (u v : Value) (p m d pp mm dd : Nat) (w : World) (hu : QV w u p m d) (hv : QV w v pp mm dd) (hpl : (digs p).length ≤ 262144) (hml : (digs m).length ≤ 262144) (hdl : (digs d).length ≤ 262144) (hppl : (digs pp).length ≤ 262144) (hmml : (digs mm).length ≤ 262144) (hddl : (digs dd).length ≤ 262144) :
    Calls Tryz.prog 44 #[u, v] w (RQ (p * dd + pp * d) (m * dd + mm * d) (d * dd) w) := by
  obtain ⟨a0, l0, c0, d0, m0, e0, f0, g0, h0, rfl, hz0, hd0⟩ := hu.open
  obtain ⟨a1, l1, c1, d1, m1, e1, f1, g1, h1, rfl, hz1, hd1⟩ := hv.open
  have HB1 : Hid (∀ W, Upd [] w W → Calls Tryz.prog 94 #[.agg #[.slice a0 l0 c0, .slice d0 m0 e0], .slice f1 g1 h1] W (RZ (p * dd) (m * dd) W)) := fun W h => qby_any _ _ _ _ _ W (hz0.upd0 h) (hd1.upd0 h) (by omega) (by omega) (by omega)
  have HB2 : Hid (∀ W, Upd [] w W → Calls Tryz.prog 94 #[.agg #[.slice a1 l1 c1, .slice d1 m1 e1], .slice f0 g0 h0] W (RZ (pp * d) (mm * d) W)) := fun W h => qby_any _ _ _ _ _ W (hz1.upd0 h) (hd0.upd0 h) (by omega) (by omega) (by omega)
  have HDD : Hid (∀ W, Upd [] w W → Calls Tryz.prog 95 #[.slice f0 g0 h0, .slice f1 g1 h1] W (RDig (d * dd) W)) := fun W h => dmul (hd0.upd0 h) (hd1.upd0 h) (by omega) (by omega)
  have HAD : Hid (∀ W s t, ZV W s (p * dd) (m * dd) → ZV W t (pp * d) (mm * d) → Calls Tryz.prog 93 #[s, t] W (RZ (p * dd + pp * d) (m * dd + mm * d) W)) := fun W s t hs ht => zadd_any _ _ _ _ _ _ W hs ht (by have := digs_mul_len p dd; omega) (by have := digs_mul_len m dd; omega) (by have := digs_mul_len pp d; omega) (by have := digs_mul_len mm d; omega)
  clear hu hv hz0 hd0 hz1 hd1 hpl hml hdl hppl hmml hddl
  obtain ⟨w0, hw0⟩ : ∃ W, W = (((w.alloc (.cells #[.slice a0 l0 c0, .slice d0 m0 e0, .slice f0 g0 h0] 55)).alloc (.cells #[.slice a1 l1 c1, .slice d1 m1 e1, .slice f1 g1 h1] 55)).alloc (.cells #[.slice none 0 0, .slice none 0 0, .slice none 0 0] 55)) := ⟨_, rfl⟩
  obtain ⟨S, hS⟩ : ∃ s, s = w.heap.size := ⟨_, rfl⟩
  obtain ⟨hu0, r0, r1, r2, hz0⟩ := rows3 w #[.slice a0 l0 c0, .slice d0 m0 e0, .slice f0 g0 h0] #[.slice a1 l1 c1, .slice d1 m1 e1, .slice f1 g1 h1] #[.slice none 0 0, .slice none 0 0, .slice none 0 0] 55 55 55 w0 hw0 S hS
  have HU0 := Lib.hid hu0
  have HW0 := Lib.hid hw0
  have HS := Lib.hid hS
  have HZ0 := Lib.hid hz0
  have HC : Hid (∀ W, Upd [S + 1 + 1] w0 W → W.cell? ⟨S, 0, none⟩ = some (.slice a0 l0 c0) ∧ W.cell? ⟨S, 1, none⟩ = some (.slice d0 m0 e0) ∧ W.cell? ⟨S, 2, none⟩ = some (.slice f0 g0 h0) ∧ W.cell? ⟨S + 1, 0, none⟩ = some (.slice a1 l1 c1) ∧ W.cell? ⟨S + 1, 1, none⟩ = some (.slice d1 m1 e1) ∧ W.cell? ⟨S + 1, 2, none⟩ = some (.slice f1 g1 h1) ∧ Upd [S + 1 + 1] w0 W) := fun W h =>
    ⟨(r0.upd h (by simp <;> omega)).cell 0, (r0.upd h (by simp <;> omega)).cell 1, (r0.upd h (by simp <;> omega)).cell 2, (r1.upd h (by simp <;> omega)).cell 0, (r1.upd h (by simp <;> omega)).cell 1, (r1.upd h (by simp <;> omega)).cell 2, h⟩
  have hcA : ∀ W, Upd [] w0 W → W.cell? ⟨S + 1 + 1, 0, none⟩ = some (.slice none 0 0) ∧ W.cell? ⟨S + 1 + 1, 1, none⟩ = some (.slice none 0 0) ∧ W.cell? ⟨S + 1 + 1, 2, none⟩ = some (.slice none 0 0) ∧ W.frozen? ⟨S + 1 + 1, 0, none⟩ = false ∧ W.frozen? ⟨S + 1 + 1, 1, none⟩ = false ∧ W.frozen? ⟨S + 1 + 1, 2, none⟩ = false := fun W h => ⟨(r2.upd0 h).cell 0, (r2.upd0 h).cell 1, (r2.upd0 h).cell 2, (r2.upd0 h).frozen 0, (r2.upd0 h).frozen 1, (r2.upd0 h).frozen 2⟩
  have HRES := Lib.hid r2
  have hrf : Upd [] w0 w0 := Upd.refl _ _
  clear hw0 hS hu0 r0 r1 r2 hz0
  go_enter Tryz.func44, Tryz.ntmps44
  go_wp2_with fail
  rw [← HW0.out]
  rw [← HS.out]
  go_region_held3 (fun W => W.cell? ⟨S, 0, none⟩ = some (.slice a0 l0 c0) ∧ W.cell? ⟨S, 1, none⟩ = some (.slice d0 m0 e0) ∧ W.cell? ⟨S, 2, none⟩ = some (.slice f0 g0 h0) ∧ W.cell? ⟨S + 1, 0, none⟩ = some (.slice a1 l1 c1) ∧ W.cell? ⟨S + 1, 1, none⟩ = some (.slice d1 m1 e1) ∧ W.cell? ⟨S + 1, 2, none⟩ = some (.slice f1 g1 h1) ∧ Upd [S + 1 + 1] w0 W)
    ((refine HC.out _ ?_; repeat (first | (with_reducible refine Upd.setCell ?_ (.inl (by simp)) _) | (with_reducible exact huy.mono (by simp)) | (with_reducible exact hrf.mono (by simp)) | (with_reducible apply Upd.drew) | (with_reducible apply Upd.alloc))))
    (first
      | (go_at_call 94; (with_reducible refine (HB1.out _ (HU0.out.trans0 (by repeat (first | exact huy | exact hrf | apply Upd.drew | apply Upd.alloc)))).mono ?_); rintro e wz ⟨vA, rfl, hzA, hu20⟩;  have HZA := Lib.hid hzA; clear hzA; have huz : Upd [] w0 wz := Upd.trans0 (by repeat (first | exact huy | exact hrf | apply Upd.drew | apply Upd.alloc)) hu20; (try clear huy); clear hu20; have huy := huz; clear huz)
      | (go_at_call 94; (with_reducible refine (HB2.out _ (HU0.out.trans0 (by repeat (first | exact huy | exact hrf | apply Upd.drew | apply Upd.alloc)))).mono ?_); rintro e wz ⟨vB, rfl, hzB, hu20⟩; have HZA := Lib.hid (HZA.out.upd0 (by first | exact hu20 | exact Upd.al hu20)); have HZB := Lib.hid hzB; clear hzB; have huz : Upd [] w0 wz := Upd.trans0 (by repeat (first | exact huy | exact hrf | apply Upd.drew | apply Upd.alloc)) hu20; (try clear huy); clear hu20; have huy := huz; clear huz)
      | (go_at_call 93; (with_reducible refine (HAD.out _ _ _ (by first | exact HZA.out | exact ZV.upd0 HZA.out ((Upd.refl _ _).alloc _)) (by first | exact HZB.out | exact ZV.upd0 HZB.out ((Upd.refl _ _).alloc _))).mono ?_); rintro e wz ⟨vX, rfl, hzX, hu20⟩; have HZA := Lib.hid (HZA.out.upd0 (by first | exact hu20 | exact Upd.al hu20)); have HZB := Lib.hid (HZB.out.upd0 (by first | exact hu20 | exact Upd.al hu20)); obtain ⟨aX, lX, cX, dX, mX, eX, rfl, _, _⟩ := ZV.open hzX; have HZX := Lib.hid hzX; clear hzX; have huz : Upd [] w0 wz := Upd.trans0 (by repeat (first | exact huy | exact hrf | apply Upd.drew | apply Upd.alloc)) hu20; (try clear huy); clear hu20; have huy := huz; clear huz)
      | (go_at_call 95; (with_reducible refine (HDD.out _ (HU0.out.trans0 (by repeat (first | exact huy | exact hrf | apply Upd.drew | apply Upd.alloc)))).mono ?_); rintro e wz ⟨vD, rfl, hdD, hu20⟩; have HZA := Lib.hid (HZA.out.upd0 (by first | exact hu20 | exact Upd.al hu20)); have HZB := Lib.hid (HZB.out.upd0 (by first | exact hu20 | exact Upd.al hu20)); have HZX := Lib.hid (HZX.out.upd0 (by first | exact hu20 | exact Upd.al hu20)); obtain ⟨fX, gX, hX, rfl⟩ := DV.open hdD; have HDX := Lib.hid (DV.of hdD); clear hdD; have HX : Hid (QV wz (.agg #[.slice aX lX cX, .slice dX mX eX, .slice fX gX hX]) (p * dd + pp * d) (m * dd + mm * d) (d * dd)) := ⟨_, _, _, rfl, (ZV.parts HZX.out).1, (ZV.parts HZX.out).2, HDX.out⟩; have huz : Upd [] w0 wz := Upd.trans0 (by repeat (first | exact huy | exact hrf | apply Upd.drew | apply Upd.alloc)) hu20; (try clear huy); clear hu20; have huy := huz; clear huz; obtain ⟨x0, x1, x2, x3, x4, x5⟩ := hcA _ huy))
  all_goals
    have HP := Lib.hid (NewQ.set ⟨HRES.out.upd0 huy, by have := HS.out; omega⟩ (HU0.out.trans0 huy) HX.out)
    clear hcA huy
    have z0 := HP.out.row.cell 0
    have z1 := HP.out.row.cell 1
    have z2 := HP.out.row.cell 2
    go_wp2
    refine bodyPost_ret (v := .agg #[.slice aX lX cX, .slice dX mX eX, .slice fX gX hX]) (by simp [results, Tryz.results44, go_sem, z0, z1, z2]) rfl ?_
    exact ⟨_, rfl, HP.out.qv, HP.out.upd⟩

set_option maxHeartbeats 1600000 in
theorem qmul_any (u v : Value) (p m d pp mm dd : Nat) (w : World) (hu : QV w u p m d) (hv : QV w v pp mm dd) (hpl : (digs p).length ≤ 262144) (hml : (digs m).length ≤ 262144) (hdl : (digs d).length ≤ 262144) (hppl : (digs pp).length ≤ 262144) (hmml : (digs mm).length ≤ 262144) (hddl : (digs dd).length ≤ 262144) :
    Calls Tryz.prog 47 #[u, v] w (RQ (p * pp + m * mm) (p * mm + m * pp) (d * dd) w) := by
  obtain ⟨a0, l0, c0, d0, m0, e0, f0, g0, h0, rfl, hz0, hd0⟩ := hu.open
  obtain ⟨a1, l1, c1, d1, m1, e1, f1, g1, h1, rfl, hz1, hd1⟩ := hv.open
  have HDD : Hid (∀ W, Upd [] w W → Calls Tryz.prog 95 #[.slice f0 g0 h0, .slice f1 g1 h1] W (RDig (d * dd) W)) := fun W h => dmul (hd0.upd0 h) (hd1.upd0 h) (by omega) (by omega)
  have HZM : Hid (∀ W, Upd [] w W → Calls Tryz.prog 98 #[.agg #[.slice a0 l0 c0, .slice d0 m0 e0], .agg #[.slice a1 l1 c1, .slice d1 m1 e1]] W (RZ (p * pp + m * mm) (p * mm + m * pp) W)) := fun W h => zmul_any _ _ _ _ _ _ W (hz0.upd0 h) (hz1.upd0 h) (by omega) (by omega) (by omega) (by omega)
  clear hu hv hz0 hd0 hz1 hd1 hpl hml hdl hppl hmml hddl
  obtain ⟨w0, hw0⟩ : ∃ W, W = (((w.alloc (.cells #[.slice a0 l0 c0, .slice d0 m0 e0, .slice f0 g0 h0] 55)).alloc (.cells #[.slice a1 l1 c1, .slice d1 m1 e1, .slice f1 g1 h1] 55)).alloc (.cells #[.slice none 0 0, .slice none 0 0, .slice none 0 0] 55)) := ⟨_, rfl⟩
  obtain ⟨S, hS⟩ : ∃ s, s = w.heap.size := ⟨_, rfl⟩
  obtain ⟨hu0, r0, r1, r2, hz0⟩ := rows3 w #[.slice a0 l0 c0, .slice d0 m0 e0, .slice f0 g0 h0] #[.slice a1 l1 c1, .slice d1 m1 e1, .slice f1 g1 h1] #[.slice none 0 0, .slice none 0 0, .slice none 0 0] 55 55 55 w0 hw0 S hS
  have HU0 := Lib.hid hu0
  have HW0 := Lib.hid hw0
  have HS := Lib.hid hS
  have HZ0 := Lib.hid hz0
  have HC : Hid (∀ W, Upd [S + 1 + 1] w0 W → W.cell? ⟨S, 0, none⟩ = some (.slice a0 l0 c0) ∧ W.cell? ⟨S, 1, none⟩ = some (.slice d0 m0 e0) ∧ W.cell? ⟨S, 2, none⟩ = some (.slice f0 g0 h0) ∧ W.cell? ⟨S + 1, 0, none⟩ = some (.slice a1 l1 c1) ∧ W.cell? ⟨S + 1, 1, none⟩ = some (.slice d1 m1 e1) ∧ W.cell? ⟨S + 1, 2, none⟩ = some (.slice f1 g1 h1) ∧ Upd [S + 1 + 1] w0 W) := fun W h =>
    ⟨(r0.upd h (by simp <;> omega)).cell 0, (r0.upd h (by simp <;> omega)).cell 1, (r0.upd h (by simp <;> omega)).cell 2, (r1.upd h (by simp <;> omega)).cell 0, (r1.upd h (by simp <;> omega)).cell 1, (r1.upd h (by simp <;> omega)).cell 2, h⟩
  have hcA : ∀ W, Upd [] w0 W → W.cell? ⟨S + 1 + 1, 0, none⟩ = some (.slice none 0 0) ∧ W.cell? ⟨S + 1 + 1, 1, none⟩ = some (.slice none 0 0) ∧ W.cell? ⟨S + 1 + 1, 2, none⟩ = some (.slice none 0 0) ∧ W.frozen? ⟨S + 1 + 1, 0, none⟩ = false ∧ W.frozen? ⟨S + 1 + 1, 1, none⟩ = false ∧ W.frozen? ⟨S + 1 + 1, 2, none⟩ = false := fun W h => ⟨(r2.upd0 h).cell 0, (r2.upd0 h).cell 1, (r2.upd0 h).cell 2, (r2.upd0 h).frozen 0, (r2.upd0 h).frozen 1, (r2.upd0 h).frozen 2⟩
  have HRES := Lib.hid r2
  have hrf : Upd [] w0 w0 := Upd.refl _ _
  clear hw0 hS hu0 r0 r1 r2 hz0
  go_enter Tryz.func47, Tryz.ntmps47
  go_wp2_with fail
  rw [← HW0.out]
  rw [← HS.out]
  go_region_held3 (fun W => W.cell? ⟨S, 0, none⟩ = some (.slice a0 l0 c0) ∧ W.cell? ⟨S, 1, none⟩ = some (.slice d0 m0 e0) ∧ W.cell? ⟨S, 2, none⟩ = some (.slice f0 g0 h0) ∧ W.cell? ⟨S + 1, 0, none⟩ = some (.slice a1 l1 c1) ∧ W.cell? ⟨S + 1, 1, none⟩ = some (.slice d1 m1 e1) ∧ W.cell? ⟨S + 1, 2, none⟩ = some (.slice f1 g1 h1) ∧ Upd [S + 1 + 1] w0 W)
    ((refine HC.out _ ?_; repeat (first | (with_reducible refine Upd.setCell ?_ (.inl (by simp)) _) | (with_reducible exact huy.mono (by simp)) | (with_reducible exact hrf.mono (by simp)) | (with_reducible apply Upd.drew) | (with_reducible apply Upd.alloc))))
    (first
      | (go_at_call 98; (with_reducible refine (HZM.out _ (HU0.out.trans0 (by repeat (first | exact huy | exact hrf | apply Upd.drew | apply Upd.alloc)))).mono ?_); rintro e wz ⟨vX, rfl, hzX, hu20⟩;  obtain ⟨aX, lX, cX, dX, mX, eX, rfl, _, _⟩ := ZV.open hzX; have HZX := Lib.hid hzX; clear hzX; have huz : Upd [] w0 wz := Upd.trans0 (by repeat (first | exact huy | exact hrf | apply Upd.drew | apply Upd.alloc)) hu20; (try clear huy); clear hu20; have huy := huz; clear huz)
      | (go_at_call 95; (with_reducible refine (HDD.out _ (HU0.out.trans0 (by repeat (first | exact huy | exact hrf | apply Upd.drew | apply Upd.alloc)))).mono ?_); rintro e wz ⟨vD, rfl, hdD, hu20⟩; have HZX := Lib.hid (HZX.out.upd0 (by first | exact hu20 | exact Upd.al hu20)); obtain ⟨fX, gX, hX, rfl⟩ := DV.open hdD; have HDX := Lib.hid (DV.of hdD); clear hdD; have HX : Hid (QV wz (.agg #[.slice aX lX cX, .slice dX mX eX, .slice fX gX hX]) (p * pp + m * mm) (p * mm + m * pp) (d * dd)) := ⟨_, _, _, rfl, (ZV.parts HZX.out).1, (ZV.parts HZX.out).2, HDX.out⟩; have huz : Upd [] w0 wz := Upd.trans0 (by repeat (first | exact huy | exact hrf | apply Upd.drew | apply Upd.alloc)) hu20; (try clear huy); clear hu20; have huy := huz; clear huz; obtain ⟨x0, x1, x2, x3, x4, x5⟩ := hcA _ huy))
  all_goals
    have HP := Lib.hid (NewQ.set ⟨HRES.out.upd0 huy, by have := HS.out; omega⟩ (HU0.out.trans0 huy) HX.out)
    clear hcA huy
    have z0 := HP.out.row.cell 0
    have z1 := HP.out.row.cell 1
    have z2 := HP.out.row.cell 2
    go_wp2
    refine bodyPost_ret (v := .agg #[.slice aX lX cX, .slice dX mX eX, .slice fX gX hX]) (by simp [results, Tryz.results47, go_sem, z0, z1, z2]) rfl ?_
    exact ⟨_, rfl, HP.out.qv, HP.out.upd⟩

set_option maxHeartbeats 1600000 in
theorem qturn_any (u : Value) (p m d : Nat) (w : World) (hu : QV w u p m d) :
    Calls Tryz.prog 45 #[u] w (RQ m p d w) := by
  obtain ⟨a0, l0, c0, d0, m0, e0, f0, g0, h0, rfl, hz0, hd0⟩ := hu.open
  have HT : Hid (∀ W, Upd [] w W → Calls Tryz.prog 96 #[.agg #[.slice a0 l0 c0, .slice d0 m0 e0]] W (RZ m p W)) := fun W h => zturn_any _ _ _ W (hz0.upd0 h)
  have HDE : Hid (∀ W, Upd [] w W → DV W (.slice f0 g0 h0) d) := fun W h => hd0.upd0 h
  clear hu hz0 hd0
  obtain ⟨w0, hw0⟩ : ∃ W, W = ((w.alloc (.cells #[.slice a0 l0 c0, .slice d0 m0 e0, .slice f0 g0 h0] 55)).alloc (.cells #[.slice none 0 0, .slice none 0 0, .slice none 0 0] 55)) := ⟨_, rfl⟩
  obtain ⟨S, hS⟩ : ∃ s, s = w.heap.size := ⟨_, rfl⟩
  obtain ⟨hu0, r0, r1, hz0⟩ := rows2 w #[.slice a0 l0 c0, .slice d0 m0 e0, .slice f0 g0 h0] #[.slice none 0 0, .slice none 0 0, .slice none 0 0] 55 55 w0 hw0 S hS
  have HU0 := Lib.hid hu0
  have HW0 := Lib.hid hw0
  have HS := Lib.hid hS
  have HZ0 := Lib.hid hz0
  have HC : Hid (∀ W, Upd [S + 1] w0 W → W.cell? ⟨S, 0, none⟩ = some (.slice a0 l0 c0) ∧ W.cell? ⟨S, 1, none⟩ = some (.slice d0 m0 e0) ∧ W.cell? ⟨S, 2, none⟩ = some (.slice f0 g0 h0) ∧ Upd [S + 1] w0 W) := fun W h =>
    ⟨(r0.upd h (by simp <;> omega)).cell 0, (r0.upd h (by simp <;> omega)).cell 1, (r0.upd h (by simp <;> omega)).cell 2, h⟩
  have hcA : ∀ W, Upd [] w0 W → W.cell? ⟨S + 1, 0, none⟩ = some (.slice none 0 0) ∧ W.cell? ⟨S + 1, 1, none⟩ = some (.slice none 0 0) ∧ W.cell? ⟨S + 1, 2, none⟩ = some (.slice none 0 0) ∧ W.frozen? ⟨S + 1, 0, none⟩ = false ∧ W.frozen? ⟨S + 1, 1, none⟩ = false ∧ W.frozen? ⟨S + 1, 2, none⟩ = false := fun W h => ⟨(r1.upd0 h).cell 0, (r1.upd0 h).cell 1, (r1.upd0 h).cell 2, (r1.upd0 h).frozen 0, (r1.upd0 h).frozen 1, (r1.upd0 h).frozen 2⟩
  have HRES := Lib.hid r1
  have hrf : Upd [] w0 w0 := Upd.refl _ _
  clear hw0 hS hu0 r0 r1 hz0
  go_enter Tryz.func45, Tryz.ntmps45
  go_wp2_with fail
  rw [← HW0.out]
  rw [← HS.out]
  go_region_held3 (fun W => W.cell? ⟨S, 0, none⟩ = some (.slice a0 l0 c0) ∧ W.cell? ⟨S, 1, none⟩ = some (.slice d0 m0 e0) ∧ W.cell? ⟨S, 2, none⟩ = some (.slice f0 g0 h0) ∧ Upd [S + 1] w0 W)
    ((refine HC.out _ ?_; repeat (first | (with_reducible refine Upd.setCell ?_ (.inl (by simp)) _) | (with_reducible exact huy.mono (by simp)) | (with_reducible exact hrf.mono (by simp)) | (with_reducible apply Upd.drew) | (with_reducible apply Upd.alloc))))
    (first
      | (go_at_call 96; (with_reducible refine (HT.out _ (HU0.out.trans0 (by repeat (first | exact huy | exact hrf | apply Upd.drew | apply Upd.alloc)))).mono ?_); rintro e wz ⟨vX, rfl, hzX, hu20⟩;  obtain ⟨aX, lX, cX, dX, mX, eX, rfl, _, _⟩ := ZV.open hzX; have HZX := Lib.hid hzX; clear hzX; have HX : Hid (QV wz (.agg #[.slice aX lX cX, .slice dX mX eX, .slice f0 g0 h0]) m p d) := ⟨_, _, _, rfl, (ZV.parts HZX.out).1, (ZV.parts HZX.out).2, HDE.out _ (HU0.out.trans0 (Upd.trans0 (by repeat (first | exact huy | exact hrf | apply Upd.drew | apply Upd.alloc)) hu20))⟩; obtain ⟨fX, hfX⟩ : ∃ s, s = f0 := ⟨_, rfl⟩; obtain ⟨gX, hgX⟩ : ∃ s, s = g0 := ⟨_, rfl⟩; obtain ⟨hX, hhX⟩ : ∃ s, s = h0 := ⟨_, rfl⟩; subst hfX hgX hhX; have huz : Upd [] w0 wz := Upd.trans0 (by repeat (first | exact huy | exact hrf | apply Upd.drew | apply Upd.alloc)) hu20; (try clear huy); clear hu20; have huy := huz; clear huz; obtain ⟨x0, x1, x2, x3, x4, x5⟩ := hcA _ huy))
  all_goals
    have HP := Lib.hid (NewQ.set ⟨HRES.out.upd0 huy, by have := HS.out; omega⟩ (HU0.out.trans0 huy) HX.out)
    clear hcA huy
    have z0 := HP.out.row.cell 0
    have z1 := HP.out.row.cell 1
    have z2 := HP.out.row.cell 2
    go_wp2
    refine bodyPost_ret (v := .agg #[.slice aX lX cX, .slice dX mX eX, .slice fX gX hX]) (by simp [results, Tryz.results45, go_sem, z0, z1, z2]) rfl ?_
    exact ⟨_, rfl, HP.out.qv, HP.out.upd⟩

theorem mkRat_lt {a c : Int} {b d : Nat} (hb : 0 < b) (hd : 0 < d) : mkRat a b < mkRat c d ↔ a * d < c * b := by
  rw [Rat.mkRat_eq_div, Rat.mkRat_eq_div]
  have hb' : (0 : Rat) < (b : Rat) := Rat.natCast_pos.2 hb
  have hd' : (0 : Rat) < (d : Rat) := Rat.natCast_pos.2 hd
  rw [Rat.div_lt_iff hb']
  have e : (c : Rat) / (d : Rat) * (b : Rat) = ((c * b : Int) : Rat) / (d : Rat) := by
    rw [Rat.div_def, Rat.div_def, Rat.mul_assoc, Rat.mul_comm (d : Rat)⁻¹, ← Rat.mul_assoc]
    congr 1
    rw [Rat.intCast_mul]; rfl
  rw [e, Rat.lt_div_iff hd']
  have e2 : (a : Rat) * (d : Rat) = ((a * d : Int) : Rat) := by rw [Rat.intCast_mul]; rfl
  rw [e2]
  exact Rat.intCast_lt_intCast
theorem qcmp_eq {p m d pp mm dd : Nat} (h1 : 0 < d) (h2 : 0 < dd) : cmpN (p * dd + mm * d) (pp * d + m * dd) = cmpR (qval p m d) (qval pp mm dd) := by
  have key : cmpN (p * dd + mm * d) (pp * d + m * dd) = cmpZ (((p : Int) - m) * dd) (((pp : Int) - mm) * d) := by
    unfold cmpN cmpZ
    rw [Int.sub_mul, Int.sub_mul]
    simp only [← Int.natCast_mul]
    repeat' split
    all_goals omega
  rw [key]
  unfold cmpZ cmpR qval
  have hb : (0 : Rat) < (d : Rat) := Rat.natCast_pos.2 h1
  have hb2 : (0 : Rat) < (dd : Rat) := Rat.natCast_pos.2 h2
  have e1 := mkRat_lt (a := (p : Int) - m) (c := (pp : Int) - mm) h1 h2
  have e2 : mkRat ((p : Int) - m) d = mkRat ((pp : Int) - mm) dd ↔ ((p : Int) - m) * dd = ((pp : Int) - mm) * d := Rat.mkRat_eq_iff (by omega) (by omega)
  by_cases a : ((p : Int) - m) * dd < ((pp : Int) - mm) * d
  · rw [if_pos a, if_pos (e1.2 a)]
  · rw [if_neg a, if_neg (fun h => a (e1.1 h))]
    by_cases b : ((p : Int) - m) * dd = ((pp : Int) - mm) * d
    · rw [if_pos b, if_pos (e2.2 b)]
    · rw [if_neg b, if_neg (fun h => b (e2.1 h))]

set_option maxHeartbeats 1600000 in
theorem qcmp_any (u v : Value) (p m d pp mm dd : Nat) (w : World) (hu : QV w u p m d) (hv : QV w v pp mm dd) (hpl : (digs p).length ≤ 262144) (hml : (digs m).length ≤ 262144) (hdl : (digs d).length ≤ 262144) (hppl : (digs pp).length ≤ 262144) (hmml : (digs mm).length ≤ 262144) (hddl : (digs dd).length ≤ 262144) (hd0p : 0 < d) (hd1p : 0 < dd) :
    Calls Tryz.prog 48 #[u, v] w (fun e w' => e = .returned (.int .i64 (cmpR (qval p m d) (qval pp mm dd))) ∧ Upd [] w w') := by
  obtain ⟨a0, l0, c0, d0, m0, e0, f0, g0, h0, rfl, hz0, hd0⟩ := hu.open
  obtain ⟨a1, l1, c1, d1, m1, e1, f1, g1, h1, rfl, hz1, hd1⟩ := hv.open
  have HB1 : Hid (∀ W, Upd [] w W → Calls Tryz.prog 94 #[.agg #[.slice a0 l0 c0, .slice d0 m0 e0], .slice f1 g1 h1] W (RZ (p * dd) (m * dd) W)) := fun W h => qby_any _ _ _ _ _ W (hz0.upd0 h) (hd1.upd0 h) (by omega) (by omega) (by omega)
  have HB2 : Hid (∀ W, Upd [] w W → Calls Tryz.prog 94 #[.agg #[.slice a1 l1 c1, .slice d1 m1 e1], .slice f0 g0 h0] W (RZ (pp * d) (mm * d) W)) := fun W h => qby_any _ _ _ _ _ W (hz1.upd0 h) (hd0.upd0 h) (by omega) (by omega) (by omega)
  have HCM : Hid (∀ W s t, ZV W s (p * dd) (m * dd) → ZV W t (pp * d) (mm * d) → Calls Tryz.prog 24 #[s, t] W (fun e w' => e = .returned (.int .i64 (cmpR (qval p m d) (qval pp mm dd))) ∧ Upd [] W w')) := fun W s t hs ht => by
    have := zcmp_any _ _ _ _ _ _ W hs ht (by have := digs_mul_len p dd; omega) (by have := digs_mul_len m dd; omega) (by have := digs_mul_len pp d; omega) (by have := digs_mul_len mm d; omega)
    rw [qcmp_eq hd0p hd1p] at this
    exact this
  clear hu hv hz0 hd0 hz1 hd1 hpl hml hdl hppl hmml hddl hd0p hd1p
  obtain ⟨w0, hw0⟩ : ∃ W, W = ((w.alloc (.cells #[.slice a0 l0 c0, .slice d0 m0 e0, .slice f0 g0 h0] 55)).alloc (.cells #[.slice a1 l1 c1, .slice d1 m1 e1, .slice f1 g1 h1] 55)) := ⟨_, rfl⟩
  obtain ⟨S, hS⟩ : ∃ s, s = w.heap.size := ⟨_, rfl⟩
  obtain ⟨hu0, r0, r1, hz0⟩ := rows2 w #[.slice a0 l0 c0, .slice d0 m0 e0, .slice f0 g0 h0] #[.slice a1 l1 c1, .slice d1 m1 e1, .slice f1 g1 h1] 55 55 w0 hw0 S hS
  have HU0 := Lib.hid hu0
  have HW0 := Lib.hid hw0
  have HS := Lib.hid hS
  have HZ0 := Lib.hid hz0
  have HR0 := Lib.hid r0
  have HR1 := Lib.hid r1
  have hrf : Upd [] w0 w0 := Upd.refl _ _
  clear hw0 hS hu0 r0 r1 hz0
  have HC : Hid (∀ W, Upd [] w0 W → W.cell? ⟨S, 0, none⟩ = some (.slice a0 l0 c0) ∧ W.cell? ⟨S, 1, none⟩ = some (.slice d0 m0 e0) ∧ W.cell? ⟨S, 2, none⟩ = some (.slice f0 g0 h0) ∧ W.cell? ⟨S + 1, 0, none⟩ = some (.slice a1 l1 c1) ∧ W.cell? ⟨S + 1, 1, none⟩ = some (.slice d1 m1 e1) ∧ W.cell? ⟨S + 1, 2, none⟩ = some (.slice f1 g1 h1) ∧ Upd [] w0 W) := fun W h =>
    ⟨(HR0.out.upd h (by simp <;> omega)).cell 0, (HR0.out.upd h (by simp <;> omega)).cell 1, (HR0.out.upd h (by simp <;> omega)).cell 2, (HR1.out.upd h (by simp <;> omega)).cell 0, (HR1.out.upd h (by simp <;> omega)).cell 1, (HR1.out.upd h (by simp <;> omega)).cell 2, h⟩
  go_enter Tryz.func48, Tryz.ntmps48
  go_wp2_with fail
  rw [← HW0.out]
  rw [← HS.out]
  go_region_held3 (fun W => W.cell? ⟨S, 0, none⟩ = some (.slice a0 l0 c0) ∧ W.cell? ⟨S, 1, none⟩ = some (.slice d0 m0 e0) ∧ W.cell? ⟨S, 2, none⟩ = some (.slice f0 g0 h0) ∧ W.cell? ⟨S + 1, 0, none⟩ = some (.slice a1 l1 c1) ∧ W.cell? ⟨S + 1, 1, none⟩ = some (.slice d1 m1 e1) ∧ W.cell? ⟨S + 1, 2, none⟩ = some (.slice f1 g1 h1) ∧ Upd [] w0 W)
    ((refine HC.out _ ?_; repeat (first | exact huy | exact hrf | apply Upd.drew)))
    (first
      | (go_at_call 94; (with_reducible refine (HB1.out _ (HU0.out.trans0 (by repeat (first | exact huy | exact hrf | apply Upd.drew | apply Upd.alloc)))).mono ?_); rintro e wz ⟨vA, rfl, hzA, hu20⟩;  have HZA := Lib.hid hzA; clear hzA; have huz : Upd [] w0 wz := Upd.trans0 (by repeat (first | exact huy | exact hrf | apply Upd.drew | apply Upd.alloc)) hu20; (try clear huy); clear hu20; have huy := huz; clear huz)
      | (go_at_call 94; (with_reducible refine (HB2.out _ (HU0.out.trans0 (by repeat (first | exact huy | exact hrf | apply Upd.drew | apply Upd.alloc)))).mono ?_); rintro e wz ⟨vB, rfl, hzB, hu20⟩; have HZA := Lib.hid (HZA.out.upd0 (by first | exact hu20 | exact Upd.al hu20)); have HZB := Lib.hid hzB; clear hzB; have huz : Upd [] w0 wz := Upd.trans0 (by repeat (first | exact huy | exact hrf | apply Upd.drew | apply Upd.alloc)) hu20; (try clear huy); clear hu20; have huy := huz; clear huz)
      | (go_at_call 24; (with_reducible refine (HCM.out _ _ _ (by first | exact HZA.out | exact ZV.upd0 HZA.out ((Upd.refl _ _).alloc _)) (by first | exact HZB.out | exact ZV.upd0 HZB.out ((Upd.refl _ _).alloc _))).mono ?_); rintro e wz ⟨rfl, hu20⟩; have HZA := Lib.hid (HZA.out.upd0 (by first | exact hu20 | exact Upd.al hu20)); have HZB := Lib.hid (HZB.out.upd0 (by first | exact hu20 | exact Upd.al hu20));  have huz : Upd [] w0 wz := Upd.trans0 (by repeat (first | exact huy | exact hrf | apply Upd.drew | apply Upd.alloc)) hu20; (try clear huy); clear hu20; have huy := huz; clear huz))
  all_goals
    go_wp2
    go_ret
    exact ⟨rfl, HU0.out.trans0 huy⟩

theorem qsmall_any (n : Int) (w : World) (h1 : -9223372036854775808 ≤ n) (h2 : n ≤ 9223372036854775807) :
    ∃ p m : Nat, ((p : Int) - m = n) ∧ p ≤ 9223372036854775808 ∧ m ≤ 9223372036854775808 ∧ Calls Tryz.prog 53 #[.int .i64 n] w (RQ p m 1 w) := by
  obtain ⟨w0, hw0⟩ : ∃ W, W = w.alloc (.cells #[.slice none 0 0, .slice none 0 0, .slice none 0 0] 55) := ⟨_, rfl⟩
  obtain ⟨p, m, e, hp, hm, HO'⟩ := zsmall_any n w0 h1 h2
  refine ⟨p, m, e, hp, hm, ?_⟩
  have HO := Lib.hid HO'
  clear HO'
  obtain ⟨S, hS⟩ : ∃ s, s = w.heap.size := ⟨_, rfl⟩
  obtain ⟨hu0, r0, hz0⟩ := rows1 w #[.slice none 0 0, .slice none 0 0, .slice none 0 0] 55 w0 hw0 S hS
  have HU0 := Lib.hid hu0
  have HW0 := Lib.hid hw0
  have HS := Lib.hid hS
  have HRES := Lib.hid r0
  have hcA : ∀ W, Upd [] w0 W → W.cell? ⟨S, 0, none⟩ = some (.slice none 0 0) ∧ W.cell? ⟨S, 1, none⟩ = some (.slice none 0 0) ∧ W.cell? ⟨S, 2, none⟩ = some (.slice none 0 0) ∧ W.frozen? ⟨S, 0, none⟩ = false ∧ W.frozen? ⟨S, 1, none⟩ = false ∧ W.frozen? ⟨S, 2, none⟩ = false := fun W h => ⟨(HRES.out.upd0 h).cell 0, (HRES.out.upd0 h).cell 1, (HRES.out.upd0 h).cell 2, (HRES.out.upd0 h).frozen 0, (HRES.out.upd0 h).frozen 1, (HRES.out.upd0 h).frozen 2⟩
  clear hw0 hS hu0 r0 hz0 e hp hm h1 h2
  go_enter Tryz.func53, Tryz.ntmps53
  go_wp2_with fail
  rw [← HW0.out]
  rw [← HS.out]
  refine HO.out.mono ?_
  rintro e w1 ⟨v1, rfl, hz1, hu1⟩
  obtain ⟨aX, lX, cX, dX, mX, eX, rfl, hA, hB⟩ := ZV.open hz1
  have HA := Lib.hid hA
  have HB := Lib.hid hB
  have HU1 := Lib.hid hu1
  have HSM := Lib.hid (small_any 1 w1 (by decide))
  clear hz1 hu1 hA hB
  go_wp2_with fail
  refine HSM.out.mono ?_
  rintro e w2 ⟨v2, rfl, hd2, hu2⟩
  obtain ⟨fX, gX, hX, rfl⟩ := DV.open (DV.of hd2)
  have huy : Upd [] w0 w2 := HU1.out.trans0 hu2
  have HX : Hid (QV w2 (.agg #[.slice aX lX cX, .slice dX mX eX, .slice fX gX hX]) p m 1) := ⟨_, _, _, rfl, HA.out.upd0 hu2, HB.out.upd0 hu2, DV.of hd2⟩
  obtain ⟨x0, x1, x2, x3, x4, x5⟩ := hcA _ huy
  clear hd2 hu2
  have HP := Lib.hid (NewQ.set ⟨HRES.out.upd0 huy, by have := HS.out; omega⟩ (HU0.out.trans0 huy) HX.out)
  clear hcA huy
  have z0 := HP.out.row.cell 0
  have z1 := HP.out.row.cell 1
  have z2 := HP.out.row.cell 2
  go_wp2
  refine bodyPost_ret (v := .agg #[.slice aX lX cX, .slice dX mX eX, .slice fX gX hX]) (by simp [results, Tryz.results53, go_sem, z0, z1, z2]) rfl ?_
  exact ⟨_, rfl, HP.out.qv, HP.out.upd⟩

set_option maxHeartbeats 400000 in
theorem qfrac_any (u s : Value) (p m d : Nat) (w : World) (hu : ZV w u p m) (hs : DV w s d) :
    Calls Tryz.prog 77 #[u, s] w (RQ p m d w) := by
  obtain ⟨a0, l0, c0, d0, m0, e0, rfl, hp, hm⟩ := hu.open
  obtain ⟨a1, l1, c1, rfl⟩ := DV.open hs
  have HX : Hid (∀ W, Upd [] w W → QV W (.agg #[.slice a0 l0 c0, .slice d0 m0 e0, .slice a1 l1 c1]) p m d) := fun W h => ⟨_, _, _, rfl, hp.upd0 h, hm.upd0 h, hs.upd0 h⟩
  clear hu hs hp hm
  obtain ⟨hu0, _, r1, _⟩ := rows2 w #[.slice a0 l0 c0, .slice d0 m0 e0] #[.slice a0 l0 c0, .slice d0 m0 e0, .slice a1 l1 c1] 33 55 _ rfl _ rfl
  have z0 := r1.cell 0
  have z1 := r1.cell 1
  have z2 := r1.cell 2
  have HF : Hid (RQ p m d w (.returned (.agg #[.slice a0 l0 c0, .slice d0 m0 e0, .slice a1 l1 c1])) _) := ⟨_, rfl, HX.out _ hu0, hu0⟩
  clear r1 hu0
  go_enter Tryz.func77, Tryz.ntmps77
  go_wp2
  refine bodyPost_ret (v := .agg #[.slice a0 l0 c0, .slice d0 m0 e0, .slice a1 l1 c1]) (by simp [results, Tryz.results77, go_sem, z0, z1, z2]) rfl ?_
  exact HF.out

end Go.Proofs.YtoklmfmoblkfcaaGreatDoor
