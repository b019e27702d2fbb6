/- Whole numbers (layer 6): Of. Fractions (layer 7): Of, Nat. -/
import Derived.Test.YtoklmfmoblkfcaaGreatDoorAb
import Derived.Test.YtoklmfmoblkfcaaGreatDoorNatOfw
namespace Go.Proofs.YtoklmfmoblkfcaaGreatDoor
open Go.RowKit Go.Proofs.Tm
set_option linter.unusedVariables false
set_option linter.unusedSimpArgs false
set_option maxRecDepth 20000

set_option maxHeartbeats 800000 in
theorem whole_of (n : Int) (w : World) (h1 : -9223372036854775808 ≤ n) (h2 : n ≤ 9223372036854775807) :
    Calls Tryz.prog 12 #[.int .i64 n] w (RWhole n w) := by
  have HK : Hid (∀ W v, Upd [] w W → NV W v n.natAbs → Calls Tryz.prog 35 #[.bool (decide (n < 0)), v] W (RWhole n W)) := fun W v h hv => by
    have := wmake_any (decide (n < 0)) _ _ W hv
    have e : (if decide (n < 0) = true then -((n.natAbs : Nat) : Int) else (n.natAbs : Nat)) = n := by
      by_cases h : n < 0 <;> simp [h] <;> omega
    rw [e] at this
    exact this
  obtain ⟨w0, hw0⟩ : ∃ W, W = (w.alloc (.cells #[.bool false, .slice none 0 0] 29)) := ⟨_, rfl⟩
  obtain ⟨S, hS⟩ : ∃ s, s = w.heap.size := ⟨_, rfl⟩
  obtain ⟨hu0, r0, hz0⟩ := rows1 w #[.bool false, .slice none 0 0] 29 w0 hw0 S hS
  have HU0 := Lib.hid hu0
  have HW0 := Lib.hid hw0
  have HS := Lib.hid hS
  have HZ0 := Lib.hid hz0
  have hcA : ∀ W, Upd [] w0 W → W.cell? ⟨S, 0, none⟩ = some (.bool false) ∧ W.cell? ⟨S, 1, none⟩ = some (.slice none 0 0) ∧ W.frozen? ⟨S, 0, none⟩ = false ∧ W.frozen? ⟨S, 1, none⟩ = false := fun W h => ⟨(r0.upd0 h).cell 0, (r0.upd0 h).cell 1, (r0.upd0 h).frozen 0, (r0.upd0 h).frozen 1⟩
  have HRES := Lib.hid r0
  clear hw0 hS hu0 r0 hz0
  by_cases hn : n < 0
  · have d0 := decide_eq_true hn
    have HZ : Hid (IntKind.u64.wrap (-(IntKind.u64.wrap n)) = ((n.natAbs : Nat) : Int)) := by show _ = _; rw [IntKind.wrap_u64, IntKind.wrap_u64]; omega
    rw [d0] at HK
    have HN := Lib.hid hn
    clear hn
    go_enter Tryz.func12, Tryz.ntmps12
    go_wp2_with fail
    rw [← HW0.out]
    rw [← HS.out]

    refine (of1 n.natAbs _ HZ.out (by have := HN.out; omega) _ _ HZ0.out.symm).mono ?_
    rintro e w2 ⟨v2, rfl, hn2, hu2⟩
    have HN2 := Lib.hid hn2
    have HV2 := Lib.hid (Upd.al hu2)
    clear hn2 hu2
    go_wp2_with fail
    refine (HK.out _ _ (HU0.out.trans0 HV2.out) HN2.out).mono ?_
    rintro e w3 ⟨v3, rfl, hv3, hu3⟩
    obtain ⟨a3, l3, c3, rfl, _⟩ := hv3.open
    have H3 := Lib.hid hv3
    have huy : Upd [] w0 w3 := HV2.out.trans0 hu3
    obtain ⟨x0, x1, x2, x3⟩ := hcA _ huy
    clear hv3 hu3 d0
    have HP := Lib.hid (NewW.set ⟨HRES.out.upd0 huy, by have := HS.out; omega⟩ (HU0.out.trans0 huy) H3.out)
    clear hcA huy
    generalize decide (n < 0) = p3 at *
    have z0 := HP.out.row.cell 0
    have z1 := HP.out.row.cell 1
    go_wp2
    refine bodyPost_ret (v := .agg #[.bool p3, .slice a3 l3 c3]) (by simp [results, Tryz.results12, go_sem, z0, z1]) rfl ?_
    exact ⟨_, rfl, HP.out.wv, HP.out.upd⟩
  · have d0 := decide_eq_false hn
    have HZ : Hid (IntKind.u64.wrap n = ((n.natAbs : Nat) : Int)) := by show _ = _; rw [IntKind.wrap_u64]; omega
    rw [d0] at HK
    have HN := Lib.hid hn
    clear hn
    go_enter Tryz.func12, Tryz.ntmps12
    go_wp2_with fail
    rw [← HW0.out]
    rw [← HS.out]

    refine (of1 n.natAbs _ HZ.out (by have := HN.out; omega) _ _ HZ0.out.symm).mono ?_
    rintro e w2 ⟨v2, rfl, hn2, hu2⟩
    have HN2 := Lib.hid hn2
    have HV2 := Lib.hid (Upd.al hu2)
    clear hn2 hu2
    go_wp2_with fail
    refine (HK.out _ _ (HU0.out.trans0 HV2.out) HN2.out).mono ?_
    rintro e w3 ⟨v3, rfl, hv3, hu3⟩
    obtain ⟨a3, l3, c3, rfl, _⟩ := hv3.open
    have H3 := Lib.hid hv3
    have huy : Upd [] w0 w3 := HV2.out.trans0 hu3
    obtain ⟨x0, x1, x2, x3⟩ := hcA _ huy
    clear hv3 hu3 d0
    have HP := Lib.hid (NewW.set ⟨HRES.out.upd0 huy, by have := HS.out; omega⟩ (HU0.out.trans0 huy) H3.out)
    clear hcA huy
    generalize decide (n < 0) = p3 at *
    have z0 := HP.out.row.cell 0
    have z1 := HP.out.row.cell 1
    go_wp2
    refine bodyPost_ret (v := .agg #[.bool p3, .slice a3 l3 c3]) (by simp [results, Tryz.results12, go_sem, z0, z1]) rfl ?_
    exact ⟨_, rfl, HP.out.wv, HP.out.upd⟩

theorem rv_whole {w : World} {z : Int} {v : Value} (h : WV w v z) : ∃ a l c, v = .agg #[.bool (decide (z < 0)), .slice a l c] ∧ RV w (.agg #[.bool (decide (z < 0)), .slice a l c, .slice none 0 0]) (z : Rat) := by
  obtain ⟨a, l, c, rfl, hn⟩ := h.open
  exact ⟨a, l, c, rfl, _, _, rfl, hn, NV.zero _⟩
set_option maxHeartbeats 800000 in
theorem rat_of (n : Int) (w : World) (h1 : -9223372036854775808 ≤ n) (h2 : n ≤ 9223372036854775807) :
    Calls Tryz.prog 40 #[.int .i64 n] w (RRat (n : Rat) w) := by
  have HO : Hid (∀ W, Upd [] w W → Calls Tryz.prog 12 #[.int .i64 n] W (RWhole n W)) := fun W h => whole_of n W h1 h2
  obtain ⟨w0, hw0⟩ : ∃ W, W = (w.alloc (.cells #[.bool false, .slice none 0 0, .slice none 0 0] 53)) := ⟨_, rfl⟩
  obtain ⟨S, hS⟩ : ∃ s, s = w.heap.size := ⟨_, rfl⟩
  obtain ⟨hu0, r0, hz0⟩ := rows1 w #[.bool false, .slice none 0 0, .slice none 0 0] 53 w0 hw0 S hS
  have HU0 := Lib.hid hu0
  have HW0 := Lib.hid hw0
  have HS := Lib.hid hS
  have HZ0 := Lib.hid hz0
  have hcA : ∀ W, Upd [] w0 W → W.cell? ⟨S, 0, none⟩ = some (.bool false) ∧ W.cell? ⟨S, 1, none⟩ = some (.slice none 0 0) ∧ W.cell? ⟨S, 2, none⟩ = some (.slice none 0 0) ∧ W.frozen? ⟨S, 0, none⟩ = false ∧ W.frozen? ⟨S, 1, none⟩ = false ∧ W.frozen? ⟨S, 2, none⟩ = false := fun W h => ⟨(r0.upd0 h).cell 0, (r0.upd0 h).cell 1, (r0.upd0 h).cell 2, (r0.upd0 h).frozen 0, (r0.upd0 h).frozen 1, (r0.upd0 h).frozen 2⟩
  have HRES := Lib.hid r0
  clear hw0 hS hu0 r0 hz0 h1 h2
  go_enter Tryz.func40, Tryz.ntmps40
  go_wp2_with fail
  rw [← HW0.out]
  rw [← HS.out]
  refine (HO.out _ HU0.out).mono ?_
  rintro e w1 ⟨v1, rfl, hv1, huy⟩
  obtain ⟨a1, l1, c1, rfl, hr⟩ := rv_whole hv1
  have H2 := Lib.hid hr
  obtain ⟨x0, x1, x2, x3, x4, x5⟩ := hcA _ huy
  clear hv1 hr
  have HP := Lib.hid (NewR.set ⟨HRES.out.upd0 huy, by have := HS.out; omega⟩ (HU0.out.trans0 huy) H2.out)
  clear hcA huy
  generalize decide (n < 0) = p2 at *
  have z0 := HP.out.row.cell 0
  have z1 := HP.out.row.cell 1
  have z2 := HP.out.row.cell 2
  go_wp2
  refine bodyPost_ret (v := .agg #[.bool p2, .slice a1 l1 c1, .slice none 0 0]) (by simp [results, Tryz.results40, go_sem, z0, z1, z2]) rfl ?_
  exact ⟨_, rfl, HP.out.rv, HP.out.upd⟩

set_option maxHeartbeats 800000 in
theorem rat_nat (u : Value) (n : Nat) (w : World) (hu : NV w u n) :
    Calls Tryz.prog 54 #[u] w (RRat (((n : Nat) : Int) : Rat) w) := by
  obtain ⟨a0, l0, c0, rfl, h0⟩ := nvOpen hu
  have HO : Hid (∀ W, Upd [] w W → Calls Tryz.prog 35 #[.bool false, .agg #[.slice a0 l0 c0]] W (RWhole ((n : Nat) : Int) W)) := fun W h => wmake_any false _ n W (h0.upd0 h)
  clear hu h0
  obtain ⟨w0, hw0⟩ : ∃ W, W = ((w.alloc (.cells #[.slice a0 l0 c0] 27)).alloc (.cells #[.bool false, .slice none 0 0, .slice none 0 0] 53)) := ⟨_, rfl⟩
  obtain ⟨S, hS⟩ : ∃ s, s = w.heap.size := ⟨_, rfl⟩
  obtain ⟨hu0, r0, r1, hz0⟩ := rows2 w #[.slice a0 l0 c0] #[.bool false, .slice none 0 0, .slice none 0 0] 27 53 w0 hw0 S hS
  have HU0 := Lib.hid hu0
  have HW0 := Lib.hid hw0
  have HS := Lib.hid hS
  have HZ0 := Lib.hid hz0
  have hcA : ∀ W, Upd [] w0 W → W.cell? ⟨S + 1, 0, none⟩ = some (.bool false) ∧ W.cell? ⟨S + 1, 1, none⟩ = some (.slice none 0 0) ∧ W.cell? ⟨S + 1, 2, none⟩ = some (.slice none 0 0) ∧ W.frozen? ⟨S + 1, 0, none⟩ = false ∧ W.frozen? ⟨S + 1, 1, none⟩ = false ∧ W.frozen? ⟨S + 1, 2, none⟩ = false := fun W h => ⟨(r1.upd0 h).cell 0, (r1.upd0 h).cell 1, (r1.upd0 h).cell 2, (r1.upd0 h).frozen 0, (r1.upd0 h).frozen 1, (r1.upd0 h).frozen 2⟩
  have HRES := Lib.hid r1
  have hp := r0.cell 0
  clear hw0 hS hu0 r0 r1 hz0
  go_enter Tryz.func54, Tryz.ntmps54
  go_wp2_with fail
  rw [← HW0.out]
  rw [← HS.out]
  refine (HO.out _ HU0.out).mono ?_
  rintro e w1 ⟨v1, rfl, hv1, huy⟩
  obtain ⟨a1, l1, c1, rfl, hr⟩ := rv_whole hv1
  have H2 := Lib.hid hr
  obtain ⟨x0, x1, x2, x3, x4, x5⟩ := hcA _ huy
  clear hv1 hr
  have HP := Lib.hid (NewR.set ⟨HRES.out.upd0 huy, by have := HS.out; omega⟩ (HU0.out.trans0 huy) H2.out)
  clear hcA huy
  generalize decide ((n : Int) < 0) = p2 at *
  have z0 := HP.out.row.cell 0
  have z1 := HP.out.row.cell 1
  have z2 := HP.out.row.cell 2
  go_wp2
  refine bodyPost_ret (v := .agg #[.bool p2, .slice a1 l1 c1, .slice none 0 0]) (by simp [results, Tryz.results54, go_sem, z0, z1, z2]) rfl ?_
  exact ⟨_, rfl, HP.out.rv, HP.out.upd⟩

end Go.Proofs.YtoklmfmoblkfcaaGreatDoor
