/- Whole numbers (layer 6): Of. -/
import Derived.Test.YtoklmfmoblkfcaaDoorAb
import Derived.Test.YtoklmfmoblkfcaaDoorNatOfw
namespace Go.Proofs.YtoklmfmoblkfcaaDoor
open Go.RowKit Go.Proofs.Tm
set_option linter.unusedVariables false
set_option linter.unusedSimpArgs false
set_option maxRecDepth 20000

set_option maxHeartbeats 800000 in
theorem whole_of (n : Int) (w : World) (h1 : -9223372036854775808 ≤ n) (h2 : n ≤ 9223372036854775807) :
    Calls Tryd.prog 28 #[.int .i64 n] w (RWhole n w) := by
  have HK : Hid (∀ W v, Upd [] w W → NV W v n.natAbs → Calls Tryd.prog 31 #[.bool (decide (n < 0)), v] W (RWhole n W)) := fun W v h hv => by
    have := wmake_any (decide (n < 0)) _ _ W hv
    have e : (if decide (n < 0) = true then -((n.natAbs : Nat) : Int) else (n.natAbs : Nat)) = n := by
      by_cases h : n < 0 <;> simp [h] <;> omega
    rw [e] at this
    exact this
  obtain ⟨w0, hw0⟩ : ∃ W, W = (w.alloc (.cells #[.bool false, .slice none 0 0] 29)) := ⟨_, rfl⟩
  obtain ⟨S, hS⟩ : ∃ s, s = w.heap.size := ⟨_, rfl⟩
  obtain ⟨hu0, r0, hz0⟩ := rows1 w #[.bool false, .slice none 0 0] 29 w0 hw0 S hS
  have HU0 := Lib.hid hu0
  have HW0 := Lib.hid hw0
  have HS := Lib.hid hS
  have HZ0 := Lib.hid hz0
  have hcA : ∀ W, Upd [] w0 W → W.cell? ⟨S, 0, none⟩ = some (.bool false) ∧ W.cell? ⟨S, 1, none⟩ = some (.slice none 0 0) ∧ W.frozen? ⟨S, 0, none⟩ = false ∧ W.frozen? ⟨S, 1, none⟩ = false := fun W h => ⟨(r0.upd0 h).cell 0, (r0.upd0 h).cell 1, (r0.upd0 h).frozen 0, (r0.upd0 h).frozen 1⟩
  have HRES := Lib.hid r0
  clear hw0 hS hu0 r0 hz0
  by_cases hn : n < 0
  · have d0 := decide_eq_true hn
    have HZ : Hid (IntKind.u64.wrap (-(IntKind.u64.wrap n)) = ((n.natAbs : Nat) : Int)) := by show _ = _; rw [IntKind.wrap_u64, IntKind.wrap_u64]; omega
    rw [d0] at HK
    have HN := Lib.hid hn
    clear hn
    go_enter Tryd.func28, Tryd.ntmps28
    go_wp2_with fail
    rw [← HW0.out]
    rw [← HS.out]

    refine (of1 n.natAbs _ HZ.out (by have := HN.out; omega) _ _ HZ0.out.symm).mono ?_
    rintro e w2 ⟨v2, rfl, hn2, hu2⟩
    have HN2 := Lib.hid hn2
    have HV2 := Lib.hid (Upd.al hu2)
    clear hn2 hu2
    go_wp2_with fail
    refine (HK.out _ _ (HU0.out.trans0 HV2.out) HN2.out).mono ?_
    rintro e w3 ⟨v3, rfl, hv3, hu3⟩
    obtain ⟨a3, l3, c3, rfl, _⟩ := hv3.open
    have H3 := Lib.hid hv3
    have huy : Upd [] w0 w3 := HV2.out.trans0 hu3
    obtain ⟨x0, x1, x2, x3⟩ := hcA _ huy
    clear hv3 hu3 d0
    have HP := Lib.hid (NewW.set ⟨HRES.out.upd0 huy, by have := HS.out; omega⟩ (HU0.out.trans0 huy) H3.out)
    clear hcA huy
    generalize decide (n < 0) = p3 at *
    have z0 := HP.out.row.cell 0
    have z1 := HP.out.row.cell 1
    go_wp2
    refine bodyPost_ret (v := .agg #[.bool p3, .slice a3 l3 c3]) (by simp [results, Tryd.results28, go_sem, z0, z1]) rfl ?_
    exact ⟨_, rfl, HP.out.wv, HP.out.upd⟩
  · have d0 := decide_eq_false hn
    have HZ : Hid (IntKind.u64.wrap n = ((n.natAbs : Nat) : Int)) := by show _ = _; rw [IntKind.wrap_u64]; omega
    rw [d0] at HK
    have HN := Lib.hid hn
    clear hn
    go_enter Tryd.func28, Tryd.ntmps28
    go_wp2_with fail
    rw [← HW0.out]
    rw [← HS.out]

    refine (of1 n.natAbs _ HZ.out (by have := HN.out; omega) _ _ HZ0.out.symm).mono ?_
    rintro e w2 ⟨v2, rfl, hn2, hu2⟩
    have HN2 := Lib.hid hn2
    have HV2 := Lib.hid (Upd.al hu2)
    clear hn2 hu2
    go_wp2_with fail
    refine (HK.out _ _ (HU0.out.trans0 HV2.out) HN2.out).mono ?_
    rintro e w3 ⟨v3, rfl, hv3, hu3⟩
    obtain ⟨a3, l3, c3, rfl, _⟩ := hv3.open
    have H3 := Lib.hid hv3
    have huy : Upd [] w0 w3 := HV2.out.trans0 hu3
    obtain ⟨x0, x1, x2, x3⟩ := hcA _ huy
    clear hv3 hu3 d0
    have HP := Lib.hid (NewW.set ⟨HRES.out.upd0 huy, by have := HS.out; omega⟩ (HU0.out.trans0 huy) H3.out)
    clear hcA huy
    generalize decide (n < 0) = p3 at *
    have z0 := HP.out.row.cell 0
    have z1 := HP.out.row.cell 1
    go_wp2
    refine bodyPost_ret (v := .agg #[.bool p3, .slice a3 l3 c3]) (by simp [results, Tryd.results28, go_sem, z0, z1]) rfl ?_
    exact ⟨_, rfl, HP.out.wv, HP.out.upd⟩

end Go.Proofs.YtoklmfmoblkfcaaDoor
