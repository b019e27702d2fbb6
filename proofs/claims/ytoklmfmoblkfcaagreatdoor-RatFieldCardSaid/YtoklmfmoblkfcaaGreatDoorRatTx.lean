/- Texts of whole numbers (layer 6) and of fractions (layer 7). -/
import Derived.Test.YtoklmfmoblkfcaaGreatDoorRatD
import Derived.Test.YtoklmfmoblkfcaaGreatDoorRatL
import Derived.Test.YtoklmfmoblkfcaaGreatDoorNatText
import Derived.Test.YtoklmfmoblkfcaaGreatDoorTxtM
import Derived.Deep.RegionHeld3
namespace Go.Proofs.YtoklmfmoblkfcaaGreatDoor
open Go.RowKit Go.Proofs.Tm
set_option linter.unusedVariables false
set_option linter.unusedSimpArgs false
set_option maxRecDepth 20000

set_option maxHeartbeats 800000 in
theorem wtext_any (v : Value) (z : Int) (w : World) (hu : WV w v z) (ht : Tab w) (hl : (wds z.natAbs).length ≤ 1073741824) :
    Calls Tryz.prog 14 #[v] w (fun e w' => e = .returned (.string ⟨(zTxt z).toArray⟩) ∧ Upd [] w w') := by
  obtain ⟨a0, l0, c0, rfl, hn⟩ := hu.open
  have HT : Hid (∀ W, Upd [] w W → Calls Tryz.prog 20 #[.agg #[.slice a0 l0 c0]] W (fun e w' => e = .returned (.string ⟨(Lib.decDigits z.natAbs).toArray⟩) ∧ Upd [] W w')) := fun W h => text_any _ _ W (hn.upd0 h) (ht.upd0 h) hl
  by_cases hz : z < 0
  · have HE : Hid (zTxt z = 45 :: Lib.decDigits z.natAbs) := if_pos hz
    have hs : ¬ 9223372036854775807 < 1 + (Lib.decDigits z.natAbs).length := by have := dec_le z.natAbs; omega
    rw [decide_eq_true hz]
    generalize Lib.decDigits z.natAbs = d at *
    clear hu hn ht hl hz
    obtain ⟨w0, hw0⟩ : ∃ W, W = (w.alloc (.cells #[.bool true, .slice a0 l0 c0] 29)) := ⟨_, rfl⟩
    obtain ⟨S, hS⟩ : ∃ s, s = w.heap.size := ⟨_, rfl⟩
    obtain ⟨hu0, r0, hz0⟩ := rows1 w #[.bool true, .slice a0 l0 c0] 29 w0 hw0 S hS
    have HU0 := Lib.hid hu0
    have HW0 := Lib.hid hw0
    have HS := Lib.hid hS
    have HZ0 := Lib.hid hz0
    have hp0 := r0.cell 0
    have hp1 := r0.cell 1
    clear hw0 hS hu0 r0 hz0
    go_enter Tryz.func14, Tryz.ntmps14
    go_wp2_with fail
    rw [← HW0.out]
    rw [← HS.out]
    refine (HT.out _ HU0.out).mono ?_
    rintro e w1 ⟨rfl, hu1⟩
    have HF := Lib.hid (HU0.out.trans0 hu1)
    clear hu1
    go_wp2
    go_ret
    exact ⟨by rw [HE.out]; exact congrArg (fun s => Ending.returned (.string s)) (bs_cons2 45 d), HF.out⟩
  · have HE : Hid (zTxt z = Lib.decDigits z.natAbs) := if_neg hz
    rw [decide_eq_false hz]
    generalize Lib.decDigits z.natAbs = d at *
    clear hu hn ht hl hz
    obtain ⟨w0, hw0⟩ : ∃ W, W = (w.alloc (.cells #[.bool false, .slice a0 l0 c0] 29)) := ⟨_, rfl⟩
    obtain ⟨S, hS⟩ : ∃ s, s = w.heap.size := ⟨_, rfl⟩
    obtain ⟨hu0, r0, hz0⟩ := rows1 w #[.bool false, .slice a0 l0 c0] 29 w0 hw0 S hS
    have HU0 := Lib.hid hu0
    have HW0 := Lib.hid hw0
    have HS := Lib.hid hS
    have HZ0 := Lib.hid hz0
    have hp0 := r0.cell 0
    have hp1 := r0.cell 1
    clear hw0 hS hu0 r0 hz0
    go_enter Tryz.func14, Tryz.ntmps14
    go_wp2_with fail
    rw [← HW0.out]
    rw [← HS.out]
    refine (HT.out _ HU0.out).mono ?_
    rintro e w1 ⟨rfl, hu1⟩
    have HF := Lib.hid (HU0.out.trans0 hu1)
    clear hu1
    go_wp2
    go_ret
    exact ⟨by rw [HE.out]; rfl, HF.out⟩

set_option maxHeartbeats 800000 in
theorem rtextq_any (v : Value) (q : Rat) (w : World) (hu : RV w v q) (ht : Tab w) (hq : QL q 1073741824) :
    Calls Tryz.prog 28 #[v] w (fun e w' => e = .returned (.string ⟨(ratTxt q).toArray⟩) ∧ Upd [] w w') := by
  obtain ⟨a0, l0, c0, d0, m0, e0, rfl, hw0', hd0'⟩ := hu.open
  have HWH : Hid (∀ W, Upd [] w W → Calls Tryz.prog 41 #[.agg #[.bool (decide (q.num < 0)), .slice a0 l0 c0, .slice d0 m0 e0]] W (fun e w' => e = .returned (.bool (decide (q.den = 1))) ∧ Upd [] W w')) := fun W h => rwhole_any _ q W (hu.upd0 h)
  have HWT : Hid (∀ W, Upd [] w W → Calls Tryz.prog 14 #[.agg #[.bool (decide (q.num < 0)), .slice a0 l0 c0]] W (fun e w' => e = .returned (.string ⟨(zTxt q.num).toArray⟩) ∧ Upd [] W w')) := fun W h => wtext_any _ _ W (hw0'.upd0 h) (ht.upd0 h) hq.1
  by_cases h1 : q.den = 1
  · have HE : Hid (ratTxt q = zTxt q.num) := by show _ = _; unfold ratTxt; rw [if_pos h1, List.append_nil]
    rw [decide_eq_true h1] at HWH
    generalize zTxt q.num = d at *
    generalize decide (q.num < 0) = b0 at *
    clear hu hw0' hd0' ht hq h1
    obtain ⟨w0, hw0⟩ : ∃ W, W = (w.alloc (.cells #[.bool b0, .slice a0 l0 c0, .slice d0 m0 e0] 53)) := ⟨_, rfl⟩
    obtain ⟨S, hS⟩ : ∃ s, s = w.heap.size := ⟨_, rfl⟩
    obtain ⟨hu0, r0, hz0⟩ := rows1 w #[.bool b0, .slice a0 l0 c0, .slice d0 m0 e0] 53 w0 hw0 S hS
    have HU0 := Lib.hid hu0
    have HW0 := Lib.hid hw0
    have HS := Lib.hid hS
    have HZ0 := Lib.hid hz0
    have HR0 := Lib.hid r0
    have hp0 := r0.cell 0
    have hp1 := r0.cell 1
    have hp2 := r0.cell 2
    clear hw0 hS hu0 r0 hz0
    go_enter Tryz.func28, Tryz.ntmps28
    go_wp2_with fail
    rw [← HW0.out]
    rw [← HS.out]
    refine (HWH.out _ HU0.out).mono ?_
    rintro e w1 ⟨rfl, hu1⟩
    have hq0 := (HR0.out.upd0 hu1).cell 0
    have hq1 := (HR0.out.upd0 hu1).cell 1
    have HU1 := Lib.hid (HU0.out.trans0 hu1)
    clear hu1 hp0 hp1 hp2
    go_wp2_with fail
    refine (HWT.out _ HU1.out).mono ?_
    rintro e w2 ⟨rfl, hu2⟩
    have HF := Lib.hid (HU1.out.trans0 hu2)
    clear hu2
    go_wp2
    go_ret
    exact ⟨by rw [HE.out]; rfl, HF.out⟩
  · have HE : Hid (ratTxt q = zTxt q.num ++ (47 :: Lib.decDigits q.den)) := by show _ = _; unfold ratTxt; rw [if_neg h1]
    have HDT : Hid (∀ W, Upd [] w W → Calls Tryz.prog 20 #[.agg #[.slice d0 m0 e0]] W (fun e w' => e = .returned (.string ⟨(Lib.decDigits q.den).toArray⟩) ∧ Upd [] W w')) := fun W h => by
      have h2 := hd0'
      unfold denN at h2
      rw [if_neg h1] at h2
      exact text_any _ _ W (h2.upd0 h) (ht.upd0 h) hq.2
    rw [decide_eq_false h1] at HWH
    have hs1 : ¬ 9223372036854775807 < (zTxt q.num).length + 1 := by have := zTxt_le q.num; have := hq.1; omega
    have hs2 : ¬ 9223372036854775807 < (zTxt q.num).length + 1 + (Lib.decDigits q.den).length := by have := zTxt_le q.num; have := dec_le q.den; have := hq.1; have := hq.2; omega
    generalize zTxt q.num = d at *
    generalize Lib.decDigits q.den = d2 at *
    generalize decide (q.num < 0) = b0 at *
    clear hu hw0' hd0' ht hq h1
    obtain ⟨w0, hw0⟩ : ∃ W, W = (w.alloc (.cells #[.bool b0, .slice a0 l0 c0, .slice d0 m0 e0] 53)) := ⟨_, rfl⟩
    obtain ⟨S, hS⟩ : ∃ s, s = w.heap.size := ⟨_, rfl⟩
    obtain ⟨hu0, r0, hz0⟩ := rows1 w #[.bool b0, .slice a0 l0 c0, .slice d0 m0 e0] 53 w0 hw0 S hS
    have HU0 := Lib.hid hu0
    have HW0 := Lib.hid hw0
    have HS := Lib.hid hS
    have HZ0 := Lib.hid hz0
    have HR0 := Lib.hid r0
    have hp0 := r0.cell 0
    have hp1 := r0.cell 1
    have hp2 := r0.cell 2
    clear hw0 hS hu0 r0 hz0
    go_enter Tryz.func28, Tryz.ntmps28
    go_wp2_with fail
    rw [← HW0.out]
    rw [← HS.out]
    refine (HWH.out _ HU0.out).mono ?_
    rintro e w1 ⟨rfl, hu1⟩
    have HU1 := Lib.hid (HU0.out.trans0 hu1)
    have HR1 := Lib.hid (HR0.out.upd0 hu1)
    have hrf : Upd [] w1 w1 := Upd.refl _ _
    clear hu1 hp0 hp1 hp2
    have HC : Hid (∀ W, Upd [] w1 W → W.cell? ⟨S, 0, none⟩ = some (.bool b0) ∧ W.cell? ⟨S, 1, none⟩ = some (.slice a0 l0 c0) ∧ W.cell? ⟨S, 2, none⟩ = some (.slice d0 m0 e0) ∧ Upd [] w1 W) := fun W h =>
      ⟨(HR1.out.upd h (by simp <;> omega)).cell 0, (HR1.out.upd h (by simp <;> omega)).cell 1, (HR1.out.upd h (by simp <;> omega)).cell 2, h⟩
    go_wp2_with fail
    go_region_held3 (fun W => W.cell? ⟨S, 0, none⟩ = some (.bool b0) ∧ W.cell? ⟨S, 1, none⟩ = some (.slice a0 l0 c0) ∧ W.cell? ⟨S, 2, none⟩ = some (.slice d0 m0 e0) ∧ Upd [] w1 W)
      ((refine HC.out _ ?_; repeat (first | exact huy | exact hrf | apply Upd.drew)))
      (first
        | (go_at_call 14; (with_reducible refine (HWT.out _ (HU1.out.trans0 (by repeat (first | exact huy | exact hrf | apply Upd.drew | apply Upd.alloc)))).mono ?_); rintro e wz ⟨rfl, hu20⟩;   have huz : Upd [] w1 wz := Upd.trans0 (by repeat (first | exact huy | exact hrf | apply Upd.drew | apply Upd.alloc)) hu20; (try clear huy); clear hu20; have huy := huz; clear huz)
        | (go_at_call 20; (with_reducible refine (HDT.out _ (HU1.out.trans0 (by repeat (first | exact huy | exact hrf | apply Upd.drew | apply Upd.alloc)))).mono ?_); rintro e wz ⟨rfl, hu20⟩;   have huz : Upd [] w1 wz := Upd.trans0 (by repeat (first | exact huy | exact hrf | apply Upd.drew | apply Upd.alloc)) hu20; (try clear huy); clear hu20; have huy := huz; clear huz))
    all_goals
      go_wp2
      go_ret
      exact ⟨by rw [HE.out, bs_app, bs_app, List.append_assoc]; rfl, HU1.out.trans0 huy⟩

end Go.Proofs.YtoklmfmoblkfcaaGreatDoor
