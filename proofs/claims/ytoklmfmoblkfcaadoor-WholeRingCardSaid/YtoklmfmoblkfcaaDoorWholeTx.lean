/- Texts of whole numbers (layer 6). -/
import Derived.Test.YtoklmfmoblkfcaaDoorAb
import Derived.Test.YtoklmfmoblkfcaaDoorNatText
import Derived.Test.YtoklmfmoblkfcaaDoorTxtM
import Derived.Deep.RegionHeld3
namespace Go.Proofs.YtoklmfmoblkfcaaDoor
open Go.RowKit Go.Proofs.Tm
set_option linter.unusedVariables false
set_option linter.unusedSimpArgs false
set_option maxRecDepth 20000

set_option maxHeartbeats 800000 in
theorem wtext_any (v : Value) (z : Int) (w : World) (hu : WV w v z) (ht : Tab w) (hl : (wds z.natAbs).length ≤ 1073741824) :
    Calls Tryd.prog 22 #[v] w (fun e w' => e = .returned (.string ⟨(zTxt z).toArray⟩) ∧ Upd [] w w') := by
  obtain ⟨a0, l0, c0, rfl, hn⟩ := hu.open
  have HT : Hid (∀ W, Upd [] w W → Calls Tryd.prog 38 #[.agg #[.slice a0 l0 c0]] W (fun e w' => e = .returned (.string ⟨(Lib.decDigits z.natAbs).toArray⟩) ∧ Upd [] W w')) := fun W h => text_any _ _ W (hn.upd0 h) (ht.upd0 h) hl
  by_cases hz : z < 0
  · have HE : Hid (zTxt z = 45 :: Lib.decDigits z.natAbs) := if_pos hz
    have hs : ¬ 9223372036854775807 < 1 + (Lib.decDigits z.natAbs).length := by have := dec_le z.natAbs; omega
    rw [decide_eq_true hz]
    generalize Lib.decDigits z.natAbs = d at *
    clear hu hn ht hl hz
    obtain ⟨w0, hw0⟩ : ∃ W, W = (w.alloc (.cells #[.bool true, .slice a0 l0 c0] 29)) := ⟨_, rfl⟩
    obtain ⟨S, hS⟩ : ∃ s, s = w.heap.size := ⟨_, rfl⟩
    obtain ⟨hu0, r0, hz0⟩ := rows1 w #[.bool true, .slice a0 l0 c0] 29 w0 hw0 S hS
    have HU0 := Lib.hid hu0
    have HW0 := Lib.hid hw0
    have HS := Lib.hid hS
    have HZ0 := Lib.hid hz0
    have hp0 := r0.cell 0
    have hp1 := r0.cell 1
    clear hw0 hS hu0 r0 hz0
    go_enter Tryd.func22, Tryd.ntmps22
    go_wp2_with fail
    rw [← HW0.out]
    rw [← HS.out]
    refine (HT.out _ HU0.out).mono ?_
    rintro e w1 ⟨rfl, hu1⟩
    have HF := Lib.hid (HU0.out.trans0 hu1)
    clear hu1
    go_wp2
    go_ret
    exact ⟨by rw [HE.out]; exact congrArg (fun s => Ending.returned (.string s)) (bs_cons2 45 d), HF.out⟩
  · have HE : Hid (zTxt z = Lib.decDigits z.natAbs) := if_neg hz
    rw [decide_eq_false hz]
    generalize Lib.decDigits z.natAbs = d at *
    clear hu hn ht hl hz
    obtain ⟨w0, hw0⟩ : ∃ W, W = (w.alloc (.cells #[.bool false, .slice a0 l0 c0] 29)) := ⟨_, rfl⟩
    obtain ⟨S, hS⟩ : ∃ s, s = w.heap.size := ⟨_, rfl⟩
    obtain ⟨hu0, r0, hz0⟩ := rows1 w #[.bool false, .slice a0 l0 c0] 29 w0 hw0 S hS
    have HU0 := Lib.hid hu0
    have HW0 := Lib.hid hw0
    have HS := Lib.hid hS
    have HZ0 := Lib.hid hz0
    have hp0 := r0.cell 0
    have hp1 := r0.cell 1
    clear hw0 hS hu0 r0 hz0
    go_enter Tryd.func22, Tryd.ntmps22
    go_wp2_with fail
    rw [← HW0.out]
    rw [← HS.out]
    refine (HT.out _ HU0.out).mono ?_
    rintro e w1 ⟨rfl, hu1⟩
    have HF := Lib.hid (HU0.out.trans0 hu1)
    clear hu1
    go_wp2
    go_ret
    exact ⟨by rw [HE.out]; rfl, HF.out⟩

end Go.Proofs.YtoklmfmoblkfcaaDoor
