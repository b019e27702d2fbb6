/- The contract of Is (layer 5's law): a number is the document's. Boxes of numbers. -/
import Derived.Test.YtcehkflkekefpaaDoorRefText
import Derived.Test.YtcehkflkekefpaaDoorNatText
import Derived.Test.YtcehkflkekefpaaDoorNatBox
namespace Go.Proofs.YtcehkflkekefpaaDoor
open Go.RowKit Go.Proofs.Tm
set_option linter.unusedVariables false
set_option linter.unusedSimpArgs false
set_option maxRecDepth 20000

set_option maxHeartbeats 800000 in
theorem is_any (u v : Value) (n : Nat) (w : World) (hu : NV w u n) (hv : Sl w v (ci64 (digs n))) (ht : Tab w) (hl : (wds n).length ≤ 1073741824) (hd : (digs n).length ≤ 1099511627776) :
    Calls Tryd.prog 19 #[u, v] w fun e w' => e = .returned (.bool true) ∧ Upd [] w w' := by
  obtain ⟨a, cap, rfl, _, _⟩ := hu.open
  have HA := Lib.hid hu
  have HB := Lib.hid hv
  have HT := Lib.hid ht
  have HL : Hid (∀ m, m = n → (wds m).length ≤ 1073741824) := fun m h => by rw [h]; exact hl
  have HD := Lib.hid hd
  generalize (wds n).length = l at *
  clear hu hv ht hl hd
  go_enter Tryd.func19, Tryd.ntmps19
  go_wp2_with fail
  refine (text_any _ n _ (HA.out.upd0 ((Upd.refl _ _).alloc _)) (HT.out.upd0 ((Upd.refl _ _).alloc _)) (HL.out n rfl)).mono ?_
  rintro e w1 ⟨rfl, hu1⟩
  have HU1 := Lib.hid (((Upd.refl [] _).alloc _).trans0 hu1)
  clear hu1
  go_wp2_with fail
  refine (rtext_any _ n _ (HB.out.upd0 HU1.out) HD.out).mono ?_
  rintro e w2 ⟨rfl, hu2⟩
  have HU2 := Lib.hid (HU1.out.trans0 hu2)
  clear hu2
  generalize (Lib.decDigits n).toArray = s at *
  go_wp2
  go_ret
  exact ⟨rfl, HU2.out⟩
end Go.Proofs.YtcehkflkekefpaaDoor
