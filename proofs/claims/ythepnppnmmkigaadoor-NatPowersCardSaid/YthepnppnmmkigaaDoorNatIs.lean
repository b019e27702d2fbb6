/- The contract of Is (layer 5's law): a number is the document's. Boxes of numbers. -/
import Derived.Test.YthepnppnmmkigaaDoorRefText
import Derived.Test.YthepnppnmmkigaaDoorNatText
import Derived.Test.YthepnppnmmkigaaDoorNatBox
namespace Go.Proofs.YthepnppnmmkigaaDoor
open Go.RowKit Go.Proofs.Tm
set_option linter.unusedVariables false
set_option linter.unusedSimpArgs false
set_option maxRecDepth 20000

/-- Block k holds the value x alone. -/
def Box (W : World) (k : Nat) (x : Value) (t : TypeId) : Prop := W.heap[k]? = some (.cells #[x] t (0, 0))
theorem Box.upd {w W : World} {k : Nat} {x : Value} {t : TypeId} (h : Box w k x t) (u : Upd [] w W) : Box W k x t :=
  (u.block k (Array.getElem?_eq_some_iff.1 h).1 (by simp)).trans h
theorem Box.cell {W : World} {k : Nat} {x : Value} {t : TypeId} (h : Box W k x t) : W.cell? ⟨k, 0, none⟩ = some x := by rw [cell_of_row W _ 0 _ _ _ h]; rfl
theorem Box.new (w : World) (x : Value) (t : TypeId) : Box (w.alloc (.cells #[x] t)) w.heap.size x t := heap_alloc_new w _

set_option maxHeartbeats 800000 in
theorem is_any (u v : Value) (n : Nat) (w : World) (hu : NV w u n) (hv : Sl w v (ci64 (digs n))) (ht : Tab w) (hl : (wds n).length ≤ 1073741824) (hd : (digs n).length ≤ 1099511627776) :
    Calls Tryd.prog 24 #[u, v] w fun e w' => e = .returned (.bool true) ∧ Upd [] w w' := by
  obtain ⟨a, cap, rfl, _, _⟩ := hu.open
  have HA := Lib.hid hu
  have HB := Lib.hid hv
  have HT := Lib.hid ht
  have HL : Hid (∀ m, m = n → (wds m).length ≤ 1073741824) := fun m h => by rw [h]; exact hl
  have HD := Lib.hid hd
  generalize (wds n).length = l at *
  clear hu hv ht hl hd
  go_enter Tryd.func24, Tryd.ntmps24
  go_wp2_with fail
  refine (text_any _ n _ (HA.out.upd0 ((Upd.refl _ _).alloc _)) (HT.out.upd0 ((Upd.refl _ _).alloc _)) (HL.out n rfl)).mono ?_
  rintro e w1 ⟨rfl, hu1⟩
  have HU1 := Lib.hid (((Upd.refl [] _).alloc _).trans0 hu1)
  clear hu1
  go_wp2_with fail
  refine (rtext_any _ n _ (HB.out.upd0 HU1.out) HD.out).mono ?_
  rintro e w2 ⟨rfl, hu2⟩
  have HU2 := Lib.hid (HU1.out.trans0 hu2)
  clear hu2
  generalize (Lib.decDigits n).toArray = s at *
  go_wp2
  go_ret
  exact ⟨rfl, HU2.out⟩
end Go.Proofs.YthepnppnmmkigaaDoor
