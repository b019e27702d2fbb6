/- Blocks that hold one value. -/
import Derived.Test.YtcehkflkekefpaaDoorAa
import Derived.OneCell
namespace Go.Proofs.YtcehkflkekefpaaDoor
open Go.RowKit Go.Proofs.Tm
set_option linter.unusedVariables false
set_option maxRecDepth 20000

/-- Block k holds the value x alone. -/
def Box (W : World) (k : Nat) (x : Value) (t : TypeId) : Prop := W.heap[k]? = some (.cells #[x] t (0, 0))
theorem Box.upd {w W : World} {k : Nat} {x : Value} {t : TypeId} (h : Box w k x t) (u : Upd [] w W) : Box W k x t :=
  (u.block k (Array.getElem?_eq_some_iff.1 h).1 (by simp)).trans h
theorem Box.cell {W : World} {k : Nat} {x : Value} {t : TypeId} (h : Box W k x t) : W.cell? ⟨k, 0, none⟩ = some x := by rw [cell_of_row W _ 0 _ _ _ h]; rfl
theorem Box.new (w : World) (x : Value) (t : TypeId) : Box (w.alloc (.cells #[x] t)) w.heap.size x t := heap_alloc_new w _

/-- Two values in blocks of the call's own. -/
theorem two_boxes (w : World) (x y : Value) (t t' : TypeId) (w8 : World) (h : w8 = (w.alloc (.cells #[x] t)).alloc (.cells #[y] t')) (k : Nat) (hk : k = w.heap.size) :
    Upd [] w w8 ∧ ∀ W, Upd [] w8 W → W.cell? ⟨k, 0, none⟩ = some x ∧ W.cell? ⟨k + 1, 0, none⟩ = some y := by
  subst h hk
  have b1 : Box ((w.alloc (.cells #[x] t)).alloc (.cells #[y] t')) w.heap.size x t := (Box.new _ _ _).upd ((Upd.refl _ _).alloc _)
  have b2 : Box ((w.alloc (.cells #[x] t)).alloc (.cells #[y] t')) (w.heap.size + 1) y t' := by have := Box.new (w.alloc (.cells #[x] t)) y t'; simpa using this
  exact ⟨((Upd.refl _ _).alloc _).alloc _, fun W h => ⟨(b1.upd h).cell, (b2.upd h).cell⟩⟩


end Go.Proofs.YtcehkflkekefpaaDoor
