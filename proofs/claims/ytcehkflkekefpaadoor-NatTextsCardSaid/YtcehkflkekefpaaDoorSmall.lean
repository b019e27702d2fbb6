/- Small facts of worlds that grow. -/
import Derived.Test.YtcehkflkekefpaaDoorCells
namespace Go.Proofs.YtcehkflkekefpaaDoor
open Go.RowKit Go.Proofs.Tm
set_option linter.unusedVariables false
set_option maxRecDepth 20000

theorem upd_facts {X A : World} (u : Upd [] X A) : (∀ k, k < X.heap.size → A.cell? ⟨k, 0, none⟩ = X.cell? ⟨k, 0, none⟩) ∧ (∀ k, k < X.heap.size → A.frozen? ⟨k, 0, none⟩ = X.frozen? ⟨k, 0, none⟩) ∧ X.heap.size ≤ A.heap.size :=
  ⟨fun k hk => u.cell (p := ⟨k, 0, none⟩) hk (by simp), fun k hk => u.frozen (p := ⟨k, 0, none⟩) hk (by simp), u.size⟩
/-- A slice of one cell. -/
theorem sl_cell {W : World} {k : Nat} {x : Value} (h : W.cell? ⟨k, 0, none⟩ = some x) : Sl W (.slice (some ⟨k, 0, none⟩) 1 1) [x] :=
  ⟨_, 1, rfl, Nat.le_refl _, by simp [maxLen], fun _ => ⟨k, 0, rfl, fun i hi => by
    obtain rfl : i = 0 := by simpa using hi
    exact h⟩⟩
theorem lit_sl (w : World) (xs : List Bool) (t : TypeId) (hm : xs.length ≤ maxLen) : Sl (w.alloc (.cells (xs.map Value.bool).toArray t)) (.slice (some ⟨w.heap.size, 0, none⟩) xs.length xs.length) (cb xs) := by
  have := Sl.own (own_lit w t (xs.map Value.bool).toArray (by simpa using hm))
  simpa [cb] using this


end Go.Proofs.YtcehkflkekefpaaDoor
