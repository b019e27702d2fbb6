/- The builtins min and max of two ints. -/
import Derived.Test.YtoklmfmoblkfcaaDoorAa
namespace Go.Proofs.Tm
open Go.RowKit
set_option linter.unusedVariables false

theorem run_mini {P : Program} (a b : Int) (ts : Array TypeId) (t : TypeId) (W : World) : (Builtin.min_ ts t #[.int .i64 a, .int .i64 b]).run P W = .ok (.int .i64 (min a b)) W := by
  have e : Builtin.min_ ts t #[.int .i64 a, .int .i64 b] = pure (.int .i64 (if b < a then b else a)) := rfl
  rw [e, Sem.run_pure]
  congr 2
  split <;> omega
theorem run_maxi {P : Program} (a b : Int) (ts : Array TypeId) (t : TypeId) (W : World) : (Builtin.max_ ts t #[.int .i64 a, .int .i64 b]).run P W = .ok (.int .i64 (max a b)) W := by
  have e : Builtin.max_ ts t #[.int .i64 a, .int .i64 b] = pure (.int .i64 (if a < b then b else a)) := rfl
  rw [e, Sem.run_pure]
  congr 2
  split <;> omega
/-- .. with the answer named. -/
theorem mini_is {P : Program} {a b c : Int} (h : min a b = c) (ts : Array TypeId) (t : TypeId) (W : World) : (Builtin.min_ ts t #[.int .i64 a, .int .i64 b]).run P W = .ok (.int .i64 c) W := by rw [← h]; exact run_mini _ _ _ _ _
theorem maxi_is {P : Program} {a b c : Int} (h : max a b = c) (ts : Array TypeId) (t : TypeId) (W : World) : (Builtin.max_ ts t #[.int .i64 a, .int .i64 b]).run P W = .ok (.int .i64 c) W := by rw [← h]; exact run_maxi _ _ _ _ _
end Go.Proofs.Tm
