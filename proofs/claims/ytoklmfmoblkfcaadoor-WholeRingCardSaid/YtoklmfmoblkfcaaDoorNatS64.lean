/- Sub64, in the walk's own form. -/
import Derived.Test.YtoklmfmoblkfcaaDoorAb
namespace Go.Proofs.YtoklmfmoblkfcaaDoor
open Go.RowKit Go.Proofs.Tm
set_option linter.unusedVariables false
set_option linter.unusedSimpArgs false
set_option maxRecDepth 20000

/-- The model's entry for math/bits.Sub64. -/
def sub64E : Array Value → Sem Value := fun args => do
  let (x, y, b) ← Extern.MathBitsCarry.three "Sub64" args
  pure (Extern.MathBitsCarry.pair ((x + Extern.MathBitsCarry.m64 - y - b) % Extern.MathBitsCarry.m64) (if x < y + b then 1 else 0))

theorem sub64E_run (x y b : Nat) (hb : b ≤ 1) (w : World) :
    (sub64E #[.int .u64 x, .int .u64 y, .int .u64 b]).run Tryd.prog w = .ok (.tuple #[.int .u64 (((x + 18446744073709551616 - y - b) % 18446744073709551616 : Nat) : Int), .int .u64 ((if x < y + b then 1 else 0 : Nat) : Int)]) w := by
  have : b = 0 ∨ b = 1 := by omega
  rcases this with rfl | rfl <;> rfl

/-- Sub64, in the walk's own form. -/
theorem sub64_run (x y b : Nat) (hx : x < 18446744073709551616) (hy : y < 18446744073709551616) (hb : b ≤ 1) :
    ∃ d b' : Nat, d < 18446744073709551616 ∧ b' ≤ 1 ∧ x + 18446744073709551616 * b' = d + b + y ∧
      ∀ W, (callFunc 71 #[.int .u64 (x : Int), .int .u64 (y : Int), .int .u64 (b : Int)]).run Tryd.prog W = .ok (.value (.tuple #[.int .u64 (d : Int), .int .u64 (b' : Int)])) W := by
  refine ⟨(x + 18446744073709551616 - y - b) % 18446744073709551616, if x < y + b then 1 else 0, Nat.mod_lt _ (by decide), by split <;> omega, by split <;> omega, fun W => ?_⟩
  rw [run_callFunc_extern Tryd.func71 (by kernel_rfl) (by kernel_rfl) (by kernel_rfl) (e := sub64E) (by kernel_rfl), sub64E_run x y b hb]
  rfl

theorem sub64_run0 (x y : Nat) (hx : x < 18446744073709551616) (hy : y < 18446744073709551616) :
    ∃ d b' : Nat, d < 18446744073709551616 ∧ b' ≤ 1 ∧ x + 18446744073709551616 * b' = d + y ∧
      ∀ W, (callFunc 71 #[.int .u64 (x : Int), .int .u64 (y : Int), .int .u64 0]).run Tryd.prog W = .ok (.value (.tuple #[.int .u64 (d : Int), .int .u64 (b' : Int)])) W := by
  obtain ⟨d, b, h1, h2, h3, h4⟩ := sub64_run x y 0 hx hy (by decide)
  exact ⟨d, b, h1, h2, by omega, fun W => h4 W⟩

end Go.Proofs.YtoklmfmoblkfcaaDoor
