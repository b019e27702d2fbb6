/- What is laid: the library's table of powers of ten, and a start that meets the condition. -/
import Derived.Test.YtcehkflkekefpaaDoorRows
import Derived.Test.YtcehkflkekefpaaDoorNatFmt
import Derived.Test.YtcehkflkekefpaaDoorAa
import Derived.OpenShut
import Derived.LaidMore
import Derived.Lib.LaidTab
import Derived.Stop.Joined
import Derived.MakeChecks
namespace Go.Proofs.YtcehkflkekefpaaDoor
open Go.RowKit Go.Proofs.Tm
set_option linter.unusedVariables false
set_option maxRecDepth 100000

def laid3 : List (String × DataW Unit) := [("math/bits.deBruijn32tab", Rows.laid_math_bits_deBruijn32tab), ("math/bits.deBruijn64tab", Rows.laid_math_bits_deBruijn64tab), ("internal/strconv.uint64pow10", Rows.laid_internal_strconv_uint64pow10)]

theorem gPow : Tryd.prog.globalNamed "internal/strconv.uint64pow10" = some 4 := by kernel_rfl
theorem tPow : (Tryd.prog.globals[4]?).map (·.type) = some 160 := by kernel_rfl

theorem tab_of_laid {W : World} (h : laidMetH Tryd.prog laid3 W) : Tab W := by
  rw [MakeChecks.laidMetH_plain _ _ _ (by kernel_rfl)] at h
  obtain ⟨ps, ⟨g0, t0, cs0, f0, p0, q0, _, _, _, _, ⟨g1, t1, cs1, f1, p1, q1, _, _, _, _, ⟨g2, t2, cs2, f2, p2, q2, hg2, ht2, hv2, hd2, _, _⟩, _⟩, _⟩, _, _⟩ := h
  obtain rfl := Option.some.inj (gPow.symm.trans hg2)
  obtain rfl := Option.some.inj (tPow.symm.trans ht2)
  have hd3 : DataW.trod (fun _ => ()) Tryd.prog W 0 (fun _ => true) false f2 160 cs2.toList = some (Lib.tabData .u64 Lib.pow10Tab, p2) := hd2
  show World.var? _ _ _ = _
  rw [hv2, ← Lib.cells_of_tab Tryd.underlying160 Tryd.underlying84 (by kernel_rfl) (by kernel_rfl) hd3]

/-- Words that come in. -/
theorem u64_nats (ys : List Int) (h : ∀ n ∈ ys, (Lit.int .u64 n).wf = true) : ∃ bs : List Nat, ys.map (Value.int .u64) = cu64 bs ∧ bs.length = ys.length ∧ ∀ b ∈ bs, b < 18446744073709551616 := by
  refine ⟨ys.map Int.toNat, ?_, by simp, ?_⟩
  · unfold cu64
    rw [List.map_map]
    refine List.map_congr_left fun n hn => ?_
    have := bounds_u64 (h n hn)
    simp only [Function.comp]
    congr 1
    omega
  · intro b hb
    obtain ⟨n, hn, rfl⟩ := List.mem_map.1 hb
    have := bounds_u64 (h n hn)
    omega

/-- The door's own heap meets the condition. -/
theorem door_met (os : Os) (args : Array Value) : laidMetH Tryd.prog laid3 ((World.doorLaid Tryd.prog 400 os).forCall (fun _ _ => 0) ⟨#[], args, []⟩).memory :=
  laidMetH_of_parts3 (fuel := 8) (laidMet_of_run' 8 (by kernel_rfl) (by kernel_rfl)) (by kernel_rfl) (by kernel_rfl)
end Go.Proofs.YtcehkflkekefpaaDoor
