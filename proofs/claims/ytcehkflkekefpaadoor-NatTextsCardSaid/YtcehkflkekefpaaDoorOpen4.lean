/- Arguments that came in: slices of bools, as lists. -/
import Derived.Test.YtcehkflkekefpaaDoorAa
import Derived.Deep.Grids
namespace Go.Proofs.Tm
open Go.RowKit
set_option linter.unusedVariables false
set_option maxRecDepth 20000

theorem sl_bools_nil {w : World} : ∃ zs : List Bool, zs.length = 0 ∧ 0 ≤ maxLen ∧ Sl w (.slice none 0 0) (zs.map Value.bool) :=
  ⟨[], rfl, Nat.zero_le _, Sl.nil w⟩

theorem sl_of_bools {w : World} {x : Addr} {len cap : Nat} (hl : len ≤ cap) (hm : cap ≤ maxLen) (B : Nat → Bool) (h : ∀ i, i < cap → w.cell? (x.add i) = some (.bool (B i))) :
    ∃ zs : List Bool, zs.length = len ∧ len ≤ maxLen ∧ Sl w (.slice (some x) len cap) (zs.map Value.bool) := by
  refine ⟨(List.range len).map B, by simp, by omega, some x, cap, by simp, by simpa using hl, hm, fun hne => ?_⟩
  have hpos : 0 < len := by
    rcases Nat.eq_zero_or_pos len with h0 | h0
    · subst h0; simp at hne
    · exact h0
  obtain ⟨b, off, spot⟩ := x
  have hc0 := h 0 (by omega)
  have hspot : spot = none := by simpa [Addr.add] using World.cell?_spot hc0
  subst hspot
  refine ⟨b, off, rfl, fun i hi => ?_⟩
  simp only [List.length_map, List.length_range] at hi
  have hadd : (⟨b, off, none⟩ : Addr).add i = ⟨b, off + i, none⟩ := by unfold Addr.add; split <;> simp_all
  rw [← hadd, h i (by omega)]
  simp [hi]
end Go.Proofs.Tm
