/- Arguments that came in: slices of pairs of ints, as lists. -/
import Derived.Test.YtcehkflkekefpaaBase2
import Derived.Deep.SlicePairs
namespace Go.Proofs.Tm
open Go.RowKit
set_option linter.unusedVariables false
set_option maxRecDepth 20000

/-- A slice of structs of two ints, as a list of pairs. -/
def SlPair (k0 k1 : IntKind) (w : World) (v : Value) (ps : List (Int × Int)) : Prop :=
  ∃ a cap, v = .slice a ps.length cap ∧ ps.length ≤ cap ∧ cap ≤ maxLen ∧ (ps ≠ [] → ∃ b o, a = some ⟨b, o, none⟩ ∧ ∀ i, i < ps.length → ∃ n k : Int, ps[i]? = some (n, k) ∧ (Lit.int k0 n).wf = true ∧ (Lit.int k1 k).wf = true ∧
    w.cell? ⟨b, o + i * 2, none⟩ = some (.int k0 n) ∧ w.cell? ⟨b, o + i * 2 + 1, none⟩ = some (.int k1 k))

theorem slpair_nil {k0 k1 : IntKind} {w : World} : ∃ zs : List (Int × Int), zs.length = 0 ∧ 0 ≤ maxLen ∧ SlPair k0 k1 w (.slice none 0 0) zs :=
  ⟨[], rfl, Nat.zero_le _, none, 0, rfl, Nat.le_refl _, Nat.zero_le _, fun h => absurd rfl h⟩

theorem slpair_of {k0 k1 : IntKind} {w : World} {x : Addr} {len cap : Nat} (hl : len ≤ cap) (hm : cap ≤ maxLen) (V0 V1 : Nat → Value)
    (h : ∀ i, i < len → w.cell? (x.add (i * 2)) = some (V0 i) ∧ w.cell? (x.add (i * 2 + 1)) = some (V1 i) ∧ ∃ n k : Int, V0 i = .int k0 n ∧ V1 i = .int k1 k ∧ (Lit.int k0 n).wf = true ∧ (Lit.int k1 k).wf = true) :
    ∃ zs : List (Int × Int), zs.length = len ∧ len ≤ maxLen ∧ SlPair k0 k1 w (.slice (some x) len cap) zs := by
  refine ⟨(List.range len).map fun i => (intOf (V0 i), intOf (V1 i)), by simp, by omega, some x, cap, by simp, by simpa using hl, hm, fun hne => ?_⟩
  have hpos : 0 < len := by
    rcases Nat.eq_zero_or_pos len with h0 | h0
    · subst h0; simp at hne
    · exact h0
  obtain ⟨b, off, spot⟩ := x
  have hc0 := (h 0 hpos).1
  have hspot : spot = none := by simpa [Addr.add] using World.cell?_spot hc0
  subst hspot
  have hadd : ∀ i, (⟨b, off, none⟩ : Addr).add i = ⟨b, off + i, none⟩ := by intro i; unfold Addr.add; split <;> simp_all
  refine ⟨b, off, rfl, fun i hi => ?_⟩
  simp only [List.length_map, List.length_range] at hi
  obtain ⟨c0, c1, n, k, e0, e1, w0, w1⟩ := h i hi
  rw [hadd] at c0 c1
  rw [e0] at c0
  rw [e1] at c1
  exact ⟨n, k, by simp [hi, e0, e1, intOf], w0, w1, c0, by rw [← Nat.add_assoc] at c1; exact c1⟩
end Go.Proofs.Tm
