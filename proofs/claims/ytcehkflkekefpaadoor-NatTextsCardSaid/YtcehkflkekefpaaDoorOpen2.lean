/- Arguments that came in: arrays of ints by value. -/
import Derived.Test.YtcehkflkekefpaaDoorAa
namespace Go.Proofs.Tm
open Go.RowKit Go.WideShapes
set_option linter.unusedVariables false
set_option maxRecDepth 20000

theorem okWide_arr {P : Program} {w : World} {r : Reach} {b0 : Nat} {t e : TypeId} {n : Nat} {v : Value} (ht : P.underlying t = some (.array n e)) (h : Value.okWide P w r b0 t v) : ∃ cs, v = .agg cs ∧ cs.size = P.cellsOf t := by
  simp only [Value.okWide, ht] at h
  obtain ⟨cs, h1, h2, _⟩ := h
  exact ⟨cs, h1, h2⟩

/-- An array of ints by value, as a list. -/
theorem open_int_array {H : Type} {enc : TypeId × Value → H} {P : Program} {w : World} {base : Nat} {spare : Nat → Bool} {held : Bool} {r : Reach} {b0 : Nat} {t e : TypeId} {n : Nat} {k : IntKind} {v : Value} {d : DataW H} {p : List MemPlace}
    (ht : P.underlying t = some (.array n e)) (he : P.underlying e = some (.int k)) (hce : P.cellsOf e = 1) (hct : P.cellsOf t = n)
    (hv : Value.okWide P w r b0 t v) (h : DataW.Trod enc P w base spare held t v d p) :
    ∃ zs : List Int, v = .agg (zs.map (Value.int k)).toArray ∧ zs.length = n ∧ ∀ z ∈ zs, (Lit.int k z).wf = true := by
  obtain ⟨cs, rfl, hsz⟩ := okWide_arr ht hv
  obtain ⟨fuel, hf⟩ := h
  obtain ⟨xs, m, _, _, hl, hxl, hel⟩ := DataW.trod_array ht hf
  rw [hct] at hsz
  have hc : ∀ i (hi : i < n), ∃ z : Int, cs[i]'(by omega) = .int k z ∧ (Lit.int k z).wf = true := by
    intro i hi
    have h1 := hel i hi
    rw [List.getElem?_eq_getElem (by omega), hce, Nat.mul_one] at h1
    have e1 : ((Value.agg cs).cells.toList.drop i).take 1 = [cs[i]'(by omega)] := by
      simp only [Value.cells]
      rw [List.drop_eq_getElem_cons (by simpa using by omega)]
      simp
    rw [e1] at h1
    obtain ⟨z, ez, _, wz⟩ := DataW.trod_int he h1
    simp only [List.cons.injEq, and_true] at ez
    exact ⟨z, ez, wz⟩
  refine ⟨(List.range n).map fun i => intOf (cs.getD i undef), ?_, by simp, ?_⟩
  · congr 1
    apply Array.ext
    · simp [hsz]
    · intro i h1 h2
      obtain ⟨z, ez, _⟩ := hc i (by omega)
      simp [ez, h1, intOf]
  · intro z hz
    obtain ⟨i, hi, rfl⟩ := List.mem_map.1 hz
    have hi' : i < n := List.mem_range.1 hi
    obtain ⟨z, ez, wz⟩ := hc i hi'
    simpa [ez, show i < cs.size by omega, intOf] using wz
end Go.Proofs.Tm
