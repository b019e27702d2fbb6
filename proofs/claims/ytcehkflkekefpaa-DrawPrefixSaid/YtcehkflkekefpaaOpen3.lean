/- Arguments that came in: a struct by value of two ints, a slice, an array of two ints. -/
import Derived.Test.YtcehkflkekefpaaOpen2
namespace Go.Proofs.Tm
open Go.RowKit Go.WideShapes
set_option linter.unusedVariables false
set_option maxRecDepth 20000

theorem array5 {α : Type} {cs : Array α} (h : cs.size = 5) : ∃ c0 c1 c2 c3 c4, cs = #[c0, c1, c2, c3, c4] := by
  obtain ⟨l⟩ := cs
  match l, h with
  | [c0, c1, c2, c3, c4], _ => exact ⟨c0, c1, c2, c3, c4, rfl⟩

theorem open_frame {H : Type} {enc : TypeId × Value → H} {P : Program} {w : World} {base : Nat} {spare : Nat → Bool} {held : Bool} {r : Reach} {b0 : Nat} {t e : TypeId} {f0 f1 f2 f3 : Field} {v : Value} {d : DataW H} {p : List MemPlace}
    (hs : P.underlying t = some (.struct #[f0, f1, f2, f3])) (o0 : f0.offset = 0) (o1 : f1.offset = 1) (o2 : f2.offset = 2) (o3 : f3.offset = 3)
    (u0 : P.underlying f0.type = some (.int .i64)) (u1 : P.underlying f1.type = some (.int .i64)) (u3 : P.underlying f3.type = some (.array 2 e)) (ue : P.underlying e = some (.int .i64))
    (c0 : P.cellsOf f0.type = 1) (c1 : P.cellsOf f1.type = 1) (c2 : P.cellsOf f2.type = 1) (c3 : P.cellsOf f3.type = 2) (ce : P.cellsOf e = 1) (hC : P.cellsOf t = 5)
    (hv : Value.okWide P w r b0 t v) (h : DataW.Trod enc P w base spare held t v d p) :
    ∃ a b sl z0 z1, v = .agg #[.int .i64 a, .int .i64 b, sl, .int .i64 z0, .int .i64 z1] ∧ ∃ (fuel : Nat) (y : DataW H × List MemPlace), DataW.trod enc P w base spare held fuel f2.type [sl] = some y := by
  obtain ⟨cs, rfl, hsz⟩ := okWide_struct hs hv
  obtain ⟨x0, x1, x2, x3, x4, rfl⟩ := array5 (hsz.trans hC)
  obtain ⟨fuel, hf⟩ := h
  obtain ⟨xs, m, _, _, _, hl, hfl⟩ := DataW.trod_struct hs hf
  have hl4 : xs.length = 4 := hl
  have g0 : DataW.trod enc P w base spare held m f0.type [x0] = xs[0]? := by simpa [Value.cells, o0, c0] using hfl 0 f0 rfl
  have g1 : DataW.trod enc P w base spare held m f1.type [x1] = xs[1]? := by simpa [Value.cells, o1, c1] using hfl 1 f1 rfl
  have g2 : DataW.trod enc P w base spare held m f2.type [x2] = xs[2]? := by simpa [Value.cells, o2, c2] using hfl 2 f2 rfl
  have g3 : DataW.trod enc P w base spare held m f3.type [x3, x4] = xs[3]? := by simpa [Value.cells, o3, c3] using hfl 3 f3 rfl
  rw [List.getElem?_eq_getElem (by omega)] at g0 g1 g2 g3
  obtain ⟨a, ea, _, _⟩ := DataW.trod_int u0 g0
  obtain ⟨b, eb, _, _⟩ := DataW.trod_int u1 g1
  obtain ⟨ys, m', _, _, _, hyl, hel⟩ := DataW.trod_array u3 g3
  have k0 : DataW.trod enc P w base spare held m' e [x3] = ys[0]? := by simpa [ce] using hel 0 (by decide)
  have k1 : DataW.trod enc P w base spare held m' e [x4] = ys[1]? := by simpa [ce] using hel 1 (by decide)
  rw [List.getElem?_eq_getElem (by omega)] at k0 k1
  obtain ⟨z0, ez0, _, _⟩ := DataW.trod_int ue k0
  obtain ⟨z1, ez1, _, _⟩ := DataW.trod_int ue k1
  simp only [List.cons.injEq, and_true] at ea eb ez0 ez1
  subst ea eb ez0 ez1
  exact ⟨a, b, x2, z0, z1, rfl, m, _, g2⟩
end Go.Proofs.Tm
