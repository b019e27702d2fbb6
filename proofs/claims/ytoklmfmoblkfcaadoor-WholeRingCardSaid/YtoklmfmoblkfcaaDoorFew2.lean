/- Few, as a call; slices that come in. -/
import Derived.Test.YtoklmfmoblkfcaaDoorNatFewB
namespace Go.Proofs.YtoklmfmoblkfcaaDoor
open Go.RowKit Go.Proofs.Tm
set_option linter.unusedVariables false

theorem few_sl {a : Option Addr} {l c : Nat} {w : World} {L : List Nat} (h : Sl w (.slice a l c) (cu64 L)) : l = L.length := by
  obtain ⟨_, _, he, _⟩ := h
  simp only [Value.slice.injEq, cu64_length] at he
  exact he.2.1
theorem sl_open {w : World} {v : Value} {xs : List Value} (h : Sl w v xs) : ∃ a l c, v = .slice a l c := by
  obtain ⟨a, c, rfl, _⟩ := h
  exact ⟨_, _, _, rfl⟩
theorem few_take (a : Option Addr) (l c : Nat) (L : List Nat) (k : Nat) (hk : k ≤ 100) (w : World) (h : Sl w (.slice a l c) (cu64 L)) :
    Calls Tryd.prog 30 #[.slice a l c, .int .i64 (k : Int)] w fun e w' => ∃ a' l' c', e = .returned (.slice a' l' c') ∧ Sl w' (.slice a' l' c') (cu64 (L.take k)) ∧ Upd [] w w' := by
  have := few_sl h
  subst this
  refine (few_any a c L k hk w h).mono ?_
  rintro e w' ⟨v, rfl, hs, rfl⟩
  obtain ⟨a', l', c', rfl⟩ := sl_open hs
  exact ⟨a', l', c', rfl, hs, Upd.refl _ _⟩
end Go.Proofs.YtoklmfmoblkfcaaDoor
