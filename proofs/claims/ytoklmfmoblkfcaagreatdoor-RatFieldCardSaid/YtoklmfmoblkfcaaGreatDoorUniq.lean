/- What a slice reads as is one list; a number is read off its slice. -/
import Derived.Test.YtoklmfmoblkfcaaGreatDoorRefAdd
import Derived.Test.YtoklmfmoblkfcaaGreatDoorAa
namespace Go.Proofs.YtoklmfmoblkfcaaGreatDoor
open Go.RowKit Go.Proofs.Tm
set_option linter.unusedVariables false
set_option maxRecDepth 20000

theorem Sl.uniq {w : World} {v : Value} {xs ys : List Value} (h : Sl w v xs) (k : Sl w v ys) : xs = ys := by
  obtain ⟨a, cap, hv, _, _, hc⟩ := h
  obtain ⟨a', cap', hv', _, _, hc'⟩ := k
  rw [hv] at hv'
  simp only [Value.slice.injEq] at hv'
  obtain ⟨rfl, hl, rfl⟩ := hv'
  apply List.ext_getElem? 
  intro i
  by_cases hi : i < xs.length
  · obtain ⟨b, o, rfl, h1⟩ := hc (by rintro rfl; simp at hi)
    obtain ⟨b', o', hb, h2⟩ := hc' (by rintro rfl; rw [List.length_nil] at hl; omega)
    simp only [Option.some.injEq, Addr.mk.injEq, and_true] at hb
    obtain ⟨rfl, rfl⟩ := hb
    rw [← h1 i hi, ← h2 i (by omega)]
  · rw [List.getElem?_eq_none (by omega), List.getElem?_eq_none (by omega)]

theorem ci64_inj : ∀ {xs ys : List Nat}, ci64 xs = ci64 ys → xs = ys
  | [], [], _ => rfl
  | [], _ :: _, h => by simp [ci64] at h
  | _ :: _, [], h => by simp [ci64] at h
  | x :: xs, y :: ys, h => by
    simp only [ci64, List.map_cons, List.cons.injEq, Value.int.injEq, true_and] at h
    obtain ⟨h1, h2⟩ := h
    have := ci64_inj (xs := xs) (ys := ys) h2
    subst this
    have : x = y := by omega
    subst this; rfl
theorem cu64_inj : ∀ {xs ys : List Nat}, cu64 xs = cu64 ys → xs = ys
  | [], [], _ => rfl
  | [], _ :: _, h => by simp [cu64] at h
  | _ :: _, [], h => by simp [cu64] at h
  | x :: xs, y :: ys, h => by
    simp only [cu64, List.map_cons, List.cons.injEq, Value.int.injEq, true_and] at h
    obtain ⟨h1, h2⟩ := h
    have := cu64_inj (xs := xs) (ys := ys) h2
    subst this
    have : x = y := by omega
    subst this; rfl

open Classical in
/-- The number that a slice of digits reads as. -/
noncomputable def digOf (w : World) (v : Value) : Nat := if h : ∃ n, Sl w v (ci64 (digs n)) then Classical.choose h else 0
theorem digOf_is {w : World} {v : Value} {n : Nat} (h : Sl w v (ci64 (digs n))) : digOf w v = n := by
  have hx : ∃ n, Sl w v (ci64 (digs n)) := ⟨n, h⟩
  unfold digOf
  rw [dif_pos hx]
  have := ci64_inj (Sl.uniq (Classical.choose_spec hx) h)
  rw [← dval_digs (Classical.choose hx), this, dval_digs]

open Classical in
/-- The number that a slice of words reads as. -/
noncomputable def natOf (w : World) (v : Value) : Nat := if h : ∃ n, Sl w v (cu64 (wds n)) then Classical.choose h else 0
theorem natOf_is {w : World} {v : Value} {n : Nat} (h : Sl w v (cu64 (wds n))) : natOf w v = n := by
  have hx : ∃ n, Sl w v (cu64 (wds n)) := ⟨n, h⟩
  unfold natOf
  rw [dif_pos hx]
  have := cu64_inj (Sl.uniq (Classical.choose_spec hx) h)
  rw [← wval_wds (Classical.choose hx), this, wval_wds]
end Go.Proofs.YtoklmfmoblkfcaaGreatDoor
