/- Add64, in the walk's own form; sums on the way. -/
import Derived.Test.YtcehkflkekefpaaDoorNatBox
import Derived.Laws.Externs
import Derived.Shelf.Bits.Mul64
import Derived.Lib.Mul64
namespace Go.Proofs.YtcehkflkekefpaaDoor
open Go.RowKit Go.Proofs.Tm
set_option linter.unusedVariables false
set_option linter.unusedSimpArgs false
set_option maxRecDepth 20000

/-- Add64, in the walk's own form. -/
theorem add64_run (x y c : Nat) (hx : x < 18446744073709551616) (hy : y < 18446744073709551616) (hc : c ≤ 1) :
    ∃ s c' : Nat, s < 18446744073709551616 ∧ c' ≤ 1 ∧ s + 18446744073709551616 * c' = x + y + c ∧
      ∀ W, (callFunc 67 #[.int .u64 (x : Int), .int .u64 (y : Int), .int .u64 (c : Int)]).run Tryd.prog W = .ok (.value (.tuple #[.int .u64 (s : Int), .int .u64 (c' : Int)])) W := by
  refine ⟨(x + y + c) % 18446744073709551616, (x + y + c) / 18446744073709551616, Nat.mod_lt _ (by decide), by omega, by omega, fun W => ?_⟩
  rw [run_callFunc_extern Tryd.func67 (by kernel_rfl) (by kernel_rfl) (by kernel_rfl) (e := add64Entry) (by kernel_rfl), run_add64 x y c (by omega) (by omega) (by omega) (by omega)]
  simp only [Result.andThen]
  congr 5 <;> omega

/-- .. with nothing carried in. -/
theorem add64_run0 (x y : Nat) (hx : x < 18446744073709551616) (hy : y < 18446744073709551616) :
    ∃ s c' : Nat, s < 18446744073709551616 ∧ c' ≤ 1 ∧ s + 18446744073709551616 * c' = x + y ∧
      ∀ W, (callFunc 67 #[.int .u64 (x : Int), .int .u64 (y : Int), .int .u64 0]).run Tryd.prog W = .ok (.value (.tuple #[.int .u64 (s : Int), .int .u64 (c' : Int)])) W := by
  obtain ⟨s, c, h1, h2, h3, h4⟩ := add64_run x y 0 hx hy (by decide)
  exact ⟨s, c, h1, h2, h3, fun W => h4 W⟩
/-- What holds at each round of a sum, a difference: the row's words. -/
structure SumInv (w w1 : World) (k g len : Nat) (L : List Nat) (wr : World) : Prop where
  own : wr.ownsRow (w.heap.size) 84 1 (.slice (some ⟨g, 0, none⟩) len len) len (cu64 L)
  len : L.length = len
  zero : ∀ j, k ≤ j → L.getD j 0 = 0
  lt : ∀ d ∈ L, d < 18446744073709551616
  upd : Upd [g] w1 wr

theorem SumInv.start {w w1 : World} {g len : Nat} (h : w1.ownsRow w.heap.size 84 1 (.slice (some ⟨g, 0, none⟩) len len) len (List.replicate len (.int .u64 0))) : SumInv w w1 0 g len (List.replicate len 0) w1 :=
  ⟨by rw [cu64_zero]; exact h, by simp, fun j _ => by simp [List.getD_eq_getElem?_getD, List.getElem?_replicate]; split <;> rfl, fun d hd => by rw [List.eq_of_mem_replicate hd]; decide, Upd.refl _ _⟩

theorem SumInv.set {w w1 wr wq : World} {i g len : Nat} {L : List Nat} (h : SumInv w w1 i g len L wr) (u : Upd [] wr wq) (s : Nat) (hs : s < 18446744073709551616) : SumInv w w1 (i + 1) g len (L.set i s) (wq.setCell ⟨g, i, none⟩ (.int .u64 (s : Int))) := by
  have ho := ownsRow_upd h.own u (by simp)
  refine ⟨by rw [cu64_set]; exact (ho.stored i _).1, by rw [List.length_set]; exact h.len, fun j hj => ?_, fun d hd => ?_, (h.upd.trans u (by simp)).setCell (.inl (by simp)) _⟩
  · have := h.zero j (by omega)
    rw [List.getD_eq_getElem?_getD, List.getElem?_set_ne (by omega), ← List.getD_eq_getElem?_getD]; exact this
  · rcases List.mem_or_eq_of_mem_set hd with hd | rfl
    · exact h.lt d hd
    · exact hs
end Go.Proofs.YtcehkflkekefpaaDoor
