/- Blocks of a call's own, numbers and errors answered, numbers stored. -/
import Derived.Test.YtcehkflkekefpaaDoorNatB
import Derived.Test.YtcehkflkekefpaaDoorBox1
import Derived.OneCell
namespace Go.Proofs.YtcehkflkekefpaaDoor
open Go.RowKit Go.Proofs.Tm
set_option linter.unusedVariables false
set_option linter.unusedSimpArgs false
set_option maxRecDepth 20000

theorem run_max2 {P : Program} (a b : Int) (ts : Array TypeId) (t : TypeId) (W : World) : (Builtin.max_ ts t #[.int .i64 a, .int .i64 b]).run P W = .ok (.int .i64 (max a b)) W := by
  have e : Builtin.max_ ts t #[.int .i64 a, .int .i64 b] = pure (.int .i64 (if a < b then b else a)) := rfl
  rw [e, Sem.run_pure]
  congr 2
  split <;> omega

/-- Three blocks of a call's own. -/
theorem box3 {w w1 : World} {x y z : Value} {t t' t'' : TypeId} (u : Upd [] (((w.alloc (.cells #[x] t)).alloc (.cells #[y] t')).alloc (.cells #[z] t'')) w1) :
    w1.heap[w.heap.size]? = some (.cells #[x] t (0, 0)) ∧ w1.heap[w.heap.size + 1]? = some (.cells #[y] t' (0, 0)) ∧ w1.heap[w.heap.size + 1 + 1]? = some (.cells #[z] t'' (0, 0)) ∧ Upd [] w w1 ∧ w.heap.size + 1 + 1 + 1 ≤ w1.heap.size := by
  refine ⟨?_, ?_, ?_, ((((Upd.refl _ _).alloc _).alloc _).alloc _).trans0 u, by have := u.size; simpa using this⟩
  · rw [u.block _ (by simp; omega) (by simp), Below.heap_alloc _ _ _ (by simp; omega), Below.heap_alloc _ _ _ (by simp)]; exact heap_alloc_new w _
  · rw [u.block _ (by simp) (by simp), Below.heap_alloc _ _ _ (by simp)]; have := heap_alloc_new (w.alloc (.cells #[x] t)) (.cells #[y] t'); simpa using this
  · rw [u.block _ (by simp) (by simp)]; have := heap_alloc_new ((w.alloc (.cells #[x] t)).alloc (.cells #[y] t')) (.cells #[z] t''); simpa using this

theorem tdiv_nat (a b : Nat) : (a : Int).tdiv (b : Int) = ((a / b : Nat) : Int) := by rw [Int.tdiv_eq_ediv_of_nonneg (by omega)]; simp
theorem wrap_nat (n : Nat) (h : n < 18446744073709551616) : IntKind.u64.wrap (n : Int) = (n : Int) := by
  rw [IntKind.wrap_u64]; omega
theorem shr_nat (a s : Nat) : (a : Int) / 2 ^ s = ((a / 2 ^ s : Nat) : Int) := by simp

/-- A number and an error are answered. -/
def RNatE (n : Nat) (k : Int) (w : World) (e : Ending) (w' : World) : Prop := ∃ v, e = .returned (.tuple #[v, .int .i64 k]) ∧ NV w' v n ∧ Upd [] w w'

/-- Two numbers and an error are answered. -/
def RNat2E (q r : Nat) (k : Int) (w : World) (e : Ending) (w' : World) : Prop := ∃ v1 v2, e = .returned (.tuple #[v1, v2, .int .i64 k]) ∧ NV w' v1 q ∧ NV w' v2 r ∧ Upd [] w w'

theorem alloc4 (w : World) (a b c d : Obj) : Upd [] w ((((w.alloc a).alloc b).alloc c).alloc d) := ((((Upd.refl _ w).alloc a).alloc b).alloc c).alloc d

/-- Two numbers are stored into cells of the call's own. -/
structure Stored (w : World) (i j : Nat) (t t' : TypeId) (x y : Value) (m n : Nat) (W' : World) : Prop where
  b1 : W'.heap[i]? = some (.cells #[x] t (0, 0))
  b2 : W'.heap[j]? = some (.cells #[y] t' (0, 0))
  n1 : NV W' (.agg #[x]) m
  n2 : NV W' (.agg #[y]) n
  u : Upd [] w W'

theorem Stored.c1 {w : World} {i j : Nat} {t t' : TypeId} {x y : Value} {m n : Nat} {W : World} (h : Stored w i j t t' x y m n W) : W.cell? ⟨i, 0, none⟩ = some x := by rw [cell_of_row W _ 0 _ _ _ h.b1]; rfl
theorem Stored.c2 {w : World} {i j : Nat} {t t' : TypeId} {x y : Value} {m n : Nat} {W : World} (h : Stored w i j t t' x y m n W) : W.cell? ⟨j, 0, none⟩ = some y := by rw [cell_of_row W _ 0 _ _ _ h.b2]; rfl
theorem Stored.f1 {w : World} {i j : Nat} {t t' : TypeId} {x y : Value} {m n : Nat} {W : World} (h : Stored w i j t t' x y m n W) : W.frozen? ⟨i, 0, none⟩ = false := by simp [World.frozen?, h.b1]
theorem Stored.f2 {w : World} {i j : Nat} {t t' : TypeId} {x y : Value} {m n : Nat} {W : World} (h : Stored w i j t t' x y m n W) : W.frozen? ⟨j, 0, none⟩ = false := by simp [World.frozen?, h.b2]
theorem Stored.drew {w : World} {i j : Nat} {t t' : TypeId} {x y : Value} {m n : Nat} {W : World} (h : Stored w i j t t' x y m n W) : Stored w i j t t' x y m n W.drew := ⟨h.b1, h.b2, h.n1.upd0 (Upd.refl _ _).drew, h.n2.upd0 (Upd.refl _ _).drew, h.u.drew⟩

theorem store2 {w W : World} {i j : Nat} {t t' : TypeId} {x y : Value} {p1 p2 : Option Addr} {l1 c1 l2 c2 : Nat} {m n : Nat} (hij : i ≠ j) (hi : w.heap.size ≤ i) (hj : w.heap.size ≤ j) (hbi : W.heap[i]? = some (.cells #[.slice p1 l1 c1] t (0, 0))) (hbj : W.heap[j]? = some (.cells #[.slice p2 l2 c2] t' (0, 0))) (hu : Upd [] w W) (hx : NV W (.agg #[x]) m) (hy : NV W (.agg #[y]) n) :
    Stored w i j t t' x y m n ((W.setCell ⟨i, 0, none⟩ x).setCell ⟨j, 0, none⟩ y) := by
  have hb1 : (W.setCell ⟨i, 0, none⟩ x).heap[i]? = some (.cells #[x] t (0, 0)) := one_setCell hbi
  have hb2 : (W.setCell ⟨i, 0, none⟩ x).heap[j]? = some (.cells #[.slice p2 l2 c2] t' (0, 0)) := (Below.heap_setCell _ _ _ _ (by show j ≠ i; omega)).trans hbj
  exact ⟨(Below.heap_setCell _ _ _ _ (by show i ≠ j; omega)).trans hb1, one_setCell hb2, (hx.store hbi no_u64 _ rfl _).store hb2 no_u64 _ rfl _, (hy.store hbi no_u64 _ rfl _).store hb2 no_u64 _ rfl _, (hu.setCell (.inr hi) _).setCell (.inr hj) _⟩

end Go.Proofs.YtcehkflkekefpaaDoor
