/- Six blocks of a call's own; a function value is stored. -/
import Derived.Test.YtcehkflkekefpaaBox1
namespace Go.Proofs.Ytcehkflkekefpaa
open Go.RowKit Go.Proofs.Tm
set_option linter.unusedVariables false
set_option maxRecDepth 20000

theorem box6 (w : World) (x1 x2 x3 x4 x5 x6 : Value) (t1 t2 t3 t4 t5 t6 : TypeId) (w6 : World) (h : w6 = (((((w.alloc (.cells #[x1] t1)).alloc (.cells #[x2] t2)).alloc (.cells #[x3] t3)).alloc (.cells #[x4] t4)).alloc (.cells #[x5] t5)).alloc (.cells #[x6] t6)) (s : Nat) (hs : s = w.heap.size) :
    Box w6 s x1 t1 ∧ Box w6 (s + 1) x2 t2 ∧ Box w6 (s + 1 + 1) x3 t3 ∧ Box w6 (s + 1 + 1 + 1) x4 t4 ∧ Box w6 (s + 1 + 1 + 1 + 1) x5 t5 ∧ Box w6 (s + 1 + 1 + 1 + 1 + 1) x6 t6 ∧ Upd [] w w6 := by
  subst hs
  obtain ⟨v1, h1⟩ : ∃ v, v = w.alloc (.cells #[x1] t1) := ⟨_, rfl⟩
  obtain ⟨v2, h2⟩ : ∃ v, v = v1.alloc (.cells #[x2] t2) := ⟨_, rfl⟩
  obtain ⟨v3, h3⟩ : ∃ v, v = v2.alloc (.cells #[x3] t3) := ⟨_, rfl⟩
  obtain ⟨v4, h4⟩ : ∃ v, v = v3.alloc (.cells #[x4] t4) := ⟨_, rfl⟩
  obtain ⟨v5, h5⟩ : ∃ v, v = v4.alloc (.cells #[x5] t5) := ⟨_, rfl⟩
  rw [← h1, ← h2, ← h3, ← h4, ← h5] at h
  have s1 : v1.heap.size = w.heap.size + 1 := by rw [h1]; simp
  have s2 : v2.heap.size = w.heap.size + 1 + 1 := by rw [h2]; simp [s1]
  have s3 : v3.heap.size = w.heap.size + 1 + 1 + 1 := by rw [h3]; simp [s2]
  have s4 : v4.heap.size = w.heap.size + 1 + 1 + 1 + 1 := by rw [h4]; simp [s3]
  have s5 : v5.heap.size = w.heap.size + 1 + 1 + 1 + 1 + 1 := by rw [h5]; simp [s4]
  have b1 : Box v1 w.heap.size x1 t1 := by rw [h1]; exact Box.new _ _ _
  have b2 : Box v2 (w.heap.size + 1) x2 t2 := by rw [← s1, h2]; exact Box.new _ _ _
  have b3 : Box v3 (w.heap.size + 1 + 1) x3 t3 := by rw [← s2, h3]; exact Box.new _ _ _
  have b4 : Box v4 (w.heap.size + 1 + 1 + 1) x4 t4 := by rw [← s3, h4]; exact Box.new _ _ _
  have b5 : Box v5 (w.heap.size + 1 + 1 + 1 + 1) x5 t5 := by rw [← s4, h5]; exact Box.new _ _ _
  have b6 : Box w6 (w.heap.size + 1 + 1 + 1 + 1 + 1) x6 t6 := by rw [← s5, h]; exact Box.new _ _ _
  have u1 : Upd [] w v1 := by rw [h1]; exact (Upd.refl _ _).alloc _
  have u2 : Upd [] v1 v2 := by rw [h2]; exact (Upd.refl _ _).alloc _
  have u3 : Upd [] v2 v3 := by rw [h3]; exact (Upd.refl _ _).alloc _
  have u4 : Upd [] v3 v4 := by rw [h4]; exact (Upd.refl _ _).alloc _
  have u5 : Upd [] v4 v5 := by rw [h5]; exact (Upd.refl _ _).alloc _
  have u6 : Upd [] v5 w6 := by rw [h]; exact (Upd.refl _ _).alloc _
  exact ⟨((((b1.upd u2).upd u3).upd u4).upd u5).upd u6, (((b2.upd u3).upd u4).upd u5).upd u6, ((b3.upd u4).upd u5).upd u6, (b4.upd u5).upd u6, b5.upd u6, b6, ((((u1.trans0 u2).trans0 u3).trans0 u4).trans0 u5).trans0 u6⟩

theorem run_store_func {P : Program} {w : World} {a : Addr} {m : Mode} (fn : Fn) (first cap : Array Value) : (store a (.func fn first cap) m).run P w = stored P w a (.func fn first cap) m := run_store P w a _ m rfl


end Go.Proofs.Ytcehkflkekefpaa
