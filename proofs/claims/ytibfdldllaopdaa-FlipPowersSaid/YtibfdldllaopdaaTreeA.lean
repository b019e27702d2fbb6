/- The contract of Tree itself. -/
import Derived.Test.YtibfdldllaopdaaTree
namespace Go.Proofs.Ytibfdldllaopdaa
open Go.RowKit Go.Proofs.Tm
set_option linter.unusedVariables false
set_option linter.unusedSimpArgs false
set_option maxRecDepth 20000

theorem box6 (w : World) (x1 x2 x3 x4 x5 x6 : Value) (t1 t2 t3 t4 t5 t6 : TypeId) (w6 : World) (h : w6 = (((((w.alloc (.cells #[x1] t1)).alloc (.cells #[x2] t2)).alloc (.cells #[x3] t3)).alloc (.cells #[x4] t4)).alloc (.cells #[x5] t5)).alloc (.cells #[x6] t6)) (s : Nat) (hs : s = w.heap.size) :
    Box w6 s x1 t1 ∧ Box w6 (s + 1) x2 t2 ∧ Box w6 (s + 1 + 1) x3 t3 ∧ Box w6 (s + 1 + 1 + 1) x4 t4 ∧ Box w6 (s + 1 + 1 + 1 + 1) x5 t5 ∧ Box w6 (s + 1 + 1 + 1 + 1 + 1) x6 t6 ∧ Upd [] w w6 := by
  subst hs
  obtain ⟨v1, h1⟩ : ∃ v, v = w.alloc (.cells #[x1] t1) := ⟨_, rfl⟩
  obtain ⟨v2, h2⟩ : ∃ v, v = v1.alloc (.cells #[x2] t2) := ⟨_, rfl⟩
  obtain ⟨v3, h3⟩ : ∃ v, v = v2.alloc (.cells #[x3] t3) := ⟨_, rfl⟩
  obtain ⟨v4, h4⟩ : ∃ v, v = v3.alloc (.cells #[x4] t4) := ⟨_, rfl⟩
  obtain ⟨v5, h5⟩ : ∃ v, v = v4.alloc (.cells #[x5] t5) := ⟨_, rfl⟩
  rw [← h1, ← h2, ← h3, ← h4, ← h5] at h
  have s1 : v1.heap.size = w.heap.size + 1 := by rw [h1]; simp
  have s2 : v2.heap.size = w.heap.size + 1 + 1 := by rw [h2]; simp [s1]
  have s3 : v3.heap.size = w.heap.size + 1 + 1 + 1 := by rw [h3]; simp [s2]
  have s4 : v4.heap.size = w.heap.size + 1 + 1 + 1 + 1 := by rw [h4]; simp [s3]
  have s5 : v5.heap.size = w.heap.size + 1 + 1 + 1 + 1 + 1 := by rw [h5]; simp [s4]
  have b1 : Box v1 w.heap.size x1 t1 := by rw [h1]; exact Box.new _ _ _
  have b2 : Box v2 (w.heap.size + 1) x2 t2 := by rw [← s1, h2]; exact Box.new _ _ _
  have b3 : Box v3 (w.heap.size + 1 + 1) x3 t3 := by rw [← s2, h3]; exact Box.new _ _ _
  have b4 : Box v4 (w.heap.size + 1 + 1 + 1) x4 t4 := by rw [← s3, h4]; exact Box.new _ _ _
  have b5 : Box v5 (w.heap.size + 1 + 1 + 1 + 1) x5 t5 := by rw [← s4, h5]; exact Box.new _ _ _
  have b6 : Box w6 (w.heap.size + 1 + 1 + 1 + 1 + 1) x6 t6 := by rw [← s5, h]; exact Box.new _ _ _
  have u1 : Upd [] w v1 := by rw [h1]; exact (Upd.refl _ _).alloc _
  have u2 : Upd [] v1 v2 := by rw [h2]; exact (Upd.refl _ _).alloc _
  have u3 : Upd [] v2 v3 := by rw [h3]; exact (Upd.refl _ _).alloc _
  have u4 : Upd [] v3 v4 := by rw [h4]; exact (Upd.refl _ _).alloc _
  have u5 : Upd [] v4 v5 := by rw [h5]; exact (Upd.refl _ _).alloc _
  have u6 : Upd [] v5 w6 := by rw [h]; exact (Upd.refl _ _).alloc _
  exact ⟨((((b1.upd u2).upd u3).upd u4).upd u5).upd u6, (((b2.upd u3).upd u4).upd u5).upd u6, ((b3.upd u4).upd u5).upd u6, (b4.upd u5).upd u6, b5.upd u6, b6, ((((u1.trans0 u2).trans0 u3).trans0 u4).trans0 u5).trans0 u6⟩

theorem run_store_func {P : Program} {w : World} {a : Addr} {m : Mode} (fn : Fn) (first cap : Array Value) : (store a (.func fn first cap) m).run P w = stored P w a (.func fn first cap) m := run_store P w a _ m rfl
attribute [local go_sem] run_store_func

/-- What Tree answers. -/
def TreePost (t : Nat × Nat × Nat) (w : World) (e : Ending) (w' : World) : Prop := e = .returned (.tuple #[.int .i64 (t.1 : Int), .int .i64 (t.2.1 : Int), .int .i64 (t.2.2 : Int)]) ∧ Upd [] w w'

set_option maxHeartbeats 1600000 in
theorem tree_any (most kf : Nat) (cap : Array Value) (F : List Bool → Came) (w : World) (hmost : most ≤ 20) (eg : ∀ args W, (callFunc kf args).run Try.prog W = .ok (.enter kf args) W) (hask : Asks w kf cap F) :
    Calls Try.prog 36 #[.int .i64 (most : Int), .func (.func kf) #[] cap] w (TreePost (treeG most F) w) := by
  obtain ⟨s, hs⟩ : ∃ s, s = w.heap.size := ⟨_, rfl⟩
  obtain ⟨w6, hw6⟩ : ∃ W, W = (((((w.alloc (.cells #[.int .i64 (most : Int)] 3)).alloc (.cells #[.func (.func kf) #[] cap] 74)).alloc (.cells #[.int .i64 0] 3)).alloc (.cells #[.int .i64 0] 3)).alloc (.cells #[.int .i64 0] 3)).alloc (.cells #[(.func (.func 57) #[] #[.pointer (some ⟨s + 1, 0, none⟩), .pointer (some ⟨s, 0, none⟩), .pointer (some ⟨s + 1 + 1 + 1 + 1 + 1, 0, none⟩), .pointer (some ⟨s + 1 + 1 + 1 + 1, 0, none⟩), .pointer (some ⟨s + 1 + 1, 0, none⟩), .pointer (some ⟨s + 1 + 1 + 1, 0, none⟩)])] 96) := ⟨_, rfl⟩
  obtain ⟨b1, b2, b3, b4, b5, b6, hu⟩ := box6 w _ _ _ _ _ _ _ _ _ _ _ _ w6 hw6 s hs
  have henv : TEnv w kf cap (s + 1) s (s + 1 + 1 + 1 + 1 + 1) (s + 1 + 1 + 1 + 1) (s + 1 + 1) (s + 1 + 1 + 1) most 0 0 0 w6 := ⟨b2.cell, b1.cell, b6.cell, b3, b4, b5, hu⟩
  have hlie : TLie w (s + 1) s (s + 1 + 1 + 1 + 1 + 1) (s + 1 + 1 + 1 + 1) (s + 1 + 1) (s + 1 + 1 + 1) := ⟨by omega, by omega, by omega⟩
  have hp : 2 ^ most ≤ 1048576 := Nat.le_trans (Nat.pow_le_pow_right (by decide) hmost) (by decide)
  have hwalk := walk_any w kf cap F (s + 1) s (s + 1 + 1 + 1 + 1 + 1) (s + 1 + 1 + 1 + 1) (s + 1 + 1) (s + 1 + 1 + 1) most hmost hlie eg hask most (.slice none 0 0) [] 0 0 0 w6 (by simp) (Sl.nil w6) (fun k h => absurd rfl h) henv (by omega) (by omega) (by omega)
  simp only [List.nil_append] at hwalk
  have hE : (fun m => F m) = F := rfl
  rw [hE] at hwalk
  have HWK := Lib.hid hwalk
  have HU := Lib.hid hu
  have c6 := b6.cell
  have hmf : ∀ (fn : Fn) (first cap : Array Value) (w : World), (Instr.makeFunc fn first cap).run Try.prog w = .ok (.func fn first cap) w := fun _ _ _ _ => rfl
  have eg57 : ∀ args W, (callFunc 57 args).run Try.prog W = .ok (.enter 57 args) W := enters_of Try.func57 (by kernel_rfl) rfl
  have HS := Lib.hid hs
  have HW6 := Lib.hid hw6
  obtain ⟨T, hT⟩ : ∃ T, T = treeG most F := ⟨_, rfl⟩
  rw [← hT] at HWK ⊢
  have hs2 : ∀ k, k = s → (k = w.heap.size) := fun k h => h.trans hs
  rw [hw6, hs] at c6
  clear b1 b2 b3 b4 b5 b6 hu henv hlie hp hwalk hs hw6 hT hs2 hE hask
  go_enter Try.func36, Try.ntmps36
  go_wp2_with fail
  rw [← HS.out]
  rw [← HW6.out]
  refine HWK.out.mono ?_
  rintro e w7 ⟨rfl, henv, hu7⟩
  have HU7 : Hid (Upd [] w w7) := henv.upd
  have y7 : w7.cell? ⟨s + 1 + 1, 0, none⟩ = some (.int .i64 ((0 + T.1 : Nat) : Int)) := by rw [cell_of_row w7 _ 0 _ _ _ henv.yes]; rfl
  have n7 : w7.cell? ⟨s + 1 + 1 + 1, 0, none⟩ = some (.int .i64 ((0 + T.2.1 : Nat) : Int)) := by rw [cell_of_row w7 _ 0 _ _ _ henv.no]; rfl
  have o7 : w7.cell? ⟨s + 1 + 1 + 1 + 1, 0, none⟩ = some (.int .i64 ((0 + T.2.2 : Nat) : Int)) := by rw [cell_of_row w7 _ 0 _ _ _ henv.opn]; rfl
  rw [Nat.zero_add] at y7 n7 o7
  have fy : w7.frozen? ⟨s + 1 + 1, 0, none⟩ = false := frozen_of_row w7 _ 0 _ _ henv.yes
  have fn : w7.frozen? ⟨s + 1 + 1 + 1, 0, none⟩ = false := frozen_of_row w7 _ 0 _ _ henv.no
  have fo : w7.frozen? ⟨s + 1 + 1 + 1 + 1, 0, none⟩ = false := frozen_of_row w7 _ 0 _ _ henv.opn
  have HS2 : Hid (w.heap.size ≤ s) := Nat.le_of_eq HS.out.symm
  obtain ⟨t1, t2, t3⟩ := T
  simp only at y7 n7 o7
  clear henv hu7 c6
  go_wp2_with fail
  go_region
  obtain ⟨w8, hw8⟩ : ∃ W, W = ((w7.setCell ⟨s + 1 + 1, 0, none⟩ (.int .i64 (t1 : Int))).setCell ⟨s + 1 + 1 + 1, 0, none⟩ (.int .i64 (t2 : Int))).setCell ⟨s + 1 + 1 + 1 + 1, 0, none⟩ (.int .i64 (t3 : Int)) := ⟨_, rfl⟩
  have k1 : w8.cell? ⟨s + 1 + 1, 0, none⟩ = some (.int .i64 (t1 : Int)) := by
    rw [hw8, cell_set_block (by omega), cell_set_block (by omega)]; exact cell_set_same y7
  have k2 : w8.cell? ⟨s + 1 + 1 + 1, 0, none⟩ = some (.int .i64 (t2 : Int)) := by
    rw [hw8, cell_set_block (by omega)]; exact cell_set_same (by rw [cell_set_block (by omega)]; exact n7)
  have k3 : w8.cell? ⟨s + 1 + 1 + 1 + 1, 0, none⟩ = some (.int .i64 (t3 : Int)) := by
    rw [hw8]; exact cell_set_same (by rw [cell_set_block (by omega), cell_set_block (by omega)]; exact o7)
  have HF : Hid (Upd [] w w8.drew) := by
    rw [hw8]
    have h := HS2.out
    exact (((HU7.out.setCell (.inr (by show w.heap.size ≤ s + 1 + 1; omega)) _).setCell (.inr (by show w.heap.size ≤ s + 1 + 1 + 1; omega)) _).setCell (.inr (by show w.heap.size ≤ s + 1 + 1 + 1 + 1; omega)) _).drew
  rw [← hw8]
  clear hw8 y7 n7 o7 fy fn fo
  go_wp2
  refine bodyPost_ret (v := .tuple #[.int .i64 (t1 : Int), .int .i64 (t2 : Int), .int .i64 (t3 : Int)]) (by simp [results, Try.results36, go_sem, k1, k2, k3]) rfl ?_
  exact ⟨rfl, HF.out⟩
end Go.Proofs.Ytibfdldllaopdaa
