/- The contract of Tree (layer 11's law) itself. -/
import Derived.Test.YtcehkflkekefpaaDTree
import Derived.Test.YtcehkflkekefpaaBox6
import Derived.Deep.MidRow
namespace Go.Proofs.Ytcehkflkekefpaa
open Go.RowKit Go.Proofs.Tm Go.Shelf
set_option linter.unusedVariables false
set_option linter.unusedSimpArgs false
set_option maxRecDepth 20000
attribute [local go_sem] run_store_func

theorem arr_info : (Try.prog.info? 23).map (·.size) = some 64 := by kernel_rfl
theorem arrC_size (A : Nat → Nat) : (arrC A).size = 64 := by simp [arrC]
theorem arrC_one (A : Nat → Nat) : (arrC A).all (·.oneCell') = true := by
  rw [Array.all_eq_true_iff_forall_mem]
  intro v hv
  simp [arrC] at hv
  obtain ⟨i, _, rfl⟩ := hv
  rfl

theorem Upd.setCells {S : List Nat} {a : World} {b : Nat} (hp : b ∈ S ∨ a.heap.size ≤ b) : ∀ (vs : List Value) (o : Nat) (w : World), Upd S a w → Upd S a (w.setCells b o vs)
  | [], _, _, h => h
  | v :: vs, o, w, h => Upd.setCells hp vs (o + 1) _ (h.setCell hp v)

/-- Tree's results as they stand in memory. -/
def ResAt (w : World) (b : Nat) (cs : List Value) (c : Nat) (o : Int) (W : World) : Prop :=
  W.rangeAt b 0 cs ∧ W.there b 0 cs.length ∧ W.cell? ⟨c, 0, none⟩ = some (.int .i64 o) ∧ W.frozen? ⟨c, 0, none⟩ = false ∧ Upd [] w W
theorem ResAt.drew {w W : World} {b c : Nat} {cs : List Value} {o : Int} (h : ResAt w b cs c o W) : ResAt w b cs c o W.drew := ⟨h.1, h.2.1, h.2.2.1, h.2.2.2.1, h.2.2.2.2.drew⟩
theorem ResAt.row {w W : World} {b c : Nat} {cs : List Value} {o : Int} (hbc : b ≠ c) (hb : w.heap.size ≤ b) (h : ResAt w b cs c o W) : ResAt w b cs c o (W.setCells b 0 cs) := by
  obtain ⟨h1, h2, h3, h4, h5⟩ := h
  refine ⟨World.rangeAt_setCells_same _ _ _ _ h2, World.there_setCells h2 _ _ _, ?_, ?_, Upd.setCells (.inr hb) _ _ _ h5⟩
  · rw [World.cell?_setCells_out b cs 0 W ⟨c, 0, none⟩ (fun e => absurd e.symm hbc)]; exact h3
  · rw [World.frozen?_setCells]; exact h4
theorem ResAt.one {w W : World} {b c : Nat} {cs : List Value} {o : Int} (hbc : b ≠ c) (hc : w.heap.size ≤ c) (h : ResAt w b cs c o W) : ResAt w b cs c o (W.setCell ⟨c, 0, none⟩ (.int .i64 o)) := by
  obtain ⟨h1, h2, h3, h4, h5⟩ := h
  refine ⟨fun j v hv => ?_, fun j hj => ?_, cell_set_same h3, by rw [World.frozen?_setCell]; exact h4, h5.setCell (.inr hc) _⟩
  · rw [cell_set_block hbc]; exact h1 j v hv
  · rw [cell_set_block hbc, World.frozen?_setCell]; exact h2 j hj

theorem arrC_zero : arrC (fun _ => 0) = #[.int .i64 0, .int .i64 0, .int .i64 0, .int .i64 0, .int .i64 0, .int .i64 0, .int .i64 0, .int .i64 0, .int .i64 0, .int .i64 0, .int .i64 0, .int .i64 0, .int .i64 0, .int .i64 0, .int .i64 0, .int .i64 0, .int .i64 0, .int .i64 0, .int .i64 0, .int .i64 0, .int .i64 0, .int .i64 0, .int .i64 0, .int .i64 0, .int .i64 0, .int .i64 0, .int .i64 0, .int .i64 0, .int .i64 0, .int .i64 0, .int .i64 0, .int .i64 0, .int .i64 0, .int .i64 0, .int .i64 0, .int .i64 0, .int .i64 0, .int .i64 0, .int .i64 0, .int .i64 0, .int .i64 0, .int .i64 0, .int .i64 0, .int .i64 0, .int .i64 0, .int .i64 0, .int .i64 0, .int .i64 0, .int .i64 0, .int .i64 0, .int .i64 0, .int .i64 0, .int .i64 0, .int .i64 0, .int .i64 0, .int .i64 0, .int .i64 0, .int .i64 0, .int .i64 0, .int .i64 0, .int .i64 0, .int .i64 0, .int .i64 0, .int .i64 0] := by kernel_rfl

/-- What Tree answers. -/
def TreePostN (A : Nat → Nat) (o : Nat) (w : World) (e : Ending) (w' : World) : Prop := e = .returned (.tuple #[.agg (arrC A), .int .i64 (o : Int)]) ∧ Upd [] w w'

theorem box5 (w : World) (x1 x2 x4 x5 : Value) (c3 : Array Value) (t1 t2 t3 t4 t5 : TypeId) (w6 : World) (h : w6 = ((((w.alloc (.cells #[x1] t1)).alloc (.cells #[x2] t2)).alloc (.cells c3 t3)).alloc (.cells #[x4] t4)).alloc (.cells #[x5] t5)) (s : Nat) (hs : s = w.heap.size) :
    Box w6 s x1 t1 ∧ Box w6 (s + 1) x2 t2 ∧ w6.heap[s + 1 + 1]? = some (.cells c3 t3 (0, 0)) ∧ Box w6 (s + 1 + 1 + 1) x4 t4 ∧ Box w6 (s + 1 + 1 + 1 + 1) x5 t5 ∧ Upd [] w w6 := by
  subst hs
  obtain ⟨v1, h1⟩ : ∃ v, v = w.alloc (.cells #[x1] t1) := ⟨_, rfl⟩
  obtain ⟨v2, h2⟩ : ∃ v, v = v1.alloc (.cells #[x2] t2) := ⟨_, rfl⟩
  obtain ⟨v3, h3⟩ : ∃ v, v = v2.alloc (.cells c3 t3) := ⟨_, rfl⟩
  obtain ⟨v4, h4⟩ : ∃ v, v = v3.alloc (.cells #[x4] t4) := ⟨_, rfl⟩
  rw [← h1, ← h2, ← h3, ← h4] at h
  have s1 : v1.heap.size = w.heap.size + 1 := by rw [h1]; simp
  have s2 : v2.heap.size = w.heap.size + 1 + 1 := by rw [h2]; simp [s1]
  have s3 : v3.heap.size = w.heap.size + 1 + 1 + 1 := by rw [h3]; simp [s2]
  have s4 : v4.heap.size = w.heap.size + 1 + 1 + 1 + 1 := by rw [h4]; simp [s3]
  have b1 : Box v1 w.heap.size x1 t1 := by rw [h1]; exact Box.new _ _ _
  have b2 : Box v2 (w.heap.size + 1) x2 t2 := by rw [← s1, h2]; exact Box.new _ _ _
  have b3 : v3.heap[w.heap.size + 1 + 1]? = some (.cells c3 t3 (0, 0)) := by rw [← s2, h3]; exact heap_alloc_new _ _
  have b4 : Box v4 (w.heap.size + 1 + 1 + 1) x4 t4 := by rw [← s3, h4]; exact Box.new _ _ _
  have b5 : Box w6 (w.heap.size + 1 + 1 + 1 + 1) x5 t5 := by rw [← s4, h]; exact Box.new _ _ _
  have u1 : Upd [] w v1 := by rw [h1]; exact (Upd.refl _ _).alloc _
  have u2 : Upd [] v1 v2 := by rw [h2]; exact (Upd.refl _ _).alloc _
  have u3 : Upd [] v2 v3 := by rw [h3]; exact (Upd.refl _ _).alloc _
  have u4 : Upd [] v3 v4 := by rw [h4]; exact (Upd.refl _ _).alloc _
  have u5 : Upd [] v4 w6 := by rw [h]; exact (Upd.refl _ _).alloc _
  exact ⟨(((b1.upd u2).upd u3).upd u4).upd u5, ((b2.upd u3).upd u4).upd u5, ((u4.trans0 u5).block _ (lt_of_block b3) (by simp)).trans b3, b4.upd u5, b5, (((u1.trans0 u2).trans0 u3).trans0 u4).trans0 u5⟩

set_option maxHeartbeats 1600000 in
theorem dtree_any (most kf : Nat) (cap : Array Value) (F : List Bool → CameN) (w : World) (hmost : most ≤ 20) (eg : ∀ args W, (callFunc kf args).run Try.prog W = .ok (.enter kf args) W) (hask : AsksN w kf cap F) (hF64 : ∀ l, (F l).1 < 64) :
    Calls Try.prog 7 #[.int .i64 (most : Int), .func (.func kf) #[] cap] w (TreePostN (fun i => cntN i most F) (opnN most F) w) := by
  obtain ⟨A, hA⟩ : ∃ A, A = (fun i => cntN i most F) := ⟨_, rfl⟩
  obtain ⟨o, ho⟩ : ∃ o, o = opnN most F := ⟨_, rfl⟩
  rw [← hA, ← ho]
  have HAE := Lib.hid hA
  have HOE := Lib.hid ho
  clear hA ho
  obtain ⟨s, hs⟩ : ∃ s, s = w.heap.size := ⟨_, rfl⟩
  obtain ⟨w6, hw6⟩ : ∃ W, W = ((((w.alloc (.cells #[.int .i64 (most : Int)] 3)).alloc (.cells #[.func (.func kf) #[] cap] 31)).alloc (.cells #[.int .i64 0, .int .i64 0, .int .i64 0, .int .i64 0, .int .i64 0, .int .i64 0, .int .i64 0, .int .i64 0, .int .i64 0, .int .i64 0, .int .i64 0, .int .i64 0, .int .i64 0, .int .i64 0, .int .i64 0, .int .i64 0, .int .i64 0, .int .i64 0, .int .i64 0, .int .i64 0, .int .i64 0, .int .i64 0, .int .i64 0, .int .i64 0, .int .i64 0, .int .i64 0, .int .i64 0, .int .i64 0, .int .i64 0, .int .i64 0, .int .i64 0, .int .i64 0, .int .i64 0, .int .i64 0, .int .i64 0, .int .i64 0, .int .i64 0, .int .i64 0, .int .i64 0, .int .i64 0, .int .i64 0, .int .i64 0, .int .i64 0, .int .i64 0, .int .i64 0, .int .i64 0, .int .i64 0, .int .i64 0, .int .i64 0, .int .i64 0, .int .i64 0, .int .i64 0, .int .i64 0, .int .i64 0, .int .i64 0, .int .i64 0, .int .i64 0, .int .i64 0, .int .i64 0, .int .i64 0, .int .i64 0, .int .i64 0, .int .i64 0, .int .i64 0] 23)).alloc (.cells #[.int .i64 0] 3)).alloc (.cells #[(.func (.func 16) #[] #[.pointer (some ⟨s + 1, 0, none⟩), .pointer (some ⟨s, 0, none⟩), .pointer (some ⟨s + 1 + 1 + 1 + 1, 0, none⟩), .pointer (some ⟨s + 1 + 1 + 1, 0, none⟩), .pointer (some ⟨s + 1 + 1, 0, none⟩)])] 44) := ⟨_, rfl⟩
  obtain ⟨b1, b2, b3, b4, b5, hu⟩ := box5 w _ _ _ _ _ _ _ _ _ _ w6 hw6 s hs
  have henv : DEnv w kf cap (s + 1) s (s + 1 + 1 + 1 + 1) (s + 1 + 1 + 1) (s + 1 + 1) most (fun _ => 0) 0 w6 := ⟨b2.cell, b1.cell, b5.cell, by rw [arrC_zero]; exact b3, b4, hu⟩
  have hlie : DLie w (s + 1) s (s + 1 + 1 + 1 + 1) (s + 1 + 1 + 1) (s + 1 + 1) := ⟨by omega, by omega, by omega⟩
  have hp : 2 ^ most ≤ 1048576 := Nat.le_trans (Nat.pow_le_pow_right (by decide) hmost) (by decide)
  have hwalk := dwalk_any w kf cap F (s + 1) s (s + 1 + 1 + 1 + 1) (s + 1 + 1 + 1) (s + 1 + 1) most hmost hlie eg hask hF64 most (.slice none 0 0) [] (fun _ => 0) 0 w6 (by simp) (Sl.nil w6) (fun k h => absurd rfl h) henv (fun i => by omega) (by omega)
  simp only [List.nil_append] at hwalk
  have hE : (fun m => F m) = F := rfl
  rw [hE] at hwalk
  have HWK := Lib.hid hwalk
  have HU := Lib.hid hu
  have c6 := b5.cell
  have hmf : ∀ (fn : Fn) (first cap : Array Value) (w : World), (Instr.makeFunc fn first cap).run Try.prog w = .ok (.func fn first cap) w := fun _ _ _ _ => rfl
  have eg57 : ∀ args W, (callFunc 16 args).run Try.prog W = .ok (.enter 16 args) W := enters_of Try.func16 (by kernel_rfl) rfl
  have HS := Lib.hid hs
  have HW6 := Lib.hid hw6
  rw [hw6, hs] at c6
  clear b1 b2 b3 b4 b5 hu henv hlie hp hwalk hs hw6 hE hask hF64
  go_enter Try.func7, Try.ntmps7
  go_wp2_with fail
  rw [← HS.out]
  rw [← HW6.out]
  refine HWK.out.mono ?_
  rintro e w7 ⟨rfl, henv, hu7⟩
  simp only [Nat.zero_add] at henv
  rw [← HAE.out, ← HOE.out] at henv
  have HU7 : Hid (Upd [] w w7) := henv.upd
  have HA7 := Lib.hid henv.arr
  have HO7 := Lib.hid henv.opn
  have HS2 : Hid (w.heap.size ≤ s) := Nat.le_of_eq HS.out.symm
  clear henv hu7 c6
  obtain ⟨cs, hcs⟩ : ∃ cs, cs = (arrC A).toList := ⟨_, rfl⟩
  have hl64 : cs.length = 64 := by rw [hcs]; simp [arrC]
  have hR : ResAt w (s + 1 + 1) cs (s + 1 + 1 + 1) (o : Int) w7 := by
    refine ⟨fun j v hv => ?_, fun j hj => ⟨?_, frozen_of_row w7 _ _ _ _ HA7.out⟩, ?_, frozen_of_row w7 _ 0 _ _ HO7.out, HU7.out⟩
    · rw [Nat.zero_add, cell_of_row w7 _ j _ _ _ HA7.out]; rw [hcs] at hv; simpa using hv
    · rw [Nat.zero_add, cell_of_row w7 _ j _ _ _ HA7.out, arrC_at _ _ (by omega)]; rfl
    · rw [cell_of_row w7 _ 0 _ _ _ HO7.out]; rfl
  have h1c : ∀ v ∈ cs, v.oneCell' = true := by
    intro v hv
    rw [hcs] at hv
    simp [arrC] at hv
    obtain ⟨i, _, rfl⟩ := hv
    rfl
  have HSR : Hid (∀ W, ResAt w (s + 1 + 1) cs (s + 1 + 1 + 1) (o : Int) W → ResAt w (s + 1 + 1) cs (s + 1 + 1 + 1) (o : Int) (W.setCells (s + 1 + 1) 0 cs)) := fun W h => h.row (by omega) (by have := HS2.out; omega)
  have HS1 : Hid (∀ W, ResAt w (s + 1 + 1) cs (s + 1 + 1 + 1) (o : Int) W → ResAt w (s + 1 + 1) cs (s + 1 + 1 + 1) (o : Int) (W.setCell ⟨s + 1 + 1 + 1, 0, none⟩ (.int .i64 (o : Int)))) := fun W h => h.one (by omega) (by have := HS2.out; omega)
  have HR := Lib.hid hR
  have HCS := Lib.hid hcs
  have hinf : (Try.prog.info? 23).map (·.size) = some cs.length := by rw [hl64]; exact arr_info
  have hund := Try.underlying23
  have hHeld0 := hR
  unfold ResAt at hHeld0
  clear hR hcs
  go_wp2_with fail
  go_region_held3 (fun W => W.rangeAt (s + 1 + 1) 0 cs ∧ W.there (s + 1 + 1) 0 cs.length ∧ W.cell? ⟨s + 1 + 1 + 1, 0, none⟩ = some (.int .i64 (o : Int)) ∧ W.frozen? ⟨s + 1 + 1 + 1, 0, none⟩ = false ∧ Upd [] w W)
    (first | exact ResAt.drew HR.out | exact HSR.out _ (ResAt.drew HR.out) | exact HS1.out _ (ResAt.drew HR.out) | exact HS1.out _ (HSR.out _ (ResAt.drew HR.out)) | exact HSR.out _ (HS1.out _ (ResAt.drew HR.out)))
    (fail)
  · have HX0 := HS1.out _ (HSR.out _ (ResAt.drew HR.out))
    obtain ⟨Wf, hWf⟩ : ∃ W, W = ((w7.drew.setCells (s + 1 + 1) 0 cs).setCell ⟨s + 1 + 1 + 1, 0, none⟩ (.int .i64 (o : Int))) := ⟨_, rfl⟩
    rw [← hWf] at HX0 ⊢
    clear hWf
    have HX := Lib.hid HX0
    have e1 : ∀ W : World, W.rangeAt (s + 1 + 1) 0 cs → (loadVar 23 ⟨s + 1 + 1, 0, none⟩).run Try.prog W = .ok (.agg cs.toArray) W := fun W h => run_loadVar_mid W (s + 1 + 1) 0 23 cs _ h hund rfl hinf
    have e2 := e1 _ HX.out.1
    have e3 := HX.out.2.2.1
    have e4 : (loadVar 3 ⟨s + 1 + 1 + 1, 0, none⟩).run Try.prog Wf = .ok (.int .i64 (o : Int)) Wf := by simp [go_sem, e3]
    clear HX0 hHeld0 e1 e3
    go_wp2
    refine bodyPost_ret (v := .tuple #[.agg cs.toArray, .int .i64 (o : Int)]) (by simp [results, Try.results7, asAddr, e2, e4]) rfl ?_
    exact ⟨by rw [HCS.out, Array.toArray_toList], HX.out.2.2.2.2⟩
end Go.Proofs.Ytcehkflkekefpaa
