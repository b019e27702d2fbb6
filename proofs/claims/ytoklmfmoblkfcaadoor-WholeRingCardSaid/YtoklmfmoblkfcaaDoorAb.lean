/- Texts that belong together, joined: Whole WholeM NatA64 NatMul NatMul2 WholeX WholeV NatDigs NatDigs2 RefDig RefLen RefAdd RefCmp. -/
import Derived.Test.YtoklmfmoblkfcaaDoorAa
import Derived.Deep.RegionWith
import Derived.Deep.RegionHeld3
import Derived.Laws.Externs
import Derived.Shelf.Bits.Mul64
import Derived.Lib.Mul64
import Derived.Laws.OwnMore
/- Whole numbers (layer 6): what stands for one; Neg, Abs, Cmp, Make, Minus. -/
namespace Go.Proofs.YtoklmfmoblkfcaaDoor
open Go.RowKit Go.Proofs.Tm
set_option linter.unusedVariables false
set_option linter.unusedSimpArgs false
set_option maxRecDepth 20000

/-- v is the whole number z. -/
def WV (w : World) (v : Value) (z : Int) : Prop := ∃ s, v = .agg #[.bool (decide (z < 0)), s] ∧ NV w (.agg #[s]) z.natAbs
theorem WV.upd0 {w w' : World} {v : Value} {z : Int} (h : WV w v z) (u : Upd [] w w') : WV w' v z := by
  obtain ⟨s, rfl, hn⟩ := h
  exact ⟨s, rfl, hn.upd0 u⟩
theorem WV.open {w : World} {v : Value} {z : Int} (h : WV w v z) : ∃ a l c, v = .agg #[.bool (decide (z < 0)), .slice a l c] ∧ NV w (.agg #[.slice a l c]) z.natAbs := by
  obtain ⟨s, rfl, hn⟩ := h
  obtain ⟨a, c, h, _, _⟩ := hn.open
  simp only [Value.agg.injEq, Array.mk.injEq, List.cons.injEq, and_true] at h
  subst h
  exact ⟨a, _, c, rfl, hn⟩
def RWhole (z : Int) (w : World) (e : Ending) (w' : World) : Prop := ∃ v, e = .returned v ∧ WV w' v z ∧ Upd [] w w'

theorem two_boxesM (w : World) (x : Array Value) (y : Value) (t t' : TypeId) (W : World) (h : W = (w.alloc (.cells x t)).alloc (.cells #[y] t')) :
    Upd [] w W ∧ W.cell? ⟨w.heap.size + 1, 0, none⟩ = some y := by
  subst h
  refine ⟨((Upd.refl _ _).alloc _).alloc _, ?_⟩
  have b2 : Box ((w.alloc (.cells x t)).alloc (.cells #[y] t')) (w.heap.size + 1) y t' := by have := Box.new (w.alloc (.cells x t)) y t'; simpa using this
  exact b2.cell

set_option maxHeartbeats 400000 in
theorem wneg_any (v : Value) (z : Int) (w : World) (h : WV w v z) : Calls Tryd.prog 23 #[v] w fun e w' => e = .returned (.bool (decide (z < 0))) ∧ Upd [] w w' := by
  obtain ⟨a, l, c, rfl, hn⟩ := h.open
  generalize decide (z < 0) = b at *
  clear h hn
  go_enter Tryd.func23, Tryd.ntmps23
  go_wp2
  go_ret
  exact ⟨rfl, (Upd.refl _ _).alloc _⟩

set_option maxHeartbeats 400000 in
theorem wabs_any (v : Value) (z : Int) (w : World) (h : WV w v z) : Calls Tryd.prog 25 #[v] w (RNat z.natAbs w) := by
  obtain ⟨a, l, c, rfl, hn⟩ := h.open
  have HN := Lib.hid hn
  generalize decide (z < 0) = b at *
  clear h hn
  go_enter Tryd.func25, Tryd.ntmps25
  go_wp2
  have hu : Upd [] w ((w.alloc (.cells #[.bool b, .slice a l c] 29)).alloc (.cells #[.slice a l c] 27)) := ((Upd.refl _ _).alloc _).alloc _
  have hrow : ((w.alloc (.cells #[.bool b, .slice a l c] 29)).alloc (.cells #[.slice a l c] 27)).cell? ⟨w.heap.size + 1, 0, none⟩ = some (.slice a l c) := (two_boxesM w #[.bool b, .slice a l c] (.slice a l c) _ _ _ rfl).2
  refine bodyPost_ret (v := .agg #[.slice a l c]) (by simp [results, Tryd.results25, go_sem, hrow]) rfl ?_
  exact ⟨_, rfl, HN.out.upd0 hu, hu⟩

set_option maxHeartbeats 800000 in
theorem wcmp_any (u v : Value) (x y : Int) (w : World) (hu : WV w u x) (hv : WV w v y) (hlx : (wds x.natAbs).length ≤ 1099511627776) (hly : (wds y.natAbs).length ≤ 1099511627776) :
    Calls Tryd.prog 18 #[u, v] w fun e w' => e = .returned (.int .i64 (cmpZ x y)) ∧ Upd [] w w' := by
  obtain ⟨a, l, c, rfl, hn⟩ := hu.open
  obtain ⟨a', l', c', rfl, hn'⟩ := hv.open
  have HC1 : Hid (∀ W, Upd [] w W → Calls Tryd.prog 24 #[.agg #[.slice a l c], .agg #[.slice a' l' c']] W fun e w' => e = .returned (.int .i64 (cmpN x.natAbs y.natAbs)) ∧ Upd [] W w') := fun W h => cmp_any _ _ _ _ W (hn.upd0 h) (hn'.upd0 h) hlx
  have HC2 : Hid (∀ W, Upd [] w W → Calls Tryd.prog 24 #[.agg #[.slice a' l' c'], .agg #[.slice a l c]] W fun e w' => e = .returned (.int .i64 (cmpN y.natAbs x.natAbs)) ∧ Upd [] W w') := fun W h => cmp_any _ _ _ _ W (hn'.upd0 h) (hn.upd0 h) hly
  obtain ⟨w0, hw0⟩ : ∃ W, W = (w.alloc (.cells #[.bool (decide (x < 0)), .slice a l c] 29)).alloc (.cells #[.bool (decide (y < 0)), .slice a' l' c'] 29) := ⟨_, rfl⟩
  have HU0 : Hid (Upd [] w w0) := by rw [hw0]; exact ((Upd.refl _ _).alloc _).alloc _
  have HW0 := Lib.hid hw0
  clear hu hv hn hn' hlx hly hw0
  by_cases hx : x < 0
  · by_cases hy : y < 0
    · have HE : Hid (cmpN y.natAbs x.natAbs = cmpZ x y) := by
        show _ = _
        unfold cmpN cmpZ
        repeat' split
        all_goals omega
      rw [decide_eq_true hx, decide_eq_true hy] at HW0 ⊢
      clear hx hy
      go_enter Tryd.func18, Tryd.ntmps18
      go_wp2_with fail
      rw [← HW0.out]
      refine (HC2.out _ HU0.out).mono ?_
      rintro e w1 ⟨rfl, hu1⟩
      have HF := Lib.hid (HU0.out.trans0 hu1)
      clear hu1
      go_wp2
      go_ret
      exact ⟨by rw [HE.out]; rfl, HF.out⟩
    · have HE : Hid (cmpZ x y = -1) := by show _ = _; unfold cmpZ; rw [if_pos (by omega)]
      rw [decide_eq_true hx, decide_eq_false hy] at HW0 ⊢
      clear hx hy
      go_enter Tryd.func18, Tryd.ntmps18
      go_wp2
      go_ret
      exact ⟨by rw [HE.out]; rfl, by rw [← HW0.out]; exact HU0.out⟩
  · by_cases hy : y < 0
    · have HE : Hid (cmpZ x y = 1) := by show _ = _; unfold cmpZ; rw [if_neg (by omega), if_neg (by omega)]
      rw [decide_eq_false hx, decide_eq_true hy] at HW0 ⊢
      clear hx hy
      go_enter Tryd.func18, Tryd.ntmps18
      go_wp2
      go_ret
      exact ⟨by rw [HE.out]; rfl, by rw [← HW0.out]; exact HU0.out⟩
    · have HE : Hid (cmpN x.natAbs y.natAbs = cmpZ x y) := by
        show _ = _
        unfold cmpN cmpZ
        repeat' split
        all_goals omega
      rw [decide_eq_false hx, decide_eq_false hy] at HW0 ⊢
      clear hx hy
      go_enter Tryd.func18, Tryd.ntmps18
      go_wp2_with fail
      rw [← HW0.out]
      refine (HC1.out _ HU0.out).mono ?_
      rintro e w1 ⟨rfl, hu1⟩
      have HF := Lib.hid (HU0.out.trans0 hu1)
      clear hu1
      go_wp2
      go_ret
      exact ⟨by rw [HE.out]; rfl, HF.out⟩
end Go.Proofs.YtoklmfmoblkfcaaDoor

/- Whole numbers (layer 6): Make, Minus. -/
namespace Go.Proofs.YtoklmfmoblkfcaaDoor
open Go.RowKit Go.Proofs.Tm
set_option linter.unusedVariables false
set_option linter.unusedSimpArgs false
set_option maxRecDepth 20000

set_option maxHeartbeats 1600000 in
theorem wmake_any (b : Bool) (v : Value) (n : Nat) (w : World) (h : NV w v n) : Calls Tryd.prog 31 #[.bool b, v] w (RWhole (if b then -(n : Int) else n) w) := by
  obtain ⟨a, c, rfl, _, _⟩ := h.open
  obtain ⟨l, hl⟩ : ∃ l, l = (wds n).length := ⟨_, rfl⟩
  rw [← hl] at h ⊢
  obtain ⟨w0, hw0⟩ : ∃ W, W = (w.alloc (.cells #[.slice a l c] 27)).alloc (.cells #[.bool false, .slice none 0 0] 29) := ⟨_, rfl⟩
  obtain ⟨S, hS⟩ : ∃ s, s = w.heap.size := ⟨_, rfl⟩
  have hu0 : Upd [] w w0 := by rw [hw0]; exact ((Upd.refl _ _).alloc _).alloc _
  have HN : Hid (∀ W, Upd [] w W → NV W (.agg #[.slice a l c]) n) := fun W hh => h.upd0 hh
  have hr0 : w0.heap[S]? = some (.cells #[.slice a l c] 27 (0, 0)) := by rw [hw0, hS, Below.heap_alloc _ _ _ (by simp <;> omega)]; exact heap_alloc_new w _
  have hr1 : w0.heap[S + 1]? = some (.cells #[.bool false, .slice none 0 0] 29 (0, 0)) := by rw [hw0, hS]; have := heap_alloc_new (w.alloc (.cells #[.slice a l c] 27)) (.cells #[.bool false, .slice none 0 0] 29); simpa using this
  have HC : Hid (∀ W, Upd [] w0 W → W.cell? ⟨S, 0, none⟩ = some (.slice a l c) ∧ W.cell? ⟨S + 1, 0, none⟩ = some (.bool false) ∧ W.cell? ⟨S + 1, 1, none⟩ = some (.slice none 0 0) ∧ W.frozen? ⟨S + 1, 0, none⟩ = false ∧ W.frozen? ⟨S + 1, 1, none⟩ = false) := fun W hh =>
    have e0 := (hh.block _ (lt_of_block hr0) (by simp)).trans hr0
    have e1 := (hh.block _ (lt_of_block hr1) (by simp)).trans hr1
    ⟨by rw [cell_of_row W _ 0 _ _ _ e0]; rfl, by rw [cell_of_row W _ 0 _ _ _ e1]; rfl, by rw [cell_of_row W _ 1 _ _ _ e1]; rfl, frozen_of_row W _ 0 _ _ e1, frozen_of_row W _ 1 _ _ e1⟩
  have HR1 := Lib.hid hr1
  have HW0 := Lib.hid hw0
  have HS := Lib.hid hS
  have HU0 := Lib.hid hu0
  have HZ : Hid (∀ W, Upd [] w W → Calls Tryd.prog 36 #[.agg #[.slice a l c]] W fun e w' => e = .returned (.bool (decide (n = 0))) ∧ Upd [] W w') := fun W hh => zero_any _ n W (HN.out W hh)
  obtain ⟨d0, d1, d2, e1, e2⟩ := HC.out _ (Upd.refl _ w0)
  have hrf : Upd [] w0 w0 := Upd.refl _ _
  clear h hl hw0 hS hu0 hr0 hr1
  have HFIN : Hid (∀ W (q : Bool) (z : Int), Upd [] w0 W → q = decide (z < 0) → z.natAbs = n → (((W.setCell ⟨S + 1, 0, none⟩ (.bool q)).setCell ⟨S + 1, 1, none⟩ (.slice a l c)).cell? ⟨S + 1, 0, none⟩ = some (.bool q) ∧ ((W.setCell ⟨S + 1, 0, none⟩ (.bool q)).setCell ⟨S + 1, 1, none⟩ (.slice a l c)).cell? ⟨S + 1, 1, none⟩ = some (.slice a l c) ∧ ∀ W', Upd [] ((W.setCell ⟨S + 1, 0, none⟩ (.bool q)).setCell ⟨S + 1, 1, none⟩ (.slice a l c)) W' → RWhole z w (.returned (.agg #[.bool q, .slice a l c])) W')) := fun W q z hh hq hz => by
    have e1 := (hh.block _ (lt_of_block HR1.out) (by simp)).trans HR1.out
    have hrow : ((W.setCell ⟨S + 1, 0, none⟩ (.bool q)).setCell ⟨S + 1, 1, none⟩ (.slice a l c)).heap[S + 1]? = some (.cells #[.bool q, .slice a l c] 29 (0, 0)) := by
      have h1 := heap_setCell_same W (S + 1) 0 _ _ (.bool q) e1
      rw [heap_setCell_same _ (S + 1) 1 _ _ (.slice a l c) h1]
      rfl
    have hS1 : w.heap.size ≤ S + 1 := by have := HS.out; omega
    refine ⟨by rw [cell_of_row _ _ 0 _ _ _ hrow]; rfl, by rw [cell_of_row _ _ 1 _ _ _ hrow]; rfl, fun W' hw' => ?_⟩
    have huw : Upd [] w W' := (((HU0.out.trans0 hh).setCell (p := ⟨S + 1, 0, none⟩) (.inr hS1) _).setCell (p := ⟨S + 1, 1, none⟩) (.inr hS1) _).trans0 hw'
    exact ⟨_, rfl, ⟨_, by rw [hq], by rw [hz]; exact HN.out _ huw⟩, huw⟩
  cases b
  · go_enter Tryd.func31, Tryd.ntmps31
    go_wp2_with fail
    rw [← HW0.out]
    rw [← HS.out]
    go_region
    all_goals
      have HX := HFIN.out w0 false n hrf (by simp) (by simp)
      have z0 := HX.1
      have z1 := HX.2.1
      have HY := Lib.hid (HX.2.2 _ (Upd.refl _ _).drew)
      clear HX
      go_wp2
      refine bodyPost_ret (v := .agg #[.bool false, .slice a l c]) (by simp [results, Tryd.results31, go_sem, z0, z1]) rfl ?_
      exact HY.out
  · obtain ⟨q, hq⟩ : ∃ q, q = !decide (n = 0) := ⟨_, rfl⟩
    have HQ := Lib.hid hq
    have hqn : (!decide (n = 0)) = q := hq.symm
    have hcA : ∀ W, Upd [] w0 W → W.cell? ⟨S + 1, 0, none⟩ = some (.bool false) ∧ W.cell? ⟨S + 1, 1, none⟩ = some (.slice none 0 0) ∧ W.frozen? ⟨S + 1, 0, none⟩ = false ∧ W.frozen? ⟨S + 1, 1, none⟩ = false := fun W hh => (HC.out W hh).2
    have HKP : Hid (∀ W, Upd [S + 1] w0 W → W.cell? ⟨S, 0, none⟩ = some (.slice a l c) ∧ Upd [S + 1] w0 W) := fun W hh => ⟨(hh.cell (p := ⟨S, 0, none⟩) (World.block_lt_of_cell? w0 _ d0) (by simp)).trans d0, hh⟩
    clear hq
    go_enter Tryd.func31, Tryd.ntmps31
    go_wp2_with fail
    rw [← HW0.out]
    rw [← HS.out]
    go_region_held3 (fun W => W.cell? ⟨S, 0, none⟩ = some (.slice a l c) ∧ Upd [S + 1] w0 W)
      (first
        | exact HKP.out _ (huy.mono (by simp))
        | exact HKP.out _ (hrf.drew.mono (by simp))
        | exact HKP.out _ (hrf.mono (by simp))
        | exact HKP.out _ (((huy.mono (by simp)).setCell (.inl (by simp)) _).setCell (.inl (by simp)) _))
      (first
        | (go_at_call 36; (with_reducible refine (HZ.out _ (HU0.out.trans0 (by first | exact hrf.drew | exact hrf))).mono ?_); rintro e wz ⟨rfl, hu20⟩; have huy : Upd [] w0 wz := (by first | exact hrf.drew.trans0 hu20 | exact hrf.trans0 hu20); clear hu20; obtain ⟨x1, x2, x3, x4⟩ := hcA _ huy))
    all_goals
      have HX := HFIN.out wz q (-(n : Int)) huy (by rw [HQ.out]; by_cases h0 : n = 0 <;> simp [h0] <;> omega) (by simp)
      have z0 := HX.1
      have z1 := HX.2.1
      have HY := Lib.hid (HX.2.2 _ (Upd.refl _ _))
      clear HX
      go_wp2
      refine bodyPost_ret (v := .agg #[.bool q, .slice a l c]) (by simp [results, Tryd.results31, go_sem, z0, z1]) rfl ?_
      exact HY.out

theorem no_u64w {b : Bool} {a : Option Addr} {l c : Nat} (j : Nat) (z : Int) : (#[Value.bool b, Value.slice a l c] : Array Value)[j]? ≠ some (.int .u64 z) := by
  rcases j with _ | _ | j <;> simp

/-- A whole number is stored into a block of the call's own. -/
structure WPut (w : World) (i : Nat) (q : Bool) (a : Option Addr) (l c : Nat) (z : Int) (W : World) : Prop where
  c0 : W.cell? ⟨i, 0, none⟩ = some (.bool q)
  c1 : W.cell? ⟨i, 1, none⟩ = some (.slice a l c)
  v : WV W (.agg #[.bool q, .slice a l c]) z
  u : Upd [] w W

theorem wv_put {w W : World} {i : Nat} {b q : Bool} {z : Int} {a a' : Option Addr} {l c l' c' : Nat} (hi : w.heap.size ≤ i) (hr : W.heap[i]? = some (.cells #[.bool b, .slice a' l' c'] 29 (0, 0))) (hu : Upd [] w W) (hv : WV W (.agg #[.bool q, .slice a l c]) z) :
    WPut w i q a l c z ((W.setCell ⟨i, 0, none⟩ (.bool q)).setCell ⟨i, 1, none⟩ (.slice a l c)) := by
  have h1 := heap_setCell_same W i 0 _ _ (.bool q) hr
  have hrow := heap_setCell_same _ i 1 _ _ (.slice a l c) h1
  refine ⟨by rw [cell_of_row _ _ 0 _ _ _ hrow]; rfl, by rw [cell_of_row _ _ 1 _ _ _ hrow]; rfl, ?_, (hu.setCell (p := ⟨i, 0, none⟩) (.inr hi) _).setCell (p := ⟨i, 1, none⟩) (.inr hi) _⟩
  obtain ⟨s, he, hn⟩ := hv
  exact ⟨s, he, (hn.store hr no_u64w _ rfl _).store h1 (by intro j z; rcases j with _ | _ | j <;> simp) _ rfl _⟩

set_option maxHeartbeats 400000 in
theorem wminus_any (v : Value) (z : Int) (w : World) (h : WV w v z) : Calls Tryd.prog 17 #[v] w (RWhole (-z) w) := by
  obtain ⟨a, l, c, rfl, hn⟩ := h.open
  have HM : Hid (∀ W, Upd [] w W → Calls Tryd.prog 31 #[.bool (!decide (z < 0)), .agg #[.slice a l c]] W (RWhole (-z) W)) := fun W hh => by
    have := wmake_any (!decide (z < 0)) _ _ W (hn.upd0 hh)
    have e : (if (!decide (z < 0)) = true then -((z.natAbs : Nat) : Int) else (z.natAbs : Nat)) = -z := by
      by_cases hz : z < 0 <;> simp [hz] <;> omega
    rw [e] at this
    exact this
  generalize decide (z < 0) = b at *
  obtain ⟨w0, hw0⟩ : ∃ W, W = (w.alloc (.cells #[.bool b, .slice a l c] 29)).alloc (.cells #[.bool false, .slice none 0 0] 29) := ⟨_, rfl⟩
  have HU0 : Hid (Upd [] w w0) := by rw [hw0]; exact ((Upd.refl _ _).alloc _).alloc _
  have HW0 := Lib.hid hw0
  clear h hn hw0
  go_enter Tryd.func17, Tryd.ntmps17
  go_wp2_with fail
  rw [← HW0.out]
  refine (HM.out _ HU0.out).mono ?_
  rintro e w1 ⟨v1, rfl, hv1, hu1⟩
  obtain ⟨a1, l1, c1, rfl, _⟩ := hv1.open
  have hr1 : w1.heap[w.heap.size + 1]? = some (.cells #[.bool false, .slice none 0 0] 29 (0, 0)) := by
    have h0 : w0.heap[w.heap.size + 1]? = some (.cells #[.bool false, .slice none 0 0] 29 (0, 0)) := by rw [HW0.out]; have := heap_alloc_new (w.alloc (.cells #[.bool b, .slice a l c] 29)) (.cells #[.bool false, .slice none 0 0] 29); simpa using this
    exact (hu1.block _ (lt_of_block h0) (by simp)).trans h0
  have HP := Lib.hid (wv_put (by omega) hr1 (HU0.out.trans0 hu1) hv1)
  clear hv1
  generalize decide (-z < 0) = q at *
  have d0 : w1.cell? ⟨w.heap.size + 1, 0, none⟩ = some (.bool false) := by rw [cell_of_row w1 _ 0 _ _ _ hr1]; rfl
  have d1 : w1.cell? ⟨w.heap.size + 1, 1, none⟩ = some (.slice none 0 0) := by rw [cell_of_row w1 _ 1 _ _ _ hr1]; rfl
  have e0 : w1.frozen? ⟨w.heap.size + 1, 0, none⟩ = false := frozen_of_row w1 _ 0 _ _ hr1
  have e1 : w1.frozen? ⟨w.heap.size + 1, 1, none⟩ = false := frozen_of_row w1 _ 1 _ _ hr1
  clear hr1 hu1
  go_wp2
  have z0 := HP.out.c0
  have z1 := HP.out.c1
  refine bodyPost_ret (v := .agg #[.bool q, .slice a1 l1 c1]) (by simp [results, Tryd.results17, go_sem, z0, z1]) rfl ?_
  exact ⟨_, rfl, HP.out.v, HP.out.u⟩
end Go.Proofs.YtoklmfmoblkfcaaDoor

/- Add64, in the walk's own form; sums on the way. -/
namespace Go.Proofs.YtoklmfmoblkfcaaDoor
open Go.RowKit Go.Proofs.Tm
set_option linter.unusedVariables false
set_option linter.unusedSimpArgs false
set_option maxRecDepth 20000

/-- Add64, in the walk's own form. -/
theorem add64_run (x y c : Nat) (hx : x < 18446744073709551616) (hy : y < 18446744073709551616) (hc : c ≤ 1) :
    ∃ s c' : Nat, s < 18446744073709551616 ∧ c' ≤ 1 ∧ s + 18446744073709551616 * c' = x + y + c ∧
      ∀ W, (callFunc 70 #[.int .u64 (x : Int), .int .u64 (y : Int), .int .u64 (c : Int)]).run Tryd.prog W = .ok (.value (.tuple #[.int .u64 (s : Int), .int .u64 (c' : Int)])) W := by
  refine ⟨(x + y + c) % 18446744073709551616, (x + y + c) / 18446744073709551616, Nat.mod_lt _ (by decide), by omega, by omega, fun W => ?_⟩
  rw [run_callFunc_extern Tryd.func70 (by kernel_rfl) (by kernel_rfl) (by kernel_rfl) (e := add64Entry) (by kernel_rfl), run_add64 x y c (by omega) (by omega) (by omega) (by omega)]
  simp only [Result.andThen]
  congr 5 <;> omega

/-- .. with nothing carried in. -/
theorem add64_run0 (x y : Nat) (hx : x < 18446744073709551616) (hy : y < 18446744073709551616) :
    ∃ s c' : Nat, s < 18446744073709551616 ∧ c' ≤ 1 ∧ s + 18446744073709551616 * c' = x + y ∧
      ∀ W, (callFunc 70 #[.int .u64 (x : Int), .int .u64 (y : Int), .int .u64 0]).run Tryd.prog W = .ok (.value (.tuple #[.int .u64 (s : Int), .int .u64 (c' : Int)])) W := by
  obtain ⟨s, c, h1, h2, h3, h4⟩ := add64_run x y 0 hx hy (by decide)
  exact ⟨s, c, h1, h2, h3, fun W => h4 W⟩
/-- What holds at each round of a sum, a difference: the row's words. -/
structure SumInv (w w1 : World) (k g len : Nat) (L : List Nat) (wr : World) : Prop where
  own : wr.ownsRow (w.heap.size) 65 1 (.slice (some ⟨g, 0, none⟩) len len) len (cu64 L)
  len : L.length = len
  zero : ∀ j, k ≤ j → L.getD j 0 = 0
  lt : ∀ d ∈ L, d < 18446744073709551616
  upd : Upd [g] w1 wr

theorem SumInv.start {w w1 : World} {g len : Nat} (h : w1.ownsRow w.heap.size 65 1 (.slice (some ⟨g, 0, none⟩) len len) len (List.replicate len (.int .u64 0))) : SumInv w w1 0 g len (List.replicate len 0) w1 :=
  ⟨by rw [cu64_zero]; exact h, by simp, fun j _ => by simp [List.getD_eq_getElem?_getD, List.getElem?_replicate]; split <;> rfl, fun d hd => by rw [List.eq_of_mem_replicate hd]; decide, Upd.refl _ _⟩

theorem SumInv.set {w w1 wr wq : World} {i g len : Nat} {L : List Nat} (h : SumInv w w1 i g len L wr) (u : Upd [] wr wq) (s : Nat) (hs : s < 18446744073709551616) : SumInv w w1 (i + 1) g len (L.set i s) (wq.setCell ⟨g, i, none⟩ (.int .u64 (s : Int))) := by
  have ho := ownsRow_upd h.own u (by simp)
  refine ⟨by rw [cu64_set]; exact (ho.stored i _).1, by rw [List.length_set]; exact h.len, fun j hj => ?_, fun d hd => ?_, (h.upd.trans u (by simp)).setCell (.inl (by simp)) _⟩
  · have := h.zero j (by omega)
    rw [List.getD_eq_getElem?_getD, List.getElem?_set_ne (by omega), ← List.getD_eq_getElem?_getD]; exact this
  · rcases List.mem_or_eq_of_mem_set hd with hd | rfl
    · exact h.lt d hd
    · exact hs
end Go.Proofs.YtoklmfmoblkfcaaDoor

/- The contracts of nat.timesPlus, addTimes, takeTimes (layer 5). -/
namespace Go.Proofs.YtoklmfmoblkfcaaDoor
open Go.RowKit Go.Proofs.Tm
set_option linter.unusedVariables false
set_option maxRecDepth 20000

theorem timesPlus_any (x n m : Nat) (w : World) (hx : x < 18446744073709551616) (hn : n < 18446744073709551616) (hm : m < 18446744073709551616) :
    Calls Tryd.prog 79 #[.int .u64 (x : Int), .int .u64 (n : Int), .int .u64 (m : Int)] w fun e w' =>
      e = .returned (.tuple #[.int .u64 (((x * n + m) / 18446744073709551616 : Nat) : Int), .int .u64 (((x * n + m) % 18446744073709551616 : Nat) : Int)]) ∧ w = w' := by
  obtain ⟨s, c, hs, hc, hsum, hadd⟩ := add64_run0 (x * n % 18446744073709551616) m (Nat.mod_lt _ (by decide)) hm
  have hlt := tp_lt x n m hx hn hm
  have HMUL := Lib.hid (fun W => Tryd.bits_Mul64 x n hx hn W)
  have HH : Hid ((x * n + m) / 18446744073709551616 = x * n / 18446744073709551616 + c ∧ (x * n + m) % 18446744073709551616 = s) := by
    constructor <;> omega
  have hwr : IntKind.u64.wrap (((x * n / 18446744073709551616 : Nat) : Int) + (c : Int)) = ((x * n / 18446744073709551616 + c : Nat) : Int) := by
    have := HH.out.1
    rw [IntKind.wrap_u64]; omega
  rw [HH.out.1, HH.out.2]
  clear hsum hlt hs hc
  generalize x * n / 18446744073709551616 = h at *
  generalize x * n % 18446744073709551616 = l at *
  have HWR := Lib.hid hwr
  clear hwr
  go_enter Tryd.func79, Tryd.ntmps79
  go_wp2_with fail
  refine (HMUL.out w).mono ?_
  rintro e w' ⟨rfl, rfl⟩
  go_wp2
  go_ret2
  refine ⟨?_, rfl⟩
  rw [HWR.out]
  rfl

/-- A row of words of which those from f on, k of them, may have turned. -/
structure ARow (base g len cap f k : Nat) (L0 L : List Nat) (w wr : World) : Prop where
  own : wr.ownsRow base 65 1 (.slice (some ⟨g, 0, none⟩) len cap) len (cu64 L)
  len : L.length = len
  lt : ∀ d ∈ L, d < 18446744073709551616
  out : ∀ j, j < f ∨ f + k ≤ j → L.getD j 0 = L0.getD j 0
  upd : Upd [g] w wr

theorem ARow.start {base g len cap f : Nat} {L : List Nat} {w : World} (h : w.ownsRow base 65 1 (.slice (some ⟨g, 0, none⟩) len cap) len (cu64 L)) (hL : L.length = len) (hlt : ∀ d ∈ L, d < 18446744073709551616) : ARow base g len cap f 0 L L w w :=
  ⟨h, hL, hlt, fun _ _ => rfl, Upd.refl _ _⟩

theorem ARow.set {base g len cap f k : Nat} {L0 L : List Nat} {w wr : World} (h : ARow base g len cap f k L0 L w wr) (s : Nat) (hs : s < 18446744073709551616) : ARow base g len cap f (k + 1) L0 (L.set (f + k) s) w (wr.setCell ⟨g, f + k, none⟩ (.int .u64 (s : Int))) := by
  refine ⟨by rw [cu64_set]; exact (h.own.stored (f + k) _).1, by rw [List.length_set]; exact h.len, fun d hd => ?_, fun j hj => ?_, h.upd.setCell (.inl (by simp)) _⟩
  · rcases List.mem_or_eq_of_mem_set hd with hd | rfl
    · exact h.lt d hd
    · exact hs
  · rw [List.getD_eq_getElem?_getD, List.getElem?_set_ne (by omega), ← List.getD_eq_getElem?_getD]
    exact h.out j (by omega)

theorem getD_lt {L : List Nat} (h : ∀ d ∈ L, d < 18446744073709551616) (i : Nat) : L.getD i 0 < 18446744073709551616 := by
  rcases Nat.lt_or_ge i L.length with hi | hi
  · have : L.getD i 0 = L[i] := by simp [hi]
    rw [this]; exact h _ (List.getElem_mem hi)
  · have : L.getD i 0 = 0 := by simp [hi]
    rw [this]; decide

/-- What addTimes leaves. -/
def AddTPost (base g len cap f : Nat) (B : List Nat) (n : Nat) (L : List Nat) (w : World) (e : Ending) (w' : World) : Prop :=
  ∃ (o : Nat) (L' : List Nat), e = .returned (.int .u64 (o : Int)) ∧ ARow base g len cap f B.length L L' w w' ∧ o ≤ n ∧ wval L' + 18446744073709551616 ^ (f + B.length) * o = wval L + 18446744073709551616 ^ f * (n * wval B)

set_option maxHeartbeats 800000 in
theorem addTimes_any (base g len cap f ln cp n : Nat) (bv : Value) (B L : List Nat) (w : World) (ho : w.ownsRow base 65 1 (.slice (some ⟨g, 0, none⟩) len cap) len (cu64 L)) (hL : L.length = len) (hlt : ∀ d ∈ L, d < 18446744073709551616)
   (hB : Sl w bv (cu64 B)) (hBlt : ∀ d ∈ B, d < 18446744073709551616) (hbg : B ≠ [] → ∀ k, bv.ownBlock = some k → k ≠ g) (hf : f + B.length ≤ len) (hln : B.length ≤ ln) (hn : n < 18446744073709551616) (hlen : len ≤ 1099511627776) :
    Calls Tryd.prog 56 #[.slice (some ⟨g, f, none⟩) ln cp, bv, .int .u64 (n : Int)] w (AddTPost base g len cap f B n L w) := by
  have H0 := Lib.hid (ARow.start (f := f) ho hL hlt)
  have HB := Lib.hid hB
  have HBLT := Lib.hid hBlt
  have HBG := Lib.hid hbg
  obtain ⟨a, cb, rfl, hlc, hcm, _⟩ := hB
  simp only [cu64_length] at *
  obtain ⟨lb, hlb⟩ : ∃ k, k = B.length := ⟨_, rfl⟩
  have HLB := Lib.hid hlb
  rw [← hlb] at hf hln hlc HB
  rw [← hlb]
  unfold maxLen at hcm
  clear ho hL hlt hBlt hbg hlb
  go_enter Tryd.func56, Tryd.ntmps56
  go_wp2
  go_loopw [7, 13] (fun v7 v13 wr => ∃ (k o : Nat) (L' : List Nat), k ≤ lb ∧ v13 = .int .i64 k ∧ v7 = .int .u64 (o : Int) ∧ o ≤ n ∧ Hid (wval L' + 18446744073709551616 ^ (f + k) * o = wval L + 18446744073709551616 ^ f * (n * wval (B.take k))) ∧ ARow base g len cap f k L L' w wr) (fun _ v13 _ => lb - (intOf v13).toNat)
  case atStart => exact ⟨0, 0, L, Nat.zero_le _, rfl, rfl, Nat.zero_le _, by show _ = _; simp [wval], H0.out⟩
  case round =>
    obtain ⟨k, o, L', hk, rfl, rfl, hon, HE, hinv⟩ := hrel
    have HI := Lib.hid hinv
    clear hinv H0
    by_cases hlt : k < lb
    · have hwr := HI.out.upd
      obtain ⟨b, ob, cb', hv, hc⟩ := sl_at HB.out (by rw [cu64_nil]; rintro rfl; have := HLB.out; simp at this; omega)
      obtain ⟨rfl, rfl⟩ : a = some ⟨b, ob, none⟩ ∧ cb = cb' := by simp at hv; exact ⟨hv.1, hv.2.2⟩
      have hcell := hc k (by rw [cu64_length, ← HLB.out]; exact hlt)
      rw [cu64_getD _ _ (by rw [← HLB.out]; exact hlt)] at hcell
      have hbw := World.block_lt_of_cell? w _ hcell
      have hne := HBG.out (by rintro rfl; have := HLB.out; simp at this; omega) b rfl
      have hcb : wr.cell? ⟨b, ob + k, none⟩ = some (.int .u64 ((B.getD k 0 : Nat) : Int)) := (hwr.cell (p := ⟨b, ob + k, none⟩) hbw (by simpa using hne)).trans hcell
      have hcl := HI.out.own.cellAt (f + k) (by omega)
      rw [cu64_getD _ _ (by rw [HI.out.len]; omega)] at hcl
      have hfz := HI.out.own.frozenAt (f + k)
      have hx := getD_lt HBLT.out k
      have hl := getD_lt HI.out.lt (f + k)
      have HT := Lib.hid (fun W => timesPlus_any (B.getD k 0) n o W hx hn (by omega))
      obtain ⟨s, c, hs, hc1, hsum, hadd⟩ := add64_run0 (L'.getD (f + k) 0) ((B.getD k 0 * n + o) % 18446744073709551616) hl (Nat.mod_lt _ (by decide))
      have HSUM : Hid (s + 18446744073709551616 * ((B.getD k 0 * n + o) / 18446744073709551616 + c) = L'.getD (f + k) 0 + (B.getD k 0 * n + o)) := by show _ = _; omega
      have hov := over_le HSUM.out hl hx hon
      have HST := Lib.hid (waddt_step B L' f k n o s _ _ (by rw [HI.out.len]; omega) HE.out HSUM.out)
      have hwrap : IntKind.u64.wrap ((((B.getD k 0 * n + o) / 18446744073709551616 : Nat) : Int) + (c : Int)) = (((B.getD k 0 * n + o) / 18446744073709551616 + c : Nat) : Int) := by rw [IntKind.wrap_u64]; omega
      have HW := Lib.hid hwrap
      have HAR := Lib.hid (HI.out.set s hs)
      have i0 : (0 : Int) ≤ (k : Int) := by omega
      have i1 : (k : Int) < (lb : Int) := by omega
      have i2 : (k : Int) < (ln : Int) := by omega
      clear hc hv hcell hx hl hsum hwrap
      generalize B.getD k 0 = x at *
      generalize (x * n + o) % 18446744073709551616 = lo at *
      generalize (x * n + o) / 18446744073709551616 = hi at *
      generalize L'.getD (f + k) 0 = y at *
      go_wp2_with fail
      refine (HT.out wr).mono ?_
      rintro e w' ⟨rfl, rfl⟩
      go_wp2
      refine ⟨⟨k + 1, hi + c, L'.set (f + k) s, by omega, by go_num, by go_num, hov, HST.out, HAR.out⟩, by simp [intOf]; omega⟩
    · obtain rfl : k = lb := by omega
      go_wp2
      go_ret
      have h := HE.out
      rw [List.take_of_length_le (by have := HLB.out; omega)] at h
      exact ⟨o, L', rfl, by rw [← HLB.out]; exact HI.out, hon, by rw [← HLB.out]; exact h⟩
end Go.Proofs.YtoklmfmoblkfcaaDoor

/- The contract of nat.Mul (layer 5). -/
namespace Go.Proofs.YtoklmfmoblkfcaaDoor
open Go.RowKit Go.Proofs.Tm
set_option linter.unusedVariables false
set_option maxRecDepth 20000

theorem SumInv.of_arow {w w1 wr wq wy : World} {k g len f kk : Nat} {L L' : List Nat} (h : SumInv w w1 k g len L wr) (u : Upd [] wr wq) (hA : ARow w.heap.size g len len f kk L L' wq wy) (hk : f + kk ≤ k) : SumInv w w1 k g len L' wy :=
  ⟨hA.own, hA.len, fun j hj => by rw [hA.out j (by omega)]; exact h.zero j hj, hA.lt, (h.upd.trans u (by simp)).trans hA.upd (by simp)⟩

/-- A round of a product. -/
theorem mul_round (a : List Nat) (n lb i x o : Nat) (L L' : List Nat) (hx : a.getD i 0 = x) (h : wval L = wval (a.take i) * n) (h2 : wval L' + 18446744073709551616 ^ (i + lb) * o = wval L + 18446744073709551616 ^ i * (x * n)) (hj : i + lb < L'.length) (hz : L'.getD (i + lb) 0 = 0) :
    wval (L'.set (i + lb) o) = wval (a.take (i + 1)) * n := by
  have h3 := wval_set L' (i + lb) o hj
  rw [hz] at h3
  rw [wval_take_succ, hx, Nat.add_mul, ← h, Nat.mul_assoc]
  omega

def MulCall (w w1 : World) (g long i ln x n : Nat) (L : List Nat) (e : Ending) (wy : World) : Prop :=
  ∃ (o : Nat) (L' : List Nat), e = .returned (.int .u64 (o : Int)) ∧ SumInv w w1 (i + ln) g long L' wy ∧ o ≤ x ∧ wval L' + 18446744073709551616 ^ (i + ln) * o = wval L + 18446744073709551616 ^ i * (x * n)

set_option maxHeartbeats 1600000 in
theorem mul_any (u v : Value) (m n : Nat) (w : World) (hu : NV w u m) (hv : NV w v n) (hm : (wds m).length ≤ 274877906944) (hn : (wds n).length ≤ 274877906944) :
    Calls Tryd.prog 34 #[u, v] w (RNat (m * n) w) := by
  obtain ⟨a, cap, rfl, hl, hcm⟩ := hu.open
  obtain ⟨b, cap', rfl, hl', hcm'⟩ := hv.open
  have HA := Lib.hid hu
  have HB := Lib.hid hv
  unfold maxLen at hcm hcm'
  obtain ⟨lm, hlm⟩ : ∃ k, k = (wds m).length := ⟨_, rfl⟩
  obtain ⟨ln, hln⟩ : ∃ k, k = (wds n).length := ⟨_, rfl⟩
  rw [← hlm] at hl hm HA ⊢
  rw [← hln] at hl' hn HB ⊢
  have HLM := Lib.hid hlm
  have HLN := Lib.hid hln
  obtain ⟨long, hlong⟩ : ∃ k, k = lm + ln := ⟨_, rfl⟩
  have h1 : long ≤ 549755813888 := by omega
  have hsum : (lm : Int) + (ln : Int) = (long : Int) := by omega
  have HLONG := Lib.hid hlong
  clear hu hv hlm hln hlong
  go_enter Tryd.func34, Tryd.ntmps34
  go_wp2_with (at_make; refine wpList_make_lc _ rfl (.tmp 14) (.tmp 14) 22 rfl 65 (.int .u64 0) 8 Tryd.underlying22 infoU64 rfl .i64 .i64 _ _ long long rfl rfl (by omega) (by omega) (by omega) (by omega) (by unfold maxLen; omega) ?_)
  intro w1 ho hu1 hw1
  obtain ⟨hb2, hb3, hb4, hu0, hs0⟩ := box3 hu1
  have hgl : w.heap.size + 1 + 1 + 1 < w1.heap.size := by simpa using hw1
  obtain ⟨g, hg⟩ : ∃ g, g = w.heap.size + 1 + 1 + 1 := ⟨_, rfl⟩
  have H0 : Hid (SumInv w w1 0 g long (List.replicate long 0) w1) := SumInv.start (by rw [hg]; exact ownsRow_base ho (base' := w.heap.size) (by omega))
  have HA1 := Lib.hid (HA.out.upd0 hu0)
  have HB1 := Lib.hid (HB.out.upd0 hu0)
  have HU1 := Lib.hid hu0
  have HC : Hid (∀ W, Upd [g] w1 W → W.cell? ⟨w.heap.size, 0, none⟩ = some (.slice a lm cap) ∧ W.cell? ⟨w.heap.size + 1, 0, none⟩ = some (.slice b ln cap') ∧ Upd [g] w1 W) := fun W h =>
    ⟨by rw [h.cell (p := ⟨w.heap.size, 0, none⟩) (by show w.heap.size < _; omega) (by simp; omega), cell_of_row w1 _ 0 _ _ _ hb2]; rfl, by rw [h.cell (p := ⟨w.heap.size + 1, 0, none⟩) (by show w.heap.size + 1 < _; omega) (by simp; omega), cell_of_row w1 _ 0 _ _ _ hb3]; rfl, h⟩
  have HB4 := Lib.hid hb4
  have hg' := Nat.le_of_eq hg
  have hg'' := Nat.le_of_eq hg.symm
  rw [← hg]
  obtain ⟨hk2, hk3, _⟩ := HC.out w1 (Upd.refl _ _)
  have HBLK : Hid (wds n ≠ [] → ∀ k, (Value.slice b ln cap').ownBlock = some k → k ≠ g) := fun hne k hk => by
    have := HB.out.blk hne k hk; omega
  clear hg ho hu1 hw1 hb2 hb3 hb4 hu0
  go_wp2_with fail
  go_loopw [19] (fun v19 wr => ∃ (i : Nat) (L : List Nat), i ≤ lm ∧ v19 = .int .i64 i ∧ Hid (wval L = wval ((wds m).take i) * n) ∧ SumInv w w1 (i + ln) g long L wr) (fun v19 _ => lm - (intOf v19).toNat)
  case atStart => exact ⟨0, _, Nat.zero_le _, rfl, by show _ = _; rw [wval_zeros _ (fun d hd => List.eq_of_mem_replicate hd)]; simp [wval], H0.out.own, H0.out.len, fun j _ => H0.out.zero j (Nat.zero_le _), H0.out.lt, H0.out.upd⟩
  case round =>
    obtain ⟨i, L, hi, rfl, HE, hinv⟩ := hrel
    have HI := Lib.hid hinv
    clear hinv H0 hk2 hk3
    have hwr := HI.out.upd
    obtain ⟨hk2, hk3, _⟩ := HC.out wr hwr
    by_cases hlt : i < lm
    · obtain ⟨ab, ao, rfl, hab, hca⟩ := HA.out.at i (by rw [← HLM.out]; exact hlt)
      have HUW : Hid (Upd [] w wr) := HU1.out.trans hwr (by simp; omega)
      have hcw : wr.cell? ⟨ab, ao + i, none⟩ = some (.int .u64 (((wds m).getD i 0 : Nat) : Int)) := (HUW.out.cell (p := ⟨ab, ao + i, none⟩) hab (by simp)).trans hca
      have HX : Hid ((wds m).getD i 0 = (wds m).getD i 0) := rfl
      have hx := getD_lt (wds_lt m) i
      have HAT : Hid (∀ W, Upd [] wr W → Calls Tryd.prog 56 #[.slice (some ⟨g, i, none⟩) (long - i) (long - i), .slice b ln cap', .int .u64 (((wds m).getD i 0 : Nat) : Int)] W (MulCall w w1 g long i ln ((wds m).getD i 0) n L)) := fun W h =>
        (addTimes_any w.heap.size g long long i (long - i) (long - i) ((wds m).getD i 0) (.slice b ln cap') (wds n) L W (ownsRow_upd HI.out.own h (by simp)) HI.out.len HI.out.lt ((HB.out.upd0 (HUW.out.trans0 h)).sl) (wds_lt n) HBLK.out (by have := HLN.out; have := HLONG.out; omega) (by have := HLN.out; have := HLONG.out; omega) hx (by omega)).mono fun e w' hq => by
          obtain ⟨o, L', rfl, har, hox, hval⟩ := hq
          rw [← HLN.out, wval_wds] at hval
          exact ⟨o, L', rfl, HI.out.of_arow h har (by have := HLN.out; omega), hox, hval⟩
      have i0 : (0 : Int) ≤ (i : Int) := by omega
      have i1 : (i : Int) < (lm : Int) := by omega
      have i2 : (i : Int) ≤ (long : Int) := by have := HLONG.out; omega
      have i3 : (i : Int) + (ln : Int) < (long : Int) := by have := HLONG.out; omega
      have i4 : IntKind.i64.wrap ((i : Int) + (ln : Int)) = (i : Int) + (ln : Int) := IntWalk.i64_in _ (by omega)
      have i5 : ((i : Int) + (ln : Int)).toNat = i + ln := by omega
      have i6 : (0 : Int) ≤ (i : Int) + (ln : Int) := by omega
      have hlong2 : i + ln < long := by omega
      have i7 : ¬ long = i := by omega
      obtain ⟨x, hx'⟩ : ∃ x, x = (wds m).getD i 0 := ⟨_, rfl⟩
      rw [← hx'] at hcw HAT hx
      have HXX := Lib.hid hx'
      have hrf : Upd [] wr wr := Upd.refl _ _
      clear hca HX hx'
      go_wp2_with fail
      go_region_held3 (fun W => W.cell? ⟨w.heap.size + 1, 0, none⟩ = some (.slice b ln cap') ∧ Upd [g] w1 W)
        (first
          | exact (HC.out _ huy).2
          | exact (HC.out _ hwr.drew).2
          | exact (HC.out _ hwr).2
          | exact (HC.out _ (huy.setCell (.inl (by simp)) _)).2)
        (first
          | (go_at_call 56; refine (HAT.out _ (by first | exact hrf.drew | exact hrf)).mono ?_; rintro e wy ⟨o, L', rfl, har, hon, hval⟩; have hcs := har.own.cellAt (i + ln) (by omega); rw [cu64_getD _ _ (by rw [har.len]; exact hlong2)] at hcs; have hfs := har.own.frozenAt (i + ln); have huy : Upd [g] w1 wy := har.upd))
      have ho64 : o < 18446744073709551616 := by omega
      have HF := Lib.hid (har.set (Upd.refl _ _) o ho64)
      have HR := Lib.hid (mul_round (wds m) n ln i x o L L' HXX.out.symm HE.out hval (by rw [har.len]; exact hlong2) (har.zero _ (Nat.le_refl _)))
      clear hcs hfs hval har
      go_wp2_with fail
      refine ⟨⟨i + 1, L'.set (i + ln) o, by omega, by go_num, HR.out, ?_⟩, by simp [intOf]; omega⟩
      have h := HF.out
      rw [show i + ln + 1 = i + 1 + ln by omega] at h
      exact h
    · obtain rfl : i = lm := by omega
      have HV : Hid (wval L = m * n) := by
        have h2 := HE.out
        rw [List.take_of_length_le (by have := HLM.out; omega), wval_wds] at h2
        exact h2
      go_wp2_with fail
      refine (fit_any _ _ _ (Sl.own HI.out.own) HI.out.lt).mono ?_
      rintro e w5 ⟨v5, rfl, hn5, hu5⟩
      rw [HV.out] at hn5
      obtain ⟨a5, cap5, rfl, hl5, hm5⟩ := hn5.open
      have hbk : w5.heap[w.heap.size + 1 + 1]? = some (.cells #[.slice none 0 0] 27 (0, 0)) := ((hwr.trans hu5 (by simp)).block _ (by omega) (by simp; omega)).trans HB4.out
      have hc5 : w5.cell? ⟨w.heap.size + 1 + 1, 0, none⟩ = some (.slice none 0 0) := by rw [cell_of_row w5 _ 0 _ _ _ hbk]; rfl
      have hf5 : w5.frozen? ⟨w.heap.size + 1 + 1, 0, none⟩ = false := by simp [World.frozen?, hbk]
      have HN5 := Lib.hid hn5
      have HU5 := Lib.hid (((HU1.out.trans hwr (by simp; omega)).trans0 hu5))
      have HBK := Lib.hid hbk
      clear hn5 hu5 hbk
      go_wp2
      have hset := set_cell (y := .slice a5 (wds (m * n)).length cap5) hc5
      refine bodyPost_ret (v := .agg #[.slice a5 (wds (m * n)).length cap5]) (by simp [results, Tryd.results34, go_sem, hset]) rfl ?_
      exact ⟨_, rfl, HN5.out.store HBK.out no_u64 _ rfl _, HU5.out.setCell (.inr (by show w.heap.size ≤ w.heap.size + 1 + 1; omega)) _⟩
end Go.Proofs.YtoklmfmoblkfcaaDoor

/- Whole numbers (layer 6): Mul. -/
namespace Go.Proofs.YtoklmfmoblkfcaaDoor
open Go.RowKit Go.Proofs.Tm
set_option linter.unusedVariables false
set_option linter.unusedSimpArgs false
set_option maxRecDepth 20000

/-- Two whole numbers handed in, and the result's block. -/
structure WBox (w : World) (S : Nat) (b b' : Bool) (a a' : Option Addr) (l c l' c' : Nat) (W : World) : Prop where
  r0 : W.heap[S]? = some (.cells #[.bool b, .slice a l c] 29 (0, 0))
  r1 : W.heap[S + 1]? = some (.cells #[.bool b', .slice a' l' c'] 29 (0, 0))
  r2 : W.heap[S + 1 + 1]? = some (.cells #[.bool false, .slice none 0 0] 29 (0, 0))
  u : Upd [] w W
theorem wbox (w : World) (b b' : Bool) (a a' : Option Addr) (l c l' c' : Nat) (w0 : World) (h : w0 = ((w.alloc (.cells #[.bool b, .slice a l c] 29)).alloc (.cells #[.bool b', .slice a' l' c'] 29)).alloc (.cells #[.bool false, .slice none 0 0] 29)) (S : Nat) (hS : S = w.heap.size) : WBox w S b b' a a' l c l' c' w0 := by
  subst h hS
  refine ⟨?_, ?_, ?_, (((Upd.refl _ _).alloc _).alloc _).alloc _⟩
  · rw [Below.heap_alloc _ _ _ (by simp <;> omega), Below.heap_alloc _ _ _ (by simp <;> omega)]; exact heap_alloc_new w _
  · rw [Below.heap_alloc _ _ _ (by simp <;> omega)]; have := heap_alloc_new (w.alloc (.cells #[.bool b, .slice a l c] 29)) (.cells #[.bool b', .slice a' l' c'] 29); simpa using this
  · have := heap_alloc_new ((w.alloc (.cells #[.bool b, .slice a l c] 29)).alloc (.cells #[.bool b', .slice a' l' c'] 29)) (.cells #[.bool false, .slice none 0 0] 29); simpa using this
theorem WBox.upd0 {w W W' : World} {S : Nat} {b b' : Bool} {a a' : Option Addr} {l c l' c' : Nat} (h : WBox w S b b' a a' l c l' c' W) (u : Upd [] W W') : WBox w S b b' a a' l c l' c' W' :=
  ⟨(u.block _ (lt_of_block h.r0) (by simp)).trans h.r0, (u.block _ (lt_of_block h.r1) (by simp)).trans h.r1, (u.block _ (lt_of_block h.r2) (by simp)).trans h.r2, h.u.trans0 u⟩
theorem WBox.keep {w W W' : World} {S : Nat} {b b' : Bool} {a a' : Option Addr} {l c l' c' : Nat} (h : WBox w S b b' a a' l c l' c' W) (u : Upd [S + 1 + 1] W W') :
    W'.cell? ⟨S, 0, none⟩ = some (.bool b) ∧ W'.cell? ⟨S, 1, none⟩ = some (.slice a l c) ∧ W'.cell? ⟨S + 1, 0, none⟩ = some (.bool b') ∧ W'.cell? ⟨S + 1, 1, none⟩ = some (.slice a' l' c') ∧ Upd [S + 1 + 1] W W' := by
  have e0 := (u.block _ (lt_of_block h.r0) (by simp; omega)).trans h.r0
  have e1 := (u.block _ (lt_of_block h.r1) (by simp)).trans h.r1
  exact ⟨by rw [cell_of_row _ _ 0 _ _ _ e0]; rfl, by rw [cell_of_row _ _ 1 _ _ _ e0]; rfl, by rw [cell_of_row _ _ 0 _ _ _ e1]; rfl, by rw [cell_of_row _ _ 1 _ _ _ e1]; rfl, u⟩
theorem WBox.res {w W : World} {S : Nat} {b b' : Bool} {a a' : Option Addr} {l c l' c' : Nat} (h : WBox w S b b' a a' l c l' c' W) :
    W.cell? ⟨S + 1 + 1, 0, none⟩ = some (.bool false) ∧ W.cell? ⟨S + 1 + 1, 1, none⟩ = some (.slice none 0 0) ∧ W.frozen? ⟨S + 1 + 1, 0, none⟩ = false ∧ W.frozen? ⟨S + 1 + 1, 1, none⟩ = false :=
  ⟨by rw [cell_of_row _ _ 0 _ _ _ h.r2]; rfl, by rw [cell_of_row _ _ 1 _ _ _ h.r2]; rfl, frozen_of_row _ _ 0 _ _ h.r2, frozen_of_row _ _ 1 _ _ h.r2⟩

set_option maxHeartbeats 1600000 in
theorem wmul_any (u v : Value) (x y : Int) (w : World) (hu : WV w u x) (hv : WV w v y) (hlx : (wds x.natAbs).length ≤ 274877906944) (hly : (wds y.natAbs).length ≤ 274877906944) :
    Calls Tryd.prog 15 #[u, v] w (RWhole (x * y) w) := by
  obtain ⟨a, l, c, rfl, hn⟩ := hu.open
  obtain ⟨a', l', c', rfl, hn'⟩ := hv.open
  have HM : Hid (∀ W, Upd [] w W → Calls Tryd.prog 34 #[.agg #[.slice a l c], .agg #[.slice a' l' c']] W (RNat (x.natAbs * y.natAbs) W)) := fun W h => mul_any _ _ _ _ W (hn.upd0 h) (hn'.upd0 h) hlx hly
  have HK : Hid (∀ W s, Upd [] w W → NV W s (x.natAbs * y.natAbs) → Calls Tryd.prog 31 #[.bool (decide (x < 0) != decide (y < 0)), s] W (RWhole (x * y) W)) := fun W s _ hs => by
    have := wmake_any (decide (x < 0) != decide (y < 0)) _ _ W hs
    have e : (if (decide (x < 0) != decide (y < 0)) = true then -((x.natAbs * y.natAbs : Nat) : Int) else ((x.natAbs * y.natAbs : Nat) : Int)) = x * y := by
      by_cases hx : x < 0
      · by_cases hy : y < 0
        · rw [Int.natCast_mul, Int.ofNat_natAbs_of_nonpos (by omega), Int.ofNat_natAbs_of_nonpos (by omega)]; simp [hx, hy, Int.neg_mul_neg]
        · rw [Int.natCast_mul, Int.ofNat_natAbs_of_nonpos (by omega), Int.natAbs_of_nonneg (by omega)]; simp [hx, hy, Int.neg_mul]
      · by_cases hy : y < 0
        · rw [Int.natCast_mul, Int.natAbs_of_nonneg (by omega), Int.ofNat_natAbs_of_nonpos (by omega)]; simp [hx, hy, Int.mul_neg]
        · rw [Int.natCast_mul, Int.natAbs_of_nonneg (by omega), Int.natAbs_of_nonneg (by omega)]; simp [hx, hy]
    rw [e] at this
    exact this
  generalize decide (x < 0) = b at *
  generalize decide (y < 0) = b' at *
  obtain ⟨q, hq⟩ : ∃ q, q = (b != b') := ⟨_, rfl⟩
  rw [← hq] at HK
  obtain ⟨w0, hw0⟩ : ∃ W, W = ((w.alloc (.cells #[.bool b, .slice a l c] 29)).alloc (.cells #[.bool b', .slice a' l' c'] 29)).alloc (.cells #[.bool false, .slice none 0 0] 29) := ⟨_, rfl⟩
  obtain ⟨S, hS⟩ : ∃ s, s = w.heap.size := ⟨_, rfl⟩
  have HB := Lib.hid (wbox w b b' a a' l c l' c' w0 hw0 S hS)
  have HW0 := Lib.hid hw0
  have HS := Lib.hid hS
  have hcA : ∀ W, Upd [] w0 W → W.cell? ⟨S + 1 + 1, 0, none⟩ = some (.bool false) ∧ W.cell? ⟨S + 1 + 1, 1, none⟩ = some (.slice none 0 0) ∧ W.frozen? ⟨S + 1 + 1, 0, none⟩ = false ∧ W.frozen? ⟨S + 1 + 1, 1, none⟩ = false := fun W h => (HB.out.upd0 h).res
  have hrf : Upd [] w0 w0 := Upd.refl _ _
  have hqq := hq.symm
  have hq3 : (!(b == b')) = q := by rw [hq]; cases b <;> cases b' <;> rfl
  clear hu hv hn hn' hlx hly hw0 hS hq
  go_enter Tryd.func15, Tryd.ntmps15
  go_wp2_with fail
  rw [← HW0.out]
  rw [← HS.out]
  go_region_held3 (fun W => W.cell? ⟨S, 0, none⟩ = some (.bool b) ∧ W.cell? ⟨S, 1, none⟩ = some (.slice a l c) ∧ W.cell? ⟨S + 1, 0, none⟩ = some (.bool b') ∧ W.cell? ⟨S + 1, 1, none⟩ = some (.slice a' l' c') ∧ Upd [S + 1 + 1] w0 W)
    (first
      | exact HB.out.keep (huy.mono (by simp))
      | exact HB.out.keep (hrf.drew.mono (by simp))
      | exact HB.out.keep (hrf.mono (by simp))
      | exact HB.out.keep (((huy.mono (by simp)).setCell (.inl (by simp)) _).setCell (.inl (by simp)) _))
    (first
      | (go_at_call 34; (with_reducible refine (HM.out _ (HB.out.u.trans0 (by first | exact hrf.drew | exact hrf))).mono ?_); rintro e wz ⟨vM, rfl, hnM, hu20⟩; have HNM := Lib.hid hnM; clear hnM; have huy : Upd [] w0 wz := (by first | exact hrf.drew.trans0 hu20 | exact hrf.trans0 hu20); clear hu20)
      | (go_at_call 31; (with_reducible refine (HK.out _ _ (HB.out.u.trans0 huy) HNM.out).mono ?_); rintro e wz ⟨vK, rfl, hvK, hu20⟩; obtain ⟨aK, lK, cK, rfl, _⟩ := hvK.open; have HVK := Lib.hid hvK; clear hvK; have huz := huy.trans0 hu20; clear huy hu20; have huy := huz; clear huz; obtain ⟨x1, x2, x3, x4⟩ := hcA _ huy))
  all_goals
    have hHB := HB.out.upd0 huy
    have HP := Lib.hid (wv_put (by have := HS.out; omega) hHB.r2 hHB.u HVK.out)
    clear hHB hcA huy
    generalize decide (x * y < 0) = p at *
    have z0 := HP.out.c0
    have z1 := HP.out.c1
    go_wp2
    refine bodyPost_ret (v := .agg #[.bool p, .slice aK lK cK]) (by simp [results, Tryd.results15, go_sem, z0, z1]) rfl ?_
    exact ⟨_, rfl, HP.out.v, HP.out.u⟩
end Go.Proofs.YtoklmfmoblkfcaaDoor

/- Numbers and whole numbers in memory: opened, kept beside stores, stored into blocks. -/
namespace Go.Proofs.YtoklmfmoblkfcaaDoor
open Go.RowKit Go.Proofs.Tm
set_option linter.unusedVariables false
set_option linter.unusedSimpArgs false
set_option maxRecDepth 20000

theorem NV.open' {w : World} {s : Value} {n : Nat} (h : NV w (.agg #[s]) n) : ∃ a l c, s = .slice a l c := by
  obtain ⟨a, c, h, _, _⟩ := h.open
  simp only [Value.agg.injEq, Array.mk.injEq, List.cons.injEq, and_true] at h
  exact ⟨a, _, c, h⟩
theorem nvOpen {w : World} {v : Value} {n : Nat} (h : NV w v n) : ∃ a l c, v = .agg #[.slice a l c] ∧ NV w (.agg #[.slice a l c]) n := by
  obtain ⟨a, c, rfl, _, _⟩ := h.open
  exact ⟨a, _, c, rfl, h⟩
/-- A block's cells, none of which is a word. -/
def NoWord (cs : Array Value) : Prop := ∀ (j : Nat) (z : Int), cs[j]? ≠ some (.int .u64 z)
theorem nw1 {a : Option Addr} {l c : Nat} : NoWord #[.slice a l c] := fun j z => by rcases j with _ | j <;> simp
theorem nw2 {b : Bool} {a : Option Addr} {l c : Nat} : NoWord #[.bool b, .slice a l c] := fun j z => by rcases j with _ | _ | j <;> simp
theorem NV.putr {W : World} {v : Value} {n k : Nat} {cs : Array Value} {t : TypeId} (h : NV W v n) (hk : Row W k cs t) (hw : NoWord cs) (i : Nat) (x : Value) : NV (W.setCell ⟨k, i, none⟩ x) v n := h.store hk hw _ rfl x
theorem WV.putr {W : World} {v : Value} {z : Int} {k : Nat} {cs : Array Value} {t : TypeId} (h : WV W v z) (hk : Row W k cs t) (hw : NoWord cs) (i : Nat) (x : Value) : WV (W.setCell ⟨k, i, none⟩ x) v z := by
  obtain ⟨s, rfl, hn⟩ := h
  exact ⟨s, rfl, hn.putr hk hw i x⟩
/-- A number in a block that came behind w. -/
structure NewN (w : World) (n : Nat) (W : World) (k : Nat) (s : Option Addr) (l c : Nat) : Prop where
  row : Row W k #[.slice s l c] 27
  lo : w.heap.size ≤ k
  nv : NV W (.agg #[.slice s l c]) n
  upd : Upd [] w W
theorem NewN.set {w W : World} {n k : Nat} {s : Option Addr} {l c : Nat} (r : NewRow w k #[.slice none 0 0] 27 W) (u : Upd [] w W) (h : NV W (.agg #[.slice s l c]) n) : NewN w n (W.setCell ⟨k, 0, none⟩ (.slice s l c)) k s l c :=
  ⟨r.row.set 0 _, r.lo, h.putr r.row nw1 _ _, u.setCell (.inr r.lo) _⟩
theorem NewN.new {w W : World} {n : Nat} {s : Option Addr} {l c : Nat} (u : Upd [] w W) (h : NV W (.agg #[.slice s l c]) n) : NewN w n (W.alloc (.cells #[.slice s l c] 27)) W.heap.size s l c :=
  ⟨Row.new _ _ _, u.size, h.upd0 ((Upd.refl _ _).alloc _), u.alloc _⟩

/-- A whole number in a block that came behind w. -/
structure NewW (w : World) (z : Int) (W : World) (k : Nat) (b : Bool) (s : Option Addr) (l c : Nat) : Prop where
  row : Row W k #[.bool b, .slice s l c] 29
  lo : w.heap.size ≤ k
  wv : WV W (.agg #[.bool b, .slice s l c]) z
  upd : Upd [] w W
theorem NewW.set {w W : World} {z : Int} {k : Nat} {b : Bool} {s : Option Addr} {l c : Nat} (r : NewRow w k #[.bool false, .slice none 0 0] 29 W) (u : Upd [] w W) (h : WV W (.agg #[.bool b, .slice s l c]) z) : NewW w z ((W.setCell ⟨k, 0, none⟩ (.bool b)).setCell ⟨k, 1, none⟩ (.slice s l c)) k b s l c :=
  ⟨(r.row.set 0 _).set 1 _, r.lo, (h.putr r.row nw2 _ _).putr (r.row.set 0 _) nw2 _ _, (u.setCell (.inr r.lo) _).setCell (.inr r.lo) _⟩
theorem NewW.new {w W : World} {z : Int} {b : Bool} {s : Option Addr} {l c : Nat} (u : Upd [] w W) (h : WV W (.agg #[.bool b, .slice s l c]) z) : NewW w z (W.alloc (.cells #[.bool b, .slice s l c] 29)) W.heap.size b s l c :=
  ⟨Row.new _ _ _, u.size, h.upd0 ((Upd.refl _ _).alloc _), u.alloc _⟩

end Go.Proofs.YtoklmfmoblkfcaaDoor

/- Plain mathematics of digits of base 10000 (the document's own numbers of layer 5): value and digits. Nothing of the program is imported. -/
namespace Go.Proofs.Tm
set_option linter.unusedVariables false
set_option maxRecDepth 20000

/-- The value of digits of base 10000, the lowest first. -/
def dval : List Nat → Nat
  | [] => 0
  | d :: l => d + 10000 * dval l

/-- The digits of a number: none of them 0 at the end. -/
def digs (n : Nat) : List Nat := if h : n = 0 then [] else n % 10000 :: digs (n / 10000)
termination_by n
decreasing_by omega

theorem digs_zero : digs 0 = [] := by rw [digs]; simp
theorem digs_pos (n : Nat) (h : n ≠ 0) : digs n = n % 10000 :: digs (n / 10000) := by rw [digs]; simp [h]

theorem dval_digs (n : Nat) : dval (digs n) = n := by
  induction n using Nat.strongRecOn with
  | _ n ih =>
    by_cases h : n = 0
    · subst h; rw [digs_zero]; rfl
    · rw [digs_pos n h, dval, ih (n / 10000) (by omega)]; omega

theorem digs_lt (n : Nat) : ∀ d ∈ digs n, d < 10000 := by
  induction n using Nat.strongRecOn with
  | _ n ih =>
    intro d hd
    by_cases h : n = 0
    · subst h; rw [digs_zero] at hd; simp at hd
    · rw [digs_pos n h] at hd
      rcases List.mem_cons.1 hd with rfl | hd
      · exact Nat.mod_lt _ (by decide)
      · exact ih _ (by omega) d hd

theorem dval_append (l m : List Nat) : dval (l ++ m) = dval l + 10000 ^ l.length * dval m := by
  induction l with
  | nil => simp [dval]
  | cons d l ih =>
    simp only [List.cons_append, dval, ih, List.length_cons, Nat.pow_succ]
    rw [Nat.mul_add, ← Nat.mul_assoc, Nat.mul_comm 10000 (10000 ^ l.length)]
    omega

theorem dval_snoc (l : List Nat) (d : Nat) : dval (l ++ [d]) = dval l + 10000 ^ l.length * d := by rw [dval_append]; simp [dval]

theorem dval_lt (l : List Nat) (h : ∀ d ∈ l, d < 10000) : dval l < 10000 ^ l.length := by
  induction l with
  | nil => simp [dval]
  | cons d l ih =>
    have h1 : d < 10000 := h d (by simp)
    have h2 := ih (fun x hx => h x (by simp [hx]))
    simp only [dval, List.length_cons, Nat.pow_succ]
    omega

theorem dval_zeros (l : List Nat) (h : ∀ d ∈ l, d = 0) : dval l = 0 := by
  induction l with
  | nil => rfl
  | cons d l ih => simp only [dval]; rw [h d (by simp), ih (fun x hx => h x (by simp [hx]))]

/-- Digits without noughts at the end are the number's. -/
theorem digs_dval (l : List Nat) (h : ∀ d ∈ l, d < 10000) (hl : ∀ d, l.getLast? = some d → d ≠ 0) : digs (dval l) = l := by
  induction l with
  | nil => exact digs_zero
  | cons d l ih =>
    have h1 : d < 10000 := h d (by simp)
    have hv : dval (d :: l) ≠ 0 := by
      intro h0
      simp only [dval] at h0
      have hd : d = 0 := by omega
      have hl0 : dval l = 0 := by omega
      cases l with
      | nil => exact hl d rfl hd
      | cons e m =>
        have e1 := ih (fun x hx => h x (by simp [hx])) (fun x hx => hl x (by simpa [List.getLast?_cons_cons] using hx))
        rw [hl0, digs_zero] at e1
        cases e1
    rw [digs_pos _ hv]
    simp only [dval]
    rw [show (d + 10000 * dval l) % 10000 = d by omega, show (d + 10000 * dval l) / 10000 = dval l by omega]
    cases l with
    | nil => simp [dval, digs_zero]
    | cons e m => rw [ih (fun x hx => h x (by simp [hx])) (fun x hx => hl x (by simpa [List.getLast?_cons_cons] using hx))]

/-- What trim leaves. -/
theorem trim_digs (l : List Nat) (n : Nat) (h : ∀ d ∈ l, d < 10000) (hn : n ≤ l.length) (h1 : n = 0 ∨ l[n - 1]? ≠ some 0) (h2 : ∀ j, n ≤ j → j < l.length → l[j]? = some 0) : l.take n = digs (dval l) := by
  have hz : dval (l.drop n) = 0 := dval_zeros _ (by
    intro d hd
    obtain ⟨j, hj, rfl⟩ := List.mem_iff_getElem.1 hd
    have hj' : j < l.length - n := by simpa using hj
    have := h2 (n + j) (by omega) (by omega)
    rw [List.getElem_drop]
    rw [List.getElem?_eq_getElem (by omega)] at this
    simpa using this)
  have hv : dval l = dval (l.take n) := by
    have := dval_append (l.take n) (l.drop n)
    rw [List.take_append_drop, hz] at this
    simpa using this
  rw [hv]
  refine (digs_dval (l.take n) (fun d hd => h d (List.mem_of_mem_take hd)) ?_).symm
  intro d hd
  rcases h1 with rfl | h1
  · simp at hd
  · rintro rfl
    apply h1
    rw [List.getLast?_eq_getElem?, List.length_take, Nat.min_eq_left hn] at hd
    rw [List.getElem?_take] at hd
    split at hd
    · exact hd
    · cases hd

theorem digs_length_le {m n : Nat} (h : m ≤ n) : (digs m).length ≤ (digs n).length := by
  induction n using Nat.strongRecOn generalizing m with
  | _ n ih =>
    by_cases h0 : m = 0
    · subst h0; rw [digs_zero]; simp
    · rw [digs_pos m h0, digs_pos n (by omega), List.length_cons, List.length_cons]
      exact Nat.succ_le_succ (ih (n / 10000) (by omega) (by omega))

theorem digs_lt_of_length {m n : Nat} (h : (digs m).length < (digs n).length) : m < n := by
  rcases Nat.lt_or_ge m n with h' | h'
  · exact h'
  · have := digs_length_le h'; omega

/-- Held against one another from above: the first unlike digit tells. -/
theorem dval_cmp (a b : List Nat) (k : Nat) (x y : Nat) (ha : ∀ d ∈ a, d < 10000) (hb : ∀ d ∈ b, d < 10000) (hl : a.length = b.length) (hx : a[k]? = some x) (hy : b[k]? = some y) (hxy : x < y) (he : a.drop (k + 1) = b.drop (k + 1)) : dval a < dval b := by
  have hka : k < a.length := (List.getElem?_eq_some_iff.1 hx).1
  have hkb : k < b.length := (List.getElem?_eq_some_iff.1 hy).1
  have e1 : a = a.take k ++ (x :: a.drop (k + 1)) := by
    have : a[k] = x := by rw [List.getElem?_eq_getElem hka] at hx; simpa using hx
    rw [← this, ← List.drop_eq_getElem_cons hka, List.take_append_drop]
  have e2 : b = b.take k ++ (y :: b.drop (k + 1)) := by
    have : b[k] = y := by rw [List.getElem?_eq_getElem hkb] at hy; simpa using hy
    rw [← this, ← List.drop_eq_getElem_cons hkb, List.take_append_drop]
  have v1 := dval_append (a.take k) (x :: a.drop (k + 1))
  have v2 := dval_append (b.take k) (y :: b.drop (k + 1))
  rw [← e1] at v1
  rw [← e2] at v2
  have l1 : (a.take k).length = k := by simp; omega
  have l2 : (b.take k).length = k := by simp; omega
  have t1 := dval_lt (a.take k) (fun d hd => ha d (List.mem_of_mem_take hd))
  rw [l1] at v1 t1
  rw [l2] at v2
  rw [v1, v2, ← he]
  simp only [dval]
  generalize 10000 * dval (a.drop (k + 1)) = r at *
  have : 10000 ^ k * (x + r) + 10000 ^ k ≤ 10000 ^ k * (y + r) := by
    rw [← Nat.mul_succ]; exact Nat.mul_le_mul_left _ (by omega)
  omega
end Go.Proofs.Tm

/- Plain mathematics of digits of base 10000: a round of a sum, a difference, a product, a quotient. Nothing of the program is imported. -/
namespace Go.Proofs.Tm
set_option linter.unusedVariables false
set_option maxRecDepth 20000

theorem dval_take_succ (a : List Nat) (i : Nat) : dval (a.take (i + 1)) = dval (a.take i) + 10000 ^ i * a.getD i 0 := by
  rcases Nat.lt_or_ge i a.length with h | h
  · rw [List.take_succ_eq_append_getElem h, dval_snoc, List.length_take, Nat.min_eq_left (Nat.le_of_lt h)]
    simp [h]
  · rw [List.take_of_length_le (by omega), List.take_of_length_le h]
    simp [h]

/-- A round of a sum. -/
theorem add_step (a b out : List Nat) (i c t : Nat) (hl : out.length = i) (h : dval out + 10000 ^ i * c = dval (a.take i) + dval (b.take i)) (ht : t = c + a.getD i 0 + b.getD i 0) :
    dval (out ++ [t % 10000]) + 10000 ^ (i + 1) * (t / 10000) = dval (a.take (i + 1)) + dval (b.take (i + 1)) := by
  rw [dval_snoc, hl, dval_take_succ, dval_take_succ, Nat.pow_succ, Nat.mul_assoc]
  have e : 10000 ^ i * (t % 10000) + 10000 ^ i * (10000 * (t / 10000)) = 10000 ^ i * t := by rw [← Nat.mul_add]; congr 1; omega
  have e2 : 10000 ^ i * t = 10000 ^ i * c + 10000 ^ i * a.getD i 0 + 10000 ^ i * b.getD i 0 := by rw [ht, Nat.mul_add, Nat.mul_add]
  omega

/-- A round of a difference: c is what was borrowed. -/
theorem sub_step (a b out : List Nat) (i c d c' : Nat) (hl : out.length = i) (h : dval (a.take i) + 10000 ^ i * c = dval out + dval (b.take i)) (hd : a.getD i 0 + 10000 * c' = d + c + b.getD i 0) :
    dval (a.take (i + 1)) + 10000 ^ (i + 1) * c' = dval (out ++ [d]) + dval (b.take (i + 1)) := by
  rw [dval_snoc, hl, dval_take_succ, dval_take_succ, Nat.pow_succ, Nat.mul_assoc]
  have e : 10000 ^ i * a.getD i 0 + 10000 ^ i * (10000 * c') = 10000 ^ i * d + 10000 ^ i * c + 10000 ^ i * b.getD i 0 := by rw [← Nat.mul_add, hd, Nat.mul_add, Nat.mul_add]
  omega

theorem dval_set (l : List Nat) (j d : Nat) (h : j < l.length) : dval (l.set j d) + 10000 ^ j * l.getD j 0 = dval l + 10000 ^ j * d := by
  induction l generalizing j with
  | nil => simp at h
  | cons x l ih =>
    cases j with
    | zero => simp [dval]; omega
    | succ j =>
      have := ih j (by simpa using h)
      simp only [List.set_cons_succ, dval, List.getD_cons_succ, Nat.pow_succ]
      have e1 : 10000 ^ j * 10000 * l.getD j 0 = 10000 * (10000 ^ j * l.getD j 0) := by rw [Nat.mul_comm (10000 ^ j) 10000, Nat.mul_assoc]
      have e2 : 10000 ^ j * 10000 * d = 10000 * (10000 ^ j * d) := by rw [Nat.mul_comm (10000 ^ j) 10000, Nat.mul_assoc]
      rw [e1, e2]
      omega

/-- A round of a product: the digit at i + k. -/
theorem mul_step (b out : List Nat) (i k c x V ai : Nat) (hj : i + k < out.length) (h : dval out + 10000 ^ (i + k) * c = V + 10000 ^ i * (ai * dval (b.take k))) (hx : x = out.getD (i + k) 0 + c + ai * b.getD k 0) :
    dval (out.set (i + k) (x % 10000)) + 10000 ^ (i + (k + 1)) * (x / 10000) = V + 10000 ^ i * (ai * dval (b.take (k + 1))) := by
  have hs := dval_set out (i + k) (x % 10000) hj
  rw [dval_take_succ, Nat.mul_add, Nat.mul_add]
  have e : 10000 ^ (i + k) * (x % 10000) + 10000 ^ (i + (k + 1)) * (x / 10000) = 10000 ^ (i + k) * x := by
    rw [← Nat.add_assoc, Nat.pow_succ, Nat.mul_assoc, ← Nat.mul_add]; congr 1; omega
  have e2 : 10000 ^ (i + k) * x = 10000 ^ (i + k) * out.getD (i + k) 0 + 10000 ^ (i + k) * c + 10000 ^ i * (ai * (10000 ^ k * b.getD k 0)) := by
    rw [hx, Nat.mul_add, Nat.mul_add]
    congr 1
    rw [Nat.pow_add, Nat.mul_assoc]
    congr 1
    rw [← Nat.mul_assoc, ← Nat.mul_assoc, Nat.mul_comm (10000 ^ k) ai]
  omega

/-- Behind the divisor's digits nothing is carried any more. -/
theorem mul_end (b out : List Nat) (i c V ai : Nat) (hb : ∀ d ∈ b, d < 10000) (hV : V < 10000 ^ (i + b.length)) (hai : ai < 10000) (h : dval out + 10000 ^ (i + (b.length + 1)) * c = V + 10000 ^ i * (ai * dval (b.take (b.length + 1)))) : c = 0 := by
  rw [List.take_of_length_le (by omega)] at h
  have hbv := dval_lt b hb
  have h1 : V + 10000 ^ i * (ai * dval b) < 10000 ^ (i + (b.length + 1)) := by
    have h2 : ai * dval b ≤ 9999 * 10000 ^ b.length := Nat.mul_le_mul (by omega) (Nat.le_of_lt hbv)
    have h3 : 10000 ^ i * (ai * dval b) ≤ 10000 ^ i * (9999 * 10000 ^ b.length) := Nat.mul_le_mul_left _ h2
    have h4 : 10000 ^ (i + (b.length + 1)) = 10000 ^ i * (9999 * 10000 ^ b.length) + 10000 ^ (i + b.length) := by
      rw [Nat.pow_add 10000 i (b.length + 1), Nat.pow_add 10000 i b.length, Nat.pow_succ, ← Nat.mul_add]; congr 1; omega
    omega
  rcases Nat.eq_zero_or_pos c with h0 | h0
  · exact h0
  · have := Nat.mul_le_mul_left (10000 ^ (i + (b.length + 1))) h0
    omega

/-- One digit more of the dividend. -/
theorem div_step (a b : List Nat) (i q r lo : Nat) (hi : i < a.length) (hb : 0 < dval b) (h : dval (a.drop (i + 1)) = q * dval b + r) (hr : r < dval b) (hlo : dval b * lo ≤ a.getD i 0 + 10000 * r) (hhi : a.getD i 0 + 10000 * r < dval b * (lo + 1)) :
    dval (a.drop i) = (lo + 10000 * q) * dval b + (a.getD i 0 + 10000 * r - dval b * lo) ∧ a.getD i 0 + 10000 * r - dval b * lo < dval b := by
  have e : dval (a.drop i) = a.getD i 0 + 10000 * dval (a.drop (i + 1)) := by
    rw [List.drop_eq_getElem_cons hi, dval]; simp [hi]
  rw [e, h]
  have e2 : (lo + 10000 * q) * dval b = dval b * lo + 10000 * (q * dval b) := by
    rw [Nat.add_mul, Nat.mul_comm lo, Nat.mul_assoc]
  rw [e2, Nat.mul_succ] at *
  constructor <;> omega
end Go.Proofs.Tm

/- The document's own numbers of layer 5 in memory: digits of base 10000; contracts of trim and Small. -/
namespace Go.Proofs.YtoklmfmoblkfcaaDoor
open Go.RowKit Go.Proofs.Tm
set_option linter.unusedVariables false
set_option linter.unusedSimpArgs false
set_option maxRecDepth 20000

/-- Digits as cells. -/
def ci64 (ws : List Nat) : List Value := ws.map fun (b : Nat) => Value.int .i64 (b : Int)
@[simp] theorem ci64_length (ws : List Nat) : (ci64 ws).length = ws.length := by simp [ci64]
theorem ci64_one (ws : List Nat) : ∀ u ∈ ci64 ws, u.oneCell' = true := by intro u hu; obtain ⟨b, _, rfl⟩ := List.mem_map.1 hu; rfl
theorem ci64_getElem? (ws : List Nat) (i : Nat) : (ci64 ws)[i]? = ws[i]?.map fun (b : Nat) => Value.int .i64 (b : Int) := by simp [ci64]
theorem ci64_getD (ws : List Nat) (i : Nat) (h : i < ws.length) : (ci64 ws)[i]? = some (.int .i64 ((ws.getD i 0 : Nat) : Int)) := by rw [ci64_getElem?, List.getElem?_eq_getElem h]; simp [h]
theorem ci64_set (ws : List Nat) (i b : Nat) : ci64 (ws.set i b) = (ci64 ws).set i (.int .i64 (b : Int)) := by simp [ci64, List.map_set]
theorem ci64_take (ws : List Nat) (i : Nat) : ci64 (ws.take i) = (ci64 ws).take i := by simp [ci64, List.map_take]
theorem ci64_append (a b : List Nat) : ci64 (a ++ b) = ci64 a ++ ci64 b := by simp [ci64]
theorem ci64_zero (n : Nat) : ci64 (List.replicate n 0) = List.replicate n (.int .i64 0) := by simp [ci64]
theorem ci64_nil {ws : List Nat} : ci64 ws ≠ [] ↔ ws ≠ [] := by cases ws <;> simp [ci64]
theorem infoI64 : (Tryd.prog.info? 3).map (fun i => (i.zero, i.size, i.bytes)) = some (some (.int .i64 0), 1, 8) := by kernel_rfl

/-- A call answers the document's number n; nothing old has turned. -/
def RDig (n : Nat) (w : World) (e : Ending) (w' : World) : Prop := ∃ v, e = .returned v ∧ Sl w' v (ci64 (digs n)) ∧ Upd [] w w'

theorem own_len (a : Option Addr) (l c l' c' : Nat) : (Value.slice a l c).ownBlock = (Value.slice a l' c').ownBlock := by cases a <;> rfl

set_option maxHeartbeats 800000 in
theorem trim_own (sv : Value) (L : List Nat) (w : World) (h : Sl w sv (ci64 L)) (hW : ∀ d ∈ L, d < 10000) :
    Calls Tryd.prog 72 #[sv] w (fun e w' => ∃ v, e = .returned v ∧ Sl w v (ci64 (digs (dval L))) ∧ w' = w ∧ ∀ k, v.ownBlock = some k → sv.ownBlock = some k) := by
  have HS := Lib.hid h
  have HW := Lib.hid hW
  obtain ⟨a, cap, rfl, hlc, hcm, _⟩ := h
  unfold maxLen at hcm
  simp only [ci64_length] at *
  obtain ⟨n, hn⟩ : ∃ n, n = L.length := ⟨_, rfl⟩
  rw [← hn] at hlc
  have HN := Lib.hid hn
  rw [← hn] at HS ⊢
  clear hn hW
  go_enter Tryd.func72, Tryd.ntmps72
  go_wp2
  go_loop [3] (fun v3 => ∃ k : Nat, k ≤ n ∧ v3 = .int .i64 k ∧ Hid (∀ j, k ≤ j → j < n → L[j]? = some 0)) (fun v3 => (intOf v3).toNat)
  case atStart => exact ⟨n, Nat.le_refl _, rfl, fun j h1 h2 => by omega⟩
  case round =>
    obtain ⟨k, hk, rfl, HZ⟩ := hrel
    by_cases hk0 : k = 0
    · subst hk0
      have ht := trim_digs L 0 HW.out (Nat.zero_le _) (.inl rfl) (fun j h1 h2 => HZ.out j h1 (by have := HN.out; omega))
      have HR : Hid (Sl w (.slice a 0 cap) (ci64 (digs (dval L)))) := by
        show Sl _ _ _
        rw [← ht, ci64_take]
        exact Sl.take HS.out 0 (Nat.zero_le _)
      clear ht
      go_wp2
      go_ret
      exact ⟨.slice a 0 cap, rfl, HR.out, rfl, fun k hk => (own_len _ _ _ _ _).trans hk⟩
    · obtain ⟨b, o, cap', hv, hc⟩ := sl_at HS.out (by rw [ci64_nil]; rintro rfl; have := HN.out; simp at this; omega)
      have hlen := HN.out
      obtain ⟨rfl, rfl⟩ : a = some ⟨b, o, none⟩ ∧ cap = cap' := by simp at hv; exact ⟨hv.1, hv.2.2⟩
      have hcell := hc (k - 1) (by rw [ci64_length]; omega)
      rw [ci64_getD _ _ (by omega)] at hcell
      have HX : Hid (L[k - 1]? = some (L.getD (k - 1) 0)) := by show _ = _; rw [List.getElem?_eq_getElem (show k - 1 < L.length by omega)]; simp [show k - 1 < L.length by omega]
      have i0 : (0 : Int) ≤ (k : Int) - 1 := by omega
      have i1 : (k : Int) - 1 < (n : Int) := by omega
      have i2 : ((k : Int) - 1).toNat = k - 1 := by omega
      have i3 : decide (0 < k) = true := by simp; omega
      have i4 : IntKind.i64.wrap ((k : Int) - 1) = (k : Int) - 1 := IntWalk.i64_in _ (by omega)
      clear hc hv hlen
      generalize L.getD (k - 1) 0 = x at *
      by_cases hx : x = 0
      · subst hx
        go_wp2
        refine ⟨⟨k - 1, by omega, by rw [Int.natCast_sub (by omega)]; rfl, fun j h1 h2 => ?_⟩, by simp [intOf]; omega⟩
        rcases Nat.lt_or_ge j k with h | h
        · obtain rfl : j = k - 1 := by omega
          exact HX.out
        · exact HZ.out j h h2
      · have hx' : ((x : Int) == 0) = false := by simp; omega
        have ht := trim_digs L k HW.out (by have := HN.out; omega) (.inr (by rw [HX.out]; simpa using hx)) (fun j h1 h2 => HZ.out j h1 (by have := HN.out; omega))
        have HR : Hid (Sl w (.slice (some ⟨b, o, none⟩) k cap) (ci64 (digs (dval L)))) := by
          show Sl _ _ _
          rw [← ht, ci64_take]
          exact Sl.take HS.out k hk
        clear ht
        go_wp2
        go_ret
        exact ⟨.slice (some ⟨b, o, none⟩) k cap, rfl, HR.out, rfl, fun k hk => (own_len _ _ _ _ _).trans hk⟩

theorem trim_any (sv : Value) (L : List Nat) (w : World) (h : Sl w sv (ci64 L)) (hW : ∀ d ∈ L, d < 10000) :
    Calls Tryd.prog 72 #[sv] w (fun e w' => ∃ v, e = .returned v ∧ Sl w v (ci64 (digs (dval L))) ∧ w' = w) :=
  (trim_own sv L w h hW).mono fun e w' ⟨v, a, b, c, _⟩ => ⟨v, a, b, c⟩

theorem tmod_nat (a b : Nat) : (a : Int).tmod (b : Int) = ((a % b : Nat) : Int) := by rw [Int.tmod_eq_emod_of_nonneg (by omega)]; simp

theorem digs_len : ∀ (k n : Nat), n < 10000 ^ k → (digs n).length ≤ k
  | 0, n, h => by
    have : n = 0 := by simpa using h
    rw [this, digs_zero]; simp
  | k + 1, n, h => by
    by_cases h0 : n = 0
    · rw [h0, digs_zero]; simp
    · rw [digs_pos _ h0, List.length_cons]
      have := digs_len k (n / 10000) (by rw [Nat.div_lt_iff_lt_mul (by decide)]; rw [Nat.pow_succ] at h; exact h)
      omega

set_option maxHeartbeats 800000 in
theorem small_any (n : Nat) (w : World) (hn : n ≤ 9223372036854775807) :
    Calls Tryd.prog 92 #[.int .i64 (n : Int)] w (RDig n w) := by
  have HLEN : Hid ((digs n).length ≤ 5) := digs_len 5 n (by omega)
  go_enter Tryd.func92, Tryd.ntmps92
  go_wp2
  go_loopw [0, 3] (fun v0 v3 wr => ∃ (m : Nat) (L : List Nat), m ≤ n ∧ v0 = .int .i64 m ∧ wr.ownsRow w.heap.size 3 1 v3 L.length (ci64 L) ∧ Hid (L ++ digs m = digs n) ∧ Upd [] w wr) (fun v0 _ _ => (intOf v0).toNat)
  case atStart => exact ⟨n, [], Nat.le_refl _, rfl, ⟨by simp, .inl ⟨rfl, rfl⟩⟩, by show _ = _; simp, Upd.refl _ _⟩
  case round =>
    obtain ⟨m, L, hm, rfl, ho, HE, hu⟩ := hrel
    obtain ⟨a5, c5, rfl⟩ := own_ex ho
    have HO := Lib.hid ho
    have HU := Lib.hid hu
    clear ho hu
    by_cases h0 : m = 0
    · have HL : Hid (L = digs n) := by show _ = _; have := HE.out; rw [h0, digs_zero, List.append_nil] at this; exact this
      subst h0
      go_wp2
      go_ret
      exact ⟨_, rfl, by rw [← HL.out]; exact Sl.own HO.out, HU.out⟩
    · have HEQ : Hid ((L ++ [m % 10000]) ++ digs (m / 10000) = digs n) := by
        show _ = _
        rw [← HE.out, digs_pos _ h0]
        simp
      have HLL : Hid (L.length < (digs n).length) := by
        show _ < _
        rw [← HE.out, digs_pos _ h0]
        simp
      have h0' : decide (0 < m) = true := by simp; omega
      obtain ⟨d, hd⟩ : ∃ d, d = m % 10000 := ⟨_, rfl⟩
      obtain ⟨q, hq⟩ : ∃ q, q = m / 10000 := ⟨_, rfl⟩
      have hql : q < m := by omega
      rw [← hd, ← hq] at HEQ
      have i1 : (m : Int) % 10000 = (d : Int) := by omega
      have i2 : (m : Int) / 10000 = (q : Int) := by omega
      have HSZ := Lib.hid HU.out.size
      clear hd hq HE
      go_wp2_with (at_builtin; refine wpList_append_sl _ rfl (.tmp 6) (.tmp 9) 31 rfl w.heap.size 3 (.int .i64 0) 8 Tryd.underlying31 infoI64 rfl _ _ _ rfl (ownsRow_upd HO.out ((Upd.refl [] _).alloc _) (by simp)) _ (ci64 [d]) rfl (Sl.lit1 _ _ _) (ci64_one _) ?c2 ?c3 ?c4 ?go)
      case c2 => have := HLEN.out; have := HLL.out; unfold maxLen; simp; omega
      case c3 => have := HLEN.out; have := HLL.out; simp; omega
      case c4 => have := HSZ.out; simp; omega
      case go =>
        intro v6 w6 ho6 hg6 hfr
        have HF : Hid (w6.ownsRow w.heap.size 3 1 v6 (L ++ [d]).length (ci64 (L ++ [d])) ∧ Upd [] w w6) := by
          refine ⟨by rw [ci64_append]; simpa using ho6, (HU.out.alloc _).grown hg6 (fun k hk => .inr (HO.out.lt k hk).1)⟩
        clear ho6 hg6 hfr
        go_wp2
        exact ⟨⟨q, L ++ [d], by omega, rfl, HF.out.1, HEQ, HF.out.2⟩, by simp [intOf]; omega⟩
end Go.Proofs.YtoklmfmoblkfcaaDoor

/- How many digits of base 10000 numbers have. -/
namespace Go.Proofs.YtoklmfmoblkfcaaDoor
open Go.RowKit Go.Proofs.Tm
set_option linter.unusedVariables false

theorem digs_lt_pow (n : Nat) : n < 10000 ^ (digs n).length := by
  have := dval_lt (digs n) (digs_lt n); rw [dval_digs] at this; exact this
theorem digs_mul_len (a b : Nat) : (digs (a * b)).length ≤ (digs a).length + (digs b).length :=
  digs_len _ _ (by rw [Nat.pow_add]; exact Nat.mul_lt_mul_of_lt_of_le (digs_lt_pow a) (Nat.le_of_lt (digs_lt_pow b)) (Nat.pow_pos (by decide)))
theorem digs_len1 {a : Nat} (h : a < 10000) : (digs a).length ≤ 1 := digs_len 1 a (by simpa using h)
theorem digs_len_small {a : Nat} (h : a ≤ 9223372036854775807) : (digs a).length ≤ 5 := digs_len 5 a (by omega)

theorem digs_len_le {m n : Nat} (h : m ≤ n) : (digs m).length ≤ (digs n).length := digs_len _ m (Nat.lt_of_le_of_lt h (digs_lt_pow n))
end Go.Proofs.YtoklmfmoblkfcaaDoor

/- The document's own numbers of layer 5: contract of Add. -/
namespace Go.Proofs.YtoklmfmoblkfcaaDoor
open Go.RowKit Go.Proofs.Tm
set_option linter.unusedVariables false
set_option linter.unusedSimpArgs false
set_option maxRecDepth 20000

theorem dig_at {w : World} {a : Option Addr} {len cap : Nat} {D : List Nat} (h : Sl w (.slice a len cap) (ci64 D)) (i : Nat) (hi : i < D.length) : ∃ b o, a = some ⟨b, o, none⟩ ∧ b < w.heap.size ∧ w.cell? ⟨b, o + i, none⟩ = some (.int .i64 ((D.getD i 0 : Nat) : Int)) := by
  obtain ⟨b, o, cap', hv, hc⟩ := sl_at h (by rw [ci64_nil]; intro e; rw [e] at hi; simp at hi)
  simp only [Value.slice.injEq] at hv
  have := hc i (by rw [ci64_length]; exact hi)
  rw [ci64_getD _ _ hi] at this
  exact ⟨b, o, hv.1, World.block_lt_of_cell? w _ this, this⟩
theorem getD_over (l : List Nat) (i : Nat) (h : l.length ≤ i) : l.getD i 0 = 0 := by simp [h]
theorem digs_getD_lt (n i : Nat) : (digs n).getD i 0 < 10000 := by
  rcases Nat.lt_or_ge i (digs n).length with hi | hi
  · have : (digs n).getD i 0 = (digs n)[i] := by simp [hi]
    rw [this]; exact digs_lt n _ (List.getElem_mem hi)
  · have : (digs n).getD i 0 = 0 := by simp [hi]
    rw [this]; decide
theorem dig_open {w : World} {v : Value} {n : Nat} (h : Sl w v (ci64 (digs n))) : ∃ a cap, v = .slice a (digs n).length cap ∧ (digs n).length ≤ cap ∧ cap ≤ maxLen := by
  obtain ⟨a, cap, rfl, h1, h2, _⟩ := h
  rw [ci64_length] at *
  exact ⟨a, cap, rfl, h1, h2⟩

/-- Round by round of Add. -/
structure AddI (m n : Nat) (w : World) (M i c : Nat) (L : List Nat) (v : Value) (wr : World) : Prop where
  own : wr.ownsRow w.heap.size 3 1 v i (ci64 L)
  len : L.length = i
  c1 : c ≤ 1
  lt : ∀ d ∈ L, d < 10000
  room : i ≤ M ∨ (i = M + 1 ∧ c = 0)
  eq : dval L + 10000 ^ i * c = dval ((digs m).take i) + dval ((digs n).take i)
  upd : Upd [] w wr

set_option maxHeartbeats 1600000 in
theorem radd_any (u v : Value) (m n : Nat) (w : World) (hu : Sl w u (ci64 (digs m))) (hv : Sl w v (ci64 (digs n))) (hm : (digs m).length ≤ 1099511627776) (hn : (digs n).length ≤ 1099511627776) :
    Calls Tryd.prog 43 #[u, v] w (RDig (m + n) w) := by
  obtain ⟨a, cap, rfl, hl, hcm⟩ := dig_open hu
  obtain ⟨b, cap', rfl, hl', hcm'⟩ := dig_open hv
  unfold maxLen at hcm hcm'
  have HA := Lib.hid hu
  have HB := Lib.hid hv
  have HXL := Lib.hid (fun i => digs_getD_lt m i)
  have HYL := Lib.hid (fun i => digs_getD_lt n i)
  obtain ⟨la, hla⟩ : ∃ la, la = (digs m).length := ⟨_, rfl⟩
  obtain ⟨lb, hlb⟩ : ∃ lb, lb = (digs n).length := ⟨_, rfl⟩
  obtain ⟨M, hM⟩ : ∃ M, M = max la lb := ⟨_, rfl⟩
  have HLA := Lib.hid hla
  have HLB := Lib.hid hlb
  rw [← hla] at hl hm HA ⊢
  rw [← hlb] at hl' hn HB ⊢
  have hM1 : la ≤ M := by omega
  have hM2 : lb ≤ M := by omega
  have hM3 : M ≤ 1099511627776 := by omega
  have hM4 : M = la ∨ M = lb := by omega
  clear hu hv hla hlb hM
  go_enter Tryd.func43, Tryd.ntmps43
  go_wp2
  go_loopw [5, 6, 7] (fun v5 v6 v7 wr => ∃ (i c : Nat) (L : List Nat), v7 = .int .i64 (i : Int) ∧ v6 = .int .i64 (c : Int) ∧ AddI m n w M i c L v5 wr) (fun _ _ v7 _ => M + 2 - (intOf v7).toNat)
  case atStart => exact ⟨0, 0, [], rfl, rfl, ⟨by simp, .inl ⟨rfl, rfl⟩⟩, rfl, by omega, by simp, by omega, by simp [dval], Upd.refl _ _⟩
  case round =>
    obtain ⟨i, c, L, rfl, rfl, hinv⟩ := hrel
    obtain ⟨a5, c5, rfl⟩ := own_ex hinv.own
    have HO := Lib.hid hinv.own
    have HLN := Lib.hid hinv.len
    have HLT := Lib.hid hinv.lt
    have HU := Lib.hid hinv.upd
    have HE := Lib.hid hinv.eq
    have hc1 := hinv.c1
    have hroom := hinv.room
    have i0 : (0 : Int) ≤ (i : Int) := by omega
    clear hinv
    obtain ⟨t, ht⟩ : ∃ t, t = c + (digs m).getD i 0 + (digs n).getD i 0 := ⟨_, rfl⟩
    have hadd := add_step (digs m) (digs n) L i c t HLN.out HE.out ht
    obtain ⟨d, hd⟩ : ∃ d, d = t % 10000 := ⟨_, rfl⟩
    obtain ⟨c', hc'⟩ : ∃ c', c' = t / 10000 := ⟨_, rfl⟩
    rw [← hd, ← hc'] at hadd
    rw [ht] at hd hc'
    clear ht
    by_cases h1 : i < la
    · have hia : (i : Int) < (la : Int) := by omega
      by_cases h2 : i < lb
      · have hib : (i : Int) < (lb : Int) := by omega
        have hx := HXL.out i
        obtain ⟨ba, oa, rfl, hba, hca⟩ := dig_at HA.out i (by rw [← HLA.out]; exact h1)
        have hca' : wr.cell? ⟨ba, oa + i, none⟩ = some (.int .i64 (((digs m).getD i 0 : Nat) : Int)) := (HU.out.cell (p := ⟨ba, oa + i, none⟩) hba (by simp)).trans hca
        clear hca
        have hy := HYL.out i
        obtain ⟨bb, ob, rfl, hbb, hcb⟩ := dig_at HB.out i (by rw [← HLB.out]; exact h2)
        have hcb' : wr.cell? ⟨bb, ob + i, none⟩ = some (.int .i64 (((digs n).getD i 0 : Nat) : Int)) := (HU.out.cell (p := ⟨bb, ob + i, none⟩) hbb (by simp)).trans hcb
        clear hcb
        have HADD := Lib.hid hadd
        clear hadd
        generalize (digs m).getD i 0 = x at *
        generalize (digs n).getD i 0 = y at *
        have i1 : ((c : Int) + (x : Int) + (y : Int)) % 10000 = (d : Int) := by omega
        have i2 : ((c : Int) + (x : Int) + (y : Int)) / 10000 = (c' : Int) := by omega
        have hcl : c' ≤ 1 := by omega
        have hMi : i + 1 ≤ M ∨ (i + 1 = M + 1 ∧ c' = 0) := by omega
        have HMI := Lib.hid hMi
        have hdl : d < 10000 := by omega
        clear hMi hd hc'
        go_wp2_with (at_builtin; refine wpList_append_sl _ rfl (.tmp 44) (.tmp 47) 31 rfl w.heap.size 3 (.int .i64 0) 8 Tryd.underlying31 infoI64 rfl _ _ _ rfl (ownsRow_upd HO.out ((Upd.refl [] _).alloc _) (by simp)) _ (ci64 [d]) rfl (Sl.lit1 _ _ _) (ci64_one _) ?c2 ?c3 ?c4 ?go)
        case c2 => unfold maxLen; simp; omega
        case c3 => simp; omega
        case c4 => have := HU.out.size; simp; omega
        case go =>
          intro v6 w6 ho6 hg6 hfr
          have HF : Hid (AddI m n w M (i + 1) c' (L ++ [d]) v6 w6) := ⟨by rw [ci64_append]; simpa using ho6, by simp [HLN.out], hcl, fun e he => by rcases List.mem_append.1 he with h | h; exact HLT.out e h; simp at h; omega, HMI.out, HADD.out, (HU.out.alloc _).grown hg6 (fun k hk => .inr (HO.out.lt k hk).1)⟩
          clear ho6 hg6 hfr
          go_wp2
          exact ⟨⟨i + 1, c', L ++ [d], by go_num, by go_num, HF.out⟩, by simp [intOf]; omega⟩
      · have hib : decide (i < lb) = false := by simp; omega
        have hx := HXL.out i
        obtain ⟨ba, oa, rfl, hba, hca⟩ := dig_at HA.out i (by rw [← HLA.out]; exact h1)
        have hca' : wr.cell? ⟨ba, oa + i, none⟩ = some (.int .i64 (((digs m).getD i 0 : Nat) : Int)) := (HU.out.cell (p := ⟨ba, oa + i, none⟩) hba (by simp)).trans hca
        clear hca
        have hy0 : (digs n).getD i 0 = 0 := getD_over _ _ (by have := HLB.out; omega)
        rw [hy0] at hd hc'
        clear hy0
        have HADD := Lib.hid hadd
        clear hadd
        generalize (digs m).getD i 0 = x at *
        have i1 : ((c : Int) + (x : Int)) % 10000 = (d : Int) := by omega
        have i2 : ((c : Int) + (x : Int)) / 10000 = (c' : Int) := by omega
        have hcl : c' ≤ 1 := by omega
        have hMi : i + 1 ≤ M ∨ (i + 1 = M + 1 ∧ c' = 0) := by omega
        have HMI := Lib.hid hMi
        have hdl : d < 10000 := by omega
        clear hMi hd hc'
        go_wp2_with (at_builtin; refine wpList_append_sl _ rfl (.tmp 44) (.tmp 47) 31 rfl w.heap.size 3 (.int .i64 0) 8 Tryd.underlying31 infoI64 rfl _ _ _ rfl (ownsRow_upd HO.out ((Upd.refl [] _).alloc _) (by simp)) _ (ci64 [d]) rfl (Sl.lit1 _ _ _) (ci64_one _) ?c2 ?c3 ?c4 ?go)
        case c2 => unfold maxLen; simp; omega
        case c3 => simp; omega
        case c4 => have := HU.out.size; simp; omega
        case go =>
          intro v6 w6 ho6 hg6 hfr
          have HF : Hid (AddI m n w M (i + 1) c' (L ++ [d]) v6 w6) := ⟨by rw [ci64_append]; simpa using ho6, by simp [HLN.out], hcl, fun e he => by rcases List.mem_append.1 he with h | h; exact HLT.out e h; simp at h; omega, HMI.out, HADD.out, (HU.out.alloc _).grown hg6 (fun k hk => .inr (HO.out.lt k hk).1)⟩
          clear ho6 hg6 hfr
          go_wp2
          exact ⟨⟨i + 1, c', L ++ [d], by go_num, by go_num, HF.out⟩, by simp [intOf]; omega⟩
    · have hia : decide (i < la) = false := by simp; omega
      by_cases h2 : i < lb
      · have hib : (i : Int) < (lb : Int) := by omega
        have hx0 : (digs m).getD i 0 = 0 := getD_over _ _ (by have := HLA.out; omega)
        rw [hx0] at hd hc'
        clear hx0
        have hy := HYL.out i
        obtain ⟨bb, ob, rfl, hbb, hcb⟩ := dig_at HB.out i (by rw [← HLB.out]; exact h2)
        have hcb' : wr.cell? ⟨bb, ob + i, none⟩ = some (.int .i64 (((digs n).getD i 0 : Nat) : Int)) := (HU.out.cell (p := ⟨bb, ob + i, none⟩) hbb (by simp)).trans hcb
        clear hcb
        have HADD := Lib.hid hadd
        clear hadd
        generalize (digs n).getD i 0 = y at *
        have i1 : ((c : Int) + (y : Int)) % 10000 = (d : Int) := by omega
        have i2 : ((c : Int) + (y : Int)) / 10000 = (c' : Int) := by omega
        have hcl : c' ≤ 1 := by omega
        have hMi : i + 1 ≤ M ∨ (i + 1 = M + 1 ∧ c' = 0) := by omega
        have HMI := Lib.hid hMi
        have hdl : d < 10000 := by omega
        clear hMi hd hc'
        go_wp2_with (at_builtin; refine wpList_append_sl _ rfl (.tmp 44) (.tmp 47) 31 rfl w.heap.size 3 (.int .i64 0) 8 Tryd.underlying31 infoI64 rfl _ _ _ rfl (ownsRow_upd HO.out ((Upd.refl [] _).alloc _) (by simp)) _ (ci64 [d]) rfl (Sl.lit1 _ _ _) (ci64_one _) ?c2 ?c3 ?c4 ?go)
        case c2 => unfold maxLen; simp; omega
        case c3 => simp; omega
        case c4 => have := HU.out.size; simp; omega
        case go =>
          intro v6 w6 ho6 hg6 hfr
          have HF : Hid (AddI m n w M (i + 1) c' (L ++ [d]) v6 w6) := ⟨by rw [ci64_append]; simpa using ho6, by simp [HLN.out], hcl, fun e he => by rcases List.mem_append.1 he with h | h; exact HLT.out e h; simp at h; omega, HMI.out, HADD.out, (HU.out.alloc _).grown hg6 (fun k hk => .inr (HO.out.lt k hk).1)⟩
          clear ho6 hg6 hfr
          go_wp2
          exact ⟨⟨i + 1, c', L ++ [d], by go_num, by go_num, HF.out⟩, by simp [intOf]; omega⟩
      · have hib : decide (i < lb) = false := by simp; omega
        by_cases h3 : c = 0
        · have HFIN : Hid (dval L = m + n) := by
            show _ = _
            have := HE.out
            rw [h3, List.take_of_length_le (by have := HLA.out; omega), List.take_of_length_le (by have := HLB.out; omega), dval_digs, dval_digs] at this
            omega
          have HSL := Lib.hid (Sl.own HO.out)
          clear hadd hd hc'
          subst h3
          go_wp2_with fail
          refine (trim_any _ L _ HSL.out HLT.out).mono ?_
          rintro e w7 ⟨v7, rfl, hs7, rfl⟩
          have HF : Hid (Sl w7 v7 (ci64 (digs (m + n)))) := by show Sl _ _ _; rw [← HFIN.out]; exact hs7
          clear hs7
          go_wp2
          go_ret
          exact ⟨_, rfl, HF.out, HU.out⟩
        · have h3x : 0 < c := by omega
          have h4 : decide (0 < c) = true := by simp; omega
          clear h3
          have hx0 : (digs m).getD i 0 = 0 := getD_over _ _ (by have := HLA.out; omega)
          rw [hx0] at hd hc'
          clear hx0
          have hy0 : (digs n).getD i 0 = 0 := getD_over _ _ (by have := HLB.out; omega)
          rw [hy0] at hd hc'
          clear hy0
          have HADD := Lib.hid hadd
          clear hadd
          have i1 : ((c : Int)) % 10000 = (d : Int) := by omega
          have i2 : ((c : Int)) / 10000 = (c' : Int) := by omega
          have hcl : c' ≤ 1 := by omega
          have hMi : i + 1 ≤ M ∨ (i + 1 = M + 1 ∧ c' = 0) := by omega
          have HMI := Lib.hid hMi
          have hdl : d < 10000 := by omega
          clear hMi hd hc'
          go_wp2_with (at_builtin; refine wpList_append_sl _ rfl (.tmp 44) (.tmp 47) 31 rfl w.heap.size 3 (.int .i64 0) 8 Tryd.underlying31 infoI64 rfl _ _ _ rfl (ownsRow_upd HO.out ((Upd.refl [] _).alloc _) (by simp)) _ (ci64 [d]) rfl (Sl.lit1 _ _ _) (ci64_one _) ?c2 ?c3 ?c4 ?go)
          case c2 => unfold maxLen; simp; omega
          case c3 => simp; omega
          case c4 => have := HU.out.size; simp; omega
          case go =>
            intro v6 w6 ho6 hg6 hfr
            have HF : Hid (AddI m n w M (i + 1) c' (L ++ [d]) v6 w6) := ⟨by rw [ci64_append]; simpa using ho6, by simp [HLN.out], hcl, fun e he => by rcases List.mem_append.1 he with h | h; exact HLT.out e h; simp at h; omega, HMI.out, HADD.out, (HU.out.alloc _).grown hg6 (fun k hk => .inr (HO.out.lt k hk).1)⟩
            clear ho6 hg6 hfr
            go_wp2
            exact ⟨⟨i + 1, c', L ++ [d], by go_num, by go_num, HF.out⟩, by simp [intOf]; omega⟩
end Go.Proofs.YtoklmfmoblkfcaaDoor

/- The document's own numbers of layer 5: contracts of Cmp and Sub. -/
namespace Go.Proofs.YtoklmfmoblkfcaaDoor
open Go.RowKit Go.Proofs.Tm
set_option linter.unusedVariables false
set_option linter.unusedSimpArgs false
set_option maxRecDepth 20000

set_option maxHeartbeats 1600000 in
theorem rcmp_any (u v : Value) (m n : Nat) (w : World) (hu : Sl w u (ci64 (digs m))) (hv : Sl w v (ci64 (digs n))) (hm : (digs m).length ≤ 1099511627776) (hn : (digs n).length ≤ 1099511627776) :
    Calls Tryd.prog 45 #[u, v] w (fun e w' => e = .returned (.int .i64 (cmpN m n)) ∧ Upd [] w w') := by
  obtain ⟨a, cap, rfl, hl, hcm⟩ := dig_open hu
  obtain ⟨b, cap', rfl, hl', hcm'⟩ := dig_open hv
  unfold maxLen at hcm hcm'
  have HA := Lib.hid hu
  have HB := Lib.hid hv
  have HXL := Lib.hid (fun i => digs_getD_lt m i)
  have HYL := Lib.hid (fun i => digs_getD_lt n i)
  obtain ⟨la, hla⟩ : ∃ la, la = (digs m).length := ⟨_, rfl⟩
  obtain ⟨lb, hlb⟩ : ∃ lb, lb = (digs n).length := ⟨_, rfl⟩
  have HLA := Lib.hid hla
  have HLB := Lib.hid hlb
  rw [← hla] at hl hm HA ⊢
  rw [← hlb] at hl' hn HB ⊢
  clear hu hv hla hlb
  by_cases hne : la = lb
  · subst hne
    have e0 : ((la : Int) == (la : Int)) = true := by simp
    go_enter Tryd.func45, Tryd.ntmps45
    go_wp2
    go_loopw [5] (fun v5 wr => ∃ (i : Nat), i ≤ la ∧ v5 = .int .i64 ((i : Int) - 1) ∧ Hid ((digs m).drop i = (digs n).drop i) ∧ Upd [] w wr) (fun v5 _ => (intOf v5 + 1).toNat)
    case atStart => exact ⟨la, Nat.le_refl _, rfl, by show _ = _; rw [List.drop_of_length_le (by rw [← HLA.out]; exact Nat.le_refl _), List.drop_of_length_le (by rw [← HLB.out]; exact Nat.le_refl _)], Upd.refl _ _⟩
    case round =>
      obtain ⟨i, hi, rfl, HE, hu⟩ := hrel
      have HU := Lib.hid hu
      clear hu
      by_cases h0 : i = 0
      · have HF : Hid (m = n) := by
          show _ = _
          have := HE.out
          rw [h0, List.drop_zero, List.drop_zero] at this
          rw [← dval_digs m, this, dval_digs]
        subst h0
        go_wp2
        go_ret
        exact ⟨by unfold cmpN; rw [HF.out]; simp, HU.out⟩
      · obtain ⟨k, hk⟩ : ∃ k, i = k + 1 := ⟨i - 1, by omega⟩
        have hik : k < la := by omega
        obtain ⟨ba, oa, rfl, hba, hca⟩ := dig_at HA.out k (by rw [← HLA.out]; exact hik)
        obtain ⟨bb, ob, rfl, hbb, hcb⟩ := dig_at HB.out k (by rw [← HLB.out]; exact hik)
        have hca' : wr.cell? ⟨ba, oa + k, none⟩ = some (.int .i64 (((digs m).getD k 0 : Nat) : Int)) := (HU.out.cell (p := ⟨ba, oa + k, none⟩) hba (by simp)).trans hca
        have hcb' : wr.cell? ⟨bb, ob + k, none⟩ = some (.int .i64 (((digs n).getD k 0 : Nat) : Int)) := (HU.out.cell (p := ⟨bb, ob + k, none⟩) hbb (by simp)).trans hcb
        have hx := HXL.out k
        have hy := HYL.out k
        have hxe : (digs m)[k]? = some ((digs m).getD k 0) := by rw [List.getElem?_eq_getElem (by rw [← HLA.out]; exact hik)]; simp [show k < (digs m).length by rw [← HLA.out]; exact hik]
        have hye : (digs n)[k]? = some ((digs n).getD k 0) := by rw [List.getElem?_eq_getElem (by rw [← HLB.out]; exact hik)]; simp [show k < (digs n).length by rw [← HLB.out]; exact hik]
        have HLE : Hid ((digs m).length = (digs n).length) := by show _ = _; rw [← HLA.out, ← HLB.out]
        rw [hk] at HE
        have HXE := Lib.hid hxe
        have HYE := Lib.hid hye
        clear hca hcb hxe hye
        generalize (digs m).getD k 0 = x at *
        generalize (digs n).getD k 0 = y at *
        have i0 : (0 : Int) ≤ (k : Int) := by omega
        have i1 : (k : Int) < (la : Int) := by omega
        have i2 : ((i : Int) - 1) = (k : Int) := by omega
        rw [i2]
        clear hk i2
        rcases Nat.lt_trichotomy x y with hxy | hxy | hxy
        · have HC : Hid (cmpN m n = -1) := by
            have := dval_cmp (digs m) (digs n) k x y (digs_lt m) (digs_lt n) HLE.out HXE.out HYE.out hxy HE.out
            rw [dval_digs, dval_digs] at this
            show _ = _
            unfold cmpN; rw [if_pos this]
          have j1 : decide (x < y) = true := by simpa using hxy
          go_wp2
          go_quiet (fail)
          go_wp2
          go_ret
          exact ⟨by rw [HC.out]; rfl, HU.out.drewN _⟩
        · have HD : Hid ((digs m).drop k = (digs n).drop k) := by
            show _ = _
            have h1 := HXE.out
            have h2 := HYE.out
            have k1 : k < (digs m).length := by rw [← HLA.out]; exact hik
            have k2 : k < (digs n).length := by rw [← HLB.out]; exact hik
            rw [List.getElem?_eq_getElem k1] at h1
            rw [List.getElem?_eq_getElem k2] at h2
            rw [List.drop_eq_getElem_cons k1, List.drop_eq_getElem_cons k2, HE.out]
            simp at h1 h2
            rw [h1, h2, hxy]
          have j1 : decide (x < y) = false := by simp; omega
          have j2 : decide (y < x) = false := by simp; omega
          clear hxy
          go_wp2
          go_quiet (fail)
          go_wp2
          go_quiet (fail)
          go_wp2
          exact ⟨⟨k, by omega, rfl, HD.out, HU.out.drewN _⟩, by simp [intOf]⟩
        · have HC : Hid (cmpN m n = 1) := by
            have := dval_cmp (digs n) (digs m) k y x (digs_lt n) (digs_lt m) HLE.out.symm HYE.out HXE.out hxy HE.out.symm
            rw [dval_digs, dval_digs] at this
            show _ = _
            unfold cmpN; rw [if_neg (by omega), if_neg (by omega)]
          have j1 : decide (x < y) = false := by simp; omega
          have j2 : decide (y < x) = true := by simpa using hxy
          go_wp2
          go_quiet (fail)
          go_wp2
          go_quiet (fail)
          go_wp2
          go_ret
          exact ⟨by rw [HC.out]; rfl, (HU.out.drewN _).drewN _⟩
  · have e0 : ((la : Int) == (lb : Int)) = false := by simp; omega
    by_cases hlt : la < lb
    · have HC : Hid (cmpN m n = -1) := by
        have := digs_lt_of_length (m := m) (n := n) (by rw [← HLA.out, ← HLB.out]; exact hlt)
        show _ = _
        unfold cmpN; rw [if_pos this]
      have j1 : decide (la < lb) = true := by simpa using hlt
      rw [HC.out]
      clear HA HB HXL HYL HLA HLB
      go_enter Tryd.func45, Tryd.ntmps45
      go_wp2
      go_ret
      exact ⟨rfl, Upd.refl _ _⟩
    · have HC : Hid (cmpN m n = 1) := by
        have := digs_lt_of_length (m := n) (n := m) (by rw [← HLA.out, ← HLB.out]; omega)
        show _ = _
        unfold cmpN; rw [if_neg (by omega), if_neg (by omega)]
      have j1 : decide (la < lb) = false := by simp; omega
      rw [HC.out]
      clear HA HB HXL HYL HLA HLB
      go_enter Tryd.func45, Tryd.ntmps45
      go_wp2
      go_ret
      exact ⟨rfl, Upd.refl _ _⟩
end Go.Proofs.YtoklmfmoblkfcaaDoor
