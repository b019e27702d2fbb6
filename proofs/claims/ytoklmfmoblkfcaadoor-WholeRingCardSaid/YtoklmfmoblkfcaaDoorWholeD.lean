/- Whole numbers (layer 6): DivMod. -/
import Derived.Test.YtoklmfmoblkfcaaDoorAb
import Derived.Test.YtoklmfmoblkfcaaDoorNatSum
import Derived.Test.YtoklmfmoblkfcaaDoorNatSub
import Derived.Test.YtoklmfmoblkfcaaDoorNatDMany
import Derived.Test.YtoklmfmoblkfcaaDoorNatOfw
import Derived.Deep.RegionHeld3
import Derived.Deep.DeepCutAuto
namespace Go.Proofs.YtoklmfmoblkfcaaDoor
open Go.RowKit Go.Proofs.Tm
set_option linter.unusedVariables false
set_option linter.unusedSimpArgs false
set_option maxRecDepth 20000

/-- Two whole numbers and an error are answered. -/
def RWhole2E (q r k : Int) (w : World) (e : Ending) (w' : World) : Prop := ∃ v1 v2, e = .returned (.tuple #[v1, v2, .int .i64 k]) ∧ WV w' v1 q ∧ WV w' v2 r ∧ Upd [] w w'
/-- Two whole numbers are stored into two blocks of the call's own. -/
structure Put2W (w : World) (i j : Nat) (b b' : Bool) (s s' : Option Addr) (l c l' c' : Nat) (q r : Int) (W : World) : Prop where
  ri : Row W i #[.bool b, .slice s l c] 29
  rj : Row W j #[.bool b', .slice s' l' c'] 29
  vi : WV W (.agg #[.bool b, .slice s l c]) q
  vj : WV W (.agg #[.bool b', .slice s' l' c']) r
  u : Upd [] w W
theorem put2W {w W : World} {i j : Nat} {b b' : Bool} {s s' : Option Addr} {l c l' c' : Nat} {q r : Int} (hij : i ≠ j) (hi : w.heap.size ≤ i) (hj : w.heap.size ≤ j) (ri : Row W i #[.bool false, .slice none 0 0] 29) (rj : Row W j #[.bool false, .slice none 0 0] 29) (u : Upd [] w W) (hq : WV W (.agg #[.bool b, .slice s l c]) q) (hr : WV W (.agg #[.bool b', .slice s' l' c']) r) :
    Put2W w i j b b' s s' l c l' c' q r ((((W.setCell ⟨i, 0, none⟩ (.bool b)).setCell ⟨i, 1, none⟩ (.slice s l c)).setCell ⟨j, 0, none⟩ (.bool b')).setCell ⟨j, 1, none⟩ (.slice s' l' c')) := by
  have e1 := ((hr.putr ri nw2 0 (.bool b)).putr (ri.set 0 _) nw2 1 (.slice s l c))
  have P := NewW.set ⟨ri, hi⟩ u hq
  have r1 := (rj.other ⟨i, 0, none⟩ (.bool b) (by show i ≠ j; exact hij)).other ⟨i, 1, none⟩ (.slice s l c) (by show i ≠ j; exact hij)
  have Q := NewW.set ⟨r1, hj⟩ P.upd e1
  have hji : j ≠ i := fun e => hij e.symm
  exact ⟨(P.row.other _ _ (by show j ≠ i; exact hji)).other _ _ (by show j ≠ i; exact hji), Q.row, (P.wv.putr r1 nw2 0 _).putr (r1.set 0 _) nw2 1 _, Q.wv, Q.upd⟩
theorem Put2W.swap {w W : World} {i j : Nat} {b b' : Bool} {s s' : Option Addr} {l c l' c' : Nat} {q r : Int} (h : Put2W w i j b b' s s' l c l' c' q r W) : Put2W w j i b' b s' s l' c' l c r q W := ⟨h.rj, h.ri, h.vj, h.vi, h.u⟩
theorem wv_zero (w : World) : WV w (.agg #[.bool false, .slice none 0 0]) 0 := ⟨_, rfl, NV.zero _⟩

theorem ediv_key {x y q r : Int} (hy : y ≠ 0) (h1 : x = y * q + r) (h2 : 0 ≤ r) (h3 : r < (y.natAbs : Int)) : q = x / y ∧ r = x % y := by
  rcases Int.lt_or_gt_of_ne hy with h | h
  · have := (Int.ediv_emod_unique' h (a := x) (r := r) (q := q)).2 ⟨by omega, h2, by omega⟩
    exact ⟨this.1.symm, this.2.symm⟩
  · have := (Int.ediv_emod_unique h (a := x) (r := r) (q := q)).2 ⟨by omega, h2, by omega⟩
    exact ⟨this.1.symm, this.2.symm⟩
theorem ediv_abs (x y : Int) (hy : y ≠ 0) (h : ¬ (x < 0 ∧ x.natAbs % y.natAbs ≠ 0)) : (if (decide (x < 0) != decide (y < 0)) = true then -((x.natAbs / y.natAbs : Nat) : Int) else ((x.natAbs / y.natAbs : Nat) : Int)) = x / y ∧ ((x.natAbs % y.natAbs : Nat) : Int) = x % y := by
  obtain ⟨m, hm⟩ : ∃ m, m = x.natAbs := ⟨_, rfl⟩
  obtain ⟨n, hn⟩ : ∃ n, n = y.natAbs := ⟨_, rfl⟩
  rw [← hm, ← hn] at h ⊢
  have hn0 : 0 < n := by omega
  have hd := Nat.div_add_mod m n
  have hr := Nat.mod_lt m hn0
  have key : ∀ q r : Int, x = y * q + r → 0 ≤ r → r < (n : Int) → q = x / y ∧ r = x % y := fun q r h1 h2 h3 => ediv_key hy h1 h2 (by omega)
  refine key _ _ ?_ (by omega) (by omega)
  have hd' : (n : Int) * ((m / n : Nat) : Int) + ((m % n : Nat) : Int) = m := by exact_mod_cast hd
  by_cases hx : x < 0
  · have h0 : m % n = 0 := by
      rcases Nat.eq_zero_or_pos (m % n) with e | e
      · exact e
      · exact absurd ⟨hx, by omega⟩ h
    rw [h0] at hd' ⊢
    have ex : x = -(m : Int) := by omega
    by_cases hyn : y < 0
    · have ey : y = -(n : Int) := by omega
      simp only [hx, hyn, decide_true, bne_self_eq_false, Bool.false_eq_true, if_false]
      rw [ex, ey, Int.neg_mul]; omega
    · have ey : y = (n : Int) := by omega
      simp only [hx, hyn, decide_true, decide_false, Bool.true_bne, Bool.not_false, if_true]
      rw [ex, ey, Int.mul_neg]; omega
  · have ex : x = (m : Int) := by omega
    by_cases hyn : y < 0
    · have ey : y = -(n : Int) := by omega
      simp only [hx, hyn, decide_true, decide_false, Bool.false_bne, if_true]
      rw [ex, ey, Int.neg_mul_neg]; omega
    · have ey : y = (n : Int) := by omega
      simp only [hx, hyn, decide_false, bne_self_eq_false, Bool.false_eq_true, if_false]
      rw [ex, ey]; omega
theorem ediv_neg (x y : Int) (hy : y ≠ 0) (h : x < 0) (h1 : x.natAbs % y.natAbs ≠ 0) : (if (true != decide (y < 0)) = true then -((x.natAbs / y.natAbs + 1 : Nat) : Int) else ((x.natAbs / y.natAbs + 1 : Nat) : Int)) = x / y ∧ ((y.natAbs - x.natAbs % y.natAbs : Nat) : Int) = x % y := by
  obtain ⟨m, hm⟩ : ∃ m, m = x.natAbs := ⟨_, rfl⟩
  obtain ⟨n, hn⟩ : ∃ n, n = y.natAbs := ⟨_, rfl⟩
  rw [← hm, ← hn] at h1 ⊢
  have hn0 : 0 < n := by omega
  have hd := Nat.div_add_mod m n
  have hr := Nat.mod_lt m hn0
  have key : ∀ q r : Int, x = y * q + r → 0 ≤ r → r < (n : Int) → q = x / y ∧ r = x % y := fun q r h1 h2 h3 => ediv_key hy h1 h2 (by omega)
  refine key _ _ ?_ (by omega) (by omega)
  have hd' : (n : Int) * ((m / n : Nat) : Int) + ((m % n : Nat) : Int) = m := by exact_mod_cast hd
  have ex : x = -(m : Int) := by omega
  have e2 : (n : Int) * ((m / n + 1 : Nat) : Int) = (n : Int) * ((m / n : Nat) : Int) + n := by rw [Int.natCast_add, Int.mul_add]; simp
  by_cases hyn : y < 0
  · have ey : y = -(n : Int) := by omega
    simp only [hyn, decide_true, bne_self_eq_false, Bool.false_eq_true, if_false]
    rw [ex, ey, Int.neg_mul, e2]; omega
  · have ey : y = (n : Int) := by omega
    simp only [hyn, decide_false, Bool.true_bne, Bool.not_false, if_true]
    rw [ex, ey, Int.mul_neg, e2]; omega

set_option maxHeartbeats 3200000 in
theorem wdm_up (u v : Value) (x y : Int) (w : World) (hu : WV w u x) (hv : WV w v y) (hlx : (wds x.natAbs).length ≤ 1073741824) (hly : (wds y.natAbs).length ≤ 1073741824) (hy0 : y ≠ 0) (hx0 : ¬ x < 0) :
    Calls Tryd.prog 20 #[u, v] w (RWhole2E (x / y) (x % y) 0 w) := by
  obtain ⟨a0, l0, c0, rfl, hn0⟩ := hu.open
  obtain ⟨a1, l1, c1, rfl, hn1⟩ := hv.open
  have hny : 0 < y.natAbs := by omega
  have HD : Hid (∀ W, Upd [] w W → Calls Tryd.prog 37 #[.agg #[.slice a0 l0 c0], .agg #[.slice a1 l1 c1]] W (RNat2E (x.natAbs / y.natAbs) (x.natAbs % y.natAbs) 0 W)) := fun W h => divmod_any _ _ _ _ W (hn0.upd0 h) (hn1.upd0 h) hny hlx
  obtain ⟨e1, e2⟩ := ediv_abs x y hy0 (fun h => by omega)
  have HMQ : Hid (∀ W s, NV W s (x.natAbs / y.natAbs) → Calls Tryd.prog 31 #[.bool (decide (x < 0) != decide (y < 0)), s] W (RWhole (x / y) W)) := fun W s hs => by
    have := wmake_any (decide (x < 0) != decide (y < 0)) _ _ W hs
    rw [e1] at this
    exact this
  have HMR : Hid (∀ W s, NV W s (x.natAbs % y.natAbs) → Calls Tryd.prog 31 #[.bool false, s] W (RWhole (x % y) W)) := fun W s hs => by
    have := wmake_any false _ _ W hs
    rw [if_neg (by decide), e2] at this
    exact this
  have hx : decide (x < 0) = false := by simpa using hx0
  rw [hx, Bool.false_bne] at HMQ
  rw [hx]
  generalize decide (y < 0) = b1 at *
  clear hu hv hn0 hn1 hlx hly hy0 e1 e2 hny hx0 hx
  generalize x.natAbs / y.natAbs = o at *
  generalize x.natAbs % y.natAbs = r at *
  obtain ⟨w0, hw0⟩ : ∃ W, W = ((((w.alloc (.cells #[.bool false, .slice a0 l0 c0] 29)).alloc (.cells #[.bool b1, .slice a1 l1 c1] 29)).alloc (.cells #[.bool false, .slice none 0 0] 29)).alloc (.cells #[.bool false, .slice none 0 0] 29)) := ⟨_, rfl⟩
  obtain ⟨S, hS⟩ : ∃ s, s = w.heap.size := ⟨_, rfl⟩
  obtain ⟨hu0, r0, r1, r2, r3, hz0⟩ := rows4 w #[.bool false, .slice a0 l0 c0] #[.bool b1, .slice a1 l1 c1] #[.bool false, .slice none 0 0] #[.bool false, .slice none 0 0] 29 29 29 29 w0 hw0 S hS
  have HU0 := Lib.hid hu0
  have HW0 := Lib.hid hw0
  have HS := Lib.hid hS
  have HZ0 := Lib.hid hz0
  have HR0 := Lib.hid r0
  have HR1 := Lib.hid r1
  have HR2 := Lib.hid r2
  have HR3 := Lib.hid r3
  have hp0 := r0.cell 0
  have hp1 := r0.cell 1
  have hp2 := r1.cell 0
  have hp3 := r1.cell 1
  clear hw0 hS hu0 r0 r1 r2 r3 hz0
  go_enter Tryd.func20, Tryd.ntmps20
  go_wp2_with fail
  rw [← HW0.out]
  rw [← HS.out]
  refine (HD.out _ HU0.out).mono ?_
  rintro e w1 ⟨v1, v2, rfl, hn5, hn6, hu1⟩
  obtain ⟨a5, l5, c5, rfl, hn5'⟩ := nvOpen hn5
  obtain ⟨a6, l6, c6, rfl, hn6'⟩ := nvOpen hn6
  obtain ⟨w2, hw2⟩ : ∃ W, W = (w1.alloc (.cells #[.slice a5 l5 c5] 27)).alloc (.cells #[.slice a6 l6 c6] 27) := ⟨_, rfl⟩
  obtain ⟨K, hK⟩ : ∃ s, s = w1.heap.size := ⟨_, rfl⟩
  obtain ⟨hu2, r7, r8, hz2⟩ := rows2 w1 #[.slice a5 l5 c5] #[.slice a6 l6 c6] 27 27 w2 hw2 K hK
  have HV2 := Lib.hid (hu1.trans0 hu2)
  have HN5 := Lib.hid (hn5'.upd0 hu2)
  have HN6 := Lib.hid (hn6'.upd0 hu2)
  have HR7 := Lib.hid r7
  have HR8 := Lib.hid r8
  have HZ2 := Lib.hid hz2
  have HKS := Lib.hid (show S + 1 + 1 + 1 + 1 ≤ K by have h1 := HZ0.out; have h2 := hu1.size; omega)
  have hc0 := (HR0.out.upd0 HV2.out).cell 0
  have hc1 := (HR0.out.upd0 HV2.out).cell 1
  have hc2 := (HR1.out.upd0 HV2.out).cell 0
  have hc3 := (HR1.out.upd0 HV2.out).cell 1
  have hc7 := r7.cell 0
  have hc8 := r8.cell 0
  rw [hw2] at hc0
  rw [hw2] at hc1
  rw [hw2] at hc2
  rw [hw2] at hc3
  rw [hw2] at hc7
  rw [hw2] at hc8
  have HW2 := Lib.hid hw2
  have HK := Lib.hid hK
  clear hn5 hn6 hn5' hn6' hu1 hu2 r7 r8 hz2 hw2 hK hp0 hp1 hp2 hp3
  go_wp2_with fail
  rw [← HW2.out, ← HK.out]
  rw [← HW2.out] at hc0 hc1 hc2 hc3 hc7 hc8
  clear hc0 hc1 hc2 hc3 hc7 hc8
  have hrf : Upd [] w2 w2 := Upd.refl _ _
  have hk1 := HKS.out
  have HC : Hid (∀ W, Upd [S + 1 + 1, S + 1 + 1 + 1] w2 W → W.cell? ⟨S, 0, none⟩ = some (.bool false) ∧ W.cell? ⟨S, 1, none⟩ = some (.slice a0 l0 c0) ∧ W.cell? ⟨S + 1, 0, none⟩ = some (.bool b1) ∧ W.cell? ⟨S + 1, 1, none⟩ = some (.slice a1 l1 c1) ∧ W.cell? ⟨K, 0, none⟩ = some (.slice a5 l5 c5) ∧ W.cell? ⟨K + 1, 0, none⟩ = some (.slice a6 l6 c6) ∧ Upd [S + 1 + 1, S + 1 + 1 + 1] w2 W) := fun W h =>
    ⟨((HR0.out.upd0 HV2.out).upd h (by simp <;> omega)).cell 0, ((HR0.out.upd0 HV2.out).upd h (by simp <;> omega)).cell 1, ((HR1.out.upd0 HV2.out).upd h (by simp <;> omega)).cell 0, ((HR1.out.upd0 HV2.out).upd h (by simp <;> omega)).cell 1, (HR7.out.upd h (by simp <;> omega)).cell 0, (HR8.out.upd h (by simp <;> omega)).cell 0, h⟩
  have HRQ := Lib.hid (HR2.out.upd0 HV2.out)
  have HRR := Lib.hid (HR3.out.upd0 HV2.out)
  have hcA : ∀ W, Upd [] w2 W → W.cell? ⟨S + 1 + 1, 0, none⟩ = some (.bool false) ∧ W.cell? ⟨S + 1 + 1, 1, none⟩ = some (.slice none 0 0) ∧ W.frozen? ⟨S + 1 + 1, 0, none⟩ = false ∧ W.frozen? ⟨S + 1 + 1, 1, none⟩ = false := fun W h => ⟨(HRQ.out.upd0 h).cell 0, (HRQ.out.upd0 h).cell 1, (HRQ.out.upd0 h).frozen 0, (HRQ.out.upd0 h).frozen 1⟩
  have hcB : ∀ W, Upd [] w2 W → W.cell? ⟨S + 1 + 1 + 1, 0, none⟩ = some (.bool false) ∧ W.cell? ⟨S + 1 + 1 + 1, 1, none⟩ = some (.slice none 0 0) ∧ W.frozen? ⟨S + 1 + 1 + 1, 0, none⟩ = false ∧ W.frozen? ⟨S + 1 + 1 + 1, 1, none⟩ = false := fun W h => ⟨(HRR.out.upd0 h).cell 0, (HRR.out.upd0 h).cell 1, (HRR.out.upd0 h).frozen 0, (HRR.out.upd0 h).frozen 1⟩
  have hS1 : S + 1 + 1 ≠ S + 1 + 1 + 1 := by omega
  have hS2 : S + 1 + 1 + 1 ≠ S + 1 + 1 := by omega
  clear hk1
  go_wp2_with fail
  go_region_held3 (fun W => W.cell? ⟨S, 0, none⟩ = some (.bool false) ∧ W.cell? ⟨S, 1, none⟩ = some (.slice a0 l0 c0) ∧ W.cell? ⟨S + 1, 0, none⟩ = some (.bool b1) ∧ W.cell? ⟨S + 1, 1, none⟩ = some (.slice a1 l1 c1) ∧ W.cell? ⟨K, 0, none⟩ = some (.slice a5 l5 c5) ∧ W.cell? ⟨K + 1, 0, none⟩ = some (.slice a6 l6 c6) ∧ Upd [S + 1 + 1, S + 1 + 1 + 1] w2 W)
    ((refine HC.out _ ?_; repeat (first | (with_reducible refine Upd.setCell ?_ (.inl (by simp)) _) | (with_reducible exact huy.mono (by simp)) | (with_reducible exact hrf.mono (by simp)) | (with_reducible apply Upd.drew) | (with_reducible apply Upd.alloc))))
    (first
      | (go_at_call 31; (with_reducible refine (HMQ.out _ _ (HN5.out.upd0 (by repeat (first | exact huy | exact hrf | apply Upd.drew | apply Upd.alloc)))).mono ?_); rintro e wz ⟨vq, rfl, hvq, hu20⟩;  obtain ⟨aq, lq, cq, rfl, _⟩ := hvq.open; have HVQ := Lib.hid hvq; clear hvq; have huz : Upd [] w2 wz := Upd.trans0 (by repeat (first | exact huy | exact hrf | apply Upd.drew | apply Upd.alloc)) hu20; (try clear huy); clear hu20; have huy := huz; clear huz)
      | (go_at_call 31; (with_reducible refine (HMR.out _ _ (HN6.out.upd0 (by repeat (first | exact huy | exact hrf | apply Upd.drew | apply Upd.alloc)))).mono ?_); rintro e wz ⟨vr, rfl, hvr, hu20⟩; have HVQ := Lib.hid (HVQ.out.upd0 (by first | exact hu20 | exact Upd.al hu20)); obtain ⟨ar, lr, cr, rfl, _⟩ := hvr.open; have HVR := Lib.hid hvr; clear hvr; have huz : Upd [] w2 wz := Upd.trans0 (by repeat (first | exact huy | exact hrf | apply Upd.drew | apply Upd.alloc)) hu20; (try clear huy); clear hu20; have huy := huz; clear huz; obtain ⟨x0, x1, x2, x3⟩ := hcA _ huy; obtain ⟨y0, y1, y2, y3⟩ := hcB _ huy))
  all_goals
    have HP := Lib.hid (put2W hS1 (by have := HS.out; omega) (by have := HS.out; omega) (HRQ.out.upd0 huy) (HRR.out.upd0 huy) (HU0.out.trans0 (HV2.out.trans0 huy)) HVQ.out HVR.out)
    have HP2 := Lib.hid (put2W hS2 (by have := HS.out; omega) (by have := HS.out; omega) (HRR.out.upd0 huy) (HRQ.out.upd0 huy) (HU0.out.trans0 (HV2.out.trans0 huy)) HVR.out HVQ.out)
    clear hcA hcB huy
    generalize decide (x / y < 0) = p7 at *
    generalize decide (x % y < 0) = p8 at *
    first
      | (have z0 := HP.out.ri.cell 0
         have z1 := HP.out.ri.cell 1
         have z2 := HP.out.rj.cell 0
         have z3 := HP.out.rj.cell 1
         go_wp2
         refine bodyPost_ret (v := .tuple #[.agg #[.bool p7, .slice aq lq cq], .agg #[.bool p8, .slice ar lr cr], .int .i64 0]) (by simp [results, Tryd.results20, go_sem, z0, z1, z2, z3]) rfl ?_
         exact ⟨_, _, rfl, HP.out.vi, HP.out.vj, HP.out.u⟩)
      | (have z0 := HP2.out.ri.cell 0
         have z1 := HP2.out.ri.cell 1
         have z2 := HP2.out.rj.cell 0
         have z3 := HP2.out.rj.cell 1
         go_wp2
         refine bodyPost_ret (v := .tuple #[.agg #[.bool p7, .slice aq lq cq], .agg #[.bool p8, .slice ar lr cr], .int .i64 0]) (by simp [results, Tryd.results20, go_sem, z0, z1, z2, z3]) rfl ?_
         exact ⟨_, _, rfl, HP2.out.vj, HP2.out.vi, HP2.out.u⟩)

set_option maxHeartbeats 3200000 in
theorem wdm_even (u v : Value) (x y : Int) (w : World) (hu : WV w u x) (hv : WV w v y) (hlx : (wds x.natAbs).length ≤ 1073741824) (hly : (wds y.natAbs).length ≤ 1073741824) (hy0 : y ≠ 0) (hx0 : x < 0) (hm0 : x.natAbs % y.natAbs = 0) :
    Calls Tryd.prog 20 #[u, v] w (RWhole2E (x / y) (x % y) 0 w) := by
  obtain ⟨a0, l0, c0, rfl, hn0⟩ := hu.open
  obtain ⟨a1, l1, c1, rfl, hn1⟩ := hv.open
  have hny : 0 < y.natAbs := by omega
  have HD : Hid (∀ W, Upd [] w W → Calls Tryd.prog 37 #[.agg #[.slice a0 l0 c0], .agg #[.slice a1 l1 c1]] W (RNat2E (x.natAbs / y.natAbs) (x.natAbs % y.natAbs) 0 W)) := fun W h => divmod_any _ _ _ _ W (hn0.upd0 h) (hn1.upd0 h) hny hlx
  obtain ⟨e1, e2⟩ := ediv_abs x y hy0 (fun h => h.2 hm0)
  have HMQ : Hid (∀ W s, NV W s (x.natAbs / y.natAbs) → Calls Tryd.prog 31 #[.bool (decide (x < 0) != decide (y < 0)), s] W (RWhole (x / y) W)) := fun W s hs => by
    have := wmake_any (decide (x < 0) != decide (y < 0)) _ _ W hs
    rw [e1] at this
    exact this
  have HMR : Hid (∀ W s, NV W s (x.natAbs % y.natAbs) → Calls Tryd.prog 31 #[.bool false, s] W (RWhole (x % y) W)) := fun W s hs => by
    have := wmake_any false _ _ W hs
    rw [if_neg (by decide), e2] at this
    exact this
  have HZE : Hid (∀ W s, NV W s (x.natAbs % y.natAbs) → Calls Tryd.prog 36 #[s] W (fun e w' => e = .returned (.bool (decide (x.natAbs % y.natAbs = 0))) ∧ Upd [] W w')) := fun W s hs => zero_any _ _ W hs
  rw [decide_eq_true hm0] at HZE
  have hx : decide (x < 0) = true := by simpa using hx0
  rw [hx, Bool.true_bne] at HMQ
  rw [hx]
  generalize decide (y < 0) = b1 at *
  clear hu hv hn0 hn1 hlx hly hy0 e1 e2 hny hx0 hx hm0
  generalize x.natAbs / y.natAbs = o at *
  generalize x.natAbs % y.natAbs = r at *
  obtain ⟨w0, hw0⟩ : ∃ W, W = ((((w.alloc (.cells #[.bool true, .slice a0 l0 c0] 29)).alloc (.cells #[.bool b1, .slice a1 l1 c1] 29)).alloc (.cells #[.bool false, .slice none 0 0] 29)).alloc (.cells #[.bool false, .slice none 0 0] 29)) := ⟨_, rfl⟩
  obtain ⟨S, hS⟩ : ∃ s, s = w.heap.size := ⟨_, rfl⟩
  obtain ⟨hu0, r0, r1, r2, r3, hz0⟩ := rows4 w #[.bool true, .slice a0 l0 c0] #[.bool b1, .slice a1 l1 c1] #[.bool false, .slice none 0 0] #[.bool false, .slice none 0 0] 29 29 29 29 w0 hw0 S hS
  have HU0 := Lib.hid hu0
  have HW0 := Lib.hid hw0
  have HS := Lib.hid hS
  have HZ0 := Lib.hid hz0
  have HR0 := Lib.hid r0
  have HR1 := Lib.hid r1
  have HR2 := Lib.hid r2
  have HR3 := Lib.hid r3
  have hp0 := r0.cell 0
  have hp1 := r0.cell 1
  have hp2 := r1.cell 0
  have hp3 := r1.cell 1
  clear hw0 hS hu0 r0 r1 r2 r3 hz0
  go_enter Tryd.func20, Tryd.ntmps20
  go_wp2_with fail
  rw [← HW0.out]
  rw [← HS.out]
  refine (HD.out _ HU0.out).mono ?_
  rintro e w1 ⟨v1, v2, rfl, hn5, hn6, hu1⟩
  obtain ⟨a5, l5, c5, rfl, hn5'⟩ := nvOpen hn5
  obtain ⟨a6, l6, c6, rfl, hn6'⟩ := nvOpen hn6
  obtain ⟨w2, hw2⟩ : ∃ W, W = (w1.alloc (.cells #[.slice a5 l5 c5] 27)).alloc (.cells #[.slice a6 l6 c6] 27) := ⟨_, rfl⟩
  obtain ⟨K, hK⟩ : ∃ s, s = w1.heap.size := ⟨_, rfl⟩
  obtain ⟨hu2, r7, r8, hz2⟩ := rows2 w1 #[.slice a5 l5 c5] #[.slice a6 l6 c6] 27 27 w2 hw2 K hK
  have HV2 := Lib.hid (hu1.trans0 hu2)
  have HN5 := Lib.hid (hn5'.upd0 hu2)
  have HN6 := Lib.hid (hn6'.upd0 hu2)
  have HR7 := Lib.hid r7
  have HR8 := Lib.hid r8
  have HZ2 := Lib.hid hz2
  have HKS := Lib.hid (show S + 1 + 1 + 1 + 1 ≤ K by have h1 := HZ0.out; have h2 := hu1.size; omega)
  have hc0 := (HR0.out.upd0 HV2.out).cell 0
  have hc1 := (HR0.out.upd0 HV2.out).cell 1
  have hc2 := (HR1.out.upd0 HV2.out).cell 0
  have hc3 := (HR1.out.upd0 HV2.out).cell 1
  have hc7 := r7.cell 0
  have hc8 := r8.cell 0
  rw [hw2] at hc0
  rw [hw2] at hc1
  rw [hw2] at hc2
  rw [hw2] at hc3
  rw [hw2] at hc7
  rw [hw2] at hc8
  have HW2 := Lib.hid hw2
  have HK := Lib.hid hK
  clear hn5 hn6 hn5' hn6' hu1 hu2 r7 r8 hz2 hw2 hK hp0 hp1 hp2 hp3
  go_wp2_with fail
  rw [← HW2.out, ← HK.out]
  rw [← HW2.out] at hc0 hc1 hc2 hc3 hc7 hc8
  refine (HZE.out _ _ HN6.out).mono ?_
  rintro e w3 ⟨rfl, hu3⟩
  have HV3 := Lib.hid (HV2.out.trans0 hu3)
  have HN53 := Lib.hid (HN5.out.upd0 hu3)
  have HN63 := Lib.hid (HN6.out.upd0 hu3)
  have HR73 := Lib.hid (HR7.out.upd0 hu3)
  have HR83 := Lib.hid (HR8.out.upd0 hu3)
  clear hc0 hc1 hc2 hc3 hc7 hc8 hu3
  have hrf : Upd [] w3 w3 := Upd.refl _ _
  have hk1 := HKS.out
  have HC : Hid (∀ W, Upd [S + 1 + 1, S + 1 + 1 + 1] w3 W → W.cell? ⟨S, 0, none⟩ = some (.bool true) ∧ W.cell? ⟨S, 1, none⟩ = some (.slice a0 l0 c0) ∧ W.cell? ⟨S + 1, 0, none⟩ = some (.bool b1) ∧ W.cell? ⟨S + 1, 1, none⟩ = some (.slice a1 l1 c1) ∧ W.cell? ⟨K, 0, none⟩ = some (.slice a5 l5 c5) ∧ W.cell? ⟨K + 1, 0, none⟩ = some (.slice a6 l6 c6) ∧ Upd [S + 1 + 1, S + 1 + 1 + 1] w3 W) := fun W h =>
    ⟨((HR0.out.upd0 HV3.out).upd h (by simp <;> omega)).cell 0, ((HR0.out.upd0 HV3.out).upd h (by simp <;> omega)).cell 1, ((HR1.out.upd0 HV3.out).upd h (by simp <;> omega)).cell 0, ((HR1.out.upd0 HV3.out).upd h (by simp <;> omega)).cell 1, (HR73.out.upd h (by simp <;> omega)).cell 0, (HR83.out.upd h (by simp <;> omega)).cell 0, h⟩
  have HRQ := Lib.hid (HR2.out.upd0 HV3.out)
  have HRR := Lib.hid (HR3.out.upd0 HV3.out)
  have hcA : ∀ W, Upd [] w3 W → W.cell? ⟨S + 1 + 1, 0, none⟩ = some (.bool false) ∧ W.cell? ⟨S + 1 + 1, 1, none⟩ = some (.slice none 0 0) ∧ W.frozen? ⟨S + 1 + 1, 0, none⟩ = false ∧ W.frozen? ⟨S + 1 + 1, 1, none⟩ = false := fun W h => ⟨(HRQ.out.upd0 h).cell 0, (HRQ.out.upd0 h).cell 1, (HRQ.out.upd0 h).frozen 0, (HRQ.out.upd0 h).frozen 1⟩
  have hcB : ∀ W, Upd [] w3 W → W.cell? ⟨S + 1 + 1 + 1, 0, none⟩ = some (.bool false) ∧ W.cell? ⟨S + 1 + 1 + 1, 1, none⟩ = some (.slice none 0 0) ∧ W.frozen? ⟨S + 1 + 1 + 1, 0, none⟩ = false ∧ W.frozen? ⟨S + 1 + 1 + 1, 1, none⟩ = false := fun W h => ⟨(HRR.out.upd0 h).cell 0, (HRR.out.upd0 h).cell 1, (HRR.out.upd0 h).frozen 0, (HRR.out.upd0 h).frozen 1⟩
  have hS1 : S + 1 + 1 ≠ S + 1 + 1 + 1 := by omega
  have hS2 : S + 1 + 1 + 1 ≠ S + 1 + 1 := by omega
  clear hk1
  go_wp2_with fail
  go_region_held3 (fun W => W.cell? ⟨S, 0, none⟩ = some (.bool true) ∧ W.cell? ⟨S, 1, none⟩ = some (.slice a0 l0 c0) ∧ W.cell? ⟨S + 1, 0, none⟩ = some (.bool b1) ∧ W.cell? ⟨S + 1, 1, none⟩ = some (.slice a1 l1 c1) ∧ W.cell? ⟨K, 0, none⟩ = some (.slice a5 l5 c5) ∧ W.cell? ⟨K + 1, 0, none⟩ = some (.slice a6 l6 c6) ∧ Upd [S + 1 + 1, S + 1 + 1 + 1] w3 W)
    ((refine HC.out _ ?_; repeat (first | (with_reducible refine Upd.setCell ?_ (.inl (by simp)) _) | (with_reducible exact huy.mono (by simp)) | (with_reducible exact hrf.mono (by simp)) | (with_reducible apply Upd.drew) | (with_reducible apply Upd.alloc))))
    (first
      | (go_at_call 31; (with_reducible refine (HMQ.out _ _ (HN53.out.upd0 (by repeat (first | exact huy | exact hrf | apply Upd.drew | apply Upd.alloc)))).mono ?_); rintro e wz ⟨vq, rfl, hvq, hu20⟩;  obtain ⟨aq, lq, cq, rfl, _⟩ := hvq.open; have HVQ := Lib.hid hvq; clear hvq; have huz : Upd [] w3 wz := Upd.trans0 (by repeat (first | exact huy | exact hrf | apply Upd.drew | apply Upd.alloc)) hu20; (try clear huy); clear hu20; have huy := huz; clear huz)
      | (go_at_call 31; (with_reducible refine (HMR.out _ _ (HN63.out.upd0 (by repeat (first | exact huy | exact hrf | apply Upd.drew | apply Upd.alloc)))).mono ?_); rintro e wz ⟨vr, rfl, hvr, hu20⟩; have HVQ := Lib.hid (HVQ.out.upd0 (by first | exact hu20 | exact Upd.al hu20)); obtain ⟨ar, lr, cr, rfl, _⟩ := hvr.open; have HVR := Lib.hid hvr; clear hvr; have huz : Upd [] w3 wz := Upd.trans0 (by repeat (first | exact huy | exact hrf | apply Upd.drew | apply Upd.alloc)) hu20; (try clear huy); clear hu20; have huy := huz; clear huz; obtain ⟨x0, x1, x2, x3⟩ := hcA _ huy; obtain ⟨y0, y1, y2, y3⟩ := hcB _ huy))
  all_goals
    have HP := Lib.hid (put2W hS1 (by have := HS.out; omega) (by have := HS.out; omega) (HRQ.out.upd0 huy) (HRR.out.upd0 huy) (HU0.out.trans0 (HV3.out.trans0 huy)) HVQ.out HVR.out)
    have HP2 := Lib.hid (put2W hS2 (by have := HS.out; omega) (by have := HS.out; omega) (HRR.out.upd0 huy) (HRQ.out.upd0 huy) (HU0.out.trans0 (HV3.out.trans0 huy)) HVR.out HVQ.out)
    clear hcA hcB huy
    generalize decide (x / y < 0) = p7 at *
    generalize decide (x % y < 0) = p8 at *
    first
      | (have z0 := HP.out.ri.cell 0
         have z1 := HP.out.ri.cell 1
         have z2 := HP.out.rj.cell 0
         have z3 := HP.out.rj.cell 1
         go_wp2
         refine bodyPost_ret (v := .tuple #[.agg #[.bool p7, .slice aq lq cq], .agg #[.bool p8, .slice ar lr cr], .int .i64 0]) (by simp [results, Tryd.results20, go_sem, z0, z1, z2, z3]) rfl ?_
         exact ⟨_, _, rfl, HP.out.vi, HP.out.vj, HP.out.u⟩)
      | (have z0 := HP2.out.ri.cell 0
         have z1 := HP2.out.ri.cell 1
         have z2 := HP2.out.rj.cell 0
         have z3 := HP2.out.rj.cell 1
         go_wp2
         refine bodyPost_ret (v := .tuple #[.agg #[.bool p7, .slice aq lq cq], .agg #[.bool p8, .slice ar lr cr], .int .i64 0]) (by simp [results, Tryd.results20, go_sem, z0, z1, z2, z3]) rfl ?_
         exact ⟨_, _, rfl, HP2.out.vj, HP2.out.vi, HP2.out.u⟩)

end Go.Proofs.YtoklmfmoblkfcaaDoor
