/- The numbers that the statements of layer 6 draw: both; the fixed fact; what is equal. -/
import Derived.Test.YtoklmfmoblkfcaaDoorRefZ2
import Derived.Test.YtoklmfmoblkfcaaDoorRefZ3
import Derived.Test.YtoklmfmoblkfcaaDoorWholeTx
import Derived.Test.YtoklmfmoblkfcaaDoorWholeE
import Derived.Test.YtoklmfmoblkfcaaDoorWholeO
import Derived.Test.YtoklmfmoblkfcaaDoorNatFewB
import Derived.Test.YtoklmfmoblkfcaaDoorFew2
import Derived.Deep.RegionHeld3
import Derived.Deep.DeepCutAuto
namespace Go.Proofs.YtoklmfmoblkfcaaDoor
open Go.RowKit Go.Proofs.Tm
set_option linter.unusedVariables false
set_option linter.unusedSimpArgs false
set_option maxRecDepth 20000

/-- The number that is drawn: as the program's, and as the document's. -/
def RBoth6 (b : Bool) (P : Nat) (w : World) (e : Ending) (w' : World) : Prop := ∃ v1 v2, e = .returned (.tuple #[v1, v2]) ∧ WV w' v1 ((zP b P : Int) - zM b P) ∧ ZV w' v2 (zP b P) (zM b P) ∧ Upd [] w w'
structure PutWZ (w : World) (i j : Nat) (b : Bool) (s s2 s3 : Option Addr) (l c l2 c2 l3 c3 : Nat) (q : Int) (p m : Nat) (W : World) : Prop where
  ri : Row W i #[.bool b, .slice s l c] 29
  rj : Row W j #[.slice s2 l2 c2, .slice s3 l3 c3] 33
  vi : WV W (.agg #[.bool b, .slice s l c]) q
  vj : ZV W (.agg #[.slice s2 l2 c2, .slice s3 l3 c3]) p m
  u : Upd [] w W
theorem putWZ {w W : World} {i j : Nat} {b : Bool} {s s2 s3 : Option Addr} {l c l2 c2 l3 c3 : Nat} {q : Int} {p m : Nat} (hij : i ≠ j) (hi : w.heap.size ≤ i) (hj : w.heap.size ≤ j) (ri : Row W i #[.bool false, .slice none 0 0] 29) (rj : Row W j #[.slice none 0 0, .slice none 0 0] 33) (u : Upd [] w W) (hq : WV W (.agg #[.bool b, .slice s l c]) q) (hr : ZV W (.agg #[.slice s2 l2 c2, .slice s3 l3 c3]) p m) :
    PutWZ w i j b s s2 s3 l c l2 c2 l3 c3 q p m ((((W.setCell ⟨i, 0, none⟩ (.bool b)).setCell ⟨i, 1, none⟩ (.slice s l c)).setCell ⟨j, 0, none⟩ (.slice s2 l2 c2)).setCell ⟨j, 1, none⟩ (.slice s3 l3 c3)) ∧
    PutWZ w i j b s s2 s3 l c l2 c2 l3 c3 q p m ((((W.setCell ⟨j, 0, none⟩ (.slice s2 l2 c2)).setCell ⟨j, 1, none⟩ (.slice s3 l3 c3)).setCell ⟨i, 0, none⟩ (.bool b)).setCell ⟨i, 1, none⟩ (.slice s l c)) := by
  have hji : j ≠ i := fun e => hij e.symm
  constructor
  · have e1 := (hr.putr ri niW 0 (.bool b)).putr (ri.set 0 _) niW 1 (.slice s l c)
    have P := NewW.set ⟨ri, hi⟩ u hq
    have r1 := (rj.other ⟨i, 0, none⟩ (.bool b) hij).other ⟨i, 1, none⟩ (.slice s l c) hij
    have Q := NewZ.set ⟨r1, hj⟩ P.upd e1
    exact ⟨(P.row.other _ _ hji).other _ _ hji, Q.row, (P.wv.putr r1 nwZ2 0 _).putr (r1.set 0 _) nwZ2 1 _, Q.zv, Q.upd⟩
  · have e1 := (hq.putr rj nwZ2 0 (.slice s2 l2 c2)).putr (rj.set 0 _) nwZ2 1 (.slice s3 l3 c3)
    have P := NewZ.set ⟨rj, hj⟩ u hr
    have r1 := (ri.other ⟨j, 0, none⟩ (.slice s2 l2 c2) hji).other ⟨j, 1, none⟩ (.slice s3 l3 c3) hji
    have Q := NewW.set ⟨r1, hi⟩ P.upd e1
    exact ⟨Q.row, (P.row.other _ _ hij).other _ _ hij, Q.wv, (P.zv.putr r1 niW 0 _).putr (r1.set 0 _) niW 1 _, Q.upd⟩

set_option maxHeartbeats 3200000 in
theorem both6_any (a0 : Option Addr) (l0 c0 : Nat) (L : List Nat) (b0 : Bool) (w : World) (hu : Sl w (.slice a0 l0 c0) (cu64 L)) (hL : ∀ d ∈ L, d < 18446744073709551616) :
    Calls Tryd.prog 9 #[.agg #[.slice a0 l0 c0, .bool b0]] w (RBoth6 b0 (wval (L.take 5)) w) := by
  obtain ⟨P, hP⟩ : ∃ P, P = wval (L.take 5) := ⟨_, rfl⟩
  rw [← hP]
  have hl1 : (L.take 5).length ≤ 5 := by rw [List.length_take]; omega
  have hLt : ∀ d ∈ L.take 5, d < 18446744073709551616 := fun d hd => hL d (List.mem_of_mem_take hd)
  have HF1 : Hid (∀ W, Upd [] w W → Calls Tryd.prog 30 #[.slice a0 l0 c0, .int .i64 5] W (fun e w' => ∃ a' l' c', e = .returned (.slice a' l' c') ∧ Sl w' (.slice a' l' c') (cu64 (L.take 5)) ∧ Upd [] W w')) := fun W h => few_take a0 l0 c0 L 5 (by decide) W (hu.upd0 h)
  have HOP : Hid (∀ W s, Sl W s (cu64 (L.take 5)) → Calls Tryd.prog 29 #[s] W (RNat P W)) := fun W s hs => by rw [hP]; exact of_any _ _ W hs (by omega) hLt
  obtain ⟨zp, hzp⟩ : ∃ z : Int, z = (zP b0 P : Int) - zM b0 P := ⟨_, rfl⟩
  have HMP : Hid (∀ W s, NV W s P → Calls Tryd.prog 31 #[.bool b0, s] W (RWhole zp W)) := fun W s hs => by
    have := wmake_any b0 _ _ W hs
    have e : (if b0 = true then -(P : Int) else (P : Int)) = zp := by rw [hzp]; unfold zP zM; cases b0 <;> simp
    rw [e] at this
    exact this
  have HZM : Hid (∀ W s, Sl W s (cu64 (L.take 5)) → Calls Tryd.prog 39 #[.bool b0, s] W (RZ (zP b0 P) (zM b0 P) W)) := fun W s hs => by rw [hP]; exact zmake_any b0 _ _ W hs hLt (by omega)
  unfold RBoth6
  rw [← hzp]
  generalize zP b0 P = zp1 at *
  generalize zM b0 P = zm1 at *
  clear hu hL hP hl1 hLt hzp
  generalize L.take 5 = Lp at *
  obtain ⟨w0, hw0⟩ : ∃ W, W = (((w.alloc (.cells #[.slice a0 l0 c0, .bool b0] 24)).alloc (.cells #[.bool false, .slice none 0 0] 29)).alloc (.cells #[.slice none 0 0, .slice none 0 0] 33)) := ⟨_, rfl⟩
  obtain ⟨S, hS⟩ : ∃ s, s = w.heap.size := ⟨_, rfl⟩
  obtain ⟨hu0, r0, r1, r2, hz0⟩ := rows3 w #[.slice a0 l0 c0, .bool b0] #[.bool false, .slice none 0 0] #[.slice none 0 0, .slice none 0 0] 24 29 33 w0 hw0 S hS
  have HU0 := Lib.hid hu0
  have HW0 := Lib.hid hw0
  have HS := Lib.hid hS
  have HZ0 := Lib.hid hz0
  have HR0 := Lib.hid r0
  have HR1 := Lib.hid r1
  have HR2 := Lib.hid r2
  have hp0 := r0.cell 0
  have hp1 := r0.cell 1
  clear hw0 hS hu0 r0 r1 r2 hz0
  go_enter Tryd.func9, Tryd.ntmps9
  go_wp2_with fail
  rw [← HW0.out]
  rw [← HS.out]
  refine (HF1.out _ HU0.out).mono ?_
  rintro e w1 ⟨aP, lP, cP, rfl, hsP, hu1⟩
  have HSP1 := Lib.hid hsP
  have HV1 := Lib.hid hu1
  have HRQ := Lib.hid (HR1.out.upd0 hu1)
  have HRR := Lib.hid (HR2.out.upd0 hu1)
  clear hsP hu1 hp0 hp1
  have hrf : Upd [] w1 w1 := Upd.refl _ _
  have HC : Hid (∀ W, Upd [S + 1, S + 1 + 1] w1 W → W.cell? ⟨S, 0, none⟩ = some (.slice a0 l0 c0) ∧ W.cell? ⟨S, 1, none⟩ = some (.bool b0) ∧ Upd [S + 1, S + 1 + 1] w1 W) := fun W h =>
    ⟨((HR0.out.upd0 HV1.out).upd h (by simp <;> omega)).cell 0, ((HR0.out.upd0 HV1.out).upd h (by simp <;> omega)).cell 1, h⟩
  have hcA : ∀ W, Upd [] w1 W → W.cell? ⟨S + 1, 0, none⟩ = some (.bool false) ∧ W.cell? ⟨S + 1, 1, none⟩ = some (.slice none 0 0) ∧ W.frozen? ⟨S + 1, 0, none⟩ = false ∧ W.frozen? ⟨S + 1, 1, none⟩ = false := fun W h => ⟨(HRQ.out.upd0 h).cell 0, (HRQ.out.upd0 h).cell 1, (HRQ.out.upd0 h).frozen 0, (HRQ.out.upd0 h).frozen 1⟩
  have hcB : ∀ W, Upd [] w1 W → W.cell? ⟨S + 1 + 1, 0, none⟩ = some (.slice none 0 0) ∧ W.cell? ⟨S + 1 + 1, 1, none⟩ = some (.slice none 0 0) ∧ W.frozen? ⟨S + 1 + 1, 0, none⟩ = false ∧ W.frozen? ⟨S + 1 + 1, 1, none⟩ = false := fun W h => ⟨(HRR.out.upd0 h).cell 0, (HRR.out.upd0 h).cell 1, (HRR.out.upd0 h).frozen 0, (HRR.out.upd0 h).frozen 1⟩
  have hS1 : S + 1 ≠ S + 1 + 1 := by omega
  have hS2 : S + 1 + 1 ≠ S + 1 := by omega
  go_wp2_with fail
  go_region_held3 (fun W => W.cell? ⟨S, 0, none⟩ = some (.slice a0 l0 c0) ∧ W.cell? ⟨S, 1, none⟩ = some (.bool b0) ∧ Upd [S + 1, S + 1 + 1] w1 W)
    ((refine HC.out _ ?_; repeat (first | (with_reducible refine Upd.setCell ?_ (.inl (by simp)) _) | (with_reducible exact huy.mono (by simp)) | (with_reducible exact hrf.mono (by simp)) | (with_reducible apply Upd.drew) | (with_reducible apply Upd.alloc))))
    (first
      | (go_at_call 29; (with_reducible refine (HOP.out _ _ (HSP1.out.upd0 (by repeat (first | exact huy | exact hrf | apply Upd.drew | apply Upd.alloc)))).mono ?_); rintro e wz ⟨vA, rfl, hnA, hu20⟩;  have HNA := Lib.hid hnA; clear hnA; have huz : Upd [] w1 wz := Upd.trans0 (by repeat (first | exact huy | exact hrf | apply Upd.drew | apply Upd.alloc)) hu20; (try clear huy); clear hu20; have huy := huz; clear huz)
      | (go_at_call 31; (with_reducible refine (HMP.out _ _ (by first | exact HNA.out | exact HNA.out.upd0 ((Upd.refl _ _).alloc _))).mono ?_); rintro e wz ⟨vK, rfl, hvK, hu20⟩; have HNA := Lib.hid (HNA.out.upd0 (by first | exact hu20 | exact Upd.al hu20)); obtain ⟨aK, lK, cK, rfl, _⟩ := hvK.open; have HVK := Lib.hid hvK; clear hvK; have huz : Upd [] w1 wz := Upd.trans0 (by repeat (first | exact huy | exact hrf | apply Upd.drew | apply Upd.alloc)) hu20; (try clear huy); clear hu20; have huy := huz; clear huz)
      | (go_at_call 39; (with_reducible refine (HZM.out _ _ (HSP1.out.upd0 (by repeat (first | exact huy | exact hrf | apply Upd.drew | apply Upd.alloc)))).mono ?_); rintro e wz ⟨vX, rfl, hzX, hu20⟩; have HNA := Lib.hid (HNA.out.upd0 (by first | exact hu20 | exact Upd.al hu20)); have HVK := Lib.hid (HVK.out.upd0 (by first | exact hu20 | exact Upd.al hu20)); obtain ⟨aX, lX, cX, dX, mX, eX, rfl, _, _⟩ := ZV.open hzX; have HZX := Lib.hid hzX; clear hzX; have huz : Upd [] w1 wz := Upd.trans0 (by repeat (first | exact huy | exact hrf | apply Upd.drew | apply Upd.alloc)) hu20; (try clear huy); clear hu20; have huy := huz; clear huz; obtain ⟨x0, x1, x2, x3⟩ := hcA _ huy; obtain ⟨y0, y1, y2, y3⟩ := hcB _ huy))
  all_goals
    have HP := putWZ hS1 (by have := HS.out; omega) (by have := HS.out; omega) (HRQ.out.upd0 huy) (HRR.out.upd0 huy) (HU0.out.trans0 (HV1.out.trans0 huy)) HVK.out HZX.out
    have HP1 := Lib.hid HP.1
    have HP2 := Lib.hid HP.2
    clear HP hcA hcB huy
    generalize decide (zp < 0) = pK at *
    first
      | (have z0 := HP1.out.ri.cell 0
         have z1 := HP1.out.ri.cell 1
         have z3 := HP1.out.rj.cell 0
         have z4 := HP1.out.rj.cell 1
         go_wp2
         refine bodyPost_ret (v := .tuple #[.agg #[.bool pK, .slice aK lK cK], .agg #[.slice aX lX cX, .slice dX mX eX]]) (by simp [results, Tryd.results9, go_sem, z0, z1, z3, z4]) rfl ?_
         exact ⟨_, _, rfl, HP1.out.vi, HP1.out.vj, HP1.out.u⟩)
      | (have z0 := HP2.out.ri.cell 0
         have z1 := HP2.out.ri.cell 1
         have z3 := HP2.out.rj.cell 0
         have z4 := HP2.out.rj.cell 1
         go_wp2
         refine bodyPost_ret (v := .tuple #[.agg #[.bool pK, .slice aK lK cK], .agg #[.slice aX lX cX, .slice dX mX eX]]) (by simp [results, Tryd.results9, go_sem, z0, z1, z3, z4]) rfl ?_
         exact ⟨_, _, rfl, HP2.out.vi, HP2.out.vj, HP2.out.u⟩)

theorem ztxt_m4 : zTxt (-4) = [45, 52] := by decide +kernel
theorem ztxt_1 : zTxt 1 = [49] := by decide +kernel
theorem ztxt_0 : zTxt 0 = [48] := by decide +kernel
theorem wdm_any (u v : Value) (x y : Int) (w : World) (hu : WV w u x) (hv : WV w v y) (hlx : (wds x.natAbs).length ≤ 1073741824) (hly : (wds y.natAbs).length ≤ 1073741824) (hy0 : y ≠ 0) : Calls Tryd.prog 20 #[u, v] w (RWhole2E (x / y) (x % y) 0 w) := by
  by_cases hx : x < 0
  · by_cases hm : x.natAbs % y.natAbs = 0
    · exact wdm_even u v x y w hu hv hlx hly hy0 hx hm
    · exact wdm_odd u v x y w hu hv hlx hly hy0 hx hm
  · exact wdm_up u v x y w hu hv hlx hly hy0 hx

set_option maxHeartbeats 1600000 in
theorem awake6 (w : World) (ht : Tab w) :
    Calls Tryd.prog 8 #[] w (fun e w' => e = .returned (.bool true) ∧ Upd [] w w') := by
  have hl : ∀ n : Int, n.natAbs < 2 ^ 255 → (wds n.natAbs).length ≤ 1073741824 := fun n h => Nat.le_trans (nv_len _ h) (by decide)
  have HM1 : Hid (∀ W, Calls Tryd.prog 28 #[.int .i64 (-7)] W (RWhole (-7) W)) := fun W => whole_of (-7) W (by decide) (by decide)
  have HM2 : Hid (∀ W, Calls Tryd.prog 28 #[.int .i64 2] W (RWhole 2 W)) := fun W => whole_of 2 W (by decide) (by decide)
  obtain ⟨qv, hqv⟩ : ∃ z : Int, z = -4 := ⟨_, rfl⟩
  obtain ⟨rv, hrv⟩ : ∃ z : Int, z = 1 := ⟨_, rfl⟩
  have HDM : Hid (∀ W s t, WV W s (-7) → WV W t 2 → Calls Tryd.prog 20 #[s, t] W (RWhole2E qv rv 0 W)) := fun W s t hs ht => by
    rw [hqv, hrv]
    exact wdm_any _ _ (-7) 2 W hs ht (hl _ (by decide)) (hl _ (by decide)) (by decide)
  have HT1 : Hid (∀ W s, Upd [] w W → WV W s qv → Calls Tryd.prog 22 #[s] W (fun e w' => e = .returned (.string ⟨#[45, 52]⟩) ∧ Upd [] W w')) := fun W s h hs => by
    have := wtext_any _ _ W hs (ht.upd0 h) (by rw [hqv]; exact hl _ (by decide))
    rw [hqv, ztxt_m4] at this
    exact this
  have HT2 : Hid (∀ W s, Upd [] w W → WV W s rv → Calls Tryd.prog 22 #[s] W (fun e w' => e = .returned (.string ⟨#[49]⟩) ∧ Upd [] W w')) := fun W s h hs => by
    have := wtext_any _ _ W hs (ht.upd0 h) (by rw [hrv]; exact hl _ (by decide))
    rw [hrv, ztxt_1] at this
    exact this
  clear ht hl hqv hrv
  go_enter Tryd.func8, Tryd.ntmps8
  go_wp2_with fail
  refine (HM1.out _).mono ?_
  rintro e w1 ⟨v1, rfl, hv1, hu1⟩
  have HW1 := Lib.hid hv1
  have HV1 := Lib.hid hu1
  clear hv1 hu1
  go_wp2_with fail
  refine (HM2.out _).mono ?_
  rintro e w2 ⟨v2, rfl, hv2, hu2⟩
  have HW12 := Lib.hid (HW1.out.upd0 hu2)
  have HW2 := Lib.hid hv2
  have HV2 := Lib.hid (HV1.out.trans0 hu2)
  clear hv2 hu2
  go_wp2_with fail
  refine (HDM.out _ _ _ HW12.out HW2.out).mono ?_
  rintro e w3 ⟨v3, v4, rfl, hv3, hv4, hu3⟩
  obtain ⟨a1, l1, c1, rfl, _⟩ := hv3.open
  obtain ⟨a2, l2, c2, rfl, _⟩ := hv4.open
  generalize decide (qv < 0) = b1 at *
  generalize decide (rv < 0) = b2 at *
  obtain ⟨w4, hw4⟩ : ∃ W, W = (w3.alloc (.cells #[.bool b1, .slice a1 l1 c1] 29)).alloc (.cells #[.bool b2, .slice a2 l2 c2] 29) := ⟨_, rfl⟩
  obtain ⟨K, hK⟩ : ∃ s, s = w3.heap.size := ⟨_, rfl⟩
  obtain ⟨hu4, r1, r2, _⟩ := rows2 w3 #[.bool b1, .slice a1 l1 c1] #[.bool b2, .slice a2 l2 c2] 29 29 w4 hw4 K hK
  have HQ := Lib.hid (hv3.upd0 hu4)
  have HR := Lib.hid (hv4.upd0 hu4)
  have HV4 := Lib.hid (HV2.out.trans0 (hu3.trans0 hu4))
  have HR2 := Lib.hid r2
  have s0 := r1.cell 0
  have s1 := r1.cell 1
  rw [hw4] at s0 s1
  have HW4 := Lib.hid hw4
  have HK := Lib.hid hK
  clear hv3 hv4 hu3 hu4 r1 r2 hw4 hK
  go_wp2_with fail
  rw [← HW4.out, ← HK.out]
  rw [← HW4.out] at s0 s1
  refine (HT1.out _ _ HV4.out HQ.out).mono ?_
  rintro e w5 ⟨rfl, hu5⟩
  have HV5 := Lib.hid (HV4.out.trans0 hu5)
  have HR5 := Lib.hid (HR.out.upd0 hu5)
  have t0 := (HR2.out.upd0 hu5).cell 0
  have t1 := (HR2.out.upd0 hu5).cell 1
  clear hu5 s0 s1
  go_wp2_with fail
  refine (HT2.out _ _ HV5.out HR5.out).mono ?_
  rintro e w6 ⟨rfl, hu6⟩
  have HF := Lib.hid (HV5.out.trans0 hu6)
  clear hu6
  go_wp2
  go_ret
  exact ⟨rfl, HF.out⟩

set_option maxHeartbeats 1600000 in
theorem is6 (u v : Value) (z : Int) (p m : Nat) (w : World) (hu : WV w u z) (hv : ZV w v p m) (ht : Tab w) (hl : (wds z.natAbs).length ≤ 1073741824) (hpl : (digs p).length ≤ 1048576) (hml : (digs m).length ≤ 1048576) (he : z = (p : Int) - m) :
    Calls Tryd.prog 10 #[u, v] w (fun e w' => e = .returned (.bool true) ∧ Upd [] w w') := by
  obtain ⟨a0, l0, c0, rfl, _⟩ := hu.open
  obtain ⟨a1, l1, c1, d1, m1, e1, rfl, hp, hm⟩ := hv.open
  have HT1 : Hid (∀ W, Upd [] w W → Calls Tryd.prog 22 #[.agg #[.bool (decide (z < 0)), .slice a0 l0 c0]] W (fun e w' => e = .returned (.string ⟨(zTxt z).toArray⟩) ∧ Upd [] W w')) := fun W h => wtext_any _ _ W (hu.upd0 h) (ht.upd0 h) hl
  have HT2 : Hid (∀ W, Upd [] w W → Calls Tryd.prog 40 #[.agg #[.slice a1 l1 c1, .slice d1 m1 e1]] W (fun e w' => e = .returned (.string ⟨(zTxt z).toArray⟩) ∧ Upd [] W w')) := fun W h => by rw [he]; exact ztext_any _ _ _ W (hv.upd0 h) hpl hml
  generalize zTxt z = tx at *
  generalize decide (z < 0) = b0 at *
  clear hu hv ht hl hpl hml he hp hm
  obtain ⟨w0, hw0⟩ : ∃ W, W = ((w.alloc (.cells #[.bool b0, .slice a0 l0 c0] 29)).alloc (.cells #[.slice a1 l1 c1, .slice d1 m1 e1] 33)) := ⟨_, rfl⟩
  obtain ⟨S, hS⟩ : ∃ s, s = w.heap.size := ⟨_, rfl⟩
  obtain ⟨hu0, r0, r1, hz0⟩ := rows2 w #[.bool b0, .slice a0 l0 c0] #[.slice a1 l1 c1, .slice d1 m1 e1] 29 33 w0 hw0 S hS
  have HU0 := Lib.hid hu0
  have HW0 := Lib.hid hw0
  have HS := Lib.hid hS
  have HZ0 := Lib.hid hz0
  have HR0 := Lib.hid r0
  have HR1 := Lib.hid r1
  have hrf : Upd [] w0 w0 := Upd.refl _ _
  clear hw0 hS hu0 r0 r1 hz0
  have HC : Hid (∀ W, Upd [] w0 W → W.cell? ⟨S, 0, none⟩ = some (.bool b0) ∧ W.cell? ⟨S, 1, none⟩ = some (.slice a0 l0 c0) ∧ W.cell? ⟨S + 1, 0, none⟩ = some (.slice a1 l1 c1) ∧ W.cell? ⟨S + 1, 1, none⟩ = some (.slice d1 m1 e1) ∧ Upd [] w0 W) := fun W h =>
    ⟨(HR0.out.upd h (by simp <;> omega)).cell 0, (HR0.out.upd h (by simp <;> omega)).cell 1, (HR1.out.upd h (by simp <;> omega)).cell 0, (HR1.out.upd h (by simp <;> omega)).cell 1, h⟩
  go_enter Tryd.func10, Tryd.ntmps10
  go_wp2_with fail
  rw [← HW0.out]
  rw [← HS.out]
  go_region_held3 (fun W => W.cell? ⟨S, 0, none⟩ = some (.bool b0) ∧ W.cell? ⟨S, 1, none⟩ = some (.slice a0 l0 c0) ∧ W.cell? ⟨S + 1, 0, none⟩ = some (.slice a1 l1 c1) ∧ W.cell? ⟨S + 1, 1, none⟩ = some (.slice d1 m1 e1) ∧ Upd [] w0 W)
    ((refine HC.out _ ?_; repeat (first | exact huy | exact hrf | apply Upd.drew)))
    (first
      | (go_at_call 22; (with_reducible refine (HT1.out _ (HU0.out.trans0 (by repeat (first | exact huy | exact hrf | apply Upd.drew | apply Upd.alloc)))).mono ?_); rintro e wz ⟨rfl, hu20⟩;   have huz : Upd [] w0 wz := Upd.trans0 (by repeat (first | exact huy | exact hrf | apply Upd.drew | apply Upd.alloc)) hu20; (try clear huy); clear hu20; have huy := huz; clear huz)
      | (go_at_call 40; (with_reducible refine (HT2.out _ (HU0.out.trans0 (by repeat (first | exact huy | exact hrf | apply Upd.drew | apply Upd.alloc)))).mono ?_); rintro e wz ⟨rfl, hu20⟩;   have huz : Upd [] w0 wz := Upd.trans0 (by repeat (first | exact huy | exact hrf | apply Upd.drew | apply Upd.alloc)) hu20; (try clear huy); clear hu20; have huy := huz; clear huz))
  all_goals
    go_wp2
    go_ret
    exact ⟨by simp, HU0.out.trans0 huy⟩

end Go.Proofs.YtoklmfmoblkfcaaDoor
