/- Whole numbers (layer 6): Add. -/
import Derived.Test.YtoklmfmoblkfcaaDoorAb
import Derived.Test.YtoklmfmoblkfcaaDoorNatSum
import Derived.Test.YtoklmfmoblkfcaaDoorNatSub
import Derived.Deep.RegionHeld3
namespace Go.Proofs.YtoklmfmoblkfcaaDoor
open Go.RowKit Go.Proofs.Tm
set_option linter.unusedVariables false
set_option linter.unusedSimpArgs false
set_option maxRecDepth 20000

set_option maxHeartbeats 1600000 in
theorem wadd_same (u v : Value) (x y : Int) (w : World) (hu : WV w u x) (hv : WV w v y) (hlx : (wds x.natAbs).length ≤ 1099511627776) (hly : (wds y.natAbs).length ≤ 1099511627776) (hs1 : decide (x < 0) = decide (y < 0)) :
    Calls Tryd.prog 11 #[u, v] w (RWhole (x + y) w) := by
  obtain ⟨a0, l0, c0, rfl, hn0⟩ := hu.open
  obtain ⟨a1, l1, c1, rfl, hn1⟩ := hv.open
  have HNA : Hid (∀ W, Upd [] w W → Calls Tryd.prog 41 #[.agg #[.slice a0 l0 c0], .agg #[.slice a1 l1 c1]] W (RNat (x.natAbs + y.natAbs) W)) := fun W h => add_any _ _ _ _ W (hn0.upd0 h) (hn1.upd0 h) hlx hly
  have HMK : Hid (∀ W s, NV W s (x.natAbs + y.natAbs) → Calls Tryd.prog 31 #[.bool (decide (x < 0)), s] W (RWhole (x + y) W)) := fun W s hs => by
    have := wmake_any (decide (x < 0)) _ _ W hs
    have e : (if decide (x < 0) = true then -((x.natAbs + y.natAbs : Nat) : Int) else ((x.natAbs + y.natAbs : Nat) : Int)) = x + y := by
      by_cases h1 : x < 0 <;> by_cases h2 : y < 0 <;> simp [h1, h2] at hs1 ⊢ <;> omega
    rw [e] at this
    exact this
  rw [← hs1]
  generalize decide (x < 0) = b0 at *
  clear hu hv hn0 hn1 hlx hly hs1
  obtain ⟨w0, hw0⟩ : ∃ W, W = (((w.alloc (.cells #[.bool b0, .slice a0 l0 c0] 29)).alloc (.cells #[.bool b0, .slice a1 l1 c1] 29)).alloc (.cells #[.bool false, .slice none 0 0] 29)) := ⟨_, rfl⟩
  obtain ⟨S, hS⟩ : ∃ s, s = w.heap.size := ⟨_, rfl⟩
  obtain ⟨hu0, r0, r1, r2, hz0⟩ := rows3 w #[.bool b0, .slice a0 l0 c0] #[.bool b0, .slice a1 l1 c1] #[.bool false, .slice none 0 0] 29 29 29 w0 hw0 S hS
  have HU0 := Lib.hid hu0
  have HW0 := Lib.hid hw0
  have HS := Lib.hid hS
  have HZ0 := Lib.hid hz0
  have HR0 := Lib.hid r0
  have HR1 := Lib.hid r1
  have HRES := Lib.hid r2
  have hp0 := r0.cell 0
  have hp1 := r0.cell 1
  have hp2 := r1.cell 0
  have hp3 := r1.cell 1
  clear hw0 hS hu0 r0 r1 r2 hz0
  go_enter Tryd.func11, Tryd.ntmps11
  go_wp2_with fail
  rw [← HW0.out]
  rw [← HS.out]
  clear hp0 hp1 hp2 hp3
  have HUB := Lib.hid HU0.out
  have hrf : Upd [] w0 w0 := Upd.refl _ _
  have HC : Hid (∀ W, Upd [S + 1 + 1] w0 W → W.cell? ⟨S, 0, none⟩ = some (.bool b0) ∧ W.cell? ⟨S, 1, none⟩ = some (.slice a0 l0 c0) ∧ W.cell? ⟨S + 1, 0, none⟩ = some (.bool b0) ∧ W.cell? ⟨S + 1, 1, none⟩ = some (.slice a1 l1 c1) ∧ Upd [S + 1 + 1] w0 W) := fun W h =>
    ⟨(HR0.out.upd h (by simp <;> omega)).cell 0, (HR0.out.upd h (by simp <;> omega)).cell 1, (HR1.out.upd h (by simp <;> omega)).cell 0, (HR1.out.upd h (by simp <;> omega)).cell 1, h⟩
  have hcA : ∀ W, Upd [] w0 W → W.cell? ⟨S + 1 + 1, 0, none⟩ = some (.bool false) ∧ W.cell? ⟨S + 1 + 1, 1, none⟩ = some (.slice none 0 0) ∧ W.frozen? ⟨S + 1 + 1, 0, none⟩ = false ∧ W.frozen? ⟨S + 1 + 1, 1, none⟩ = false := fun W h => ⟨(HRES.out.upd0 h).cell 0, (HRES.out.upd0 h).cell 1, (HRES.out.upd0 h).frozen 0, (HRES.out.upd0 h).frozen 1⟩
  go_region_held3 (fun W => W.cell? ⟨S, 0, none⟩ = some (.bool b0) ∧ W.cell? ⟨S, 1, none⟩ = some (.slice a0 l0 c0) ∧ W.cell? ⟨S + 1, 0, none⟩ = some (.bool b0) ∧ W.cell? ⟨S + 1, 1, none⟩ = some (.slice a1 l1 c1) ∧ Upd [S + 1 + 1] w0 W)
    ((refine HC.out _ ?_; repeat (first | (with_reducible refine Upd.setCell ?_ (.inl (by simp)) _) | (with_reducible exact huy.mono (by simp)) | (with_reducible exact hrf.mono (by simp)) | (with_reducible apply Upd.drew) | (with_reducible apply Upd.alloc))))
    (first
      | (go_at_call 41; (with_reducible refine (HNA.out _ (HU0.out.trans0 (by repeat (first | exact huy | exact hrf | apply Upd.drew | apply Upd.alloc)))).mono ?_); rintro e wz ⟨vA, rfl, hnA, hu20⟩;  have HNA2 := Lib.hid hnA; clear hnA; have huz : Upd [] w0 wz := Upd.trans0 (by repeat (first | exact huy | exact hrf | apply Upd.drew | apply Upd.alloc)) hu20; (try clear huy); clear hu20; have huy := huz; clear huz)
      | (go_at_call 31; (with_reducible refine (HMK.out _ _ (by first | exact HNA2.out | exact HNA2.out.upd0 ((Upd.refl _ _).alloc _))).mono ?_); rintro e wz ⟨vK, rfl, hKv, hu20⟩; have HNA2 := Lib.hid (HNA2.out.upd0 (by first | exact hu20 | exact Upd.al hu20)); obtain ⟨aK, lK, cK, rfl, _⟩ := hKv.open; have HK := Lib.hid hKv; clear hKv; have huz : Upd [] w0 wz := Upd.trans0 (by repeat (first | exact huy | exact hrf | apply Upd.drew | apply Upd.alloc)) hu20; (try clear huy); clear hu20; have huy := huz; clear huz; obtain ⟨x0, x1, x2, x3⟩ := hcA _ huy))
  all_goals
    have HP := Lib.hid (NewW.set ⟨HRES.out.upd0 huy, by have := HS.out; omega⟩ (HUB.out.trans0 huy) HK.out)
    clear hcA huy
    generalize decide (x + y < 0) = pK at *
    have z0 := HP.out.row.cell 0
    have z1 := HP.out.row.cell 1
    go_wp2
    refine bodyPost_ret (v := .agg #[.bool pK, .slice aK lK cK]) (by simp [results, Tryd.results11, go_sem, z0, z1]) rfl ?_
    exact ⟨_, rfl, HP.out.wv, HP.out.upd⟩

set_option maxHeartbeats 1600000 in
theorem wadd_less (u v : Value) (x y : Int) (w : World) (hu : WV w u x) (hv : WV w v y) (hlx : (wds x.natAbs).length ≤ 1099511627776) (hly : (wds y.natAbs).length ≤ 1099511627776) (hs1 : ¬ decide (x < 0) = decide (y < 0)) (hlt : x.natAbs < y.natAbs) :
    Calls Tryd.prog 11 #[u, v] w (RWhole (x + y) w) := by
  obtain ⟨a0, l0, c0, rfl, hn0⟩ := hu.open
  obtain ⟨a1, l1, c1, rfl, hn1⟩ := hv.open
  have HCMP : Hid (∀ W, Upd [] w W → Calls Tryd.prog 24 #[.agg #[.slice a0 l0 c0], .agg #[.slice a1 l1 c1]] W (fun e w' => e = .returned (.int .i64 (cmpN x.natAbs y.natAbs)) ∧ Upd [] W w')) := fun W h => cmp_any _ _ _ _ W (hn0.upd0 h) (hn1.upd0 h) hlx
  have HN0 := Lib.hid hn0
  have HN1 := Lib.hid hn1
  have HSUB : Hid (∀ W s t, NV W s y.natAbs → NV W t x.natAbs → Calls Tryd.prog 42 #[s, t] W (RNatE (y.natAbs - x.natAbs) 0 W)) := fun W s t hs ht => sub_any _ _ _ _ W hs ht hly (by omega)
  have HMK : Hid (∀ W s, NV W s (y.natAbs - x.natAbs) → Calls Tryd.prog 31 #[.bool (decide (y < 0)), s] W (RWhole (x + y) W)) := fun W s hs => by
    have := wmake_any (decide (y < 0)) _ _ W hs
    have e : (if decide (y < 0) = true then -((y.natAbs - x.natAbs : Nat) : Int) else ((y.natAbs - x.natAbs : Nat) : Int)) = x + y := by
      by_cases h1 : x < 0 <;> by_cases h2 : y < 0 <;> simp [h1, h2] at hs1 ⊢ <;> omega
    rw [e] at this
    exact this
  have e0 : (decide (x < 0) == decide (y < 0)) = false := by simpa using hs1
  have e1 : decide (cmpN x.natAbs y.natAbs < 0) = true := by rw [cmpN_lt hlt]; rfl
  generalize decide (x < 0) = b0 at *
  generalize decide (y < 0) = b1 at *
  clear hu hv hn0 hn1 hlx hly hs1 hlt
  obtain ⟨w0, hw0⟩ : ∃ W, W = (((w.alloc (.cells #[.bool b0, .slice a0 l0 c0] 29)).alloc (.cells #[.bool b1, .slice a1 l1 c1] 29)).alloc (.cells #[.bool false, .slice none 0 0] 29)) := ⟨_, rfl⟩
  obtain ⟨S, hS⟩ : ∃ s, s = w.heap.size := ⟨_, rfl⟩
  obtain ⟨hu0, r0, r1, r2, hz0⟩ := rows3 w #[.bool b0, .slice a0 l0 c0] #[.bool b1, .slice a1 l1 c1] #[.bool false, .slice none 0 0] 29 29 29 w0 hw0 S hS
  have HU0 := Lib.hid hu0
  have HW0 := Lib.hid hw0
  have HS := Lib.hid hS
  have HZ0 := Lib.hid hz0
  have HR0 := Lib.hid r0
  have HR1 := Lib.hid r1
  have HR2 := Lib.hid r2
  have hp0 := r0.cell 0
  have hp1 := r0.cell 1
  have hp2 := r1.cell 0
  have hp3 := r1.cell 1
  clear hw0 hS hu0 r0 r1 r2 hz0
  go_enter Tryd.func11, Tryd.ntmps11
  go_wp2_with fail
  rw [← HW0.out]
  rw [← HS.out]
  refine (HCMP.out _ HU0.out).mono ?_
  rintro e w1 ⟨rfl, hu1⟩
  clear hp0 hp1 hp2 hp3
  have HU1 := Lib.hid (HU0.out.trans0 hu1)
  have q0 := HR0.out.upd0 hu1
  have q1 := HR1.out.upd0 hu1
  have q2 := HR2.out.upd0 hu1
  have f0 := q0.cell 0
  have f1 := q0.cell 1
  have f2 := q1.cell 0
  have f3 := q1.cell 1
  have g0 := q0.frozen 0
  have g1 := q0.frozen 1
  have g2 := q1.frozen 0
  have g3 := q1.frozen 1
  obtain ⟨w2, hw2⟩ : ∃ W, W = (((w1.setCell ⟨S, 0, none⟩ (.bool b1)).setCell ⟨S, 1, none⟩ (.slice a1 l1 c1)).setCell ⟨S + 1, 0, none⟩ (.bool b0)).setCell ⟨S + 1, 1, none⟩ (.slice a0 l0 c0) := ⟨_, rfl⟩
  have hsw := HS.out
  have hne : S ≠ S + 1 := by omega
  have hq0 : Row w2 S #[.bool b1, .slice a1 l1 c1] 29 := by rw [hw2]; exact (((q0.set 0 _).set 1 _).other _ _ (by show S + 1 ≠ S; omega)).other _ _ (by show S + 1 ≠ S; omega)
  have hq1a := (q1.other ⟨S, 0, none⟩ (.bool b1) (by show S ≠ S + 1; omega)).other ⟨S, 1, none⟩ (.slice a1 l1 c1) (by show S ≠ S + 1; omega)
  have hq1 : Row w2 (S + 1) #[.bool b0, .slice a0 l0 c0] 29 := by rw [hw2]; exact (hq1a.set 0 _).set 1 _
  have hq2 : Row w2 (S + 1 + 1) #[.bool false, .slice none 0 0] 29 := by rw [hw2]; exact (((q2.other _ _ (by show S ≠ S + 1 + 1; omega)).other _ _ (by show S ≠ S + 1 + 1; omega)).other _ _ (by show S + 1 ≠ S + 1 + 1; omega)).other _ _ (by show S + 1 ≠ S + 1 + 1; omega)
  have hm : ∀ v n, NV w1 v n → NV w2 v n := fun v n h => by
    rw [hw2]
    exact (((h.putr q0 nw2 0 _).putr (q0.set 0 _) nw2 1 _).putr hq1a nw2 0 _).putr (hq1a.set 0 _) nw2 1 _
  have hu2 : Upd [] w w2 := by rw [hw2]; exact (((HU1.out.setCell (.inr (by show _ ≤ S; omega)) _).setCell (.inr (by show _ ≤ S; omega)) _).setCell (.inr (by show _ ≤ S + 1; omega)) _).setCell (.inr (by show _ ≤ S + 1; omega)) _
  have HNB := Lib.hid (hm _ _ (HN1.out.upd0 HU1.out))
  have HNS := Lib.hid (hm _ _ (HN0.out.upd0 HU1.out))
  have HU2 := Lib.hid hu2
  have HQ0 := Lib.hid hq0
  have HQ2 := Lib.hid hq2
  have f4 := hq0.cell 0
  have f5 := hq0.cell 1
  have f6 := hq1.cell 1
  have HW2 := Lib.hid hw2
  have HUX := Lib.hid hu1
  clear hw2 hq0 hq1 hq1a hq2 hm hu2 q0 q1 q2 hu1 hsw
  go_wp2_with fail
  rw [← HW2.out]
  refine (HSUB.out _ _ _ HNB.out HNS.out).mono ?_
  rintro e w3 ⟨v3, rfl, hn3, hu3⟩
  obtain ⟨a3, l3, c3, rfl, hn3'⟩ := nvOpen hn3
  obtain ⟨w4, hw4⟩ : ∃ W, W = w3.alloc (.cells #[.slice a3 l3 c3] 27) := ⟨_, rfl⟩
  have hu4 : Upd [] w3 w4 := by rw [hw4]; exact (Upd.refl _ _).alloc _
  have hr4 : Row w4 w3.heap.size #[.slice a3 l3 c3] 27 := by rw [hw4]; exact Row.new _ _ _
  have HN4 := Lib.hid (hn3'.upd0 hu4)
  have HU4 := Lib.hid (HU2.out.trans0 (hu3.trans0 hu4))
  have HRES := Lib.hid ((HQ2.out.upd0 hu3).upd0 hu4)
  have hq := (HQ0.out.upd0 hu3).upd0 hu4
  have t0 := hq.cell 0
  have t1 := hr4.cell 0
  rw [hw4] at t0 t1
  have HW4 := Lib.hid hw4
  clear f4 f5 f6 f0 f1 f2 f3 hn3 hn3' hu3 hu4 hr4 hq hw4 g0 g1 g2 g3
  go_wp2_with fail
  rw [← HW4.out]
  refine (HMK.out _ _ HN4.out).mono ?_
  rintro e w5 ⟨v5, rfl, hv5, huy⟩
  obtain ⟨a5, l5, c5, rfl, _⟩ := hv5.open
  have H5 := Lib.hid hv5
  have hr5 := HRES.out.upd0 huy
  have x0 := hr5.cell 0
  have x1 := hr5.cell 1
  have x2 := hr5.frozen 0
  have x3 := hr5.frozen 1
  have HP := Lib.hid (NewW.set ⟨hr5, by have := HS.out; omega⟩ (HU4.out.trans0 huy) H5.out)
  clear hv5 hr5 huy t0 t1
  generalize decide (x + y < 0) = p5 at *
  have z0 := HP.out.row.cell 0
  have z1 := HP.out.row.cell 1
  go_wp2
  refine bodyPost_ret (v := .agg #[.bool p5, .slice a5 l5 c5]) (by simp [results, Tryd.results11, go_sem, z0, z1]) rfl ?_
  exact ⟨_, rfl, HP.out.wv, HP.out.upd⟩

set_option maxHeartbeats 1600000 in
theorem wadd_more (u v : Value) (x y : Int) (w : World) (hu : WV w u x) (hv : WV w v y) (hlx : (wds x.natAbs).length ≤ 1099511627776) (hly : (wds y.natAbs).length ≤ 1099511627776) (hs1 : ¬ decide (x < 0) = decide (y < 0)) (hlt : y.natAbs ≤ x.natAbs) :
    Calls Tryd.prog 11 #[u, v] w (RWhole (x + y) w) := by
  obtain ⟨a0, l0, c0, rfl, hn0⟩ := hu.open
  obtain ⟨a1, l1, c1, rfl, hn1⟩ := hv.open
  have HCMP : Hid (∀ W, Upd [] w W → Calls Tryd.prog 24 #[.agg #[.slice a0 l0 c0], .agg #[.slice a1 l1 c1]] W (fun e w' => e = .returned (.int .i64 (cmpN x.natAbs y.natAbs)) ∧ Upd [] W w')) := fun W h => cmp_any _ _ _ _ W (hn0.upd0 h) (hn1.upd0 h) hlx
  have HN0 := Lib.hid hn0
  have HN1 := Lib.hid hn1
  have HSUB : Hid (∀ W s t, NV W s x.natAbs → NV W t y.natAbs → Calls Tryd.prog 42 #[s, t] W (RNatE (x.natAbs - y.natAbs) 0 W)) := fun W s t hs ht => sub_any _ _ _ _ W hs ht hlx (by omega)
  have HMK : Hid (∀ W s, NV W s (x.natAbs - y.natAbs) → Calls Tryd.prog 31 #[.bool (decide (x < 0)), s] W (RWhole (x + y) W)) := fun W s hs => by
    have := wmake_any (decide (x < 0)) _ _ W hs
    have e : (if decide (x < 0) = true then -((x.natAbs - y.natAbs : Nat) : Int) else ((x.natAbs - y.natAbs : Nat) : Int)) = x + y := by
      by_cases h1 : x < 0 <;> by_cases h2 : y < 0 <;> simp [h1, h2] at hs1 ⊢ <;> omega
    rw [e] at this
    exact this
  have e0 : (decide (x < 0) == decide (y < 0)) = false := by simpa using hs1
  have e1 : decide (cmpN x.natAbs y.natAbs < 0) = false := cmpN_ge hlt
  generalize decide (x < 0) = b0 at *
  generalize decide (y < 0) = b1 at *
  clear hu hv hn0 hn1 hlx hly hs1 hlt
  obtain ⟨w0, hw0⟩ : ∃ W, W = (((w.alloc (.cells #[.bool b0, .slice a0 l0 c0] 29)).alloc (.cells #[.bool b1, .slice a1 l1 c1] 29)).alloc (.cells #[.bool false, .slice none 0 0] 29)) := ⟨_, rfl⟩
  obtain ⟨S, hS⟩ : ∃ s, s = w.heap.size := ⟨_, rfl⟩
  obtain ⟨hu0, r0, r1, r2, hz0⟩ := rows3 w #[.bool b0, .slice a0 l0 c0] #[.bool b1, .slice a1 l1 c1] #[.bool false, .slice none 0 0] 29 29 29 w0 hw0 S hS
  have HU0 := Lib.hid hu0
  have HW0 := Lib.hid hw0
  have HS := Lib.hid hS
  have HZ0 := Lib.hid hz0
  have HR0 := Lib.hid r0
  have HR1 := Lib.hid r1
  have HR2 := Lib.hid r2
  have hp0 := r0.cell 0
  have hp1 := r0.cell 1
  have hp2 := r1.cell 0
  have hp3 := r1.cell 1
  clear hw0 hS hu0 r0 r1 r2 hz0
  go_enter Tryd.func11, Tryd.ntmps11
  go_wp2_with fail
  rw [← HW0.out]
  rw [← HS.out]
  refine (HCMP.out _ HU0.out).mono ?_
  rintro e w1 ⟨rfl, hu1⟩
  clear hp0 hp1 hp2 hp3
  have HU1 := Lib.hid (HU0.out.trans0 hu1)
  have q0 := HR0.out.upd0 hu1
  have q1 := HR1.out.upd0 hu1
  have q2 := HR2.out.upd0 hu1
  have f0 := q0.cell 0
  have f1 := q0.cell 1
  have f2 := q1.cell 0
  have f3 := q1.cell 1
  have HQ0 := Lib.hid q0
  have HQ2 := Lib.hid q2
  have HNB := Lib.hid (HN0.out.upd0 HU1.out)
  have HNS := Lib.hid (HN1.out.upd0 HU1.out)
  obtain ⟨w2, hw2⟩ : ∃ W, W = w1 := ⟨_, rfl⟩
  have HU2 := Lib.hid HU1.out
  clear q0 q1 q2 hu1
  subst hw2
  go_wp2_with fail
  refine (HSUB.out _ _ _ HNB.out HNS.out).mono ?_
  rintro e w3 ⟨v3, rfl, hn3, hu3⟩
  obtain ⟨a3, l3, c3, rfl, hn3'⟩ := nvOpen hn3
  obtain ⟨w4, hw4⟩ : ∃ W, W = w3.alloc (.cells #[.slice a3 l3 c3] 27) := ⟨_, rfl⟩
  have hu4 : Upd [] w3 w4 := by rw [hw4]; exact (Upd.refl _ _).alloc _
  have hr4 : Row w4 w3.heap.size #[.slice a3 l3 c3] 27 := by rw [hw4]; exact Row.new _ _ _
  have HN4 := Lib.hid (hn3'.upd0 hu4)
  have HU4 := Lib.hid (HU2.out.trans0 (hu3.trans0 hu4))
  have HRES := Lib.hid ((HQ2.out.upd0 hu3).upd0 hu4)
  have hq := (HQ0.out.upd0 hu3).upd0 hu4
  have t0 := hq.cell 0
  have t1 := hr4.cell 0
  rw [hw4] at t0 t1
  have HW4 := Lib.hid hw4
  clear f0 f1 f2 f3 hn3 hn3' hu3 hu4 hr4 hq hw4 
  go_wp2_with fail
  rw [← HW4.out]
  refine (HMK.out _ _ HN4.out).mono ?_
  rintro e w5 ⟨v5, rfl, hv5, huy⟩
  obtain ⟨a5, l5, c5, rfl, _⟩ := hv5.open
  have H5 := Lib.hid hv5
  have hr5 := HRES.out.upd0 huy
  have x0 := hr5.cell 0
  have x1 := hr5.cell 1
  have x2 := hr5.frozen 0
  have x3 := hr5.frozen 1
  have HP := Lib.hid (NewW.set ⟨hr5, by have := HS.out; omega⟩ (HU4.out.trans0 huy) H5.out)
  clear hv5 hr5 huy t0 t1
  generalize decide (x + y < 0) = p5 at *
  have z0 := HP.out.row.cell 0
  have z1 := HP.out.row.cell 1
  go_wp2
  refine bodyPost_ret (v := .agg #[.bool p5, .slice a5 l5 c5]) (by simp [results, Tryd.results11, go_sem, z0, z1]) rfl ?_
  exact ⟨_, rfl, HP.out.wv, HP.out.upd⟩

theorem wadd_any (u v : Value) (x y : Int) (w : World) (hu : WV w u x) (hv : WV w v y) (hlx : (wds x.natAbs).length ≤ 1099511627776) (hly : (wds y.natAbs).length ≤ 1099511627776) : Calls Tryd.prog 11 #[u, v] w (RWhole (x + y) w) := by
  by_cases h : decide (x < 0) = decide (y < 0)
  · exact wadd_same u v x y w hu hv hlx hly h
  · rcases Nat.lt_or_ge x.natAbs y.natAbs with h2 | h2
    · exact wadd_less u v x y w hu hv hlx hly h h2
    · exact wadd_more u v x y w hu hv hlx hly h h2
end Go.Proofs.YtoklmfmoblkfcaaDoor
