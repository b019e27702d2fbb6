/- The law WholeRing (layer 6). -/
import Derived.Test.YtoklmfmoblkfcaaDoorBoth6
import Derived.Test.YtoklmfmoblkfcaaDoorWholeS
import Derived.Test.YtoklmfmoblkfcaaDoorWLen
import Derived.Deep.RegionHeld3
namespace Go.Proofs.YtoklmfmoblkfcaaDoor
open Go.RowKit Go.Proofs.Tm
set_option linter.unusedVariables false
set_option linter.unusedSimpArgs false
set_option maxRecDepth 20000

set_option maxHeartbeats 800000 in
theorem wsame_any (u v : Value) (x : Int) (w : World) (hu : WV w u x) (hv : WV w v x) (hx : (wds x.natAbs).length ≤ 1000) :
    Calls Tryd.prog 27 #[u, v] w (fun e w' => e = .returned (.bool true) ∧ Upd [] w w') := by
  obtain ⟨a0, l0, c0, rfl, _⟩ := hu.open
  obtain ⟨a1, l1, c1, rfl, _⟩ := hv.open
  have HCM : Hid (∀ W, Upd [] w W → Calls Tryd.prog 18 #[.agg #[.bool (decide (x < 0)), .slice a0 l0 c0], .agg #[.bool (decide (x < 0)), .slice a1 l1 c1]] W (fun e w' => e = .returned (.int .i64 0) ∧ Upd [] W w')) := fun W h => by
    have := wcmp_any _ _ _ _ W (hu.upd0 h) (hv.upd0 h) (by omega) (by omega)
    rw [cmpZ_self] at this
    exact this
  generalize decide (x < 0) = bx at *
  clear hu hv hx
  obtain ⟨w0, hw0⟩ : ∃ W, W = ((w.alloc (.cells #[.bool bx, .slice a0 l0 c0] 29)).alloc (.cells #[.bool bx, .slice a1 l1 c1] 29)) := ⟨_, rfl⟩
  obtain ⟨S, hS⟩ : ∃ s, s = w.heap.size := ⟨_, rfl⟩
  obtain ⟨hu0, r0, r1, hz0⟩ := rows2 w #[.bool bx, .slice a0 l0 c0] #[.bool bx, .slice a1 l1 c1] 29 29 w0 hw0 S hS
  have HU0 := Lib.hid hu0
  have HW0 := Lib.hid hw0
  have HS := Lib.hid hS
  have HZ0 := Lib.hid hz0
  have hp0 := r0.cell 0
  have hp1 := r0.cell 1
  have hp2 := r1.cell 0
  have hp3 := r1.cell 1
  clear hw0 hS hu0 r0 r1 hz0
  go_enter Tryd.func27, Tryd.ntmps27
  go_wp2_with fail
  rw [← HW0.out]
  rw [← HS.out]
  refine (HCM.out _ HU0.out).mono ?_
  rintro e w1 ⟨rfl, hu1⟩
  have HF := Lib.hid (HU0.out.trans0 hu1)
  clear hu1 hp0 hp1 hp2 hp3
  go_wp2
  go_ret
  exact ⟨rfl, HF.out⟩

theorem cmpZ_neg (x y : Int) : wrap64 (-cmpZ y x) = cmpZ x y := by
  unfold cmpZ
  rcases Int.lt_trichotomy x y with h | h | h
  · rw [if_neg (by omega), if_neg (by omega), if_pos h]; decide +kernel
  · rw [if_neg (by omega), if_pos h.symm, if_neg (by omega), if_pos h]; decide +kernel
  · rw [if_pos h, if_neg (by omega), if_neg (by omega)]; decide +kernel
theorem cmpZ_neg2 (x y : Int) : IntKind.i64.wrap (-cmpZ y x) = cmpZ x y := by
  unfold cmpZ
  rcases Int.lt_trichotomy x y with h | h | h
  · rw [if_neg (by omega), if_neg (by omega), if_pos h]; decide +kernel
  · rw [if_neg (by omega), if_pos h.symm, if_neg (by omega), if_pos h]; decide +kernel
  · rw [if_pos h, if_neg (by omega), if_neg (by omega)]; decide +kernel
theorem cmpZ_sub (x y : Int) : cmpZ (x - y) 0 = cmpZ x y := by
  unfold cmpZ
  repeat' split
  all_goals omega

set_option maxHeartbeats 3200000 in
theorem wholeRing_law (a0 : Option Addr) (l0 c0 : Nat) (L0 : List Nat) (b0 : Bool) (a1 : Option Addr) (l1 c1 : Nat) (L1 : List Nat) (b1 : Bool) (a2 : Option Addr) (l2 c2 : Nat) (L2 : List Nat) (b2 : Bool) (w : World) (ht : Tab w) (hs0 : Sl w (.slice a0 l0 c0) (cu64 L0)) (hw0 : ∀ d ∈ L0, d < 18446744073709551616) (hs1 : Sl w (.slice a1 l1 c1) (cu64 L1)) (hw1 : ∀ d ∈ L1, d < 18446744073709551616) (hs2 : Sl w (.slice a2 l2 c2) (cu64 L2)) (hw2 : ∀ d ∈ L2, d < 18446744073709551616) :
    Calls Tryd.prog 6 #[.agg #[.slice a0 l0 c0, .bool b0], .agg #[.slice a1 l1 c1, .bool b1], .agg #[.slice a2 l2 c2, .bool b2]] w (fun e w' => e = .returned (.bool true) ∧ Upd [] w w') := by
  have HAW : Hid (∀ W, Upd [] w W → Calls Tryd.prog 8 #[] W (fun e w' => e = .returned (.bool true) ∧ Upd [] W w')) := fun W h => awake6 W (ht.upd0 h)
  obtain ⟨P1, hP1⟩ : ∃ P, P = wval (L0.take 5) := ⟨_, rfl⟩
  have hb1 := few_bounds L0 5 hw0
  rw [← hP1] at hb1
  have hz1 : (digs (zP b0 P1)).length ≤ 25 ∧ (digs (zM b0 P1)).length ≤ 25 := by
    unfold zP zM
    cases b0 <;> simp [digs_zero] <;> omega
  have hn1 : ((zP b0 P1 : Int) - zM b0 P1).natAbs = P1 := by
    unfold zP zM
    cases b0 <;> simp
  have HB1 : Hid (∀ W, Upd [] w W → Calls Tryd.prog 9 #[.agg #[.slice a0 l0 c0, .bool b0]] W (RBoth6 b0 P1 W)) := fun W h => by rw [hP1]; exact both6_any _ _ _ _ b0 W (hs0.upd0 h) hw0
  unfold RBoth6 at HB1
  generalize zP b0 P1 = p1 at *
  generalize zM b0 P1 = m1 at *
  obtain ⟨x, hx⟩ : ∃ r : Int, r = (p1 : Int) - m1 := ⟨_, rfl⟩
  rw [← hx] at HB1 hn1
  have lx : (wds x.natAbs).length ≤ 5 := by rw [hn1]; exact hb1.1
  obtain ⟨P2, hP2⟩ : ∃ P, P = wval (L1.take 5) := ⟨_, rfl⟩
  have hb2 := few_bounds L1 5 hw1
  rw [← hP2] at hb2
  have hz2 : (digs (zP b1 P2)).length ≤ 25 ∧ (digs (zM b1 P2)).length ≤ 25 := by
    unfold zP zM
    cases b1 <;> simp [digs_zero] <;> omega
  have hn2 : ((zP b1 P2 : Int) - zM b1 P2).natAbs = P2 := by
    unfold zP zM
    cases b1 <;> simp
  have HB2 : Hid (∀ W, Upd [] w W → Calls Tryd.prog 9 #[.agg #[.slice a1 l1 c1, .bool b1]] W (RBoth6 b1 P2 W)) := fun W h => by rw [hP2]; exact both6_any _ _ _ _ b1 W (hs1.upd0 h) hw1
  unfold RBoth6 at HB2
  generalize zP b1 P2 = p2 at *
  generalize zM b1 P2 = m2 at *
  obtain ⟨y, hy⟩ : ∃ r : Int, r = (p2 : Int) - m2 := ⟨_, rfl⟩
  rw [← hy] at HB2 hn2
  have ly : (wds y.natAbs).length ≤ 5 := by rw [hn2]; exact hb2.1
  obtain ⟨P3, hP3⟩ : ∃ P, P = wval (L2.take 5) := ⟨_, rfl⟩
  have hb3 := few_bounds L2 5 hw2
  rw [← hP3] at hb3
  have hz3 : (digs (zP b2 P3)).length ≤ 25 ∧ (digs (zM b2 P3)).length ≤ 25 := by
    unfold zP zM
    cases b2 <;> simp [digs_zero] <;> omega
  have hn3 : ((zP b2 P3 : Int) - zM b2 P3).natAbs = P3 := by
    unfold zP zM
    cases b2 <;> simp
  have HB3 : Hid (∀ W, Upd [] w W → Calls Tryd.prog 9 #[.agg #[.slice a2 l2 c2, .bool b2]] W (RBoth6 b2 P3 W)) := fun W h => by rw [hP3]; exact both6_any _ _ _ _ b2 W (hs2.upd0 h) hw2
  unfold RBoth6 at HB3
  generalize zP b2 P3 = p3 at *
  generalize zM b2 P3 = m3 at *
  obtain ⟨z, hz⟩ : ∃ r : Int, r = (p3 : Int) - m3 := ⟨_, rfl⟩
  rw [← hz] at HB3 hn3
  have lz : (wds z.natAbs).length ≤ 5 := by rw [hn3]; exact hb3.1
  have lxy : (wds (x + y).natAbs).length ≤ 11 := wlen_add lx ly (by decide)
  have lyz : (wds (y + z).natAbs).length ≤ 11 := wlen_add ly lz (by decide)
  have lsx : (wds (x - y).natAbs).length ≤ 11 := wlen_sub lx ly (by decide)
  have lxz : (wds (x * z).natAbs).length ≤ 10 := wlen_mul lx lz (by decide)
  have lmy : (wds (y * z).natAbs).length ≤ 10 := wlen_mul ly lz (by decide)
  have lsz : (wds ((x - y) * z).natAbs).length ≤ 16 := wlen_mul lsx lz (by decide)
  have l3 : (wds (x + (y + z)).natAbs).length ≤ 17 := wlen_add lx lyz (by decide)
  have lnx : (wds (-x).natAbs).length ≤ 5 := by rw [Int.natAbs_neg]; exact lx
  have HAxy : Hid (∀ W s t, WV W s x → WV W t y → Calls Tryd.prog 11 #[s, t] W (RWhole (x + y) W)) := fun W s t hs ht => wadd_any _ _ _ _ W hs ht (by omega) (by omega)
  have HSy : Hid (∀ W s t, WV W s (x + y) → WV W t y → Calls Tryd.prog 13 #[s, t] W (RWhole x W)) := fun W s t hs ht => by have := wsub_any _ _ _ _ W hs ht (by omega) (by omega); rw [Int.add_sub_cancel] at this; exact this
  have HMI : Hid (∀ W s, WV W s x → Calls Tryd.prog 17 #[s] W (RWhole (-x) W)) := fun W s hs => wminus_any _ _ W hs
  have HA0 : Hid (∀ W s t, WV W s x → WV W t (-x) → Calls Tryd.prog 11 #[s, t] W (RWhole 0 W)) := fun W s t hs ht => by have := wadd_any _ _ _ _ W hs ht (by omega) (by omega); rw [Int.add_right_neg] at this; exact this
  obtain ⟨z0, hz0'⟩ : ∃ z : Int, z = 0 := ⟨_, rfl⟩
  have HO : Hid (∀ W, Calls Tryd.prog 28 #[.int .i64 0] W (RWhole z0 W)) := fun W => by rw [hz0']; exact whole_of 0 W (by decide) (by decide)
  have HSxy : Hid (∀ W s t, WV W s x → WV W t y → Calls Tryd.prog 13 #[s, t] W (RWhole (x - y) W)) := fun W s t hs ht => wsub_any _ _ _ _ W hs ht (by omega) (by omega)
  have HMs : Hid (∀ W s t, WV W s (x - y) → WV W t z → Calls Tryd.prog 15 #[s, t] W (RWhole ((x - y) * z) W)) := fun W s t hs ht => wmul_any _ _ _ _ W hs ht (by omega) (by omega)
  have HMxz : Hid (∀ W s t, WV W s x → WV W t z → Calls Tryd.prog 15 #[s, t] W (RWhole (x * z) W)) := fun W s t hs ht => wmul_any _ _ _ _ W hs ht (by omega) (by omega)
  have HMyz : Hid (∀ W s t, WV W s y → WV W t z → Calls Tryd.prog 15 #[s, t] W (RWhole (y * z) W)) := fun W s t hs ht => wmul_any _ _ _ _ W hs ht (by omega) (by omega)
  have HSm : Hid (∀ W s t, WV W s (x * z) → WV W t (y * z) → Calls Tryd.prog 13 #[s, t] W (RWhole ((x - y) * z) W)) := fun W s t hs ht => by have := wsub_any _ _ _ _ W hs ht (by omega) (by omega); rw [← Int.sub_mul] at this; exact this
  have HAyz : Hid (∀ W s t, WV W s y → WV W t z → Calls Tryd.prog 11 #[s, t] W (RWhole (y + z) W)) := fun W s t hs ht => wadd_any _ _ _ _ W hs ht (by omega) (by omega)
  have HA3 : Hid (∀ W s t, WV W s x → WV W t (y + z) → Calls Tryd.prog 11 #[s, t] W (RWhole (x + (y + z)) W)) := fun W s t hs ht => wadd_any _ _ _ _ W hs ht (by omega) (by omega)
  have HA4 : Hid (∀ W s t, WV W s (x + y) → WV W t z → Calls Tryd.prog 11 #[s, t] W (RWhole (x + (y + z)) W)) := fun W s t hs ht => by have := wadd_any _ _ _ _ W hs ht (by omega) (by omega); rw [Int.add_assoc] at this; exact this
  have HCxy : Hid (∀ W s t, WV W s x → WV W t y → Calls Tryd.prog 18 #[s, t] W (fun e w' => e = .returned (.int .i64 (cmpZ x y)) ∧ Upd [] W w')) := fun W s t hs ht => wcmp_any _ _ _ _ W hs ht (by omega) (by omega)
  have HCyx : Hid (∀ W s t, WV W s y → WV W t x → Calls Tryd.prog 18 #[s, t] W (fun e w' => e = .returned (.int .i64 (cmpZ y x)) ∧ Upd [] W w')) := fun W s t hs ht => wcmp_any _ _ _ _ W hs ht (by omega) (by omega)
  have HCs : Hid (∀ W s t, WV W s (x - y) → WV W t 0 → Calls Tryd.prog 18 #[s, t] W (fun e w' => e = .returned (.int .i64 (cmpZ x y)) ∧ Upd [] W w')) := fun W s t hs ht => by have := wcmp_any _ _ _ _ W hs ht (by omega) (by decide +kernel); rw [cmpZ_sub] at this; exact this
  have HE1 : Hid (∀ W s t, WV W s (x) → WV W t (x) → Calls Tryd.prog 27 #[s, t] W (fun e w' => e = .returned (.bool true) ∧ Upd [] W w')) := fun W s t hs ht' => wsame_any _ _ _ W hs ht' (by omega)
  have HE0 : Hid (∀ W s t, WV W s 0 → WV W t 0 → Calls Tryd.prog 27 #[s, t] W (fun e w' => e = .returned (.bool true) ∧ Upd [] W w')) := fun W s t hs ht' => wsame_any _ _ _ W hs ht' (by decide +kernel)
  have HE2 : Hid (∀ W s t, WV W s ((x - y) * z) → WV W t ((x - y) * z) → Calls Tryd.prog 27 #[s, t] W (fun e w' => e = .returned (.bool true) ∧ Upd [] W w')) := fun W s t hs ht' => wsame_any _ _ _ W hs ht' (by omega)
  have HE3 : Hid (∀ W s t, WV W s (x + (y + z)) → WV W t (x + (y + z)) → Calls Tryd.prog 27 #[s, t] W (fun e w' => e = .returned (.bool true) ∧ Upd [] W w')) := fun W s t hs ht' => wsame_any _ _ _ W hs ht' (by omega)
  have hcn : wrap64 (-cmpZ y x) = cmpZ x y := cmpZ_neg x y
  have hcn2 : IntKind.i64.wrap (-cmpZ y x) = cmpZ x y := cmpZ_neg2 x y
  have hcn3 : (cmpZ x y == wrap64 (-cmpZ y x)) = true := by rw [hcn]; simp
  have hcn4 : (cmpZ x y == IntKind.i64.wrap (-cmpZ y x)) = true := by rw [hcn2]; simp
  have hcc : (cmpZ x y == cmpZ x y) = true := by simp
  have hz0s := hz0'.symm
  rw [← hz0'] at HA0 HCs HE0
  clear ht hs0 hw0 hs1 hw1 hs2 hw2 hP1 hb1 hz1 hn1 hx lx hP2 hb2 hz2 hn2 hy ly hP3 hb3 hz3 hn3 hz lz lxy lyz lsx lxz lmy lsz l3 lnx hz0' hz0s
  generalize cmpZ x y = cc at *
  generalize cmpZ y x = cd at *
  generalize (x - y) * z = sz at *
  generalize x - y = sx at *
  generalize x + (y + z) = x3 at *
  generalize x + y = xy at *
  generalize y + z = yz at *
  generalize x * z = xz at *
  generalize y * z = my at *
  generalize -x = xn at *
  obtain ⟨w0, hw0⟩ : ∃ W, W = (((w.alloc (.cells #[.slice a0 l0 c0, .bool b0] 24)).alloc (.cells #[.slice a1 l1 c1, .bool b1] 24)).alloc (.cells #[.slice a2 l2 c2, .bool b2] 24)) := ⟨_, rfl⟩
  obtain ⟨S, hS⟩ : ∃ s, s = w.heap.size := ⟨_, rfl⟩
  obtain ⟨hu0, r0, r1, r2, hz0⟩ := rows3 w #[.slice a0 l0 c0, .bool b0] #[.slice a1 l1 c1, .bool b1] #[.slice a2 l2 c2, .bool b2] 24 24 24 w0 hw0 S hS
  have HU0 := Lib.hid hu0
  have HW0 := Lib.hid hw0
  have HS := Lib.hid hS
  have HZ0 := Lib.hid hz0
  have HR0 := Lib.hid r0
  have HR1 := Lib.hid r1
  have HR2 := Lib.hid r2
  clear hw0 hS hu0 r0 r1 r2 hz0
  go_enter Tryd.func6, Tryd.ntmps6
  go_wp2_with fail
  rw [← HW0.out]
  rw [← HS.out]
  refine (HAW.out _ HU0.out).mono ?_
  rintro e w1 ⟨rfl, hu1⟩
  have HVw1 := Lib.hid hu1
  have s0 := (HR0.out.upd0 hu1).cell 0
  have s1 := (HR0.out.upd0 hu1).cell 1
  clear hu1
  go_wp2_with fail
  refine (HB1.out _ (HU0.out.trans0 HVw1.out)).mono ?_
  rintro e wa1 ⟨va1, vb1, rfl, hva1, hvb1, hua1⟩
  obtain ⟨aR1, lR1, cR1, rfl, _⟩ := hva1.open
  obtain ⟨aQ1, lQ1, cQ1, dQ1, mQ1, eQ1, rfl, _, _⟩ := hvb1.open
  generalize decide (x < 0) = bR1 at *
  obtain ⟨w3, hw3⟩ : ∃ W, W = (wa1.alloc (.cells #[.bool bR1, .slice aR1 lR1 cR1] 29)).alloc (.cells #[.slice aQ1 lQ1 cQ1, .slice dQ1 mQ1 eQ1] 33) := ⟨_, rfl⟩
  obtain ⟨K1, hK1⟩ : ∃ s, s = wa1.heap.size := ⟨_, rfl⟩
  obtain ⟨hul1, rR1, rQ1, _⟩ := rows2 wa1 #[.bool bR1, .slice aR1 lR1 cR1] #[.slice aQ1 lQ1 cQ1, .slice dQ1 mQ1 eQ1] 29 33 w3 hw3 K1 hK1
  have HL1 := Lib.hid (hua1.trans0 hul1)
  have HVw3 := Lib.hid (HVw1.out.trans0 HL1.out)
  have HX1 := Lib.hid (hva1.upd0 hul1)
  have HY1 := Lib.hid (hvb1.upd0 hul1)
  have HRR1 := Lib.hid rR1
  have HRQ1 := Lib.hid rQ1
  have t0 := (HR1.out.upd0 HVw3.out).cell 0
  have t1 := (HR1.out.upd0 HVw3.out).cell 1
  rw [hw3] at t0 t1
  have HWw3 := Lib.hid hw3
  have HKK1 := Lib.hid hK1
  clear hva1 hvb1 hua1 hul1 rR1 rQ1 hw3 hK1 s0 s1
  go_wp2_with fail
  rw [← HWw3.out, ← HKK1.out]
  rw [← HWw3.out] at t0 t1
  have s0 := t0
  have s1 := t1
  clear t0 t1
  refine (HB2.out _ (HU0.out.trans0 HVw3.out)).mono ?_
  rintro e wa2 ⟨va2, vb2, rfl, hva2, hvb2, hua2⟩
  obtain ⟨aR2, lR2, cR2, rfl, _⟩ := hva2.open
  obtain ⟨aQ2, lQ2, cQ2, dQ2, mQ2, eQ2, rfl, _, _⟩ := hvb2.open
  generalize decide (y < 0) = bR2 at *
  obtain ⟨w5, hw5⟩ : ∃ W, W = (wa2.alloc (.cells #[.bool bR2, .slice aR2 lR2 cR2] 29)).alloc (.cells #[.slice aQ2 lQ2 cQ2, .slice dQ2 mQ2 eQ2] 33) := ⟨_, rfl⟩
  obtain ⟨K2, hK2⟩ : ∃ s, s = wa2.heap.size := ⟨_, rfl⟩
  obtain ⟨hul2, rR2, rQ2, _⟩ := rows2 wa2 #[.bool bR2, .slice aR2 lR2 cR2] #[.slice aQ2 lQ2 cQ2, .slice dQ2 mQ2 eQ2] 29 33 w5 hw5 K2 hK2
  have HL2 := Lib.hid (hua2.trans0 hul2)
  have HVw5 := Lib.hid (HVw3.out.trans0 HL2.out)
  have HX2 := Lib.hid (hva2.upd0 hul2)
  have HY2 := Lib.hid (hvb2.upd0 hul2)
  have HRR2 := Lib.hid rR2
  have HRQ2 := Lib.hid rQ2
  have t0 := (HR2.out.upd0 HVw5.out).cell 0
  have t1 := (HR2.out.upd0 HVw5.out).cell 1
  rw [hw5] at t0 t1
  have HWw5 := Lib.hid hw5
  have HKK2 := Lib.hid hK2
  clear hva2 hvb2 hua2 hul2 rR2 rQ2 hw5 hK2 s0 s1
  go_wp2_with fail
  rw [← HWw5.out, ← HKK2.out]
  rw [← HWw5.out] at t0 t1
  have s0 := t0
  have s1 := t1
  clear t0 t1
  refine (HB3.out _ (HU0.out.trans0 HVw5.out)).mono ?_
  rintro e wa3 ⟨va3, vb3, rfl, hva3, hvb3, hua3⟩
  obtain ⟨aR3, lR3, cR3, rfl, _⟩ := hva3.open
  obtain ⟨aQ3, lQ3, cQ3, dQ3, mQ3, eQ3, rfl, _, _⟩ := hvb3.open
  generalize decide (z < 0) = bR3 at *
  obtain ⟨w7, hw7⟩ : ∃ W, W = (wa3.alloc (.cells #[.bool bR3, .slice aR3 lR3 cR3] 29)).alloc (.cells #[.slice aQ3 lQ3 cQ3, .slice dQ3 mQ3 eQ3] 33) := ⟨_, rfl⟩
  obtain ⟨K3, hK3⟩ : ∃ s, s = wa3.heap.size := ⟨_, rfl⟩
  obtain ⟨hul3, rR3, rQ3, _⟩ := rows2 wa3 #[.bool bR3, .slice aR3 lR3 cR3] #[.slice aQ3 lQ3 cQ3, .slice dQ3 mQ3 eQ3] 29 33 w7 hw7 K3 hK3
  have HL3 := Lib.hid (hua3.trans0 hul3)
  have HVw7 := Lib.hid (HVw5.out.trans0 HL3.out)
  have HX3 := Lib.hid (hva3.upd0 hul3)
  have HY3 := Lib.hid (hvb3.upd0 hul3)
  have HRR3 := Lib.hid rR3
  have HRQ3 := Lib.hid rQ3
  have HXa1 := Lib.hid ((HX1.out.upd0 (HL2.out.trans0 HL3.out)))
  have HYa1 := Lib.hid ((HY1.out.upd0 (HL2.out.trans0 HL3.out)))
  have HRa1 := Lib.hid ((HRR1.out.upd0 (HL2.out.trans0 HL3.out)))
  have HRb1 := Lib.hid ((HRQ1.out.upd0 (HL2.out.trans0 HL3.out)))
  have HXa2 := Lib.hid ((HX2.out.upd0 HL3.out))
  have HYa2 := Lib.hid ((HY2.out.upd0 HL3.out))
  have HRa2 := Lib.hid ((HRR2.out.upd0 HL3.out))
  have HRb2 := Lib.hid ((HRQ2.out.upd0 HL3.out))
  have HXa3 := Lib.hid (HX3.out)
  have HYa3 := Lib.hid (HY3.out)
  have HRa3 := Lib.hid (HRR3.out)
  have HRb3 := Lib.hid (HRQ3.out)
  have HWw7 := Lib.hid hw7
  have HKK3 := Lib.hid hK3
  clear hva3 hvb3 hua3 hul3 rR3 rQ3 hw7 hK3 s0 s1
  have hrf : Upd [] w7 w7 := Upd.refl _ _
  have hen : ∀ args W, (callFunc 27 args).run Tryd.prog W = .ok (.enter 27 args) W := enters_of Tryd.func27 (by kernel_rfl) rfl
  have HC : Hid (∀ W, Upd [] w7 W → W.cell? ⟨K1, 0, none⟩ = some (.bool bR1) ∧ W.cell? ⟨K1, 1, none⟩ = some (.slice aR1 lR1 cR1) ∧ W.cell? ⟨K2, 0, none⟩ = some (.bool bR2) ∧ W.cell? ⟨K2, 1, none⟩ = some (.slice aR2 lR2 cR2) ∧ W.cell? ⟨K3, 0, none⟩ = some (.bool bR3) ∧ W.cell? ⟨K3, 1, none⟩ = some (.slice aR3 lR3 cR3) ∧ Upd [] w7 W) := fun W h =>
    ⟨(HRa1.out.upd h (by simp <;> omega)).cell 0, (HRa1.out.upd h (by simp <;> omega)).cell 1, (HRa2.out.upd h (by simp <;> omega)).cell 0, (HRa2.out.upd h (by simp <;> omega)).cell 1, (HRa3.out.upd h (by simp <;> omega)).cell 0, (HRa3.out.upd h (by simp <;> omega)).cell 1, h⟩
  go_wp2_with fail
  rw [← HWw7.out, ← HKK3.out]
  dsimp only [List.append]
  go_region_held3 (fun W => W.cell? ⟨K1, 0, none⟩ = some (.bool bR1) ∧ W.cell? ⟨K1, 1, none⟩ = some (.slice aR1 lR1 cR1) ∧ W.cell? ⟨K2, 0, none⟩ = some (.bool bR2) ∧ W.cell? ⟨K2, 1, none⟩ = some (.slice aR2 lR2 cR2) ∧ W.cell? ⟨K3, 0, none⟩ = some (.bool bR3) ∧ W.cell? ⟨K3, 1, none⟩ = some (.slice aR3 lR3 cR3) ∧ Upd [] w7 W)
    ((refine HC.out _ ?_; repeat (first | (with_reducible exact huy) | (with_reducible exact hrf) | (with_reducible apply Upd.drew))))
    (first
      | (go_at_call 11; (fail_if_success (have hh := HVA)); (with_reducible refine (HAxy.out _ _ _ (HXa1.out.upd0 (by repeat (first | exact huy | exact hrf | apply Upd.drew | apply Upd.alloc))) (HXa2.out.upd0 (by repeat (first | exact huy | exact hrf | apply Upd.drew | apply Upd.alloc)))).mono ?_); rintro e wz ⟨vA, rfl, hvA, hu20⟩;  have HVA := Lib.hid hvA; clear hvA; have huz : Upd [] w7 wz := Upd.trans0 (by repeat (first | exact huy | exact hrf | apply Upd.drew | apply Upd.alloc)) hu20; (try clear huy); clear hu20; have huy := huz; clear huz)
      | (go_at_call 13; (with_reducible refine (HSy.out _ _ _ (by first | exact HVA.out | exact WV.upd0 HVA.out ((Upd.refl _ _).alloc _)) (HXa2.out.upd0 (by repeat (first | exact huy | exact hrf | apply Upd.drew | apply Upd.alloc)))).mono ?_); rintro e wz ⟨vB, rfl, hvB, hu20⟩; have HVA := Lib.hid (HVA.out.upd0 (by first | exact hu20 | exact Upd.al hu20)); have HVB := Lib.hid hvB; clear hvB; have huz : Upd [] w7 wz := Upd.trans0 (by repeat (first | exact huy | exact hrf | apply Upd.drew | apply Upd.alloc)) hu20; (try clear huy); clear hu20; have huy := huz; clear huz)
      | (go_at_call 27; (with_reducible refine (HE1.out _ _ _ (by first | exact HVB.out | exact WV.upd0 HVB.out ((Upd.refl _ _).alloc _)) (HXa1.out.upd0 (by repeat (first | exact huy | exact hrf | apply Upd.drew | apply Upd.alloc)))).mono ?_); rintro e wz ⟨rfl, hu20⟩; have HVA := Lib.hid (HVA.out.upd0 (by first | exact hu20 | exact Upd.al hu20)); have HVB := Lib.hid (HVB.out.upd0 (by first | exact hu20 | exact Upd.al hu20));  have huz : Upd [] w7 wz := Upd.trans0 (by repeat (first | exact huy | exact hrf | apply Upd.drew | apply Upd.alloc)) hu20; (try clear huy); clear hu20; have huy := huz; clear huz)
      | (go_at_call 17; (with_reducible refine (HMI.out _ _ (HXa1.out.upd0 (by repeat (first | exact huy | exact hrf | apply Upd.drew | apply Upd.alloc)))).mono ?_); rintro e wz ⟨vC, rfl, hvC, hu20⟩; have HVA := Lib.hid (HVA.out.upd0 (by first | exact hu20 | exact Upd.al hu20)); have HVB := Lib.hid (HVB.out.upd0 (by first | exact hu20 | exact Upd.al hu20)); have HVC := Lib.hid hvC; clear hvC; have huz : Upd [] w7 wz := Upd.trans0 (by repeat (first | exact huy | exact hrf | apply Upd.drew | apply Upd.alloc)) hu20; (try clear huy); clear hu20; have huy := huz; clear huz)
      | (go_at_call 11; (with_reducible refine (HA0.out _ _ _ (HXa1.out.upd0 (by repeat (first | exact huy | exact hrf | apply Upd.drew | apply Upd.alloc))) (by first | exact HVC.out | exact WV.upd0 HVC.out ((Upd.refl _ _).alloc _))).mono ?_); rintro e wz ⟨vD, rfl, hvD, hu20⟩; have HVA := Lib.hid (HVA.out.upd0 (by first | exact hu20 | exact Upd.al hu20)); have HVB := Lib.hid (HVB.out.upd0 (by first | exact hu20 | exact Upd.al hu20)); have HVC := Lib.hid (HVC.out.upd0 (by first | exact hu20 | exact Upd.al hu20)); have HVD := Lib.hid hvD; clear hvD; have huz : Upd [] w7 wz := Upd.trans0 (by repeat (first | exact huy | exact hrf | apply Upd.drew | apply Upd.alloc)) hu20; (try clear huy); clear hu20; have huy := huz; clear huz)
      | (go_at_call 28; (fail_if_success (have hh := HVE)); (with_reducible refine (HO.out _).mono ?_); rintro e wz ⟨vE, rfl, hvE, hu20⟩; have HVA := Lib.hid (HVA.out.upd0 (by first | exact hu20 | exact Upd.al hu20)); have HVB := Lib.hid (HVB.out.upd0 (by first | exact hu20 | exact Upd.al hu20)); have HVC := Lib.hid (HVC.out.upd0 (by first | exact hu20 | exact Upd.al hu20)); have HVD := Lib.hid (HVD.out.upd0 (by first | exact hu20 | exact Upd.al hu20)); have HVE := Lib.hid hvE; clear hvE; have huz : Upd [] w7 wz := Upd.trans0 (by repeat (first | exact huy | exact hrf | apply Upd.drew | apply Upd.alloc)) hu20; (try clear huy); clear hu20; have huy := huz; clear huz)
      | (go_at_call 27; (with_reducible refine (HE0.out _ _ _ (by first | exact HVD.out | exact WV.upd0 HVD.out ((Upd.refl _ _).alloc _)) (by first | exact HVE.out | exact WV.upd0 HVE.out ((Upd.refl _ _).alloc _))).mono ?_); rintro e wz ⟨rfl, hu20⟩; have HVA := Lib.hid (HVA.out.upd0 (by first | exact hu20 | exact Upd.al hu20)); have HVB := Lib.hid (HVB.out.upd0 (by first | exact hu20 | exact Upd.al hu20)); have HVC := Lib.hid (HVC.out.upd0 (by first | exact hu20 | exact Upd.al hu20)); have HVD := Lib.hid (HVD.out.upd0 (by first | exact hu20 | exact Upd.al hu20)); have HVE := Lib.hid (HVE.out.upd0 (by first | exact hu20 | exact Upd.al hu20));  have huz : Upd [] w7 wz := Upd.trans0 (by repeat (first | exact huy | exact hrf | apply Upd.drew | apply Upd.alloc)) hu20; (try clear huy); clear hu20; have huy := huz; clear huz)
      | (go_at_call 13; (fail_if_success (have hh := HVF)); (with_reducible refine (HSxy.out _ _ _ (HXa1.out.upd0 (by repeat (first | exact huy | exact hrf | apply Upd.drew | apply Upd.alloc))) (HXa2.out.upd0 (by repeat (first | exact huy | exact hrf | apply Upd.drew | apply Upd.alloc)))).mono ?_); rintro e wz ⟨vF, rfl, hvF, hu20⟩; have HVA := Lib.hid (HVA.out.upd0 (by first | exact hu20 | exact Upd.al hu20)); have HVB := Lib.hid (HVB.out.upd0 (by first | exact hu20 | exact Upd.al hu20)); have HVC := Lib.hid (HVC.out.upd0 (by first | exact hu20 | exact Upd.al hu20)); have HVD := Lib.hid (HVD.out.upd0 (by first | exact hu20 | exact Upd.al hu20)); have HVE := Lib.hid (HVE.out.upd0 (by first | exact hu20 | exact Upd.al hu20)); have HVF := Lib.hid hvF; clear hvF; have huz : Upd [] w7 wz := Upd.trans0 (by repeat (first | exact huy | exact hrf | apply Upd.drew | apply Upd.alloc)) hu20; (try clear huy); clear hu20; have huy := huz; clear huz)
      | (go_at_call 15; (with_reducible refine (HMs.out _ _ _ (by first | exact HVF.out | exact WV.upd0 HVF.out ((Upd.refl _ _).alloc _)) (HXa3.out.upd0 (by repeat (first | exact huy | exact hrf | apply Upd.drew | apply Upd.alloc)))).mono ?_); rintro e wz ⟨vG, rfl, hvG, hu20⟩; have HVA := Lib.hid (HVA.out.upd0 (by first | exact hu20 | exact Upd.al hu20)); have HVB := Lib.hid (HVB.out.upd0 (by first | exact hu20 | exact Upd.al hu20)); have HVC := Lib.hid (HVC.out.upd0 (by first | exact hu20 | exact Upd.al hu20)); have HVD := Lib.hid (HVD.out.upd0 (by first | exact hu20 | exact Upd.al hu20)); have HVE := Lib.hid (HVE.out.upd0 (by first | exact hu20 | exact Upd.al hu20)); have HVF := Lib.hid (HVF.out.upd0 (by first | exact hu20 | exact Upd.al hu20)); have HVG := Lib.hid hvG; clear hvG; have huz : Upd [] w7 wz := Upd.trans0 (by repeat (first | exact huy | exact hrf | apply Upd.drew | apply Upd.alloc)) hu20; (try clear huy); clear hu20; have huy := huz; clear huz)
      | (go_at_call 15; (with_reducible refine (HMxz.out _ _ _ (HXa1.out.upd0 (by repeat (first | exact huy | exact hrf | apply Upd.drew | apply Upd.alloc))) (HXa3.out.upd0 (by repeat (first | exact huy | exact hrf | apply Upd.drew | apply Upd.alloc)))).mono ?_); rintro e wz ⟨vH, rfl, hvH, hu20⟩; have HVA := Lib.hid (HVA.out.upd0 (by first | exact hu20 | exact Upd.al hu20)); have HVB := Lib.hid (HVB.out.upd0 (by first | exact hu20 | exact Upd.al hu20)); have HVC := Lib.hid (HVC.out.upd0 (by first | exact hu20 | exact Upd.al hu20)); have HVD := Lib.hid (HVD.out.upd0 (by first | exact hu20 | exact Upd.al hu20)); have HVE := Lib.hid (HVE.out.upd0 (by first | exact hu20 | exact Upd.al hu20)); have HVF := Lib.hid (HVF.out.upd0 (by first | exact hu20 | exact Upd.al hu20)); have HVG := Lib.hid (HVG.out.upd0 (by first | exact hu20 | exact Upd.al hu20)); have HVH := Lib.hid hvH; clear hvH; have huz : Upd [] w7 wz := Upd.trans0 (by repeat (first | exact huy | exact hrf | apply Upd.drew | apply Upd.alloc)) hu20; (try clear huy); clear hu20; have huy := huz; clear huz)
      | (go_at_call 15; (with_reducible refine (HMyz.out _ _ _ (HXa2.out.upd0 (by repeat (first | exact huy | exact hrf | apply Upd.drew | apply Upd.alloc))) (HXa3.out.upd0 (by repeat (first | exact huy | exact hrf | apply Upd.drew | apply Upd.alloc)))).mono ?_); rintro e wz ⟨vI, rfl, hvI, hu20⟩; have HVA := Lib.hid (HVA.out.upd0 (by first | exact hu20 | exact Upd.al hu20)); have HVB := Lib.hid (HVB.out.upd0 (by first | exact hu20 | exact Upd.al hu20)); have HVC := Lib.hid (HVC.out.upd0 (by first | exact hu20 | exact Upd.al hu20)); have HVD := Lib.hid (HVD.out.upd0 (by first | exact hu20 | exact Upd.al hu20)); have HVE := Lib.hid (HVE.out.upd0 (by first | exact hu20 | exact Upd.al hu20)); have HVF := Lib.hid (HVF.out.upd0 (by first | exact hu20 | exact Upd.al hu20)); have HVG := Lib.hid (HVG.out.upd0 (by first | exact hu20 | exact Upd.al hu20)); have HVH := Lib.hid (HVH.out.upd0 (by first | exact hu20 | exact Upd.al hu20)); have HVI := Lib.hid hvI; clear hvI; have huz : Upd [] w7 wz := Upd.trans0 (by repeat (first | exact huy | exact hrf | apply Upd.drew | apply Upd.alloc)) hu20; (try clear huy); clear hu20; have huy := huz; clear huz)
      | (go_at_call 13; (with_reducible refine (HSm.out _ _ _ (by first | exact HVH.out | exact WV.upd0 HVH.out ((Upd.refl _ _).alloc _)) (by first | exact HVI.out | exact WV.upd0 HVI.out ((Upd.refl _ _).alloc _))).mono ?_); rintro e wz ⟨vJ, rfl, hvJ, hu20⟩; have HVA := Lib.hid (HVA.out.upd0 (by first | exact hu20 | exact Upd.al hu20)); have HVB := Lib.hid (HVB.out.upd0 (by first | exact hu20 | exact Upd.al hu20)); have HVC := Lib.hid (HVC.out.upd0 (by first | exact hu20 | exact Upd.al hu20)); have HVD := Lib.hid (HVD.out.upd0 (by first | exact hu20 | exact Upd.al hu20)); have HVE := Lib.hid (HVE.out.upd0 (by first | exact hu20 | exact Upd.al hu20)); have HVF := Lib.hid (HVF.out.upd0 (by first | exact hu20 | exact Upd.al hu20)); have HVG := Lib.hid (HVG.out.upd0 (by first | exact hu20 | exact Upd.al hu20)); have HVH := Lib.hid (HVH.out.upd0 (by first | exact hu20 | exact Upd.al hu20)); have HVI := Lib.hid (HVI.out.upd0 (by first | exact hu20 | exact Upd.al hu20)); have HVJ := Lib.hid hvJ; clear hvJ; have huz : Upd [] w7 wz := Upd.trans0 (by repeat (first | exact huy | exact hrf | apply Upd.drew | apply Upd.alloc)) hu20; (try clear huy); clear hu20; have huy := huz; clear huz)
      | (go_at_call 27; (with_reducible refine (HE2.out _ _ _ (by first | exact HVG.out | exact WV.upd0 HVG.out ((Upd.refl _ _).alloc _)) (by first | exact HVJ.out | exact WV.upd0 HVJ.out ((Upd.refl _ _).alloc _))).mono ?_); rintro e wz ⟨rfl, hu20⟩; have HVA := Lib.hid (HVA.out.upd0 (by first | exact hu20 | exact Upd.al hu20)); have HVB := Lib.hid (HVB.out.upd0 (by first | exact hu20 | exact Upd.al hu20)); have HVC := Lib.hid (HVC.out.upd0 (by first | exact hu20 | exact Upd.al hu20)); have HVD := Lib.hid (HVD.out.upd0 (by first | exact hu20 | exact Upd.al hu20)); have HVE := Lib.hid (HVE.out.upd0 (by first | exact hu20 | exact Upd.al hu20)); have HVF := Lib.hid (HVF.out.upd0 (by first | exact hu20 | exact Upd.al hu20)); have HVG := Lib.hid (HVG.out.upd0 (by first | exact hu20 | exact Upd.al hu20)); have HVH := Lib.hid (HVH.out.upd0 (by first | exact hu20 | exact Upd.al hu20)); have HVI := Lib.hid (HVI.out.upd0 (by first | exact hu20 | exact Upd.al hu20)); have HVJ := Lib.hid (HVJ.out.upd0 (by first | exact hu20 | exact Upd.al hu20));  have huz : Upd [] w7 wz := Upd.trans0 (by repeat (first | exact huy | exact hrf | apply Upd.drew | apply Upd.alloc)) hu20; (try clear huy); clear hu20; have huy := huz; clear huz)
      | (go_at_call 11; (with_reducible refine (HAyz.out _ _ _ (HXa2.out.upd0 (by repeat (first | exact huy | exact hrf | apply Upd.drew | apply Upd.alloc))) (HXa3.out.upd0 (by repeat (first | exact huy | exact hrf | apply Upd.drew | apply Upd.alloc)))).mono ?_); rintro e wz ⟨vK, rfl, hvK, hu20⟩; have HVA := Lib.hid (HVA.out.upd0 (by first | exact hu20 | exact Upd.al hu20)); have HVB := Lib.hid (HVB.out.upd0 (by first | exact hu20 | exact Upd.al hu20)); have HVC := Lib.hid (HVC.out.upd0 (by first | exact hu20 | exact Upd.al hu20)); have HVD := Lib.hid (HVD.out.upd0 (by first | exact hu20 | exact Upd.al hu20)); have HVE := Lib.hid (HVE.out.upd0 (by first | exact hu20 | exact Upd.al hu20)); have HVF := Lib.hid (HVF.out.upd0 (by first | exact hu20 | exact Upd.al hu20)); have HVG := Lib.hid (HVG.out.upd0 (by first | exact hu20 | exact Upd.al hu20)); have HVH := Lib.hid (HVH.out.upd0 (by first | exact hu20 | exact Upd.al hu20)); have HVI := Lib.hid (HVI.out.upd0 (by first | exact hu20 | exact Upd.al hu20)); have HVJ := Lib.hid (HVJ.out.upd0 (by first | exact hu20 | exact Upd.al hu20)); have HVK := Lib.hid hvK; clear hvK; have huz : Upd [] w7 wz := Upd.trans0 (by repeat (first | exact huy | exact hrf | apply Upd.drew | apply Upd.alloc)) hu20; (try clear huy); clear hu20; have huy := huz; clear huz)
      | (go_at_call 11; (with_reducible refine (HA3.out _ _ _ (HXa1.out.upd0 (by repeat (first | exact huy | exact hrf | apply Upd.drew | apply Upd.alloc))) (by first | exact HVK.out | exact WV.upd0 HVK.out ((Upd.refl _ _).alloc _))).mono ?_); rintro e wz ⟨vL, rfl, hvL, hu20⟩; have HVA := Lib.hid (HVA.out.upd0 (by first | exact hu20 | exact Upd.al hu20)); have HVB := Lib.hid (HVB.out.upd0 (by first | exact hu20 | exact Upd.al hu20)); have HVC := Lib.hid (HVC.out.upd0 (by first | exact hu20 | exact Upd.al hu20)); have HVD := Lib.hid (HVD.out.upd0 (by first | exact hu20 | exact Upd.al hu20)); have HVE := Lib.hid (HVE.out.upd0 (by first | exact hu20 | exact Upd.al hu20)); have HVF := Lib.hid (HVF.out.upd0 (by first | exact hu20 | exact Upd.al hu20)); have HVG := Lib.hid (HVG.out.upd0 (by first | exact hu20 | exact Upd.al hu20)); have HVH := Lib.hid (HVH.out.upd0 (by first | exact hu20 | exact Upd.al hu20)); have HVI := Lib.hid (HVI.out.upd0 (by first | exact hu20 | exact Upd.al hu20)); have HVJ := Lib.hid (HVJ.out.upd0 (by first | exact hu20 | exact Upd.al hu20)); have HVK := Lib.hid (HVK.out.upd0 (by first | exact hu20 | exact Upd.al hu20)); have HVL := Lib.hid hvL; clear hvL; have huz : Upd [] w7 wz := Upd.trans0 (by repeat (first | exact huy | exact hrf | apply Upd.drew | apply Upd.alloc)) hu20; (try clear huy); clear hu20; have huy := huz; clear huz)
      | (go_at_call 11; (with_reducible refine (HAxy.out _ _ _ (HXa1.out.upd0 (by repeat (first | exact huy | exact hrf | apply Upd.drew | apply Upd.alloc))) (HXa2.out.upd0 (by repeat (first | exact huy | exact hrf | apply Upd.drew | apply Upd.alloc)))).mono ?_); rintro e wz ⟨vM, rfl, hvM, hu20⟩; have HVA := Lib.hid (HVA.out.upd0 (by first | exact hu20 | exact Upd.al hu20)); have HVB := Lib.hid (HVB.out.upd0 (by first | exact hu20 | exact Upd.al hu20)); have HVC := Lib.hid (HVC.out.upd0 (by first | exact hu20 | exact Upd.al hu20)); have HVD := Lib.hid (HVD.out.upd0 (by first | exact hu20 | exact Upd.al hu20)); have HVE := Lib.hid (HVE.out.upd0 (by first | exact hu20 | exact Upd.al hu20)); have HVF := Lib.hid (HVF.out.upd0 (by first | exact hu20 | exact Upd.al hu20)); have HVG := Lib.hid (HVG.out.upd0 (by first | exact hu20 | exact Upd.al hu20)); have HVH := Lib.hid (HVH.out.upd0 (by first | exact hu20 | exact Upd.al hu20)); have HVI := Lib.hid (HVI.out.upd0 (by first | exact hu20 | exact Upd.al hu20)); have HVJ := Lib.hid (HVJ.out.upd0 (by first | exact hu20 | exact Upd.al hu20)); have HVK := Lib.hid (HVK.out.upd0 (by first | exact hu20 | exact Upd.al hu20)); have HVL := Lib.hid (HVL.out.upd0 (by first | exact hu20 | exact Upd.al hu20)); have HVM := Lib.hid hvM; clear hvM; have huz : Upd [] w7 wz := Upd.trans0 (by repeat (first | exact huy | exact hrf | apply Upd.drew | apply Upd.alloc)) hu20; (try clear huy); clear hu20; have huy := huz; clear huz)
      | (go_at_call 11; (with_reducible refine (HA4.out _ _ _ (by first | exact HVM.out | exact WV.upd0 HVM.out ((Upd.refl _ _).alloc _)) (HXa3.out.upd0 (by repeat (first | exact huy | exact hrf | apply Upd.drew | apply Upd.alloc)))).mono ?_); rintro e wz ⟨vN, rfl, hvN, hu20⟩; have HVA := Lib.hid (HVA.out.upd0 (by first | exact hu20 | exact Upd.al hu20)); have HVB := Lib.hid (HVB.out.upd0 (by first | exact hu20 | exact Upd.al hu20)); have HVC := Lib.hid (HVC.out.upd0 (by first | exact hu20 | exact Upd.al hu20)); have HVD := Lib.hid (HVD.out.upd0 (by first | exact hu20 | exact Upd.al hu20)); have HVE := Lib.hid (HVE.out.upd0 (by first | exact hu20 | exact Upd.al hu20)); have HVF := Lib.hid (HVF.out.upd0 (by first | exact hu20 | exact Upd.al hu20)); have HVG := Lib.hid (HVG.out.upd0 (by first | exact hu20 | exact Upd.al hu20)); have HVH := Lib.hid (HVH.out.upd0 (by first | exact hu20 | exact Upd.al hu20)); have HVI := Lib.hid (HVI.out.upd0 (by first | exact hu20 | exact Upd.al hu20)); have HVJ := Lib.hid (HVJ.out.upd0 (by first | exact hu20 | exact Upd.al hu20)); have HVK := Lib.hid (HVK.out.upd0 (by first | exact hu20 | exact Upd.al hu20)); have HVL := Lib.hid (HVL.out.upd0 (by first | exact hu20 | exact Upd.al hu20)); have HVM := Lib.hid (HVM.out.upd0 (by first | exact hu20 | exact Upd.al hu20)); have HVN := Lib.hid hvN; clear hvN; have huz : Upd [] w7 wz := Upd.trans0 (by repeat (first | exact huy | exact hrf | apply Upd.drew | apply Upd.alloc)) hu20; (try clear huy); clear hu20; have huy := huz; clear huz)
      | (go_at_call 27; (with_reducible refine (HE3.out _ _ _ (by first | exact HVL.out | exact WV.upd0 HVL.out ((Upd.refl _ _).alloc _)) (by first | exact HVN.out | exact WV.upd0 HVN.out ((Upd.refl _ _).alloc _))).mono ?_); rintro e wz ⟨rfl, hu20⟩; have HVA := Lib.hid (HVA.out.upd0 (by first | exact hu20 | exact Upd.al hu20)); have HVB := Lib.hid (HVB.out.upd0 (by first | exact hu20 | exact Upd.al hu20)); have HVC := Lib.hid (HVC.out.upd0 (by first | exact hu20 | exact Upd.al hu20)); have HVD := Lib.hid (HVD.out.upd0 (by first | exact hu20 | exact Upd.al hu20)); have HVE := Lib.hid (HVE.out.upd0 (by first | exact hu20 | exact Upd.al hu20)); have HVF := Lib.hid (HVF.out.upd0 (by first | exact hu20 | exact Upd.al hu20)); have HVG := Lib.hid (HVG.out.upd0 (by first | exact hu20 | exact Upd.al hu20)); have HVH := Lib.hid (HVH.out.upd0 (by first | exact hu20 | exact Upd.al hu20)); have HVI := Lib.hid (HVI.out.upd0 (by first | exact hu20 | exact Upd.al hu20)); have HVJ := Lib.hid (HVJ.out.upd0 (by first | exact hu20 | exact Upd.al hu20)); have HVK := Lib.hid (HVK.out.upd0 (by first | exact hu20 | exact Upd.al hu20)); have HVL := Lib.hid (HVL.out.upd0 (by first | exact hu20 | exact Upd.al hu20)); have HVM := Lib.hid (HVM.out.upd0 (by first | exact hu20 | exact Upd.al hu20)); have HVN := Lib.hid (HVN.out.upd0 (by first | exact hu20 | exact Upd.al hu20));  have huz : Upd [] w7 wz := Upd.trans0 (by repeat (first | exact huy | exact hrf | apply Upd.drew | apply Upd.alloc)) hu20; (try clear huy); clear hu20; have huy := huz; clear huz)
      | (go_at_call 18; (with_reducible refine (HCxy.out _ _ _ (HXa1.out.upd0 (by repeat (first | exact huy | exact hrf | apply Upd.drew | apply Upd.alloc))) (HXa2.out.upd0 (by repeat (first | exact huy | exact hrf | apply Upd.drew | apply Upd.alloc)))).mono ?_); rintro e wz ⟨rfl, hu20⟩; have HVA := Lib.hid (HVA.out.upd0 (by first | exact hu20 | exact Upd.al hu20)); have HVB := Lib.hid (HVB.out.upd0 (by first | exact hu20 | exact Upd.al hu20)); have HVC := Lib.hid (HVC.out.upd0 (by first | exact hu20 | exact Upd.al hu20)); have HVD := Lib.hid (HVD.out.upd0 (by first | exact hu20 | exact Upd.al hu20)); have HVE := Lib.hid (HVE.out.upd0 (by first | exact hu20 | exact Upd.al hu20)); have HVF := Lib.hid (HVF.out.upd0 (by first | exact hu20 | exact Upd.al hu20)); have HVG := Lib.hid (HVG.out.upd0 (by first | exact hu20 | exact Upd.al hu20)); have HVH := Lib.hid (HVH.out.upd0 (by first | exact hu20 | exact Upd.al hu20)); have HVI := Lib.hid (HVI.out.upd0 (by first | exact hu20 | exact Upd.al hu20)); have HVJ := Lib.hid (HVJ.out.upd0 (by first | exact hu20 | exact Upd.al hu20)); have HVK := Lib.hid (HVK.out.upd0 (by first | exact hu20 | exact Upd.al hu20)); have HVL := Lib.hid (HVL.out.upd0 (by first | exact hu20 | exact Upd.al hu20)); have HVM := Lib.hid (HVM.out.upd0 (by first | exact hu20 | exact Upd.al hu20)); have HVN := Lib.hid (HVN.out.upd0 (by first | exact hu20 | exact Upd.al hu20));  have huz : Upd [] w7 wz := Upd.trans0 (by repeat (first | exact huy | exact hrf | apply Upd.drew | apply Upd.alloc)) hu20; (try clear huy); clear hu20; have huy := huz; clear huz)
      | (go_at_call 18; (with_reducible refine (HCyx.out _ _ _ (HXa2.out.upd0 (by repeat (first | exact huy | exact hrf | apply Upd.drew | apply Upd.alloc))) (HXa1.out.upd0 (by repeat (first | exact huy | exact hrf | apply Upd.drew | apply Upd.alloc)))).mono ?_); rintro e wz ⟨rfl, hu20⟩; have HVA := Lib.hid (HVA.out.upd0 (by first | exact hu20 | exact Upd.al hu20)); have HVB := Lib.hid (HVB.out.upd0 (by first | exact hu20 | exact Upd.al hu20)); have HVC := Lib.hid (HVC.out.upd0 (by first | exact hu20 | exact Upd.al hu20)); have HVD := Lib.hid (HVD.out.upd0 (by first | exact hu20 | exact Upd.al hu20)); have HVE := Lib.hid (HVE.out.upd0 (by first | exact hu20 | exact Upd.al hu20)); have HVF := Lib.hid (HVF.out.upd0 (by first | exact hu20 | exact Upd.al hu20)); have HVG := Lib.hid (HVG.out.upd0 (by first | exact hu20 | exact Upd.al hu20)); have HVH := Lib.hid (HVH.out.upd0 (by first | exact hu20 | exact Upd.al hu20)); have HVI := Lib.hid (HVI.out.upd0 (by first | exact hu20 | exact Upd.al hu20)); have HVJ := Lib.hid (HVJ.out.upd0 (by first | exact hu20 | exact Upd.al hu20)); have HVK := Lib.hid (HVK.out.upd0 (by first | exact hu20 | exact Upd.al hu20)); have HVL := Lib.hid (HVL.out.upd0 (by first | exact hu20 | exact Upd.al hu20)); have HVM := Lib.hid (HVM.out.upd0 (by first | exact hu20 | exact Upd.al hu20)); have HVN := Lib.hid (HVN.out.upd0 (by first | exact hu20 | exact Upd.al hu20));  have huz : Upd [] w7 wz := Upd.trans0 (by repeat (first | exact huy | exact hrf | apply Upd.drew | apply Upd.alloc)) hu20; (try clear huy); clear hu20; have huy := huz; clear huz)
      | (go_at_call 13; (with_reducible refine (HSxy.out _ _ _ (HXa1.out.upd0 (by repeat (first | exact huy | exact hrf | apply Upd.drew | apply Upd.alloc))) (HXa2.out.upd0 (by repeat (first | exact huy | exact hrf | apply Upd.drew | apply Upd.alloc)))).mono ?_); rintro e wz ⟨vP, rfl, hvP, hu20⟩; have HVA := Lib.hid (HVA.out.upd0 (by first | exact hu20 | exact Upd.al hu20)); have HVB := Lib.hid (HVB.out.upd0 (by first | exact hu20 | exact Upd.al hu20)); have HVC := Lib.hid (HVC.out.upd0 (by first | exact hu20 | exact Upd.al hu20)); have HVD := Lib.hid (HVD.out.upd0 (by first | exact hu20 | exact Upd.al hu20)); have HVE := Lib.hid (HVE.out.upd0 (by first | exact hu20 | exact Upd.al hu20)); have HVF := Lib.hid (HVF.out.upd0 (by first | exact hu20 | exact Upd.al hu20)); have HVG := Lib.hid (HVG.out.upd0 (by first | exact hu20 | exact Upd.al hu20)); have HVH := Lib.hid (HVH.out.upd0 (by first | exact hu20 | exact Upd.al hu20)); have HVI := Lib.hid (HVI.out.upd0 (by first | exact hu20 | exact Upd.al hu20)); have HVJ := Lib.hid (HVJ.out.upd0 (by first | exact hu20 | exact Upd.al hu20)); have HVK := Lib.hid (HVK.out.upd0 (by first | exact hu20 | exact Upd.al hu20)); have HVL := Lib.hid (HVL.out.upd0 (by first | exact hu20 | exact Upd.al hu20)); have HVM := Lib.hid (HVM.out.upd0 (by first | exact hu20 | exact Upd.al hu20)); have HVN := Lib.hid (HVN.out.upd0 (by first | exact hu20 | exact Upd.al hu20)); have HVP := Lib.hid hvP; clear hvP; have huz : Upd [] w7 wz := Upd.trans0 (by repeat (first | exact huy | exact hrf | apply Upd.drew | apply Upd.alloc)) hu20; (try clear huy); clear hu20; have huy := huz; clear huz)
      | (go_at_call 28; (with_reducible refine (HO.out _).mono ?_); rintro e wz ⟨vQ, rfl, hvQ, hu20⟩; have HVA := Lib.hid (HVA.out.upd0 (by first | exact hu20 | exact Upd.al hu20)); have HVB := Lib.hid (HVB.out.upd0 (by first | exact hu20 | exact Upd.al hu20)); have HVC := Lib.hid (HVC.out.upd0 (by first | exact hu20 | exact Upd.al hu20)); have HVD := Lib.hid (HVD.out.upd0 (by first | exact hu20 | exact Upd.al hu20)); have HVE := Lib.hid (HVE.out.upd0 (by first | exact hu20 | exact Upd.al hu20)); have HVF := Lib.hid (HVF.out.upd0 (by first | exact hu20 | exact Upd.al hu20)); have HVG := Lib.hid (HVG.out.upd0 (by first | exact hu20 | exact Upd.al hu20)); have HVH := Lib.hid (HVH.out.upd0 (by first | exact hu20 | exact Upd.al hu20)); have HVI := Lib.hid (HVI.out.upd0 (by first | exact hu20 | exact Upd.al hu20)); have HVJ := Lib.hid (HVJ.out.upd0 (by first | exact hu20 | exact Upd.al hu20)); have HVK := Lib.hid (HVK.out.upd0 (by first | exact hu20 | exact Upd.al hu20)); have HVL := Lib.hid (HVL.out.upd0 (by first | exact hu20 | exact Upd.al hu20)); have HVM := Lib.hid (HVM.out.upd0 (by first | exact hu20 | exact Upd.al hu20)); have HVN := Lib.hid (HVN.out.upd0 (by first | exact hu20 | exact Upd.al hu20)); have HVP := Lib.hid (HVP.out.upd0 (by first | exact hu20 | exact Upd.al hu20)); have HVQ := Lib.hid hvQ; clear hvQ; have huz : Upd [] w7 wz := Upd.trans0 (by repeat (first | exact huy | exact hrf | apply Upd.drew | apply Upd.alloc)) hu20; (try clear huy); clear hu20; have huy := huz; clear huz)
      | (go_at_call 18; (with_reducible refine (HCs.out _ _ _ (by first | exact HVP.out | exact WV.upd0 HVP.out ((Upd.refl _ _).alloc _)) (by first | exact HVQ.out | exact WV.upd0 HVQ.out ((Upd.refl _ _).alloc _))).mono ?_); rintro e wz ⟨rfl, hu20⟩; have HVA := Lib.hid (HVA.out.upd0 (by first | exact hu20 | exact Upd.al hu20)); have HVB := Lib.hid (HVB.out.upd0 (by first | exact hu20 | exact Upd.al hu20)); have HVC := Lib.hid (HVC.out.upd0 (by first | exact hu20 | exact Upd.al hu20)); have HVD := Lib.hid (HVD.out.upd0 (by first | exact hu20 | exact Upd.al hu20)); have HVE := Lib.hid (HVE.out.upd0 (by first | exact hu20 | exact Upd.al hu20)); have HVF := Lib.hid (HVF.out.upd0 (by first | exact hu20 | exact Upd.al hu20)); have HVG := Lib.hid (HVG.out.upd0 (by first | exact hu20 | exact Upd.al hu20)); have HVH := Lib.hid (HVH.out.upd0 (by first | exact hu20 | exact Upd.al hu20)); have HVI := Lib.hid (HVI.out.upd0 (by first | exact hu20 | exact Upd.al hu20)); have HVJ := Lib.hid (HVJ.out.upd0 (by first | exact hu20 | exact Upd.al hu20)); have HVK := Lib.hid (HVK.out.upd0 (by first | exact hu20 | exact Upd.al hu20)); have HVL := Lib.hid (HVL.out.upd0 (by first | exact hu20 | exact Upd.al hu20)); have HVM := Lib.hid (HVM.out.upd0 (by first | exact hu20 | exact Upd.al hu20)); have HVN := Lib.hid (HVN.out.upd0 (by first | exact hu20 | exact Upd.al hu20)); have HVP := Lib.hid (HVP.out.upd0 (by first | exact hu20 | exact Upd.al hu20)); have HVQ := Lib.hid (HVQ.out.upd0 (by first | exact hu20 | exact Upd.al hu20));  have huz : Upd [] w7 wz := Upd.trans0 (by repeat (first | exact huy | exact hrf | apply Upd.drew | apply Upd.alloc)) hu20; (try clear huy); clear hu20; have huy := huz; clear huz)
      | (go_at_call 18; (with_reducible refine (HCxy.out _ _ _ (HXa1.out.upd0 (by repeat (first | exact huy | exact hrf | apply Upd.drew | apply Upd.alloc))) (HXa2.out.upd0 (by repeat (first | exact huy | exact hrf | apply Upd.drew | apply Upd.alloc)))).mono ?_); rintro e wz ⟨rfl, hu20⟩; have HVA := Lib.hid (HVA.out.upd0 (by first | exact hu20 | exact Upd.al hu20)); have HVB := Lib.hid (HVB.out.upd0 (by first | exact hu20 | exact Upd.al hu20)); have HVC := Lib.hid (HVC.out.upd0 (by first | exact hu20 | exact Upd.al hu20)); have HVD := Lib.hid (HVD.out.upd0 (by first | exact hu20 | exact Upd.al hu20)); have HVE := Lib.hid (HVE.out.upd0 (by first | exact hu20 | exact Upd.al hu20)); have HVF := Lib.hid (HVF.out.upd0 (by first | exact hu20 | exact Upd.al hu20)); have HVG := Lib.hid (HVG.out.upd0 (by first | exact hu20 | exact Upd.al hu20)); have HVH := Lib.hid (HVH.out.upd0 (by first | exact hu20 | exact Upd.al hu20)); have HVI := Lib.hid (HVI.out.upd0 (by first | exact hu20 | exact Upd.al hu20)); have HVJ := Lib.hid (HVJ.out.upd0 (by first | exact hu20 | exact Upd.al hu20)); have HVK := Lib.hid (HVK.out.upd0 (by first | exact hu20 | exact Upd.al hu20)); have HVL := Lib.hid (HVL.out.upd0 (by first | exact hu20 | exact Upd.al hu20)); have HVM := Lib.hid (HVM.out.upd0 (by first | exact hu20 | exact Upd.al hu20)); have HVN := Lib.hid (HVN.out.upd0 (by first | exact hu20 | exact Upd.al hu20)); have HVP := Lib.hid (HVP.out.upd0 (by first | exact hu20 | exact Upd.al hu20)); have HVQ := Lib.hid (HVQ.out.upd0 (by first | exact hu20 | exact Upd.al hu20));  have huz : Upd [] w7 wz := Upd.trans0 (by repeat (first | exact huy | exact hrf | apply Upd.drew | apply Upd.alloc)) hu20; (try clear huy); clear hu20; have huy := huz; clear huz))
  all_goals
    go_wp2
    go_ret
    exact ⟨rfl, HU0.out.trans0 (HVw7.out.trans0 huy)⟩

end Go.Proofs.YtoklmfmoblkfcaaDoor
