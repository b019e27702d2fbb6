/- The document's whole numbers (layer 6): Make, Turn, Neg, Abs. -/
import Derived.Test.YtoklmfmoblkfcaaDoorZV
import Derived.Test.YtoklmfmoblkfcaaDoorRefSub
import Derived.Test.YtoklmfmoblkfcaaDoorRefText
import Derived.Test.YtoklmfmoblkfcaaDoorRefZ
import Derived.Test.YtoklmfmoblkfcaaDoorTxtM
import Derived.Test.YtoklmfmoblkfcaaDoorNatOfw
import Derived.Deep.RegionHeld3
namespace Go.Proofs.YtoklmfmoblkfcaaDoor
open Go.RowKit Go.Proofs.Tm
set_option linter.unusedVariables false
set_option linter.unusedSimpArgs false
set_option maxRecDepth 20000

set_option maxHeartbeats 800000 in
theorem zmake_n (u : Value) (L : List Nat) (w : World) (h : Sl w u (cu64 L)) (hW : ∀ d ∈ L, d < 18446744073709551616) (hl : L.length ≤ 1048576) :
    Calls Tryd.prog 39 #[.bool true, u] w (RZ (0) (wval L) w) := by
  have HO : Hid (∀ W, Upd [] w W → Calls Tryd.prog 67 #[u] W (RDig (wval L) W)) := fun W h' => rof_any u L W (h.upd0 h') hW hl
  clear h hW hl
  obtain ⟨w0, hw0⟩ : ∃ W, W = (w.alloc (.cells #[.slice none 0 0, .slice none 0 0] 33)) := ⟨_, rfl⟩
  obtain ⟨S, hS⟩ : ∃ s, s = w.heap.size := ⟨_, rfl⟩
  obtain ⟨hu0, r0, hz0⟩ := rows1 w #[.slice none 0 0, .slice none 0 0] 33 w0 hw0 S hS
  have HU0 := Lib.hid hu0
  have HW0 := Lib.hid hw0
  have HS := Lib.hid hS
  have HZ0 := Lib.hid hz0
  have hcA : ∀ W, Upd [] w0 W → W.cell? ⟨S, 0, none⟩ = some (.slice none 0 0) ∧ W.cell? ⟨S, 1, none⟩ = some (.slice none 0 0) ∧ W.frozen? ⟨S, 0, none⟩ = false ∧ W.frozen? ⟨S, 1, none⟩ = false := fun W h => ⟨(r0.upd0 h).cell 0, (r0.upd0 h).cell 1, (r0.upd0 h).frozen 0, (r0.upd0 h).frozen 1⟩
  have HRES := Lib.hid r0
  clear hw0 hS hu0 r0 hz0
  go_enter Tryd.func39, Tryd.ntmps39
  go_wp2_with fail
  rw [← HW0.out]
  rw [← HS.out]
  refine (HO.out _ HU0.out).mono ?_
  rintro e w1 ⟨v1, rfl, hd1, huy⟩
  obtain ⟨aX, lX, cX, rfl⟩ := DV.open hd1
  have HX : Hid (ZV w1 (.agg #[.slice none 0 0, .slice aX lX cX]) (0) (wval L)) := ⟨_, _, rfl, DV.nil _, hd1⟩
  obtain ⟨x0, x1, x2, x3⟩ := hcA _ huy
  clear hd1
  have HP := Lib.hid (NewZ.set ⟨HRES.out.upd0 huy, by have := HS.out; omega⟩ (HU0.out.trans0 huy) HX.out)
  clear hcA huy
  have z0 := HP.out.row.cell 0
  have z1 := HP.out.row.cell 1
  go_wp2
  refine bodyPost_ret (v := .agg #[.slice none 0 0, .slice aX lX cX]) (by simp [results, Tryd.results39, go_sem, z0, z1]) rfl ?_
  exact ⟨_, rfl, HP.out.zv, HP.out.upd⟩

set_option maxHeartbeats 800000 in
theorem zmake_p (u : Value) (L : List Nat) (w : World) (h : Sl w u (cu64 L)) (hW : ∀ d ∈ L, d < 18446744073709551616) (hl : L.length ≤ 1048576) :
    Calls Tryd.prog 39 #[.bool false, u] w (RZ (wval L) (0) w) := by
  have HO : Hid (∀ W, Upd [] w W → Calls Tryd.prog 67 #[u] W (RDig (wval L) W)) := fun W h' => rof_any u L W (h.upd0 h') hW hl
  clear h hW hl
  obtain ⟨w0, hw0⟩ : ∃ W, W = (w.alloc (.cells #[.slice none 0 0, .slice none 0 0] 33)) := ⟨_, rfl⟩
  obtain ⟨S, hS⟩ : ∃ s, s = w.heap.size := ⟨_, rfl⟩
  obtain ⟨hu0, r0, hz0⟩ := rows1 w #[.slice none 0 0, .slice none 0 0] 33 w0 hw0 S hS
  have HU0 := Lib.hid hu0
  have HW0 := Lib.hid hw0
  have HS := Lib.hid hS
  have HZ0 := Lib.hid hz0
  have hcA : ∀ W, Upd [] w0 W → W.cell? ⟨S, 0, none⟩ = some (.slice none 0 0) ∧ W.cell? ⟨S, 1, none⟩ = some (.slice none 0 0) ∧ W.frozen? ⟨S, 0, none⟩ = false ∧ W.frozen? ⟨S, 1, none⟩ = false := fun W h => ⟨(r0.upd0 h).cell 0, (r0.upd0 h).cell 1, (r0.upd0 h).frozen 0, (r0.upd0 h).frozen 1⟩
  have HRES := Lib.hid r0
  clear hw0 hS hu0 r0 hz0
  go_enter Tryd.func39, Tryd.ntmps39
  go_wp2_with fail
  rw [← HW0.out]
  rw [← HS.out]
  refine (HO.out _ HU0.out).mono ?_
  rintro e w1 ⟨v1, rfl, hd1, huy⟩
  obtain ⟨aX, lX, cX, rfl⟩ := DV.open hd1
  have HX : Hid (ZV w1 (.agg #[.slice aX lX cX, .slice none 0 0]) (wval L) (0)) := ⟨_, _, rfl, hd1, DV.nil _⟩
  obtain ⟨x0, x1, x2, x3⟩ := hcA _ huy
  clear hd1
  have HP := Lib.hid (NewZ.set ⟨HRES.out.upd0 huy, by have := HS.out; omega⟩ (HU0.out.trans0 huy) HX.out)
  clear hcA huy
  have z0 := HP.out.row.cell 0
  have z1 := HP.out.row.cell 1
  go_wp2
  refine bodyPost_ret (v := .agg #[.slice aX lX cX, .slice none 0 0]) (by simp [results, Tryd.results39, go_sem, z0, z1]) rfl ?_
  exact ⟨_, rfl, HP.out.zv, HP.out.upd⟩

/-- The two numbers of a sign and a number. -/
def zP (neg : Bool) (n : Nat) : Nat := if neg then 0 else n
def zM (neg : Bool) (n : Nat) : Nat := if neg then n else 0
theorem zmake_any (b : Bool) (u : Value) (L : List Nat) (w : World) (h : Sl w u (cu64 L)) (hW : ∀ d ∈ L, d < 18446744073709551616) (hl : L.length ≤ 1048576) :
    Calls Tryd.prog 39 #[.bool b, u] w (RZ (zP b (wval L)) (zM b (wval L)) w) := by
  cases b
  · exact zmake_p u L w h hW hl
  · exact zmake_n u L w h hW hl

set_option maxHeartbeats 400000 in
theorem zturn_any (u : Value) (p m : Nat) (w : World) (hu : ZV w u p m) :
    Calls Tryd.prog 14 #[u] w (RZ m p w) := by
  obtain ⟨a0, l0, c0, d0, m0, e0, rfl, hp, hm⟩ := hu.open
  have HX : Hid (∀ W, Upd [] w W → ZV W (.agg #[.slice d0 m0 e0, .slice a0 l0 c0]) m p) := fun W h => ⟨_, _, rfl, hm.upd0 h, hp.upd0 h⟩
  clear hu hp hm
  obtain ⟨hu0, _, r1, _⟩ := rows2 w #[.slice a0 l0 c0, .slice d0 m0 e0] #[.slice d0 m0 e0, .slice a0 l0 c0] 33 33 _ rfl _ rfl
  have z0 := r1.cell 0
  have z1 := r1.cell 1
  have HF : Hid (RZ m p w (.returned (.agg #[.slice d0 m0 e0, .slice a0 l0 c0])) _) := ⟨_, rfl, HX.out _ hu0, hu0⟩
  clear r1 hu0
  go_enter Tryd.func14, Tryd.ntmps14
  go_wp2
  refine bodyPost_ret (v := .agg #[.slice d0 m0 e0, .slice a0 l0 c0]) (by simp [results, Tryd.results14, go_sem, z0, z1]) rfl ?_
  exact HF.out

theorem cmpN_neg (p m : Nat) : decide (cmpN p m < 0) = decide ((p : Int) - m < 0) := by
  unfold cmpN
  split
  · rw [decide_eq_true (by decide), decide_eq_true (by omega)]
  · split
    · rw [decide_eq_false (by decide), decide_eq_false (by omega)]
    · rw [decide_eq_false (by decide), decide_eq_false (by omega)]
theorem cmpN_nn (p m : Nat) : decide (0 ≤ cmpN p m) = decide (m ≤ p) := by
  unfold cmpN
  split
  · rw [decide_eq_false (by decide), decide_eq_false (by omega)]
  · split
    · rw [decide_eq_true (by decide), decide_eq_true (by omega)]
    · rw [decide_eq_true (by decide), decide_eq_true (by omega)]

set_option maxHeartbeats 400000 in
theorem zneg_any (u : Value) (p m : Nat) (w : World) (hu : ZV w u p m) (hpl : (digs p).length ≤ 1048576) (hml : (digs m).length ≤ 1048576) :
    Calls Tryd.prog 68 #[u] w (fun e w' => e = .returned (.bool (decide ((p : Int) - m < 0))) ∧ Upd [] w w') := by
  obtain ⟨a0, l0, c0, d0, m0, e0, rfl, hp, hm⟩ := hu.open
  have HCM : Hid (∀ W, Upd [] w W → Calls Tryd.prog 45 #[.slice a0 l0 c0, .slice d0 m0 e0] W (fun e w' => e = .returned (.int .i64 (cmpN p m)) ∧ Upd [] W w')) := fun W h => dcmp (hp.upd0 h) (hm.upd0 h) (by omega) (by omega)
  have HE := Lib.hid (cmpN_neg p m)
  clear hu hp hm hpl hml
  generalize cmpN p m = c at *
  obtain ⟨w0, hw0⟩ : ∃ W, W = (w.alloc (.cells #[.slice a0 l0 c0, .slice d0 m0 e0] 33)) := ⟨_, rfl⟩
  obtain ⟨S, hS⟩ : ∃ s, s = w.heap.size := ⟨_, rfl⟩
  obtain ⟨hu0, r0, hz0⟩ := rows1 w #[.slice a0 l0 c0, .slice d0 m0 e0] 33 w0 hw0 S hS
  have HU0 := Lib.hid hu0
  have HW0 := Lib.hid hw0
  have HS := Lib.hid hS
  have HZ0 := Lib.hid hz0
  have hp0 := r0.cell 0
  have hp1 := r0.cell 1
  clear hw0 hS hu0 r0 hz0
  go_enter Tryd.func68, Tryd.ntmps68
  go_wp2_with fail
  rw [← HW0.out]
  rw [← HS.out]
  refine (HCM.out _ HU0.out).mono ?_
  rintro e w1 ⟨rfl, hu1⟩
  have HF := Lib.hid (HU0.out.trans0 hu1)
  clear hu1 hp0 hp1
  go_wp2
  go_ret
  exact ⟨by rw [← HE.out]; rfl, HF.out⟩

set_option maxHeartbeats 800000 in
theorem zabs_g (u : Value) (p m : Nat) (w : World) (hu : ZV w u p m) (hpl : (digs p).length ≤ 1048576) (hml : (digs m).length ≤ 1048576) (hc : m ≤ p) :
    Calls Tryd.prog 21 #[u] w (RDig (p - m) w) := by
  obtain ⟨a0, l0, c0, d0, m0, e0, rfl, hp, hm⟩ := hu.open
  have HCM : Hid (∀ W, Upd [] w W → Calls Tryd.prog 45 #[.slice a0 l0 c0, .slice d0 m0 e0] W (fun e w' => e = .returned (.int .i64 (cmpN p m)) ∧ Upd [] W w')) := fun W h => dcmp (hp.upd0 h) (hm.upd0 h) (by omega) (by omega)
  have HSU : Hid (∀ W, Upd [] w W → Calls Tryd.prog 46 #[.slice a0 l0 c0, .slice d0 m0 e0] W (RDig (p - m) W)) := fun W h => rsub_any _ _ _ _ W (hp.upd0 h) (hm.upd0 h) (by omega) (by omega)
  have dq : decide (0 ≤ cmpN p m) = true := by rw [cmpN_nn]; exact decide_eq_true hc
  clear hu hp hm hpl hml hc
  generalize cmpN p m = c at *
  obtain ⟨w0, hw0⟩ : ∃ W, W = (w.alloc (.cells #[.slice a0 l0 c0, .slice d0 m0 e0] 33)) := ⟨_, rfl⟩
  obtain ⟨S, hS⟩ : ∃ s, s = w.heap.size := ⟨_, rfl⟩
  obtain ⟨hu0, r0, hz0⟩ := rows1 w #[.slice a0 l0 c0, .slice d0 m0 e0] 33 w0 hw0 S hS
  have HU0 := Lib.hid hu0
  have HW0 := Lib.hid hw0
  have HS := Lib.hid hS
  have HZ0 := Lib.hid hz0
  have HR0 := Lib.hid r0
  have hp0 := r0.cell 0
  have hp1 := r0.cell 1
  clear hw0 hS hu0 r0 hz0
  go_enter Tryd.func21, Tryd.ntmps21
  go_wp2_with fail
  rw [← HW0.out]
  rw [← HS.out]
  refine (HCM.out _ HU0.out).mono ?_
  rintro e w1 ⟨rfl, hu1⟩
  have HU1 := Lib.hid (HU0.out.trans0 hu1)
  have q0 := (HR0.out.upd0 hu1).cell 0
  have q1 := (HR0.out.upd0 hu1).cell 1
  clear hu1 hp0 hp1
  go_wp2_with fail
  refine (HSU.out _ HU1.out).mono ?_
  rintro e w2 ⟨v2, rfl, hd2, hu2⟩
  have HF := Lib.hid (HU1.out.trans0 hu2)
  have HD := Lib.hid hd2
  clear hd2 hu2
  go_wp2
  go_ret
  exact ⟨_, rfl, HD.out, HF.out⟩

set_option maxHeartbeats 800000 in
theorem zabs_l (u : Value) (p m : Nat) (w : World) (hu : ZV w u p m) (hpl : (digs p).length ≤ 1048576) (hml : (digs m).length ≤ 1048576) (hc : ¬ m ≤ p) :
    Calls Tryd.prog 21 #[u] w (RDig (m - p) w) := by
  obtain ⟨a0, l0, c0, d0, m0, e0, rfl, hp, hm⟩ := hu.open
  have HCM : Hid (∀ W, Upd [] w W → Calls Tryd.prog 45 #[.slice a0 l0 c0, .slice d0 m0 e0] W (fun e w' => e = .returned (.int .i64 (cmpN p m)) ∧ Upd [] W w')) := fun W h => dcmp (hp.upd0 h) (hm.upd0 h) (by omega) (by omega)
  have HSU : Hid (∀ W, Upd [] w W → Calls Tryd.prog 46 #[.slice d0 m0 e0, .slice a0 l0 c0] W (RDig (m - p) W)) := fun W h => rsub_any _ _ _ _ W (hm.upd0 h) (hp.upd0 h) (by omega) (by omega)
  have dq : decide (0 ≤ cmpN p m) = false := by rw [cmpN_nn]; exact decide_eq_false hc
  clear hu hp hm hpl hml hc
  generalize cmpN p m = c at *
  obtain ⟨w0, hw0⟩ : ∃ W, W = (w.alloc (.cells #[.slice a0 l0 c0, .slice d0 m0 e0] 33)) := ⟨_, rfl⟩
  obtain ⟨S, hS⟩ : ∃ s, s = w.heap.size := ⟨_, rfl⟩
  obtain ⟨hu0, r0, hz0⟩ := rows1 w #[.slice a0 l0 c0, .slice d0 m0 e0] 33 w0 hw0 S hS
  have HU0 := Lib.hid hu0
  have HW0 := Lib.hid hw0
  have HS := Lib.hid hS
  have HZ0 := Lib.hid hz0
  have HR0 := Lib.hid r0
  have hp0 := r0.cell 0
  have hp1 := r0.cell 1
  clear hw0 hS hu0 r0 hz0
  go_enter Tryd.func21, Tryd.ntmps21
  go_wp2_with fail
  rw [← HW0.out]
  rw [← HS.out]
  refine (HCM.out _ HU0.out).mono ?_
  rintro e w1 ⟨rfl, hu1⟩
  have HU1 := Lib.hid (HU0.out.trans0 hu1)
  have q0 := (HR0.out.upd0 hu1).cell 0
  have q1 := (HR0.out.upd0 hu1).cell 1
  clear hu1 hp0 hp1
  go_wp2_with fail
  refine (HSU.out _ HU1.out).mono ?_
  rintro e w2 ⟨v2, rfl, hd2, hu2⟩
  have HF := Lib.hid (HU1.out.trans0 hu2)
  have HD := Lib.hid hd2
  clear hd2 hu2
  go_wp2
  go_ret
  exact ⟨_, rfl, HD.out, HF.out⟩

theorem zabs_any (u : Value) (p m : Nat) (w : World) (hu : ZV w u p m) (hpl : (digs p).length ≤ 1048576) (hml : (digs m).length ≤ 1048576) : Calls Tryd.prog 21 #[u] w (RDig ((p : Int) - m).natAbs w) := by
  by_cases hc : m ≤ p
  · have e : ((p : Int) - m).natAbs = p - m := by omega
    rw [e]; exact zabs_g u p m w hu hpl hml hc
  · have e : ((p : Int) - m).natAbs = m - p := by omega
    rw [e]; exact zabs_l u p m w hu hpl hml hc

end Go.Proofs.YtoklmfmoblkfcaaDoor
