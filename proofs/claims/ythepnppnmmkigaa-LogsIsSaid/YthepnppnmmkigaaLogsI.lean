/- The law LogsIs (layer 8). -/
import Derived.Test.YthepnppnmmkigaaLogs
import Derived.Test.YthepnppnmmkigaaRefDiv
import Derived.Test.YthepnppnmmkigaaOpen
namespace Go.Proofs.Ythepnppnmmkigaa
open Go.RowKit Go.Proofs.Tm
set_option linter.unusedVariables false
set_option linter.unusedSimpArgs false
set_option maxRecDepth 20000

theorem within_any (n lo hi : Int) (w : World) (h : lo ≤ hi) :
    Calls Try.prog 18 #[.int .i64 n, .int .i64 lo, .int .i64 hi] w fun e w' => e = .returned (.int .i64 (min (max n lo) hi)) ∧ w' = w := by
  by_cases h1 : n < lo
  · have e1 : min (max n lo) hi = lo := by omega
    rw [e1]
    clear e1
    go_enter Try.func18, Try.ntmps18
    go_wp2
    go_ret
    exact ⟨rfl, rfl⟩
  · by_cases h2 : hi < n
    · have e1 : min (max n lo) hi = hi := by omega
      rw [e1]
      clear e1
      go_enter Try.func18, Try.ntmps18
      go_wp2
      go_ret
      exact ⟨rfl, rfl⟩
    · have e1 : min (max n lo) hi = n := by omega
      rw [e1]
      clear e1
      go_enter Try.func18, Try.ntmps18
      go_wp2
      go_ret
      exact ⟨rfl, rfl⟩

theorem lg_len {n : Nat} (h : n ≤ 85070591730234615865843651857942052864) : (digs n).length ≤ 40 := digs_len 40 n (Nat.lt_of_le_of_lt h (by decide))
theorem lg_sq {x : Nat} (h : LgOk x) : x * x ≤ 85070591730234615865843651857942052864 := Nat.mul_le_mul (Nat.le_of_lt h.2) (Nat.le_of_lt h.2)

set_option maxHeartbeats 1600000 in
theorem rlog2_any (n : Int) (w : World) :
    Calls Try.prog 9 #[.int .i64 n] w fun e w' => e = .returned (.int .i64 (lgF n : Int)) ∧ Upd [] w w' := by
  obtain ⟨m, hm⟩ : ∃ m, m = lgIn n := ⟨_, rfl⟩
  obtain ⟨h1, h2⟩ := lgIn_le n
  rw [← hm] at h1 h2
  have hm40 : m ≤ 1099511627776 := h2
  have HF : Hid (lgF n = lgOf m) := by show _ = _; rw [hm]; rfl
  have hw : min (max n 1) 1099511627776 = (m : Int) := by rw [hm]; unfold lgIn; split; omega; split <;> omega
  have HW := Lib.hid (within_any n 1 1099511627776 w (by decide))
  rw [hw] at HW
  rw [HF.out]
  obtain ⟨e, he⟩ : ∃ e, e = m.log2 := ⟨_, rfl⟩
  have he40 : e ≤ 40 := by rw [he]; have := (Nat.log2_lt (n := m) (k := 41) (by omega)).2 (by omega); omega
  have HE := Lib.hid he
  have hst := lg_start m h1 (by omega)
  obtain ⟨X, hX⟩ : ∃ X, X = m * 2 ^ (62 - e) := ⟨_, rfl⟩
  rw [← he, ← hX] at hst
  have HST := Lib.hid hst
  have HX := Lib.hid hX
  have HR : Hid (lgOf m = (lgRun 28 (e, X)).1) := by show _ = _; unfold lgOf; rw [← HE.out, hX]
  rw [HR.out]
  have HLO : Hid (∀ j, j < e → 2 ^ (j + 1) ≤ m ∧ 2 ^ (j + 1) ≤ 1099511627776) := fun j hj => by
    have a := Nat.log2_self_le (show m ≠ 0 by omega)
    have b : 2 ^ (j + 1) ≤ 2 ^ m.log2 := Nat.pow_le_pow_right (by decide) (by rw [← he]; omega)
    omega
  have HHI : Hid (m < 2 ^ (e + 1) ∧ 2 ^ (e + 1) ≤ 2199023255552) := by
    refine ⟨by rw [he]; exact Nat.lt_log2_self, Nat.le_trans (Nat.pow_le_pow_right (by decide) (show e + 1 ≤ 41 by omega)) (by decide)⟩
  have H2 : Hid (∀ W, Calls Try.prog 20 #[.int .i64 2] W (RDig 2 W)) := fun W => small_any 2 W (by decide)
  clear hm hw he hst hX h2
  go_enter Try.func9, Try.ntmps9
  go_wp2_with fail
  refine HW.out.mono ?_
  rintro e' w' ⟨rfl, rfl⟩
  go_wp2
  go_loop [3] (fun v3 => ∃ j : Nat, j ≤ e ∧ v3 = .int .i64 (j : Int)) (fun v3 => e - (intOf v3).toNat)
  case atStart => exact ⟨0, by omega, rfl⟩
  case round =>
    obtain ⟨j, hj, rfl⟩ := hrel
    by_cases hlt : j < e
    · have hp := HLO.out j hlt
      obtain ⟨P, hP⟩ : ∃ P, P = 2 ^ (j + 1) := ⟨_, rfl⟩
      rw [← hP] at hp
      have i2 : (2 : Int) ^ (j + 1) = (P : Int) := by rw [hP]; simp
      have i1 : IntKind.i64.wrap ((2 : Int) ^ (j + 1)) = (P : Int) := by rw [i2, IntKind.wrap_i64]; omega
      have i3 : decide (P ≤ m) = true := by simpa using hp.1
      clear hP
      go_wp2
      refine ⟨⟨j + 1, by omega, by go_num⟩, by simp [intOf]; omega⟩
    · obtain rfl : j = e := by omega
      have hp := HHI.out
      obtain ⟨P, hP⟩ : ∃ P, P = 2 ^ (j + 1) := ⟨_, rfl⟩
      rw [← hP] at hp
      have i2 : (2 : Int) ^ (j + 1) = (P : Int) := by rw [hP]; simp
      have i1 : IntKind.i64.wrap ((2 : Int) ^ (j + 1)) = (P : Int) := by rw [i2, IntKind.wrap_i64]; omega
      have i3 : decide (P ≤ m) = false := by simp; omega
      clear hP
      go_wp2_with fail
      refine (H2.out _).mono ?_
      rintro e' w1 ⟨v1, rfl, hs1, hu1⟩
      have HS1 := Lib.hid hs1
      have HU1 := Lib.hid hu1
      clear hs1 hu1 i1 i2
      go_wp2_with fail
      refine (rpow_any _ 2 62 _ HS1.out (by have := digs_len1 (a := 2) (by decide); omega) (by decide)).mono ?_
      rintro e' w2 ⟨v2, rfl, hs2, hu2⟩
      have HS2 : Hid (Sl w2 v2 (ci64 (digs 4611686018427387904))) := hs2
      have HU2 := Lib.hid (HU1.out.trans0 hu2)
      clear hs2 hu2
      go_wp2_with fail
      refine (radd_any _ _ 4611686018427387904 4611686018427387904 _ HS2.out HS2.out (by have := lg_len (n := 4611686018427387904) (by decide); omega) (by have := lg_len (n := 4611686018427387904) (by decide); omega)).mono ?_
      rintro e' w3 ⟨v3, rfl, hs3, hu3⟩
      have HS3 : Hid (Sl w3 v3 (ci64 (digs 9223372036854775808))) := hs3
      have HONE := Lib.hid (HS2.out.upd0 hu3)
      have HU3 := Lib.hid (HU2.out.trans0 hu3)
      clear hs3 hu3
      go_wp2_with fail
      refine (small_any m _ (by omega)).mono ?_
      rintro e' w4 ⟨v4, rfl, hs4, hu4⟩
      have HS4 := Lib.hid hs4
      have HU4 := Lib.hid hu4
      clear hs4 hu4
      go_wp2_with fail
      refine (H2.out _).mono ?_
      rintro e' w5 ⟨v5, rfl, hs5, hu5⟩
      have HS5 := Lib.hid hs5
      have HU5 := Lib.hid hu5
      clear hs5 hu5
      have i4 : (62 : Int) - (j : Int) = ((62 - j : Nat) : Int) := by omega
      obtain ⟨q, hq⟩ : ∃ q, q = 62 - j := ⟨_, rfl⟩
      have HQ := Lib.hid hq
      have hq62 : q ≤ 62 := by omega
      rw [← hq] at i4
      clear hq
      go_wp2_with fail
      refine (rpow_any _ 2 q _ HS5.out (by have := digs_len1 (a := 2) (by decide); omega) (by omega)).mono ?_
      rintro e' w6 ⟨v6, rfl, hs6, hu6⟩
      have HS6 := Lib.hid hs6
      have HU6 := Lib.hid hu6
      have HPL : Hid ((digs (2 ^ q)).length ≤ 40) := lg_len (Nat.le_trans (Nat.pow_le_pow_right (by decide) hq62) (by decide))
      clear hs6 hu6
      go_wp2_with fail
      refine (rmul_any _ _ m (2 ^ q) _ (HS4.out.upd0 (HU5.out.trans0 HU6.out)) HS6.out (by have := lg_len (n := m) (by omega); omega) (by have := HPL.out; omega)).mono ?_
      rintro e' w7 ⟨v7, rfl, hs7, hu7⟩
      have HS7 : Hid (Sl w7 v7 (ci64 (digs X))) := by show Sl _ _ _; rw [HX.out, ← HQ.out]; exact hs7
      have hu37 := HU4.out.trans0 (HU5.out.trans0 (HU6.out.trans0 hu7))
      have HU7 := Lib.hid (HU3.out.trans0 hu37)
      have HONE7 := Lib.hid (HONE.out.upd0 hu37)
      have HTWO7 := Lib.hid (HS3.out.upd0 hu37)
      clear hs7 hu7 hu37 i4
      go_wp2
      go_loopw [6, 7, 8] (fun v6 v7 v8 wr => ∃ (k l x : Nat), k ≤ 28 ∧ v8 = .int .i64 (k : Int) ∧ v7 = .int .i64 (l : Int) ∧ Hid (lgRun k (j, X) = (l, x)) ∧ Sl wr v6 (ci64 (digs x)) ∧ Upd [] w7 wr) (fun _ _ v8 _ => 28 - (intOf v8).toNat)
      case atStart => exact ⟨0, j, X, by omega, rfl, rfl, rfl, HS7.out, Upd.refl _ _⟩
      case round =>
        obtain ⟨k, l, x, hk, rfl, rfl, HI, hs, hu⟩ := hrel
        have hok := lgRun_ok k (p := (j, X)) HST.out
        rw [HI.out] at hok
        have HS := Lib.hid hs
        have HU := Lib.hid hu
        have hll : l < 41 * 268435456 := by
          have h1 := lgRun_lt j X k
          rw [HI.out] at h1
          have h2 : (j + 1) * 2 ^ k ≤ 41 * 2 ^ 28 := Nat.mul_le_mul (by omega) (Nat.pow_le_pow_right (by decide) (by omega))
          simp only at h1
          omega
        clear hs hu
        by_cases hlt : k < 28
        · have HSTEP : Hid (lgRun (k + 1) (j, X) = lgStep (l, x)) := by
            show _ = _; rw [lgRun_succ, HI.out]
          obtain ⟨y, hy⟩ : ∃ y, y = x * x / 4611686018427387904 := ⟨_, rfl⟩
          have hyy := lg_y hok
          rw [← hy] at hyy
          have HY := Lib.hid hy
          have HXL : Hid ((digs x).length ≤ 40) := lg_len (Nat.le_trans (Nat.le_of_lt hok.2) (by decide))
          have HXX : Hid ((digs (x * x)).length ≤ 40) := lg_len (lg_sq hok)
          have HYL : Hid ((digs y).length ≤ 40) := lg_len (by omega)
          have h64 : y < 18446744073709551616 := hyy.2
          clear hok hy hyy
          go_wp2_with fail
          refine (rmul_any _ _ x x _ HS.out HS.out (by have := HXL.out; omega) (by have := HXL.out; omega)).mono ?_
          rintro e' w8 ⟨v8, rfl, hs8, hu8⟩
          have HS8 := Lib.hid hs8
          have HU8 := Lib.hid (HU.out.trans0 hu8)
          clear hs8 hu8
          go_wp2_with fail
          refine (rdivmod_any _ _ (x * x) 4611686018427387904 _ HS8.out (HONE7.out.upd0 HU8.out) (by have := HXX.out; omega) (by have := lg_len (n := 4611686018427387904) (by decide); omega) (by decide)).mono ?_
          rintro e' w9 ⟨v9, v9', rfl, hs9, hs9', hu9⟩
          have HS9 : Hid (Sl w9 v9 (ci64 (digs y))) := by show Sl _ _ _; rw [HY.out]; exact hs9
          have HU9 := Lib.hid (HU8.out.trans0 hu9)
          clear hs9 hu9 hs9'
          go_wp2_with fail
          refine (rcmp_any _ _ y 9223372036854775808 _ HS9.out (HTWO7.out.upd0 HU9.out) (by have := HYL.out; omega) (by have := lg_len (n := 9223372036854775808) (by decide); omega)).mono ?_
          rintro e' w10 ⟨rfl, hu10⟩
          have HU10 := Lib.hid (HU9.out.trans0 hu10)
          have HS10 := Lib.hid (HS9.out.upd0 hu10)
          clear hu10
          by_cases hy2 : y < 9223372036854775808
          · have hcc : cmpN y 9223372036854775808 = -1 := by unfold cmpN; rw [if_pos hy2]
            have HFIN : Hid (lgRun (k + 1) (j, X) = (2 * l, y)) := by
              show _ = _
              rw [HSTEP.out]; unfold lgStep; simp only; rw [← HY.out, if_pos hy2]
            rw [hcc]
            clear hcc
            go_wp2
            exact ⟨⟨k + 1, 2 * l, y, by omega, by go_num, by go_num, HFIN, HS10.out, HU10.out⟩, by simp [intOf]; omega⟩
          · have hcc : decide (0 ≤ cmpN y 9223372036854775808) = true := by unfold cmpN; rw [if_neg hy2]; split <;> rfl
            have HFIN : Hid (lgRun (k + 1) (j, X) = (2 * l + 1, y / 2)) := by
              show _ = _
              rw [HSTEP.out]; unfold lgStep; simp only; rw [← HY.out, if_neg hy2]
            generalize cmpN y 9223372036854775808 = cc at *
            go_wp2_with fail
            refine (H2.out _).mono ?_
            rintro e' w11 ⟨v11, rfl, hs11, hu11⟩
            have HS11 := Lib.hid hs11
            have HU11 := Lib.hid hu11
            clear hs11 hu11
            go_wp2_with fail
            refine (rdivmod_any _ _ y 2 _ (HS10.out.upd0 HU11.out) HS11.out (by have := HYL.out; omega) (by have := digs_len1 (a := 2) (by decide); omega) (by decide)).mono ?_
            rintro e' w12 ⟨v12, v12', rfl, hs12, hs12', hu12⟩
            have HS12 := Lib.hid hs12
            have HU12 := Lib.hid (HU10.out.trans0 (HU11.out.trans0 hu12))
            clear hs12 hu12 hs12'
            go_wp2
            exact ⟨⟨k + 1, 2 * l + 1, y / 2, by omega, by go_num, by go_num, HFIN, HS12.out, HU12.out⟩, by simp [intOf]; omega⟩
        · obtain rfl : k = 28 := by omega
          have HL : Hid ((lgRun 28 (j, X)).1 = l) := by show _ = _; rw [HI.out]
          have HUF := Lib.hid (HU7.out.trans0 HU.out)
          go_wp2
          go_ret
          exact ⟨by rw [HL.out]; rfl, HUF.out⟩

set_option maxHeartbeats 400000 in
theorem rxlog_any (n : Int) (w : World) :
    Calls Try.prog 11 #[.int .i64 n] w fun e w' => e = .returned (.int .i64 (xlF (xlIn n) : Int)) ∧ Upd [] w w' := by
  obtain ⟨m, hm⟩ : ∃ m, m = xlIn n := ⟨_, rfl⟩
  have hle := xlIn_le n
  have hw : min (max n 0) 1048576 = (m : Int) := by rw [hm]; unfold xlIn; omega
  rw [← hm] at hle ⊢
  have HW := Lib.hid (within_any n 0 1048576 w (by decide))
  rw [hw] at HW
  have hx := xlF_le m hle
  unfold xlF at hx ⊢
  have HL := Lib.hid (rlog2_any (m : Int) w)
  generalize lgF (m : Int) = l at *
  have H1 : Hid (wrap64 ((m : Int) * (l : Int)) = ((m * l : Nat) : Int)) := by show _ = _; rw [← Int.natCast_mul]; exact w64_nat _ (by omega)
  clear hm hx hw
  by_cases h0 : m = 0
  · have H0 : Hid (((m * l : Nat) : Int) = 0) := by show _ = _; rw [h0]; simp
    have e0 : ((m : Int) == 0) = true := by rw [h0]; rfl
    clear h0
    go_enter Try.func11, Try.ntmps11
    go_wp2_with fail
    refine HW.out.mono ?_
    rintro e w' ⟨rfl, rfl⟩
    go_wp2
    go_ret
    exact ⟨ret_int H0.out.symm, Upd.refl _ _⟩
  · have e0 : ((m : Int) == 0) = false := by simp; omega
    go_enter Try.func11, Try.ntmps11
    go_wp2_with fail
    refine HW.out.mono ?_
    rintro e w' ⟨rfl, rfl⟩
    go_wp2_with fail
    refine HL.out.mono ?_
    rintro e w1 ⟨rfl, hu1⟩
    go_wp2
    go_ret
    exact ⟨ret_int H1.out, hu1⟩

set_option maxHeartbeats 400000 in
theorem logsIs_law (n : Int) (w : World) :
    Calls Try.prog 3 #[.int .i64 n] w fun e w' => e = .returned (.bool true) ∧ Upd [] w w' := by
  have HA := Lib.hid (logsAwake_any w)
  have H1 := Lib.hid (log2_any n w)
  have H2 := Lib.hid (rlog2_any n w)
  have H3 : Hid (∀ W, Calls Try.prog 10 #[.int .i64 n] W fun e w' => e = .returned (.int .i64 (xlF (xlIn n) : Int)) ∧ w' = W) := fun W => xlog_any n W
  have H4 : Hid (∀ W, Calls Try.prog 11 #[.int .i64 n] W fun e w' => e = .returned (.int .i64 (xlF (xlIn n) : Int)) ∧ Upd [] W w') := fun W => rxlog_any n W
  generalize lgF n = a at *
  generalize xlF (xlIn n) = b at *
  have e1 : ((a : Int) == (a : Int)) = true := by simp
  have e2 : ((b : Int) == (b : Int)) = true := by simp
  go_enter Try.func3, Try.ntmps3
  go_wp2_with fail
  refine HA.out.mono ?_
  rintro e w' ⟨rfl, rfl⟩
  go_wp2_with fail
  refine H1.out.mono ?_
  rintro e w' ⟨rfl, rfl⟩
  go_wp2_with fail
  refine H2.out.mono ?_
  rintro e w1 ⟨rfl, hu1⟩
  have HU1 := Lib.hid hu1
  clear hu1
  go_wp2_with fail
  refine (H3.out _).mono ?_
  rintro e w2 ⟨rfl, rfl⟩
  go_wp2_with fail
  refine (H4.out _).mono ?_
  rintro e w3 ⟨rfl, hu3⟩
  have HU3 := Lib.hid (HU1.out.trans0 hu3)
  clear hu3
  go_wp2
  go_ret
  exact ⟨rfl, HU3.out⟩
end Go.Proofs.Ythepnppnmmkigaa
