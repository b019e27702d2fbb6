/- The contracts of logs.squared, Log2, XLog, Diff (layer 8). -/
import Derived.Test.YthepnppnmmkigaaBase
import Derived.Test.YthepnppnmmkigaaShelf
import Derived.Test.YthepnppnmmkigaaLogMath
import Derived.Test.YthepnppnmmkigaaMinMax
import Derived.Test.YthepnppnmmkigaaNatBitM
import Derived.Deep.RegionHeld3
namespace Go.Proofs.Ythepnppnmmkigaa
open Go.RowKit Go.Proofs.Tm
set_option linter.unusedVariables false
set_option linter.unusedSimpArgs false
set_option maxRecDepth 20000

theorem lg_low (h l : Nat) (hh : h < 4611686018427387904) (hl : l < 18446744073709551616) :
    bits .or .u64 (IntKind.u64.wrap ((h : Int) * 4)) ((l : Int) / 4611686018427387904) = ((h * 4 + l / 4611686018427387904 : Nat) : Int) := by
  have e1 : IntKind.u64.wrap ((h : Int) * 4) = ((h * 4 : Nat) : Int) := by rw [IntKind.wrap_u64]; omega
  have e2 : (l : Int) / 4611686018427387904 = ((l / 4611686018427387904 : Nat) : Int) := by omega
  rw [e1, e2]
  show IntKind.u64.wrap ((BitVec.ofInt 64 ((h * 4 : Nat) : Int) ||| BitVec.ofInt 64 ((l / 4611686018427387904 : Nat) : Int)).toNat : Int) = _
  have hq : l / 4611686018427387904 < 4 := by omega
  rw [BitVec.toNat_or, show (BitVec.ofInt 64 ((h * 4 : Nat) : Int)).toNat = h * 4 by simp; omega, show (BitVec.ofInt 64 ((l / 4611686018427387904 : Nat) : Int)).toNat = l / 4611686018427387904 by simp; omega]
  rw [show h * 4 = h <<< 2 by rw [Nat.shiftLeft_eq], ← Nat.shiftLeft_add_eq_or_of_lt (by simpa using hq), IntKind.wrap_u64, Nat.shiftLeft_eq]
  omega

set_option maxHeartbeats 400000 in
theorem squared_any (x : Nat) (w : World) (h : LgOk x) :
    Calls Try.prog 17 #[.int .u64 (x : Int)] w fun e w' => e = .returned (.int .u64 ((x * x / 4611686018427387904 : Nat) : Int)) ∧ w' = w := by
  obtain ⟨h1, h2⟩ := h
  have HM := Lib.hid (Try.bits_Mul64 x x (by omega) (by omega) w)
  have hx := Nat.mul_le_mul (show x ≤ 9223372036854775807 by omega) (show x ≤ 9223372036854775807 by omega)
  have HL := Lib.hid (lg_low (x * x / 18446744073709551616) (x * x % 18446744073709551616) (by omega) (Nat.mod_lt _ (by decide)))
  have HE : Hid (x * x / 18446744073709551616 * 4 + x * x % 18446744073709551616 / 4611686018427387904 = x * x / 4611686018427387904) := by show _ = _; omega
  clear hx
  generalize x * x / 18446744073709551616 = hi at *
  generalize x * x % 18446744073709551616 = lo at *
  go_enter Try.func17, Try.ntmps17
  go_wp2_with fail
  refine HM.out.mono ?_
  rintro e w' ⟨rfl, rfl⟩
  go_wp2
  go_ret
  refine ⟨?_, rfl⟩
  rw [← HE.out, ← HL.out]
  rfl

theorem or_digit (a d : Nat) (ha : a < 4611686018427387904) (hd : d ≤ 1) : bits .or .i64 (wrap64 ((a : Int) * 2)) (d : Int) = ((2 * a + d : Nat) : Int) := by
  have e1 : wrap64 ((a : Int) * 2) = ((a * 2 : Nat) : Int) := by unfold wrap64; omega
  rw [e1]
  show IntKind.i64.wrap ((BitVec.ofInt 64 ((a * 2 : Nat) : Int) ||| BitVec.ofInt 64 (d : Int)).toNat : Int) = _
  rw [BitVec.toNat_or, show (BitVec.ofInt 64 ((a * 2 : Nat) : Int)).toNat = a * 2 by simp; omega, show (BitVec.ofInt 64 (d : Int)).toNat = d by simp; omega]
  rw [show a * 2 = a <<< 1 by rw [Nat.shiftLeft_eq], ← Nat.shiftLeft_add_eq_or_of_lt (by simpa using (show d < 2 by omega)), IntKind.wrap_i64, Nat.shiftLeft_eq]
  omega

set_option maxHeartbeats 800000 in
theorem log2_any (n : Int) (w : World) :
    Calls Try.prog 8 #[.int .i64 n] w fun e w' => e = .returned (.int .i64 (lgF n : Int)) ∧ w' = w := by
  obtain ⟨m, hm⟩ : ∃ m, m = lgIn n := ⟨_, rfl⟩
  obtain ⟨h1, h2⟩ := lgIn_le n
  rw [← hm] at h1 h2
  obtain ⟨n1, hn1⟩ : ∃ n1, max n 1 = n1 := ⟨_, rfl⟩
  have hmx := fun ts t W => maxi_is (P := Try.prog) hn1 ts t W
  have hmn := fun ts t W => mini_is (P := Try.prog) (show min n1 1099511627776 = (m : Int) by rw [hm]; unfold lgIn; split; omega; split <;> omega) ts t W
  have HF : Hid (lgF n = lgOf m) := by show _ = _; rw [hm]; rfl
  rw [HF.out]
  have hl := bitLen_nbits m (by omega) (by omega)
  obtain ⟨e, he⟩ : ∃ e, e = m.log2 := ⟨_, rfl⟩
  have hnb : nbits m = e + 1 := by unfold nbits; rw [if_neg (by omega), he]
  have he40 : e ≤ 40 := by rw [he]; have := (Nat.log2_lt (n := m) (k := 41) (by omega)).2 (by omega); omega
  have HLEN := Lib.hid (Try.bits_Len64 (m : Int) w (by omega) (by omega))
  rw [show ((m : Int)).toNat = m by omega, hl, hnb] at HLEN
  have i1 : IntKind.i64.wrap (((e + 1 : Nat) : Int) - 1) = (e : Int) := by rw [IntKind.wrap_i64]; omega
  have i2 : IntKind.i64.wrap (62 - (e : Int)) = ((62 - e : Nat) : Int) := by rw [IntKind.wrap_i64]; omega
  have HST := Lib.hid (lg_start m h1 (by omega))
  have HEE := Lib.hid he
  rw [← he] at HST
  clear hn1 hl hnb hm he
  have i3 : IntKind.u64.wrap (m : Int) = (m : Int) := by rw [IntKind.wrap_u64]; omega
  obtain ⟨X, hX⟩ : ∃ X, X = m * 2 ^ (62 - e) := ⟨_, rfl⟩
  rw [← hX] at HST
  have HR : Hid (lgOf m = (lgRun 28 (e, X)).1) := by show _ = _; unfold lgOf; rw [← HEE.out, hX]
  have hc : (m : Int) * 2 ^ (62 - e) = (X : Int) := by rw [hX]; simp
  have i4 : IntKind.u64.wrap ((m : Int) * 2 ^ (62 - e)) = (X : Int) := by rw [hc, IntKind.wrap_u64]; have := HST.out.2; omega
  rw [HR.out]
  clear hX hc HF


  go_enter Try.func8, Try.ntmps8
  go_wp2_with fail
  refine HLEN.out.mono ?_
  rintro e' w' ⟨rfl, rfl⟩
  go_wp2
  go_loop [3, 4, 5, 17] (fun v3 v4 v5 v17 => ∃ (k l x : Nat), k ≤ 28 ∧ v17 = .int .i64 (k : Int) ∧ v4 = .int .i64 (l : Int) ∧ v3 = .int .u64 (x : Int) ∧ Hid (lgRun k (e, X) = (l, x))) (fun _ _ _ v17 => 28 - (intOf v17).toNat)
  case atStart => exact ⟨0, e, X, by omega, rfl, rfl, rfl, rfl⟩
  case round =>
    obtain ⟨k, l, x, hk, rfl, rfl, rfl, HI⟩ := hrel
    have hok := lgRun_ok k (p := (e, X)) HST.out
    rw [HI.out] at hok
    have HOK : Hid (LgOk x) := hok
    by_cases hlt : k < 28
    · have hr := lgRun_succ k (e, X)
      rw [HI.out] at hr
      unfold lgStep at hr
      simp only at hr
      obtain ⟨y, hy⟩ : ∃ y, y = x * x / 4611686018427387904 := ⟨_, rfl⟩
      have hyy := lg_y hok
      have HSQ := Lib.hid (squared_any x w' HOK.out)
      rw [← hy] at hyy hr HSQ
      clear hok hy
      go_wp2_with fail
      refine HSQ.out.mono ?_
      rintro e' w'' ⟨rfl, rfl⟩
      go_wp2
      have hll : l < 41 * 268435456 := by
        have h1 := lgRun_lt e X k
        rw [HI.out] at h1
        have h2 : (e + 1) * 2 ^ k ≤ 41 * 2 ^ 28 := Nat.mul_le_mul (by omega) (Nat.pow_le_pow_right (by decide) (by omega))
        simp only at h1
        omega
      have ho := or_digit l (y / 9223372036854775808) (by omega) (by omega)
      have e1 : ((y / 9223372036854775808 : Nat) : Int) = (y : Int) / 9223372036854775808 := by omega
      rw [e1] at ho
      refine ⟨⟨k + 1, 2 * l + y / 9223372036854775808, y / 2 ^ (y / 9223372036854775808), by omega, by go_num, by rw [ho], by simp, ?_⟩, by simp [intOf]; omega⟩
      show _ = _
      rw [hr]
      split
      · have : y / 9223372036854775808 = 0 := by omega
        rw [this]; simp
      · have : y / 9223372036854775808 = 1 := by omega
        rw [this]
    · obtain rfl : k = 28 := by omega
      go_wp2
      go_ret
      refine ⟨?_, rfl⟩
      rw [HI.out]
      rfl

/-- Brought among 0 and 2^20. -/
def xlIn (n : Int) : Nat := (min (max n 0) 1048576).toNat
theorem xlIn_of (n : Nat) (h : n ≤ 1048576) : xlIn (n : Int) = n := by unfold xlIn; omega
theorem xlIn_le (n : Int) : xlIn n ≤ 1048576 := by unfold xlIn; omega

set_option maxHeartbeats 400000 in
theorem xlog_any (n : Int) (w : World) :
    Calls Try.prog 10 #[.int .i64 n] w fun e w' => e = .returned (.int .i64 (xlF (xlIn n) : Int)) ∧ w' = w := by
  obtain ⟨m, hm⟩ : ∃ m, m = xlIn n := ⟨_, rfl⟩
  have hle := xlIn_le n
  rw [← hm] at hle ⊢
  obtain ⟨n1, hn1⟩ : ∃ n1, max n 0 = n1 := ⟨_, rfl⟩
  have hmx := fun ts t W => maxi_is (P := Try.prog) hn1 ts t W
  have hmn := fun ts t W => mini_is (P := Try.prog) (show min n1 1048576 = (m : Int) by rw [hm]; unfold xlIn; omega) ts t W
  have hx := xlF_le m hle
  unfold xlF at hx ⊢
  have HL := Lib.hid (log2_any (m : Int) w)
  generalize lgF (m : Int) = l at *
  have i1 : wrap64 ((m : Int) * (l : Int)) = ((m * l : Nat) : Int) := by rw [← Int.natCast_mul]; unfold wrap64; omega
  have H1 := Lib.hid i1
  clear hn1 hm i1 hx
  go_enter Try.func10, Try.ntmps10
  go_wp2_with fail
  refine HL.out.mono ?_
  rintro e w' ⟨rfl, rfl⟩
  go_wp2
  go_ret
  exact ⟨ret_int H1.out, rfl⟩

/-- n brought among 1 and 2^20. -/
def dfIn (n : Int) : Nat := (min (max n 1) 1048576).toNat
/-- By how much n times its logarithm goes up. -/
def dfF (n : Nat) : Nat := xlF n - xlF (n - 1)

set_option maxHeartbeats 400000 in
theorem diff_any (n : Int) (w : World) :
    Calls Try.prog 15 #[.int .i64 n] w fun e w' => e = .returned (.int .i64 (dfF (dfIn n) : Int)) ∧ w' = w := by
  obtain ⟨m, hm⟩ : ∃ m, m = dfIn n := ⟨_, rfl⟩
  have hle : 1 ≤ m ∧ m ≤ 1048576 := by rw [hm]; unfold dfIn; omega
  rw [← hm]
  obtain ⟨n1, hn1⟩ : ∃ n1, max n 1 = n1 := ⟨_, rfl⟩
  have hmx := fun ts t W => maxi_is (P := Try.prog) hn1 ts t W
  have hmn := fun ts t W => mini_is (P := Try.prog) (show min n1 1048576 = (m : Int) by rw [hm]; unfold dfIn; omega) ts t W
  have hx := xlF_le m hle.2
  have hxm := xlF_mono (show m - 1 ≤ m by omega)
  have HL := Lib.hid (xlog_any (m : Int) w)
  have HL2 := Lib.hid (xlog_any ((m : Int) - 1) w)
  rw [xlIn_of m hle.2] at HL
  rw [show xlIn ((m : Int) - 1) = m - 1 by unfold xlIn; omega] at HL2
  unfold dfF
  generalize xlF m = a at *
  generalize xlF (m - 1) = b at *
  have H1 : Hid (wrap64 ((a : Int) - (b : Int)) = ((a - b : Nat) : Int)) := by show _ = _; unfold wrap64; omega
  clear hn1 hm hx hxm
  go_enter Try.func15, Try.ntmps15
  go_wp2_with fail
  refine HL.out.mono ?_
  rintro e w' ⟨rfl, rfl⟩
  go_wp2_with fail
  refine HL2.out.mono ?_
  rintro e w' ⟨rfl, rfl⟩
  go_wp2
  go_ret
  exact ⟨ret_int H1.out, rfl⟩

set_option maxHeartbeats 400000 in
theorem logsAwake_any (w : World) :
    Calls Try.prog 7 #[] w fun e w' => e = .returned (.bool true) ∧ w' = w := by
  have H1 := Lib.hid (log2_any 1 w)
  have H2 := Lib.hid (log2_any 2 w)
  have H3 := Lib.hid (log2_any 3 w)
  rw [lgF_one] at H1
  rw [lgF_two] at H2
  rw [lgF_three] at H3
  go_enter Try.func7, Try.ntmps7
  go_wp2_with fail
  refine H1.out.mono ?_
  rintro e w' ⟨rfl, rfl⟩
  go_wp2_with fail
  refine H2.out.mono ?_
  rintro e w' ⟨rfl, rfl⟩
  go_wp2_with fail
  refine H3.out.mono ?_
  rintro e w' ⟨rfl, rfl⟩
  go_wp2
  go_ret
  exact ⟨rfl, rfl⟩
end Go.Proofs.Ythepnppnmmkigaa
