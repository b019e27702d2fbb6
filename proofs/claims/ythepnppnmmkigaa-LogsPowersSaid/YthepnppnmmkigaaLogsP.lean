/- The law LogsPowers (layer 8). -/
import Derived.Test.YthepnppnmmkigaaLogs
import Derived.Test.YthepnppnmmkigaaOpen
namespace Go.Proofs.Ythepnppnmmkigaa
open Go.RowKit Go.Proofs.Tm
set_option linter.unusedVariables false
set_option linter.unusedSimpArgs false
set_option maxRecDepth 20000

set_option maxHeartbeats 800000 in
theorem logsPowers_law (n k : Int) (w : World) :
    Calls Try.prog 6 #[.int .i64 n, .int .i64 k] w fun e w' => e = .returned (.bool true) ∧ w' = w := by
  obtain ⟨N, hN⟩ : ∃ N : Nat, max 1 (min n 1048576) = (N : Int) := ⟨(max 1 (min n 1048576)).toNat, by omega⟩
  obtain ⟨K, hK⟩ : ∃ K : Nat, max 0 (min k 20) = (K : Int) := ⟨(max 0 (min k 20)).toNat, by omega⟩
  obtain ⟨n1, hn1⟩ : ∃ n1, min n 1048576 = n1 := ⟨_, rfl⟩
  obtain ⟨k1, hk1⟩ : ∃ k1, min k 20 = k1 := ⟨_, rfl⟩
  have m1 := fun ts t W => mini_is (P := Try.prog) hn1 ts t W
  have m2 := fun ts t W => mini_is (P := Try.prog) hk1 ts t W
  have m3 := fun ts t W => maxi_is (P := Try.prog) (show max 1 n1 = (N : Int) by omega) ts t W
  have m4 := fun ts t W => maxi_is (P := Try.prog) (show max 0 k1 = (K : Int) by omega) ts t W
  have hNb : 1 ≤ N ∧ N ≤ 1048576 := by omega
  have hKb : K ≤ 20 := by omega
  have hp1 : 1 ≤ 2 ^ K := Nat.two_pow_pos K
  have hp2 : 2 ^ K ≤ 1048576 := Nat.le_trans (Nat.pow_le_pow_right (by decide) hKb) (by decide)
  obtain ⟨P, hP⟩ : ∃ P, P = N * 2 ^ K := ⟨_, rfl⟩
  have hPb : 1 ≤ P ∧ P ≤ 1099511627776 := by
    rw [hP]; exact ⟨Nat.mul_le_mul hNb.1 hp1, Nat.mul_le_mul hNb.2 hp2⟩
  have hl : N.log2 < 21 := (Nat.log2_lt (by omega)).2 (by omega)
  have HE : Hid (lgF (P : Int) = lgF (N : Int) + K * 268435456) := by
    show _ = _
    rw [lgF_nat P hPb.1 (by omega), lgF_nat N hNb.1 (by omega), hP]
    exact lgOf_shift N K hNb.1 (by omega)
  have hc : (N : Int) * 2 ^ K = (P : Int) := by rw [hP]; simp
  have i1 : IntKind.i64.wrap ((N : Int) * 2 ^ K) = (P : Int) := by rw [hc, IntKind.wrap_i64]; omega
  have HA := Lib.hid (logsAwake_any w)
  have HP := Lib.hid (log2_any (P : Int) w)
  have HN := Lib.hid (log2_any (N : Int) w)
  have HX := Lib.hid (xlog_any (N : Int) w)
  rw [xlIn_of N hNb.2] at HX
  have hx := xlF_le N hNb.2
  unfold xlF at hx HX
  have hb := lgF_le (N : Int)
  have hb2 := lgF_le (P : Int)
  generalize lgF (P : Int) = lp at *
  generalize lgF (N : Int) = ln at *
  have i2 : wrap64 ((N : Int) * (ln : Int)) = ((N * ln : Nat) : Int) := by rw [← Int.natCast_mul]; unfold wrap64; omega
  have i3 : ((lp : Int) == (ln : Int) + (K : Int) * 268435456) = true := by have := HE.out; rw [beq_iff_eq]; omega
  have i4 : (((N * ln : Nat) : Int) == ((N * ln : Nat) : Int)) = true := by simp
  clear hn1 hk1 hN hK hc hP hp1 hp2
  generalize N * ln = Q at *
  go_enter Try.func6, Try.ntmps6
  go_wp2_with fail
  refine HA.out.mono ?_
  rintro e w' ⟨rfl, rfl⟩
  go_wp2_with fail
  refine HP.out.mono ?_
  rintro e w' ⟨rfl, rfl⟩
  go_wp2_with fail
  refine HN.out.mono ?_
  rintro e w' ⟨rfl, rfl⟩
  go_wp2_with fail
  refine HX.out.mono ?_
  rintro e w' ⟨rfl, rfl⟩
  go_wp2_with fail
  refine HN.out.mono ?_
  rintro e w' ⟨rfl, rfl⟩
  go_wp2
  go_ret
  exact ⟨rfl, rfl⟩
end Go.Proofs.Ythepnppnmmkigaa
