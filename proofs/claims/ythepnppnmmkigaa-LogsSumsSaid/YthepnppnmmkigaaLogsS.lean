/- The law LogsSums (layer 8). -/
import Derived.Test.YthepnppnmmkigaaLogs
import Derived.Test.YthepnppnmmkigaaOpen
namespace Go.Proofs.Ythepnppnmmkigaa
open Go.RowKit Go.Proofs.Tm
set_option linter.unusedVariables false
set_option linter.unusedSimpArgs false
set_option maxRecDepth 100000

theorem df_sum (i : Nat) (hi : 1 ≤ i) : xlF (i - 1) + dfF i = xlF i := by
  have := xlF_mono (show i - 1 ≤ i by omega)
  unfold dfF; omega

theorem lgF_prod (m n p : Nat) (hm : 1 ≤ m) (hm2 : m ≤ 1048576) (hn : 1 ≤ n) (hn2 : n ≤ 300) (hp : p = m * n) (hp1 : 1 ≤ p) (hp2 : p ≤ 314572800) : lgF (m : Int) + lgF (n : Int) ≤ lgF (p : Int) + 2 ∧ lgF (p : Int) ≤ lgF (m : Int) + lgF (n : Int) + 4 := by
  have h40 : (314572800 : Nat) ≤ 2 ^ 40 := by decide
  have h41 : (1048576 : Nat) ≤ 2 ^ 40 := by decide
  have h42 : (300 : Nat) ≤ 2 ^ 40 := by decide
  have h62 : (314572800 : Nat) < 2 ^ 62 := by decide
  rw [lgF_nat p hp1 (Nat.le_trans hp2 h40), lgF_nat m hm (Nat.le_trans hm2 h41), lgF_nat n hn (Nat.le_trans hn2 h42), hp]
  exact lgOf_prod m n hm hn (by rw [← hp]; exact Nat.lt_of_le_of_lt hp2 h62)

set_option maxHeartbeats 1600000 in
theorem logsSums_law (n m : Int) (w : World) :
    Calls Try.prog 5 #[.int .i64 n, .int .i64 m] w fun e w' => e = .returned (.bool true) ∧ w' = w := by
  obtain ⟨N, hN⟩ : ∃ N : Nat, max 0 (min n 300) = (N : Int) := ⟨(max 0 (min n 300)).toNat, by omega⟩
  obtain ⟨M, hM⟩ : ∃ M : Nat, max 1 (min m 1048576) = (M : Int) := ⟨(max 1 (min m 1048576)).toNat, by omega⟩
  obtain ⟨N1, hN1⟩ : ∃ N1 : Nat, max (N : Int) 1 = (N1 : Int) := ⟨(max (N : Int) 1).toNat, by omega⟩
  obtain ⟨n1, hn1⟩ : ∃ n1, min n 300 = n1 := ⟨_, rfl⟩
  obtain ⟨k1, hk1⟩ : ∃ k1, min m 1048576 = k1 := ⟨_, rfl⟩
  have m1 := fun ts t W => mini_is (P := Try.prog) hn1 ts t W
  have m2 := fun ts t W => mini_is (P := Try.prog) hk1 ts t W
  have m3 := fun ts t W => maxi_is (P := Try.prog) (show max 0 n1 = (N : Int) by omega) ts t W
  have m4 := fun ts t W => maxi_is (P := Try.prog) (show max 1 k1 = (M : Int) by omega) ts t W
  have m5 := fun ts t W => maxi_is (P := Try.prog) hN1 ts t W
  have hNb : N ≤ 300 := by omega
  have hMb : 1 ≤ M ∧ M ≤ 1048576 := by omega
  have hN1b : 1 ≤ N1 ∧ N1 ≤ 300 := by omega
  obtain ⟨P, hP⟩ : ∃ P, P = M * N1 := ⟨_, rfl⟩
  have hPb : 1 ≤ P ∧ P ≤ 314572800 := by rw [hP]; exact ⟨Nat.mul_le_mul hMb.1 hN1b.1, Nat.mul_le_mul hMb.2 hN1b.2⟩
  have i1 : wrap64 ((M : Int) * (N1 : Int)) = (P : Int) := by rw [← Int.natCast_mul, ← hP]; unfold wrap64; omega
  have hpr := lgF_prod M N1 P hMb.1 hMb.2 hN1b.1 hN1b.2 hP hPb.1 hPb.2
  have hmo := lgF_mono (show (M : Int) ≤ (M : Int) + 1 by omega)
  have HA := Lib.hid (logsAwake_any w)
  have HP := Lib.hid (log2_any (P : Int) w)
  have HM := Lib.hid (log2_any (M : Int) w)
  have HM1 := Lib.hid (log2_any ((M : Int) + 1) w)
  have HN1 := Lib.hid (log2_any (N1 : Int) w)
  have HXN := Lib.hid (xlog_any (N : Int) w)
  have HXM := Lib.hid (xlog_any (M : Int) w)
  have HXM1 := Lib.hid (xlog_any ((M : Int) - 1) w)
  have HDM := Lib.hid (diff_any (M : Int) w)
  have HD1 := Lib.hid (diff_any 1 w)
  have HD := Lib.hid (fun i : Nat => diff_any (i : Int) w)
  rw [xlIn_of N (by omega)] at HXN
  rw [xlIn_of M (by omega)] at HXM
  rw [show xlIn ((M : Int) - 1) = M - 1 by unfold xlIn; omega] at HXM1
  rw [show dfIn (M : Int) = M by unfold dfIn; omega] at HDM
  rw [show dfIn 1 = 1 by decide, show dfF 1 = 0 by decide +kernel] at HD1
  have hDI : Hid (∀ i : Nat, 1 ≤ i → i ≤ 300 → dfIn (i : Int) = i) := fun i h1 h2 => by unfold dfIn; omega
  have hds := df_sum M hMb.1
  have hx1 := xlF_le M hMb.2
  have hx2 := xlF_le (M - 1) (by omega)
  have hx3 := xlF_le N (by omega)
  have HXI : Hid (∀ i : Nat, i ≤ 300 → xlF i ≤ 11258999068426240) := fun i hi => xlF_le i (by omega)
  have b1 := lgF_le (P : Int)
  have b2 := lgF_le (M : Int)
  have b3 := lgF_le (N1 : Int)
  have b4 := lgF_le ((M : Int) + 1)
  generalize lgF (P : Int) = lp at *
  generalize lgF (M : Int) = lm at *
  generalize lgF (N1 : Int) = ln at *
  generalize lgF ((M : Int) + 1) = lm1 at *
  generalize dfF M = dm at *
  generalize xlF M = xm at *
  generalize xlF (M - 1) = xm1 at *
  obtain ⟨xn, hxn⟩ : ∃ xn, xn = xlF N := ⟨_, rfl⟩
  have HXE := Lib.hid hxn
  rw [← hxn] at HXN hx3
  have j1 : decide ((lm : Int) + (ln : Int) ≤ (lp : Int) + 2) = true := by simp; omega
  have j2 : decide ((lp : Int) ≤ (lm : Int) + (ln : Int) + 4) = true := by simp; omega
  have j3 : decide (lm ≤ lm1) = true := by simp; omega
  have j4 : ((dm : Int) == (xm : Int) - (xm1 : Int)) = true := by rw [beq_iff_eq]; omega
  clear hn1 hk1 hN hM hN1 hP hpr hmo hxn hds
  go_enter Try.func5, Try.ntmps5
  go_wp2_with fail
  refine HA.out.mono ?_
  rintro e w' ⟨rfl, rfl⟩
  go_wp2
  go_loop [5, 6] (fun v5 v6 => ∃ (i s : Nat), i ≤ N ∧ v6 = .int .i64 ((i : Int) + 1) ∧ v5 = .int .i64 (s : Int) ∧ Hid (s = xlF i)) (fun _ v6 => N + 1 - (intOf v6).toNat)
  case atStart => exact ⟨0, 0, by omega, rfl, rfl, by show _ = _; rw [xlF_zero]⟩
  case round =>
    obtain ⟨i, s, hi, rfl, rfl, HS⟩ := hrel
    by_cases hlt : i < N
    · have hD := HD.out (i + 1)
      rw [hDI.out (i + 1) (by omega) (by omega)] at hD
      have hds := df_sum (i + 1) (by omega)
      rw [Nat.add_sub_cancel, ← HS.out] at hds
      have hxi := HXI.out (i + 1) (by omega)
      generalize hq : xlF (i + 1) = q at *
      have HQ := Lib.hid hq
      generalize dfF (i + 1) = d at *
      have hd2 : Calls Try.prog 15 #[.int .i64 ((i : Int) + 1)] w' fun e w'' => e = .returned (.int .i64 (d : Int)) ∧ w'' = w' := hD
      have HDD := Lib.hid hd2
      clear hD hd2 hq
      go_wp2_with fail
      refine HDD.out.mono ?_
      rintro e w'' ⟨rfl, rfl⟩
      go_wp2
      refine ⟨⟨i + 1, q, by omega, by go_num, by go_num, by show _ = _; rw [HQ.out]⟩, by simp [intOf]; omega⟩
    · obtain rfl : i = N := by omega
      have hsx : s = xn := by rw [HS.out, HXE.out]
      have j5 : ((s : Int) == (xn : Int)) = true := by rw [beq_iff_eq]; omega
      clear hsx
      go_wp2_with fail
      refine HP.out.mono ?_
      rintro e w'' ⟨rfl, rfl⟩
      go_wp2_with fail
      refine HM.out.mono ?_
      rintro e w'' ⟨rfl, rfl⟩
      go_wp2_with fail
      refine HN1.out.mono ?_
      rintro e w'' ⟨rfl, rfl⟩
      go_wp2_with fail
      refine HXN.out.mono ?_
      rintro e w'' ⟨rfl, rfl⟩
      go_wp2_with fail
      refine HM1.out.mono ?_
      rintro e w'' ⟨rfl, rfl⟩
      go_wp2_with fail
      refine HM.out.mono ?_
      rintro e w'' ⟨rfl, rfl⟩
      go_wp2_with fail
      refine HDM.out.mono ?_
      rintro e w'' ⟨rfl, rfl⟩
      go_wp2_with fail
      refine HXM.out.mono ?_
      rintro e w'' ⟨rfl, rfl⟩
      go_wp2_with fail
      refine HXM1.out.mono ?_
      rintro e w'' ⟨rfl, rfl⟩
      go_wp2_with fail
      refine HD1.out.mono ?_
      rintro e w'' ⟨rfl, rfl⟩
      go_wp2
      refine bodyPost_ret (v := .bool true) (by kernel_rfl) rfl ?_
      exact ⟨rfl, rfl⟩
end Go.Proofs.Ythepnppnmmkigaa
