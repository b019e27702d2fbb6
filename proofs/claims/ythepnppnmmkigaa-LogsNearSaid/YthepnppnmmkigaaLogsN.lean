/- The law LogsNear (layer 8). -/
import Derived.Test.YthepnppnmmkigaaLogs
import Derived.Test.YthepnppnmmkigaaNatPow
import Derived.Test.YthepnppnmmkigaaOpen
namespace Go.Proofs.Ythepnppnmmkigaa
open Go.RowKit Go.Proofs.Tm
set_option linter.unusedVariables false
set_option linter.unusedSimpArgs false
set_option maxRecDepth 20000

theorem nbits_log2 {p : Nat} (h : p ≠ 0) : nbits p = p.log2 + 1 := by unfold nbits; rw [if_neg h]
theorem nbits_small {n : Nat} (h : n ≤ 1048576) : nbits n ≤ 21 := (nbits_le_iff n 21).2 (by omega)
theorem pow_words (n j k : Nat) (h : n ≤ 2 ^ j) (E : Nat) (hE : j * E < 64 * k) : (wds (n ^ E)).length ≤ k := by
  rw [wds_length_le_iff, W_two, ← Nat.pow_mul]
  refine Nat.lt_of_le_of_lt (Nat.pow_le_pow_left h E) ?_
  rw [← Nat.pow_mul]
  exact Nat.pow_lt_pow_right (by decide) hE
theorem wds_pow256 {n : Nat} (h : n ≤ 1048576) : (wds (n ^ 256)).length ≤ 1099511627776 :=
  Nat.le_trans (pow_words n 20 81 h 256 (by decide)) (by decide)

set_option maxHeartbeats 1600000 in
theorem logsNear_law (n : Int) (w : World) :
    Calls Try.prog 4 #[.int .i64 n] w fun e w' => e = .returned (.bool true) ∧ Upd [] w w' := by
  obtain ⟨N, hN⟩ : ∃ N : Nat, max 1 (min n 1048576) = (N : Int) := ⟨(max 1 (min n 1048576)).toNat, by omega⟩
  obtain ⟨n1, hn1⟩ : ∃ n1, min n 1048576 = n1 := ⟨_, rfl⟩
  have m1 := fun ts t W => mini_is (P := Try.prog) hn1 ts t W
  have m3 := fun ts t W => maxi_is (P := Try.prog) (show max 1 n1 = (N : Int) by omega) ts t W
  have hNb : 1 ≤ N ∧ N ≤ 1048576 := by omega
  have h40 : (1048576 : Nat) ≤ 2 ^ 40 := by decide
  have h62 : (1048576 : Nat) < 2 ^ 62 := by decide
  have hnear := lgOf_near N hNb.1 (Nat.lt_of_le_of_lt hNb.2 h62)
  rw [← lgF_nat N hNb.1 (Nat.le_trans hNb.2 h40)] at hnear
  have hp0 : N ^ 256 ≠ 0 := by have := Nat.pow_pos (n := 256) hNb.1; omega
  have HA := Lib.hid (logsAwake_any w)
  have HL : Hid (∀ W, Calls Try.prog 8 #[.int .i64 (N : Int)] W fun e w' => e = .returned (.int .i64 (lgF (N : Int) : Int)) ∧ w' = W) := fun W => log2_any (N : Int) W
  have hlb := lgF_le (N : Int)
  have HPW : Hid (∀ W v, NV W v N → Calls Try.prog 12 #[v, .int .i64 256] W (RNatE (N ^ 256) 0 W)) := fun W v h => by
    have hw : (wds N).length ≤ 1099511627776 := by
      have : (wds N).length ≤ 1 := (wds_length_le_iff N 1).2 (by omega)
      omega
    have := pow_any v N 256 W h hw (by decide)
    refine this.mono ?_
    intro e w' hpp
    unfold PowPost at hpp
    rw [if_neg (by decide)] at hpp
    by_cases h1 : N ≤ 1
    · rw [if_pos h1] at hpp
      obtain rfl : N = 1 := by omega
      simpa using hpp
    · rw [if_neg h1, if_neg] at hpp
      · exact hpp
      · have hb := nbits_small hNb.2
        have hb0 : 0 < nbits N := nbits_pos (by omega)
        have : 256 ≤ 8192 / nbits N := by rw [Nat.le_div_iff_mul_le hb0]; omega
        omega
  have HBT : Hid (∀ W v, NV W v (N ^ 256) → Calls Try.prog 14 #[v] W fun e w' => e = .returned (.int .i64 (nbits (N ^ 256) : Int)) ∧ Upd [] W w') := fun W v h => bits_any v _ W h (wds_pow256 hNb.2)
  rw [nbits_log2 hp0] at HBT
  have HU := Lib.hid hp0
  generalize (N ^ 256).log2 = k at *
  obtain ⟨P, hP⟩ : ∃ P, P = N ^ 256 := ⟨_, rfl⟩
  rw [← hP] at HPW HBT HU
  generalize lgF (N : Int) = v at *
  have hk : k ≤ 10737418242 := by omega
  have j1 : decide ((v : Int) / 1048576 ≤ (k : Int)) = true := by simp; omega
  have j2 : decide ((k : Int) ≤ ((v : Int) + 2) / 1048576) = true := by simp; omega
  clear hn1 hN hP hp0 hnear h40 h62
  go_enter Try.func4, Try.ntmps4
  go_wp2_with fail
  refine HA.out.mono ?_
  rintro e w' ⟨rfl, rfl⟩
  go_wp2_with fail
  refine (of1 N (N : Int) rfl (by omega) _ _ rfl).mono ?_
  rintro e w1 ⟨v1, rfl, hn1, hu1⟩
  obtain ⟨a1, c1, rfl, hl1, hm1⟩ := hn1.open
  generalize (wds N).length = l1 at *
  have hu01 := ((Upd.refl [] w').alloc _).trans0 hu1
  have HN1 := Lib.hid hn1
  have HU1 := Lib.hid hu01
  clear hn1 hu1 hu01
  go_wp2_with fail
  refine (HPW.out _ _ HN1.out).mono ?_
  rintro e w2 ⟨v2, rfl, hn2, hu2⟩
  obtain ⟨a2, c2, rfl, hl2, hm2⟩ := hn2.open
  generalize (wds P).length = l2 at *
  have HN2 := Lib.hid hn2
  have HU2 := Lib.hid (HU1.out.trans0 hu2)
  clear hn2 hu2
  go_wp2_with fail
  refine (HBT.out _ _ (HN2.out.upd0 ((Upd.refl _ _).alloc _))).mono ?_
  rintro e w3 ⟨rfl, hu3⟩
  have HU3 := Lib.hid ((HU2.out.alloc _).trans0 hu3)
  clear hu3
  go_wp2_with fail
  refine (HL.out _).mono ?_
  rintro e w4 ⟨rfl, rfl⟩
  go_wp2
  go_ret
  exact ⟨rfl, HU3.out⟩
end Go.Proofs.Ythepnppnmmkigaa
