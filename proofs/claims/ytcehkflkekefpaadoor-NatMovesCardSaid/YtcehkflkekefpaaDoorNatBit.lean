/- The contract of nat.Bit (layer 5). -/
import Derived.Test.YtcehkflkekefpaaDoorNatBW
import Derived.Test.YtcehkflkekefpaaDoorNatBox
namespace Go.Proofs.YtcehkflkekefpaaDoor
open Go.RowKit Go.Proofs.Tm
set_option linter.unusedVariables false
set_option linter.unusedSimpArgs false
set_option maxRecDepth 20000

theorem u64_and_one (a : Nat) (h : a < 18446744073709551616) : bits .and .u64 (a : Int) 1 = ((a % 2 : Nat) : Int) := by
  show IntKind.u64.wrap ((BitVec.ofInt 64 (a : Int) &&& BitVec.ofInt 64 1).toNat : Int) = _
  rw [BitVec.toNat_and, show (BitVec.ofInt 64 (a : Int)).toNat = a by simp; omega, show (BitVec.ofInt 64 1).toNat = 1 from rfl, Nat.and_one_is_mod]
  rw [IntKind.wrap_u64]; omega
theorem bit_word (m k : Nat) : m / 18446744073709551616 ^ (k / 64) % 18446744073709551616 / 2 ^ (k % 64) % 2 = m / 2 ^ k % 2 := by
  have h1 : m / 2 ^ k = m / 18446744073709551616 ^ (k / 64) / 2 ^ (k % 64) := by
    rw [Nat.div_div_eq_div_mul, W_two, ← Nat.pow_mul, ← Nat.pow_add, Nat.div_add_mod]
  rw [h1, W_two]
  generalize m / (2 ^ 64) ^ (k / 64) = y
  have h2 := Nat.testBit_mod_two_pow y 64 (k % 64)
  rw [decide_eq_true (Nat.mod_lt k (by decide)), Bool.true_and, Nat.testBit_eq_decide_div_mod_eq, Nat.testBit_eq_decide_div_mod_eq, Bool.eq_iff_iff, decide_eq_true_eq, decide_eq_true_eq] at h2
  have := Nat.mod_lt (y / 2 ^ (k % 64)) (show 2 > 0 by decide)
  have := Nat.mod_lt (y % 2 ^ 64 / 2 ^ (k % 64)) (show 2 > 0 by decide)
  omega

/-- Is the bit i set? -/
def bitOf (m : Nat) (i : Int) : Bool := decide (0 ≤ i) && decide (m / 2 ^ i.toNat % 2 = 1)

set_option maxHeartbeats 800000 in
theorem bit_any (u : Value) (m : Nat) (i : Int) (w : World) (hu : NV w u m) (hi : i ≤ 9223372036854775807) (hi' : -9223372036854775808 ≤ i) :
    Calls Tryd.prog 26 #[u, .int .i64 i] w fun e w' => e = .returned (.bool (bitOf m i)) ∧ Upd [] w w' := by
  obtain ⟨a, cap, rfl, _, _⟩ := hu.open
  obtain ⟨l, hl⟩ : ∃ l, l = (wds m).length := ⟨_, rfl⟩
  rw [← hl] at hu ⊢
  have HU := Lib.hid hu
  clear hu hl
  by_cases hneg : i < 0
  · have HB : Hid (bitOf m i = false) := by show _ = _; unfold bitOf; rw [decide_eq_false (by omega)]; rfl
    rw [HB.out]
    go_enter Tryd.func26, Tryd.ntmps26
    go_wp2
    go_ret
    exact ⟨rfl, (Upd.refl _ _).alloc _⟩
  · obtain ⟨k, rfl⟩ := Int.eq_ofNat_of_zero_le (show 0 ≤ i by omega)
    have hk : k ≤ 9223372036854775807 := by omega
    obtain ⟨q, hq⟩ : ∃ q, q = k / 64 := ⟨_, rfl⟩
    obtain ⟨s, hs⟩ : ∃ s, s = k % 64 := ⟨_, rfl⟩
    obtain ⟨x, hx⟩ : ∃ x, x = m / 18446744073709551616 ^ q % 18446744073709551616 := ⟨_, rfl⟩
    have hxl : x < 18446744073709551616 := by rw [hx]; exact Nat.mod_lt _ (by decide)
    have HBIT : Hid ((bits .and .u64 ((x : Int) / 2 ^ s) 1 == 1) = bitOf m (k : Int)) := by
      show _ = _
      unfold bitOf
      rw [shr_nat, u64_and_one _ (Nat.lt_of_le_of_lt (Nat.div_le_self _ _) hxl), decide_eq_true (show (0 : Int) ≤ (k : Int) by omega), Bool.true_and, Bool.eq_iff_iff, beq_iff_eq, decide_eq_true_eq, show ((k : Int)).toNat = k by omega, ← bit_word m k, ← hq, ← hs, ← hx]
      omega
    have i1 : (k : Int) / 64 = (q : Int) := by omega
    have i2 : (k : Int) % 64 = (s : Int) := by omega
    have hs64 : s < 64 := by omega
    have hql : q < 4611686018427387904 := by omega
    have HW := Lib.hid (word_any (.agg #[.slice a l cap]) m q (w.alloc (.cells #[.slice a l cap] 26)) (HU.out.upd0 ((Upd.refl _ _).alloc _)) hql)
    rw [wds_getD, ← hx] at HW
    clear hx hq hs hneg hi hi' hk
    go_enter Tryd.func26, Tryd.ntmps26
    go_wp2_with fail
    refine HW.out.mono ?_
    rintro e w1 ⟨rfl, hu1⟩
    have HU1 := Lib.hid (((Upd.refl [] w).alloc _).trans0 hu1)
    clear hu1
    go_wp2
    go_ret
    exact ⟨congrArg Ending.returned (congrArg Value.bool HBIT.out), HU1.out⟩
end Go.Proofs.YtcehkflkekefpaaDoor
