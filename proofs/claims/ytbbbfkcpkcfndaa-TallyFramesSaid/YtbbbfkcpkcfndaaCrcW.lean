/- The contracts of crc.turn, crc.Table, crc.More, crc.Sum. -/
import Derived.Test.YtbbbfkcpkcfndaaBitsW
import Derived.Test.YtbbbfkcpkcfndaaCrcMath
import Derived.Laws.BitsAllLaws
namespace Go.Proofs.Ytbbbfkcpkcfndaa
open Go.RowKit Go.Proofs.Tm
set_option linter.unusedVariables false
set_option maxRecDepth 20000

theorem and_one32 (x : Nat) (h : x < 4294967296) : bits .and .u32 (x : Int) 1 = ((x % 2 : Nat) : Int) := by
  rw [show (1 : Int) = ((1 : Nat) : Int) from rfl, u32_and_nat _ _ h (by decide), Nat.and_one_is_mod]
theorem xor_poly (x : Nat) (h : x < 4294967296) : bits .xor .u32 ((x : Int) / 2) 3988292384 = ((x / 2 ^^^ 3988292384 : Nat) : Int) := by
  rw [show ((x : Int) / 2) = ((x / 2 : Nat) : Int) by simp, show (3988292384 : Int) = ((3988292384 : Nat) : Int) from rfl, u32_xor_nat _ _ (by omega) (by decide)]

set_option maxHeartbeats 400000 in
theorem turn_any (n : Nat) (w : World) (hn : n < 4294967296) :
    Calls Try.prog 90 #[.int .u32 (n : Int)] w fun e w' => e = .returned (.int .u32 ((stpN 8 n : Nat) : Int)) ∧ w = w' := by
  go_enter Try.func90, Try.ntmps90
  go_wp2
  go_loop [0, 4] (fun s0 s4 => ∃ k : Nat, k ≤ 8 ∧ s4 = .int .i64 k ∧ s0 = .int .u32 ((stpN k n : Nat) : Int)) (fun _ s4 => 8 - (intOf s4).toNat)
  case atStart => exact ⟨0, by omega, rfl, rfl⟩
  case round =>
    obtain ⟨k, hk, rfl, rfl⟩ := hrel
    by_cases hlt : k < 8
    · have hx := stpN_lt k n hn
      have HS : Hid (stpN (k + 1) n = stp (stpN k n)) := rfl
      generalize stpN k n = x at *
      have ha := and_one32 x hx
      by_cases hb : x % 2 = 1
      · have HX := Lib.hid (xor_poly x hx)
        have HT : Hid (stp x = (x / 2 ^^^ 3988292384)) := by show _ = _; unfold stp; rw [if_pos hb]
        rw [hb] at ha
        clear hb
        go_wp2
        go_round
        case rel => exact ⟨k + 1, by omega, by go_num, by rw [HS.out, HT.out]; exact congrArg _ HX.out⟩
        case measure => simp [intOf]; omega
      · have HT : Hid (stp x = x / 2) := by show _ = _; unfold stp; rw [if_neg hb]; simp
        rw [show x % 2 = 0 by omega] at ha
        clear hb
        go_wp2
        go_round
        case rel => exact ⟨k + 1, by omega, by go_num, by rw [HS.out, HT.out]; go_num⟩
        case measure => simp [intOf]; omega
    · obtain rfl : k = 8 := by omega
      go_wp2
      go_ret
      exact ⟨rfl, rfl⟩
end Go.Proofs.Ytbbbfkcpkcfndaa
