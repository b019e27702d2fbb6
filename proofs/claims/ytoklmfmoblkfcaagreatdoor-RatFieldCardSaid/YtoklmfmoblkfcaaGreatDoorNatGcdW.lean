/- The contract of nat.ofWords (layer 5). -/
import Derived.Test.YtoklmfmoblkfcaaGreatDoorAa
import Derived.Deep.QuietTactic
import Derived.BigQuiet
namespace Go.Proofs.YtoklmfmoblkfcaaGreatDoor
open Go.RowKit Go.Proofs.Tm
set_option linter.unusedVariables false
set_option maxRecDepth 20000

set_option maxHeartbeats 800000 in
theorem ofwords_any (m n : Nat) (w : World) (hm : m < 18446744073709551616) (hn : n < 18446744073709551616) :
    Calls Tryz.prog 86 #[.int .u64 (m : Int), .int .u64 (n : Int)] w fun e w' => e = .returned (.int .u64 ((Nat.gcd m n : Nat) : Int)) ∧ Upd [] w w' := by
  go_enter Tryz.func86, Tryz.ntmps86
  go_wp2
  go_loopw [0, 1] (fun v0 v1 wr => ∃ x y : Nat, v0 = .int .u64 (x : Int) ∧ v1 = .int .u64 (y : Int) ∧ Hid (x < 18446744073709551616 ∧ y < 18446744073709551616 ∧ Nat.gcd x y = Nat.gcd m n ∧ Upd [] w wr)) (fun _ v1 _ => (intOf v1).toNat)
  case atStart => exact ⟨m, n, rfl, rfl, hm, hn, rfl, Upd.refl _ _⟩
  case round =>
    obtain ⟨x, y, rfl, rfl, HI⟩ := hrel
    clear hm hn
    by_cases hy : y = 0
    · have hne : ((y : Int) != 0) = false := by simp; omega
      have HF : Hid ((x : Int) = ((Nat.gcd m n : Nat) : Int) ∧ Upd [] w wr) := by
        refine ⟨?_, HI.out.2.2.2⟩
        rw [← HI.out.2.2.1, hy, Nat.gcd_zero_right]
      clear hy
      go_wp2
      go_ret
      refine ⟨?_, HF.out.2⟩
      rw [← HF.out.1]; rfl
    · have hne : ((y : Int) != 0) = true := by simp; omega
      have hne2 : ((y : Int) == 0) = false := by simp; omega
      obtain ⟨z, hz⟩ : ∃ z, z = x % y := ⟨_, rfl⟩
      have hmod : (x : Int) % (y : Int) = (z : Int) := by rw [hz]; simp
      have hmod2 : (x : Int).tmod (y : Int) = (z : Int) := by rw [Int.tmod_eq_emod_of_nonneg (by omega), hmod]
      have hxl := HI.out.1
      have hzl : z < y := by rw [hz]; exact Nat.mod_lt _ (Nat.pos_of_ne_zero hy)
      have hwz : IntKind.u64.wrap (z : Int) = (z : Int) := by have := HI.out.2.1; rw [IntKind.wrap_u64]; omega
      have HN : Hid (y < 18446744073709551616 ∧ z < 18446744073709551616 ∧ Nat.gcd y z = Nat.gcd m n) := by
        refine ⟨HI.out.2.1, by have := HI.out.2.1; omega, ?_⟩
        rw [← HI.out.2.2.1, hz, Nat.gcd_comm x y, Nat.gcd_rec y x, Nat.gcd_comm]
      have HZ := Lib.hid hzl
      clear hz hxl hzl
      go_wp2_with fail
      go_quiet (fail)
      go_wp2_with fail
      exact ⟨⟨y, z, rfl, rfl, HN.out.1, HN.out.2.1, HN.out.2.2, HI.out.2.2.2.drewN nq⟩, by have := HZ.out; simp [intOf]; omega⟩
end Go.Proofs.YtoklmfmoblkfcaaGreatDoor
