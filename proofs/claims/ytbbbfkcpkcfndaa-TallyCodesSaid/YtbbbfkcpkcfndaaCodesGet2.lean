/- More contracts of the readers of layer 2: delta, ended, groupwise. -/
import Derived.Test.YtbbbfkcpkcfndaaCodesGet
namespace Go.Proofs.Ytbbbfkcpkcfndaa
open Go.RowKit Go.Proofs.Tm
set_option linter.unusedVariables false
set_option maxRecDepth 20000

set_option maxHeartbeats 1600000 in
theorem delta_any (p : Nat) (g : Option Nat) (bs : List Nat) (i : Nat) (w : World) (h : Rd w p g bs i) :
    Calls Try.prog 80 #[.pointer (some ⟨p, 0, none⟩)] w (ReadTo p g bs w (deltaS (bitsOf bs) i)) := by
  have hle := h.le
  have HG := Lib.hid (gamma_any p g bs i w h)
  have hpos := gammaS_pos (bitsOf bs) i (by rw [bitsOf_length]; exact hle)
  have hL : (bitsOf bs).length = 8 * bs.length := bitsOf_length bs
  have hde : deltaS (bitsOf bs) i = deltaS (bitsOf bs) i := rfl
  conv at hde => rhs; unfold deltaS
  rw [hL] at hde
  obtain ⟨x, y, z, hxyz⟩ : ∃ x y z, gammaS (bitsOf bs) i = (x, y, z) := ⟨_, _, _, rfl⟩
  rw [hxyz] at HG hpos hde
  dsimp only at hpos hde
  rw [hL] at hpos
  have HD := Lib.hid hde
  clear h hxyz hL hde
  by_cases hz : z = 0
  · subst hz
    have HP := Lib.hid (hpos rfl)
    clear hpos
    by_cases hx : 64 < x
    · have hb : decide ((64 : Int) < (x : Int)) = true := by simp; omega
      go_enter Try.func80, Try.ntmps80
      go_wp2_with fail
      refine HG.out.mono ?_
      rintro e w1 ⟨rfl, hr, hu⟩
      have HR := Lib.hid hr
      have HU := Lib.hid hu
      clear hr hu
      go_wp2
      go_ret2
      obtain ⟨j, hj, _⟩ := HR.out
      have hd := HD.out
      rw [if_neg (by simp), if_pos hx] at hd
      rw [hd]
      exact ⟨rfl, ⟨j, hj, fun h => by cases h⟩, HU.out⟩
    · have hb : decide ((64 : Int) < (x : Int)) = false := by simp; omega
      have hw : IntKind.i64.wrap (x : Int) = (x : Int) := IntWalk.i64_in _ (by omega)
      go_enter Try.func80, Try.ntmps80
      go_wp2_with fail
      refine HG.out.mono ?_
      rintro e w1 ⟨rfl, hr, hu⟩
      obtain ⟨j, hj, hjy⟩ := hr
      obtain rfl := hjy rfl
      have HU := Lib.hid hu
      by_cases hfit : j + (x - 1) ≤ 8 * bs.length
      · have h2 := below_ok p g bs j (x - 1) w1 hj (by omega) hfit
        rw [show ((x - 1 : Nat) : Int) = (x : Int) - 1 by have := HP.out; omega] at h2
        have H2 := Lib.hid h2
        clear h2 hj hu
        go_wp2_with fail
        refine H2.out.mono ?_
        rintro e w2 ⟨rfl, hr2, hu2⟩
        have HR2 := Lib.hid hr2
        have HU2 := Lib.hid (HU.out.trans hu2 (by simp))
        clear hr2 hu2
        go_wp2
        go_ret2
        have hd := HD.out
        rw [if_neg (by simp), if_neg hx, if_neg (by omega)] at hd
        rw [hd]
        exact ⟨rfl, ⟨_, HR2.out, fun _ => rfl⟩, HU2.out⟩
      · have h2 := below_no p g bs j (x - 1) w1 hj (by omega) (by omega)
        rw [show ((x - 1 : Nat) : Int) = (x : Int) - 1 by have := HP.out; omega] at h2
        have H2 := Lib.hid h2
        clear h2 hj hu
        go_wp2_with fail
        refine H2.out.mono ?_
        rintro e w2 ⟨rfl, hr2, hu2⟩
        have HR2 := Lib.hid hr2
        have HU2 := Lib.hid (HU.out.trans hu2 (by simp))
        clear hr2 hu2
        go_wp2
        go_ret2
        have hd := HD.out
        rw [if_neg (by simp), if_neg hx, if_pos (by omega)] at hd
        rw [hd]
        exact ⟨rfl, ⟨_, HR2.out, fun h => by cases h⟩, HU2.out⟩
  · have hb : (z == 0) = false := by simpa using hz
    have hb2 : (z != 0) = true := by simpa using hz
    have HZ := Lib.hid hz
    clear hz hpos
    go_enter Try.func80, Try.ntmps80
    go_wp2_with fail
    refine HG.out.mono ?_
    rintro e w1 ⟨rfl, hr, hu⟩
    have HR := Lib.hid hr
    have HU := Lib.hid hu
    clear hr hu
    go_wp2
    go_ret2
    obtain ⟨j, hj, _⟩ := HR.out
    have hd := HD.out
    rw [if_pos HZ.out] at hd
    rw [hd]
    exact ⟨rfl, ⟨j, hj, fun h => absurd h HZ.out⟩, HU.out⟩

theorem ended_no (n : Int) (x k : Nat) (w : World) (hx : x = 0) (hk : 0 < k) :
    Calls Try.prog 94 #[.int .u64 n, .int .u64 (x : Int), .int .i64 (k : Int)] w fun e w' => e = .returned (.tuple #[.int .u64 0, .int .i64 4]) ∧ w = w' := by
  have hb : decide (0 < k) = true := by simpa using hk
  subst hx
  go_enter Try.func94, Try.ntmps94
  go_wp2
  go_ret2
  exact ⟨rfl, rfl⟩

theorem ended_ok (n : Int) (x k : Nat) (w : World) (hk : x ≠ 0 ∨ k = 0) :
    Calls Try.prog 94 #[.int .u64 n, .int .u64 (x : Int), .int .i64 (k : Int)] w fun e w' => e = .returned (.tuple #[.int .u64 n, .int .i64 0]) ∧ w = w' := by
  by_cases hx : x = 0
  · obtain rfl : k = 0 := by omega
    subst hx
    go_enter Try.func94, Try.ntmps94
    go_wp2
    go_ret2
    exact ⟨rfl, rfl⟩
  · have hb : ((x : Int) == 0) = false := by simp; omega
    clear hk hx
    go_enter Try.func94, Try.ntmps94
    go_wp2
    go_ret2
    exact ⟨rfl, rfl⟩

theorem grp_ok (n x k : Nat) (hx : x < 128) (hk : k < 10) (hfit : k < 9 ∨ x ≤ 1) (hn : n < 2 ^ (7 * k)) :
    IntKind.u64.wrap ((x : Int) * 2 ^ (7 * k)) = ((x * 2 ^ (7 * k) : Nat) : Int) ∧ ((x * 2 ^ (7 * k) : Nat) : Int) / 2 ^ (7 * k) = (x : Int) ∧
    bits .or .u64 (n : Int) ((x * 2 ^ (7 * k) : Nat) : Int) = ((n + x * 2 ^ (7 * k) : Nat) : Int) ∧ n + x * 2 ^ (7 * k) < 2 ^ (7 * (k + 1)) ∧ n + x * 2 ^ (7 * k) < 18446744073709551616 := by
  have hp := Nat.two_pow_pos (7 * k)
  have h1 : x * 2 ^ (7 * k) + 2 ^ (7 * k) ≤ 18446744073709551616 := by
    rcases hfit with h | h
    · have h2 : (x + 1) * 2 ^ (7 * k) ≤ 128 * 2 ^ 56 := Nat.mul_le_mul (by omega) (Nat.pow_le_pow_right (by decide) (by omega))
      rw [Nat.add_mul] at h2; omega
    · have h2 : (x + 1) * 2 ^ (7 * k) ≤ 2 * 2 ^ 63 := Nat.mul_le_mul (by omega) (Nat.pow_le_pow_right (by decide) (by omega))
      rw [Nat.add_mul] at h2; omega
  have e1 : (x : Int) * 2 ^ (7 * k) = ((x * 2 ^ (7 * k) : Nat) : Int) := by simp
  refine ⟨?_, ?_, ?_, ?_, by omega⟩
  · rw [e1, IntKind.wrap_u64]; omega
  · rw [show ((2 : Int) ^ (7 * k)) = ((2 ^ (7 * k) : Nat) : Int) by simp, ← Int.natCast_ediv, Nat.mul_div_cancel _ hp]
  · rw [u64_or_nat _ _ (by omega) (by omega), Nat.or_comm, nat_join (7 * k) _ n (Nat.mul_mod_left _ _) hn, Nat.add_comm]
  · have h3 : (x + 1) * 2 ^ (7 * k) ≤ 128 * 2 ^ (7 * k) := Nat.mul_le_mul_right _ (by omega)
    rw [Nat.add_mul] at h3
    rw [show 7 * (k + 1) = 7 * k + 7 by omega, Nat.pow_add]
    omega

theorem grp_bad (x k : Nat) (hx : x < 128) (hk : k = 9) (h1 : 1 < x) : (IntKind.u64.wrap ((x : Int) * 2 ^ (7 * k)) / 2 ^ (7 * k) != (x : Int)) = true := by
  subst hk
  rw [bne_iff_ne, IntKind.wrap_u64]
  omega

end Go.Proofs.Ytbbbfkcpkcfndaa
