/- The contracts of highest, count, Gammas, Deltas, Vars (layer 2), over the library's own contract of math/bits.Len64. -/
import Derived.Test.YtbbbfkcpkcfndaaBitsNum
import Derived.Test.YtbbbfkcpkcfndaaCodesMath
import Derived.Shelf.Strconv.Itoa0
namespace Go.Proofs.Ytbbbfkcpkcfndaa
open Go.RowKit Go.Proofs.Tm
set_option linter.unusedVariables false
set_option maxRecDepth 20000

/-- The numbers of this program, for the library's contract. -/
def lenRen : Go.Shelf.Ren := ⟨fun k => if k = 129 then 92 else 0, fun k => if k = 53 then 28 else if k = 3 then 3 else if k = 4 then 4 else if k = 46 then 65 else if k = 5 then 5 else 9, fun k => k⟩

theorem lenLays : Go.Proofs.Lays.n129 Try.prog lenRen where
  mixed := by kernel_rfl
  f129 := by kernel_rfl
  t3 := by kernel_rfl
  a3 := fun _ => by kernel_rfl
  z3 := fun _ => by kernel_rfl
  v3 := fun _ => by kernel_rfl
  t4 := by kernel_rfl
  a4 := fun _ => by kernel_rfl
  z4 := fun _ => by kernel_rfl
  v4 := fun _ => by kernel_rfl
  t5 := by kernel_rfl
  a5 := fun _ => by kernel_rfl
  z5 := fun _ => by kernel_rfl
  v5 := fun _ => by kernel_rfl
  t9 := by kernel_rfl
  a9 := fun _ => by kernel_rfl
  z9 := fun _ => by kernel_rfl
  v9 := fun _ => by kernel_rfl
  t46 := by kernel_rfl
  a46 := fun _ => by kernel_rfl
  z46 := fun _ => by kernel_rfl
  v46 := fun _ => by kernel_rfl
  t53 := by kernel_rfl
  a53 := fun _ => by kernel_rfl
  z53 := fun _ => by kernel_rfl
  v53 := fun _ => by kernel_rfl

theorem len64_any (n : Nat) (w : World) (hn : n < 18446744073709551616) :
    Calls Try.prog 92 #[.int .u64 (n : Int)] w fun e w' => e = .returned (.int .i64 ((Lib.bitLen n : Nat) : Int)) ∧ w = w' := by
  have h := Any.bits_Len64 lenLays (n : Int) w (by omega) (by omega)
  rw [Int.toNat_natCast] at h
  exact h.mono fun e w' ⟨he, hw⟩ => ⟨he, hw.symm⟩

theorem highest_any (n : Nat) (w : World) (h0 : n ≠ 0) (hn : n < 18446744073709551616) :
    Calls Try.prog 75 #[.int .u64 (n : Int)] w fun e w' => e = .returned (.int .i64 ((Nat.log2 n : Nat) : Int)) ∧ w = w' := by
  have h1 := len64_any n w hn
  rw [bitLen_log n h0 hn] at h1
  have hl := log2_lt64 n hn
  generalize Nat.log2 n = k at *
  have H := Lib.hid h1
  clear h1 hn h0
  go_enter Try.func75, Try.ntmps75
  go_wp2_with (go_at_call 92; refine H.out.mono ?_; rintro e w' ⟨rfl, rfl⟩)
  go_ret
  exact ⟨ret_int (by omega), rfl⟩

/-- How many groups Var has. -/
def groups (n : Nat) : Nat := (varG 10 n).length

theorem groups_eq (n : Nat) (hn : n < 18446744073709551616) : groups n = (Lib.bitLen (n ||| 1) + 6) / 7 := varG_count 10 n (by decide) (Nat.lt_trans hn (by decide)) hn
theorem groups_pos (n : Nat) : 0 < groups n := varG_pos 9 n
theorem groups_le (n : Nat) : groups n ≤ 10 := varG_length 10 n

theorem count_any (n : Nat) (w : World) (hn : n < 18446744073709551616) :
    Calls Try.prog 76 #[.int .u64 (n : Int)] w fun e w' => e = .returned (.int .i64 ((groups n : Nat) : Int)) ∧ w = w' := by
  have h3 : n ||| 1 < 18446744073709551616 := Nat.or_lt_two_pow (n := 64) hn (by decide)
  have h1 := len64_any (n ||| 1) w h3
  have ho : bits .or .u64 (n : Int) 1 = ((n ||| 1 : Nat) : Int) := u64_or_nat n 1 hn (by decide)
  have hb : Lib.bitLen (n ||| 1) ≤ 64 := by
    rw [bitLen_log _ (by have : 1 ≤ n ||| 1 := Nat.right_le_or; omega) h3]
    have := log2_lt64 _ h3; omega
  have hg := groups_eq n hn
  generalize Lib.bitLen (n ||| 1) = b at *
  generalize n ||| 1 = m at *
  have H := Lib.hid h1
  have HG := Lib.hid hg
  clear h1 hn h3 hg
  go_enter Try.func76, Try.ntmps76
  go_wp2_with (go_at_call 92; refine H.out.mono ?_; rintro e w' ⟨rfl, rfl⟩)
  go_ret
  exact ⟨ret_int (by rw [HG.out]; omega), rfl⟩

/-- How long a Gamma is; a Delta. -/
def gammaLen (n : Nat) : Nat := if n = 0 then 0 else 2 * Nat.log2 n + 1
def deltaLen (n : Nat) : Nat := if n = 0 then 0 else 2 * Nat.log2 (Nat.log2 n + 1) + 1 + Nat.log2 n

theorem gammas_any (n : Nat) (w : World) (hn : n < 18446744073709551616) :
    Calls Try.prog 41 #[.int .u64 (n : Int)] w fun e w' => e = .returned (.int .i64 ((gammaLen n : Nat) : Int)) ∧ w = w' := by
  unfold gammaLen
  by_cases h0 : n = 0
  · subst h0
    go_enter Try.func41, Try.ntmps41
    go_wp2
    go_ret
    exact ⟨rfl, rfl⟩
  · rw [if_neg h0]
    have H := Lib.hid (highest_any n w h0 hn)
    have hl := log2_lt64 n hn
    have hb : ((n : Int) == 0) = false := by simp; omega
    generalize Nat.log2 n = k at *
    clear hn h0
    go_enter Try.func41, Try.ntmps41
    go_wp2_with (go_at_call 75; refine H.out.mono ?_; rintro e w' ⟨rfl, rfl⟩)
    go_ret
    exact ⟨ret_int (by omega), rfl⟩

theorem deltas_any (n : Nat) (w : World) (hn : n < 18446744073709551616) :
    Calls Try.prog 42 #[.int .u64 (n : Int)] w fun e w' => e = .returned (.int .i64 ((deltaLen n : Nat) : Int)) ∧ w = w' := by
  unfold deltaLen
  by_cases h0 : n = 0
  · subst h0
    go_enter Try.func42, Try.ntmps42
    go_wp2
    go_ret
    exact ⟨rfl, rfl⟩
  · rw [if_neg h0]
    have H := Lib.hid (highest_any n w h0 hn)
    have hl := log2_lt64 n hn
    have hb : ((n : Int) == 0) = false := by simp; omega
    generalize Nat.log2 n = k at *
    clear hn h0
    have h2 := gammas_any (k + 1) w (by omega)
    have hg : gammaLen (k + 1) = 2 * Nat.log2 (k + 1) + 1 := by simp [gammaLen]
    rw [hg] at h2
    have hl2 := log2_lt64 (k + 1) (by omega)
    generalize Nat.log2 (k + 1) = j at *
    rw [show ((k + 1 : Nat) : Int) = (k : Int) + 1 by omega] at h2
    have hw : IntKind.u64.wrap ((k : Int) + 1) = (k : Int) + 1 := by rw [IntKind.wrap_u64]; omega
    have H2 := Lib.hid h2
    clear h2 hg
    go_enter Try.func42, Try.ntmps42
    go_wp2_with (first
      | (go_at_call 75; refine H.out.mono ?_; rintro e w' ⟨rfl, rfl⟩)
      | (go_at_call 41; refine H2.out.mono ?_; rintro e w' ⟨rfl, rfl⟩))
    go_ret
    exact ⟨ret_int (by omega), rfl⟩

theorem vars_any (n : Nat) (w : World) (hn : n < 18446744073709551616) :
    Calls Try.prog 43 #[.int .u64 (n : Int)] w fun e w' => e = .returned (.int .i64 ((8 * groups n : Nat) : Int)) ∧ w = w' := by
  have H := Lib.hid (count_any n w hn)
  have hl := groups_le n
  generalize groups n = k at *
  clear hn
  go_enter Try.func43, Try.ntmps43
  go_wp2_with (go_at_call 76; refine H.out.mono ?_; rintro e w' ⟨rfl, rfl⟩)
  go_ret
  exact ⟨ret_int (by omega), rfl⟩
end Go.Proofs.Ytbbbfkcpkcfndaa
