/- The contracts of (*bits.Reader).Num and (*bits.Reader).Close. -/
import Derived.Test.YtbbbfkcpkcfndaaBitsR
namespace Go.Proofs.Ytbbbfkcpkcfndaa
open Go.RowKit Go.Proofs.Tm
set_option linter.unusedVariables false
set_option maxRecDepth 20000

/-- The number of k bits from i on. -/
def numAt (bs : List Nat) (i k : Nat) : Nat := val (((bitsOf bs).drop i).take k)

theorem numAt_succ (bs : List Nat) (i k : Nat) (h : i + k < 8 * bs.length) : numAt bs i (k + 1) = 2 * numAt bs i k + (bitAt bs (i + k)).toNat := by
  unfold numAt
  rw [take_drop_snoc _ _ _ (by simpa using h), val_snoc]
  congr 2
  simp [bitsOf, h]

theorem numAt_lt (bs : List Nat) (i k : Nat) : numAt bs i k < 2 ^ k :=
  Nat.lt_of_lt_of_le (val_lt _) (Nat.pow_le_pow_right (by decide) (by simp; omega))

set_option maxHeartbeats 400000 in
/-- The width is none. -/
theorem rnum_bad (p : Nat) (k : Int) (w : World) (h0 : (decide (0 ≤ k) && decide (k ≤ 64)) = false) :
    Calls Try.prog 28 #[.pointer (some ⟨p, 0, none⟩), .int .i64 k] w fun e w' => e = .returned (.tuple #[.int .u64 0, .int .i64 2]) ∧ w = w' := by
  go_enter Try.func28, Try.ntmps28
  go_wp2_with (go_at_call 73; refine (isWidth_any _ _).mono ?_; rintro e w' ⟨rfl, rfl⟩)
  go_ret2
  exact ⟨rfl, rfl⟩

set_option maxHeartbeats 400000 in
/-- There are fewer bits. -/
theorem rnum_end (p : Nat) (g : Option Nat) (bs : List Nat) (i k : Nat) (w : World) (h : Rd w p g bs i) (hk : k ≤ 64) (hi : 8 * bs.length < i + k) :
    Calls Try.prog 28 #[.pointer (some ⟨p, 0, none⟩), .int .i64 (k : Int)] w fun e w' => e = .returned (.tuple #[.int .u64 0, .int .i64 5]) ∧ ∃ n, w' = w.drewN n := by
  have hle := h.le
  have HL := Lib.hid (left_any p g bs _ w h)
  have hk' : (k : Int) ≤ 64 := by omega
  have hlt : ((8 * bs.length - i : Nat) : Int) < (k : Int) := by omega
  clear h
  go_enter Try.func28, Try.ntmps28
  go_wp2_with (first
    | (go_at_call 73; refine (isWidth_any _ _).mono ?_; rintro e w' ⟨rfl, rfl⟩)
    | (go_at_call 30; refine HL.out.mono ?_; rintro e w' ⟨rfl, n, rfl⟩))
  go_ret2
  exact ⟨rfl, _, rfl⟩

theorem shl_one (v j : Nat) (hv : v < 2 ^ j) (hj : j < 64) : IntKind.u64.wrap ((v : Int) * 2) = ((2 * v + (false).toNat : Nat) : Int) := by
  have h : v < 9223372036854775808 := Nat.lt_of_lt_of_le hv (Nat.le_trans (Nat.pow_le_pow_right (by decide) (show j ≤ 63 by omega)) (by decide))
  rw [IntKind.wrap_u64]
  simp
  omega
theorem shl_or (v j : Nat) (hv : v < 2 ^ j) (hj : j < 64) : bits .or .u64 (IntKind.u64.wrap ((v : Int) * 2)) 1 = ((2 * v + (true).toNat : Nat) : Int) := by
  have h : v < 9223372036854775808 := Nat.lt_of_lt_of_le hv (Nat.le_trans (Nat.pow_le_pow_right (by decide) (show j ≤ 63 by omega)) (by decide))
  rw [shl_one v j hv hj, show (1 : Int) = ((1 : Nat) : Int) from rfl, u64_or_nat _ _ (by simp; omega) (by decide)]
  have := nat_join 1 (2 * v) 1 (by omega) (by decide)
  simp only [Bool.toNat_false, Nat.add_zero, Bool.toNat_true]
  rw [this]

/-- From w to wr a Reader has gone from the bit i to the bit j. -/
def RdGone (p : Nat) (g : Option Nat) (bs : List Nat) (w : World) (j : Nat) (wr : World) : Prop := Rd wr p g bs j ∧ Upd [p] w wr

set_option maxHeartbeats 800000 in
theorem rnum_ok (p : Nat) (g : Option Nat) (bs : List Nat) (i k : Nat) (w : World) (h : Rd w p g bs i) (hk : k ≤ 64) (hi : i + k ≤ 8 * bs.length) :
    Calls Try.prog 28 #[.pointer (some ⟨p, 0, none⟩), .int .i64 (k : Int)] w fun e w' => e = .returned (.tuple #[.int .u64 ((numAt bs i k : Nat) : Int), .int .i64 0]) ∧ RdGone p g bs w (i + k) w' := by
  have HL := Lib.hid (left_any p g bs _ w h)
  have hk' : (k : Int) ≤ 64 := by omega
  have hlt : decide (8 * bs.length - i < k) = false := by simp; omega
  have H := Lib.hid h
  clear h
  go_enter Try.func28, Try.ntmps28
  go_wp2_with (first
    | (go_at_call 73; refine (isWidth_any _ _).mono ?_; rintro e w' ⟨rfl, rfl⟩)
    | (go_at_call 30; refine HL.out.mono ?_; rintro e w' ⟨rfl, n, rfl⟩))
  go_loopw [6, 17] (fun v6 v17 wr => ∃ j : Nat, j ≤ k ∧ v17 = .int .i64 j ∧ v6 = .int .u64 ((numAt bs i j : Nat) : Int) ∧ RdGone p g bs w (i + j) wr) (fun _ v17 _ => k - (intOf v17).toNat)
  case atStart => exact ⟨0, Nat.zero_le _, rfl, rfl, H.out.drewN _, (Upd.refl _ _).drewN _⟩
  case round =>
    obtain ⟨j, hj, rfl, rfl, hrd, hup⟩ := hrel
    by_cases hlt2 : j < k
    · have HS := Lib.hid (numAt_succ bs i j (by omega))
      have HR := Lib.hid hrd
      have HU := Lib.hid hup
      clear hrd hup
      have hv := numAt_lt bs i j
      generalize numAt bs i j = v at *
      go_wp2_with (go_at_call 33; refine (rbit_any _ _ _ _ _ HR.out (by omega)).mono ?_; rintro e w' ⟨rfl, hr, hu⟩)
      all_goals
        go_roundw
        case rel => exact ⟨j + 1, by omega, by go_num, by rw [HS.out]; first | (rw [show bitAt bs (i + j) = true by assumption]; exact congrArg _ (shl_or v j hv (by omega))) | (rw [show bitAt bs (i + j) = false by assumption]; exact congrArg _ (shl_one v j hv (by omega))), hr, HU.out.trans hu (by simp)⟩
        case measure => simp [intOf]; omega
    · obtain rfl : j = k := by omega
      have HR := Lib.hid hrd
      have HU := Lib.hid hup
      clear hrd hup
      go_wp2
      go_ret2
      exact ⟨rfl, HR.out, HU.out⟩

/-- What Close answers. -/
def closeAt (bs : List Nat) (i : Nat) : Int := if 8 ≤ 8 * bs.length - i then 4 else if numAt bs i (8 * bs.length - i) = 0 then 0 else 4

set_option maxHeartbeats 400000 in
theorem close_long (p : Nat) (g : Option Nat) (bs : List Nat) (i : Nat) (w : World) (h : Rd w p g bs i) (hlt : 8 ≤ 8 * bs.length - i) :
    Calls Try.prog 31 #[.pointer (some ⟨p, 0, none⟩)] w fun e w' => e = .returned (.int .i64 4) ∧ Upd [] w w' := by
  have HL := Lib.hid (left_any p g bs i w h)
  clear h
  have hlt' : (8 : Int) ≤ ((8 * bs.length - i : Nat) : Int) := by omega
  go_enter Try.func31, Try.ntmps31
  go_wp2_with (go_at_call 30; refine HL.out.mono ?_; rintro e w' ⟨rfl, n, rfl⟩)
  go_ret
  exact ⟨rfl, (Upd.refl _ _).drewN _⟩

theorem upd_heap {w w1 : World} (hw : ∃ n, w1 = w.drewN n) : Upd [] w w1 := by obtain ⟨n, rfl⟩ := hw; exact (Upd.refl _ _).drewN _

set_option maxHeartbeats 800000 in
theorem close_short (p : Nat) (g : Option Nat) (bs : List Nat) (i : Nat) (w : World) (h : Rd w p g bs i) (hlt : 8 * bs.length - i < 8) (z : Bool) (hz : (((numAt bs i (8 * bs.length - i) : Nat) : Int) != 0) = z) :
    Calls Try.prog 31 #[.pointer (some ⟨p, 0, none⟩)] w fun e w' => e = .returned (.int .i64 (if z then 4 else 0)) ∧ Upd [] w w' := by
  have h0 := h
  obtain ⟨v, h1, rfl, h3, h4, h5, h6⟩ := h
  obtain ⟨a, cap, hv, _⟩ := (Sl.own h3).open
  simp only [cu8_length] at hv
  subst hv
  have hp : p < w.heap.size := lt_of_block h1
  have HL := Lib.hid (left_any p _ bs i w h0)
  have H0 := Lib.hid h0
  have HO := Lib.hid h3
  have H1 := Lib.hid h1
  have H6 := Lib.hid h6
  have hlt' : ¬ (8 : Int) ≤ ((8 * bs.length - i : Nat) : Int) := by omega
  clear h0 h3 h1 h6
  go_enter Try.func31, Try.ntmps31
  go_wp2_with fail
  refine HL.out.mono ?_
  rintro e w1 ⟨rfl, hw⟩
  have k0 : w1.cell? ⟨p, 0, none⟩ = some (.slice a bs.length cap) := by obtain ⟨n, rfl⟩ := hw; rw [World.cell?_drewN, cell_of_row w p 0 _ _ _ H1.out]; rfl
  have k1 : w1.cell? ⟨p, 1, none⟩ = some (.int .i64 (i : Int)) := by obtain ⟨n, rfl⟩ := hw; rw [World.cell?_drewN, cell_of_row w p 1 _ _ _ H1.out]; rfl
  have hp1 : p < w1.heap.size := by obtain ⟨n, rfl⟩ := hw; exact hp
  have HU := Lib.hid (upd_heap hw)
  have HR : Hid (Rd (w1.alloc (.cells #[.slice a bs.length cap, .int .i64 (i : Int)] 104)) w1.heap.size (Value.slice a bs.length cap).ownBlock bs i) :=
    ⟨_, by simpa using Go.heap_alloc_new w1 _, rfl, ownsRow_upd HO.out (HU.out.alloc _) (by simp), h4, h5, H6.out⟩
  have HL2 := Lib.hid (left_any _ _ bs i _ HR.out)
  clear hw
  go_wp2_with fail
  refine HL2.out.mono ?_
  rintro e w2 ⟨rfl, n2, rfl⟩
  go_wp2_with fail
  have HN := rnum_ok w1.heap.size _ bs i (8 * bs.length - i) _ (HR.out.drewN n2) (by omega) (by omega)
  refine HN.mono ?_
  rintro e w3 ⟨rfl, hr3, hu3⟩
  have HU3 := Lib.hid hu3
  clear HN hr3 hu3
  cases z
  all_goals
    go_wp2
    go_ret
    exact ⟨rfl, ((HU.out.alloc _).drewN _).trans HU3.out (by intro x hx; right; simp at hx; subst hx; exact HU.out.size)⟩

theorem close_any (p : Nat) (g : Option Nat) (bs : List Nat) (i : Nat) (w : World) (h : Rd w p g bs i) :
    Calls Try.prog 31 #[.pointer (some ⟨p, 0, none⟩)] w fun e w' => e = .returned (.int .i64 (closeAt bs i)) ∧ Upd [] w w' := by
  unfold closeAt
  by_cases h8 : 8 ≤ 8 * bs.length - i
  · rw [if_pos h8]; exact close_long p g bs i w h h8
  · rw [if_neg h8]
    by_cases hz : numAt bs i (8 * bs.length - i) = 0
    · rw [if_pos hz]; exact close_short p g bs i w h (by omega) false (by rw [hz]; rfl)
    · rw [if_neg hz]; exact close_short p g bs i w h (by omega) true (by rw [bne_iff_ne]; omega)
end Go.Proofs.Ytbbbfkcpkcfndaa
