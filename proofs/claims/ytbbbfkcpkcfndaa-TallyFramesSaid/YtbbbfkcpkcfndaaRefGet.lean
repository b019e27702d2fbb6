/- The contracts of the document's own answers Get and Close (layer 1). -/
import Derived.Test.YtbbbfkcpkcfndaaRefBits
namespace Go.Proofs.Ytbbbfkcpkcfndaa
open Go.RowKit Go.Proofs.Tm
set_option linter.unusedVariables false
set_option maxRecDepth 20000

/-- The number of k bits from i on, of a list of bits. -/
def numL (l : List Bool) (i k : Nat) : Nat := val ((l.drop i).take k)

theorem numL_succ (l : List Bool) (i k : Nat) (h : i + k < l.length) : numL l i (k + 1) = 2 * numL l i k + (l.getD (i + k) false).toNat := by
  unfold numL
  rw [take_drop_snoc _ _ _ h, val_snoc]
theorem numL_lt (l : List Bool) (i k : Nat) : numL l i k < 2 ^ k := Nat.lt_of_lt_of_le (val_lt _) (Nat.pow_le_pow_right (by decide) (by simp; omega))

theorem dbl (v j : Nat) (hv : v < 2 ^ j) (hj : j < 64) : IntKind.u64.wrap (2 * (v : Int)) = 2 * (v : Int) ∧ IntKind.u64.wrap (2 * (v : Int) + 1) = 2 * (v : Int) + 1 := by
  have h : v < 9223372036854775808 := Nat.lt_of_lt_of_le hv (Nat.le_trans (Nat.pow_le_pow_right (by decide) (show j ≤ 63 by omega)) (by decide))
  rw [IntKind.wrap_u64, IntKind.wrap_u64]
  omega

theorem get_bad (lv : Value) (i k : Int) (w : World) (h0 : (decide (0 ≤ k) && decide (k ≤ 64)) = false) :
    Calls Try.prog 29 #[lv, .int .i64 i, .int .i64 k] w fun e w' => e = .returned (.tuple #[.int .u64 0, .int .i64 i, .int .i64 2]) ∧ w = w' := by
  by_cases hk : k < 0
  · clear h0
    go_enter Try.func29, Try.ntmps29
    go_wp2
    go_ret3
    exact ⟨rfl, rfl⟩
  · have hk2 : 64 < k := by simp at h0; omega
    clear h0
    go_enter Try.func29, Try.ntmps29
    go_wp2
    go_ret3
    exact ⟨rfl, rfl⟩

set_option maxHeartbeats 400000 in
theorem get_end (lv : Value) (l : List Bool) (i k : Nat) (w : World) (h : Sl w lv (cb l)) (hl : l.length ≤ 1125899906842624) (hk : k ≤ 64) (hi : i ≤ l.length) (hik : l.length < i + k) :
    Calls Try.prog 29 #[lv, .int .i64 (i : Int), .int .i64 (k : Int)] w fun e w' => e = .returned (.tuple #[.int .u64 0, .int .i64 (i : Int), .int .i64 5]) ∧ w = w' := by
  obtain ⟨a, cap, rfl, _, _, _⟩ := h
  simp only [cb_length] at *
  have hk1 : decide ((k : Int) < 0) = false := by simp
  have hk2 : decide (64 < (k : Int)) = false := by simp; omega
  have hk3 : (l.length : Int) - (i : Int) < (k : Int) := by omega
  go_enter Try.func29, Try.ntmps29
  go_wp2
  go_ret3
  exact ⟨rfl, rfl⟩

set_option maxHeartbeats 1000000 in
theorem get_ok (lv : Value) (l : List Bool) (i k : Nat) (w : World) (h : Sl w lv (cb l)) (hl : l.length ≤ 1125899906842624) (hk : k ≤ 64) (hik : i + k ≤ l.length) :
    Calls Try.prog 29 #[lv, .int .i64 (i : Int), .int .i64 (k : Int)] w fun e w' => e = .returned (.tuple #[.int .u64 ((numL l i k : Nat) : Int), .int .i64 ((i + k : Nat) : Int), .int .i64 0]) ∧ w = w' := by
  have HS := Lib.hid h
  obtain ⟨a, cap, rfl, _, _, _⟩ := h
  simp only [cb_length] at *
  have hk1 : decide ((k : Int) < 0) = false := by simp
  have hk2 : decide (64 < (k : Int)) = false := by simp; omega
  obtain ⟨n, hn⟩ : ∃ n, n = l.length := ⟨_, rfl⟩
  rw [← hn] at hl hik
  have HN := Lib.hid hn
  rw [← hn]
  have hk3 : decide ((n : Int) - (i : Int) < (k : Int)) = false := by simp; omega
  clear hn
  go_enter Try.func29, Try.ntmps29
  go_wp2
  go_loop [9, 10] (fun v9 v10 => ∃ j : Nat, j ≤ k ∧ v10 = .int .i64 j ∧ v9 = .int .u64 ((numL l i j : Nat) : Int)) (fun _ v10 => k - (intOf v10).toNat)
  case atStart => exact ⟨0, by omega, rfl, rfl⟩
  case round =>
    obtain ⟨j, hj, rfl, rfl⟩ := hrel
    by_cases hlt : j < k
    · obtain ⟨b, o, cap', hv, hc⟩ := sl_at HS.out (by intro h; have := congrArg List.length h; simp at this; have := HN.out; simp_all)
      obtain ⟨rfl, rfl⟩ : a = some ⟨b, o, none⟩ ∧ cap = cap' := by have := HN.out; simpa [← this] using hv
      have hcell := hc (i + j) (by rw [cb_length, ← HN.out]; omega)
      rw [cb_getElem? l _ (by rw [← HN.out]; omega)] at hcell
      have HP := Lib.hid (numL_succ l i j (by rw [← HN.out]; omega))
      obtain ⟨hw1, hw2⟩ := dbl _ _ (numL_lt l i j) (show j < 64 by omega)
      have i0 : (0 : Int) ≤ (i : Int) + (j : Int) := by omega
      have i1 : (i : Int) + (j : Int) < (n : Int) := by omega
      clear hc hv
      generalize numL l i j = x at *
      generalize l.getD (i + j) false = z at *
      cases z
      all_goals
        go_wp2
        go_round
        case rel => exact ⟨j + 1, by omega, by go_num, by rw [HP.out]; exact congrArg _ (by simp)⟩
        case measure => simp [intOf]; omega
    · obtain rfl : j = k := by omega
      go_wp2
      go_ret3
      exact ⟨rfl, rfl⟩

/-- What Close answers, of a list of bits. -/
def closeL (l : List Bool) (i : Nat) : Int := if 8 ≤ l.length - i then 4 else if ∀ b ∈ l.drop i, b = false then 0 else 4

theorem closeAt_eq (bs : List Nat) (i : Nat) : closeAt bs i = closeL (bitsOf bs) i := by
  unfold closeAt closeL
  rw [bitsOf_length]
  by_cases h : 8 ≤ 8 * bs.length - i
  · rw [if_pos h, if_pos h]
  · rw [if_neg h, if_neg h]
    have : numAt bs i (8 * bs.length - i) = 0 ↔ ∀ b ∈ (bitsOf bs).drop i, b = false := by
      unfold numAt
      rw [val_eq_zero, List.take_of_length_le (by simp)]
    by_cases h2 : numAt bs i (8 * bs.length - i) = 0
    · rw [if_pos h2, if_pos (this.1 h2)]
    · rw [if_neg h2, if_neg (fun h3 => h2 (this.2 h3))]

set_option maxHeartbeats 1000000 in
theorem rclose_any (lv : Value) (l : List Bool) (i : Nat) (w : World) (h : Sl w lv (cb l)) (hl : l.length ≤ 1125899906842624) (hi : i ≤ l.length) :
    Calls Try.prog 32 #[lv, .int .i64 (i : Int)] w fun e w' => e = .returned (.int .i64 (closeL l i)) ∧ w = w' := by
  have HS := Lib.hid h
  obtain ⟨a, cap, rfl, _, _, _⟩ := h
  simp only [cb_length] at *
  obtain ⟨n, hn⟩ : ∃ n, n = l.length := ⟨_, rfl⟩
  rw [← hn] at hl hi
  have HN := Lib.hid hn
  rw [← hn]
  clear hn
  by_cases h8 : 8 ≤ n - i
  · have hk3 : (8 : Int) ≤ (n : Int) - (i : Int) := by omega
    go_enter Try.func32, Try.ntmps32
    go_wp2
    go_ret
    refine ⟨ret_int ?_, rfl⟩
    unfold closeL
    rw [← HN.out, if_pos h8]
  · have hk3 : decide ((8 : Int) ≤ (n : Int) - (i : Int)) = false := by simp; omega
    go_enter Try.func32, Try.ntmps32
    go_wp2
    go_loop [5] (fun v5 => ∃ j : Nat, i ≤ j ∧ j ≤ n ∧ v5 = .int .i64 j ∧ Hid (∀ q, i ≤ q → q < j → l.getD q false = false)) (fun v5 => n - (intOf v5).toNat)
    case atStart => exact ⟨i, Nat.le_refl _, hi, rfl, fun q h1 h2 => by omega⟩
    case round =>
      obtain ⟨j, hij, hj, rfl, HQ⟩ := hrel
      by_cases hlt : j < n
      · obtain ⟨b, o, cap', hv, hc⟩ := sl_at HS.out (by intro h; have := congrArg List.length h; simp at this; have := HN.out; simp_all)
        obtain ⟨rfl, rfl⟩ : a = some ⟨b, o, none⟩ ∧ cap = cap' := by have := HN.out; simpa [← this] using hv
        have hcell := hc j (by rw [cb_length, ← HN.out]; omega)
        rw [cb_getElem? l _ (by rw [← HN.out]; omega)] at hcell
        have i0 : (0 : Int) ≤ (j : Int) := by omega
        clear hc hv
        by_cases hz : l.getD j false = true
        · rw [hz] at hcell
          have HZ := Lib.hid hz
          clear hz
          go_wp2
          go_ret
          refine ⟨ret_int ?_, rfl⟩
          unfold closeL
          rw [← HN.out, if_neg h8, if_neg]
          intro hall
          have hjl : j < l.length := by rw [← HN.out]; exact hlt
          have h1 := HZ.out
          have h2 : l.getD j false = l[j] := by simp [hjl]
          rw [h2] at h1
          have := hall l[j] (List.mem_iff_getElem.2 ⟨j - i, by simp; omega, by rw [List.getElem_drop]; congr 1; omega⟩)
          rw [h1] at this; cases this
        · have hz : l.getD j false = false := by simpa using hz
          rw [hz] at hcell
          have HZ := Lib.hid hz
          clear hz
          go_wp2
          go_round
          case rel =>
            refine ⟨j + 1, by omega, by omega, by go_num, fun q h1 h2 => ?_⟩
            rcases Nat.lt_or_ge q j with h | h
            · exact HQ.out q h1 h
            · obtain rfl : q = j := by omega
              exact HZ.out
          case measure => simp [intOf]; omega
      · obtain rfl : j = n := by omega
        go_wp2
        go_ret
        refine ⟨ret_int ?_, rfl⟩
        unfold closeL
        rw [← HN.out, if_neg h8, if_pos]
        intro b hb
        obtain ⟨q, hq, rfl⟩ := List.mem_iff_getElem.1 hb
        have hn := HN.out
        simp only [List.length_drop] at hq
        have := HQ.out (i + q) (by omega) (by omega)
        rw [List.getElem_drop]
        simpa [show i + q < l.length by omega] using this
end Go.Proofs.Ytbbbfkcpkcfndaa
