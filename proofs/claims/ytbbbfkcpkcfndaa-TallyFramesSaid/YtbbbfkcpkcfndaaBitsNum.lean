/- The contracts of isWidth, (*bits.Writer).Num and (*bits.Writer).Len. -/
import Derived.Test.YtbbbfkcpkcfndaaBitsBit
namespace Go.Proofs.Ytbbbfkcpkcfndaa
open Go.RowKit Go.Proofs.Tm
set_option linter.unusedVariables false
set_option maxRecDepth 20000

theorem isWidth_any (k : Int) (w : World) : Calls Try.prog 73 #[.int .i64 k] w fun e w' => e = .returned (.bool (decide (0 ≤ k) && decide (k ≤ 64))) ∧ w = w' := by
  by_cases h0 : 0 ≤ k
  · by_cases h1 : k ≤ 64
    · go_enter Try.func73, Try.ntmps73
      go_wp2
      go_ret
      simp [h0, h1]
    · go_enter Try.func73, Try.ntmps73
      go_wp2
      go_ret
      simp [h1]
  · go_enter Try.func73, Try.ntmps73
    go_wp2
    go_ret
    simp [show ¬ 0 ≤ k by omega]

theorem len_any (p : Nat) (g : Option Nat) (l : List Bool) (w : World) (h : Wr w p g l) :
    Calls Try.prog 22 #[.pointer (some ⟨p, 0, none⟩)] w fun e w' => e = .returned (.int .i64 (l.length : Int)) ∧ w = w' := by
  obtain ⟨v, h1, rfl, h3⟩ := h
  have c1 : w.cell? ⟨p, 1, none⟩ = some (.int .i64 (l.length : Int)) := by rw [cell_of_row w p 1 _ _ _ h1]; rfl
  clear h1 h3
  go_enter Try.func22, Try.ntmps22
  go_wp2
  go_ret
  exact ⟨rfl, rfl⟩

/-- From w to wr a Writer has got the bits m more. -/
def WrMore (p : Nat) (g : Option Nat) (l : List Bool) (w : World) (m : List Bool) (wr : World) : Prop :=
  ∃ g', Wr wr p g' (l ++ m) ∧ Upd (p :: g.toList) w wr ∧ (g' = g ∨ ∃ k, g' = some k ∧ w.heap.size ≤ k)

theorem WrMore.refl {p : Nat} {g : Option Nat} {l : List Bool} {w : World} (h : Wr w p g l) : WrMore p g l w [] w := ⟨g, by simpa using h, Upd.refl _ _, .inl rfl⟩

theorem WrMore.trans {p : Nat} {g g' : Option Nat} {l m m' : List Bool} {w w1 w2 : World} (hu : Upd (p :: g.toList) w w1) (hf : g' = g ∨ ∃ k, g' = some k ∧ w.heap.size ≤ k) (h : WrMore p g' (l ++ m) w1 m' w2) : WrMore p g l w (m ++ m') w2 := by
  obtain ⟨g2, h1, h2, h3⟩ := h
  refine ⟨g2, by simpa using h1, hu.trans h2 ?_, ?_⟩
  · intro x hx
    rcases List.mem_cons.1 hx with rfl | hx
    · exact .inl (by simp)
    · rcases hf with rfl | ⟨k, rfl, hk⟩
      · exact .inl (List.mem_cons_of_mem _ hx)
      · simp at hx; subst hx; exact .inr hk
  · rcases h3 with rfl | ⟨k, hk, hl⟩
    · exact hf
    · exact .inr ⟨k, hk, Nat.le_trans hu.size hl⟩

theorem WrMore.of_bit {p : Nat} {g : Option Nat} {l : List Bool} {b : Bool} {w : World} {e : Ending} {w' : World} (h : BitPost p g l b w e w') : WrMore p g l w [b] w' := h.2

theorem and_one_bit (n j : Nat) (h : n < 18446744073709551616) : (bits BinOp.and IntKind.u64 ((n : Int) / 2 ^ j) 1 == 1) = n.testBit j := by
  have h1 : (n : Int) / 2 ^ j = ((n / 2 ^ j : Nat) : Int) := by simp
  have h2 := u64_and_nat (n / 2 ^ j) 1 (Nat.lt_of_le_of_lt (Nat.div_le_self _ _) h) (by decide)
  rw [h1, show (1 : Int) = ((1 : Nat) : Int) from rfl, h2, Nat.and_one_is_mod, Nat.testBit_eq_decide_div_mod_eq]
  rw [Bool.eq_iff_iff]
  simp only [beq_iff_eq, decide_eq_true_eq]
  omega

theorem lt_of_div_zero (n k : Nat) (hk : k ≤ 64) (h0 : ((n : Int) / 2 ^ k != 0) = false) : n < 2 ^ k := by
  have h1 : (n : Int) / 2 ^ k = ((n / 2 ^ k : Nat) : Int) := by simp
  rw [h1] at h0
  have h3 : n / 2 ^ k = 0 := by
    by_cases hz : n / 2 ^ k = 0
    · exact hz
    · exfalso
      have : (((n / 2 ^ k : Nat) : Int) != 0) = true := by rw [bne_iff_ne]; omega
      rw [this] at h0; cases h0
  exact (Nat.div_eq_zero_iff_lt (Nat.two_pow_pos k)).1 h3

theorem numBits_take_succ (n k i : Nat) (h : i < k) : (numBits n k).take (i + 1) = (numBits n k).take i ++ [n.testBit (k - 1 - i)] := by
  rw [List.take_add_one, numBits_getElem? n k i h]; rfl

set_option maxHeartbeats 400000 in
theorem num_ok (p : Nat) (g : Option Nat) (l : List Bool) (n k : Nat) (w : World) (h : Wr w p g l) (hl : l.length < 562949953421312) (hk : k ≤ 64) (h0 : ((n : Int) / 2 ^ k != 0) = false) :
    Calls Try.prog 20 #[.pointer (some ⟨p, 0, none⟩), .int .u64 (n : Int), .int .i64 (k : Int)] w fun e w' => e = .returned (.int .i64 0) ∧ WrMore p g l w (numBits n k) w' := by
  have hn64 : n < 18446744073709551616 := Nat.lt_of_lt_of_le (lt_of_div_zero n k hk h0) (Nat.le_trans (Nat.pow_le_pow_right (by decide) hk) (by decide))
  have HB := Lib.hid (fun j => and_one_bit n j hn64)
  have H := Lib.hid (WrMore.refl h)
  clear h hn64
  have hk' : (k : Int) ≤ 64 := by omega
  go_enter Try.func20, Try.ntmps20
  go_wp2_with (go_at_call 73; refine (isWidth_any _ _).mono ?_; rintro e w' ⟨rfl, rfl⟩)
  go_loopw [18] (fun v18 wr => ∃ i : Nat, i ≤ k ∧ v18 = .int .i64 i ∧ WrMore p g l w ((numBits n k).take i) wr) (fun v18 _ => k - (intOf v18).toNat)
  case atStart => exact ⟨0, Nat.zero_le _, rfl, H.out⟩
  case round =>
    obtain ⟨i, hi, rfl, hinv⟩ := hrel
    by_cases hlt : i < k
    · obtain ⟨g', hwr, hup, hfr⟩ := hinv
      have HW := Lib.hid hwr
      have HU := Lib.hid hup
      have HF := Lib.hid hfr
      have hb := HB.out (k - 1 - i)
      clear hwr hup hfr
      go_wp2_with (go_at_call 72; refine (bit_any _ _ _ _ _ HW.out (by simp; omega)).mono ?_; rintro e w' ⟨rfl, hb⟩)
      have HBB := Lib.hid hb
      clear hb
      go_wp2
      go_roundw
      case rel => exact ⟨i + 1, by omega, by go_num, by rw [numBits_take_succ n k i hlt]; exact WrMore.trans HU.out HF.out HBB.out⟩
      case measure => simp [intOf]; omega
    · have HI := Lib.hid hinv
      clear hinv
      obtain rfl : i = k := by omega
      go_wp2
      go_ret
      have := HI.out
      rw [List.take_of_length_le (by simp)] at this
      exact ⟨rfl, this⟩

set_option maxHeartbeats 400000 in
/-- The number doesn't fit. -/
theorem num_over (p : Nat) (n k : Nat) (w : World) (hk : k ≤ 64) (h0 : ((n : Int) / 2 ^ k != 0) = true) :
    Calls Try.prog 20 #[.pointer (some ⟨p, 0, none⟩), .int .u64 (n : Int), .int .i64 (k : Int)] w fun e w' => e = .returned (.int .i64 2) ∧ w = w' := by
  have hk' : (k : Int) ≤ 64 := by omega
  go_enter Try.func20, Try.ntmps20
  go_wp2_with (go_at_call 73; refine (isWidth_any _ _).mono ?_; rintro e w' ⟨rfl, rfl⟩)
  go_ret
  exact ⟨rfl, rfl⟩

set_option maxHeartbeats 400000 in
/-- The width is none. -/
theorem num_bad (p : Nat) (n k : Int) (w : World) (h0 : (decide (0 ≤ k) && decide (k ≤ 64)) = false) :
    Calls Try.prog 20 #[.pointer (some ⟨p, 0, none⟩), .int .u64 n, .int .i64 k] w fun e w' => e = .returned (.int .i64 2) ∧ w = w' := by
  go_enter Try.func20, Try.ntmps20
  go_wp2_with (go_at_call 73; refine (isWidth_any _ _).mono ?_; rintro e w' ⟨rfl, rfl⟩)
  go_ret
  exact ⟨rfl, rfl⟩
end Go.Proofs.Ytbbbfkcpkcfndaa
