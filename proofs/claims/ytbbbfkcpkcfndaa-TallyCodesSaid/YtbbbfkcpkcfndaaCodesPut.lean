/- The contracts of PutGamma, PutDelta, PutVar (layer 2). -/
import Derived.Test.YtbbbfkcpkcfndaaCodesLen
namespace Go.Proofs.Ytbbbfkcpkcfndaa
open Go.RowKit Go.Proofs.Tm
set_option linter.unusedVariables false
set_option maxRecDepth 20000

theorem fits_no (n k : Nat) (h : n < 2 ^ k) : ((n : Int) / 2 ^ k != 0) = false := by
  have h1 : (n : Int) / 2 ^ k = ((n / 2 ^ k : Nat) : Int) := by simp
  rw [h1, Nat.div_eq_of_lt h]
  rfl

/-- Two writes are one of both. -/
theorem WrMore.both {p : Nat} {g g' : Option Nat} {l m m' : List Bool} {w w1 w2 : World} (h1 : Wr w1 p g' (l ++ m) ∧ Upd (p :: g.toList) w w1 ∧ (g' = g ∨ ∃ k, g' = some k ∧ w.heap.size ≤ k)) (h2 : WrMore p g' (l ++ m) w1 m' w2) :
    WrMore p g l w (m ++ m') w2 := WrMore.trans h1.2.1 h1.2.2 h2

set_option maxHeartbeats 400000 in
theorem putGamma_no (p : Nat) (w : World) :
    Calls Try.prog 35 #[.pointer (some ⟨p, 0, none⟩), .int .u64 0] w fun e w' => e = .returned (.int .i64 2) ∧ w = w' := by
  go_enter Try.func35, Try.ntmps35
  go_wp2
  go_ret
  exact ⟨rfl, rfl⟩

set_option maxHeartbeats 400000 in
theorem putDelta_no (p : Nat) (w : World) :
    Calls Try.prog 36 #[.pointer (some ⟨p, 0, none⟩), .int .u64 0] w fun e w' => e = .returned (.int .i64 2) ∧ w = w' := by
  go_enter Try.func36, Try.ntmps36
  go_wp2
  go_ret
  exact ⟨rfl, rfl⟩

set_option maxHeartbeats 800000 in
theorem putGamma_any (p : Nat) (g : Option Nat) (l : List Bool) (n : Nat) (w : World) (h : Wr w p g l) (hl : l.length < 281474976710656) (h0 : n ≠ 0) (hn : n < 18446744073709551616) :
    Calls Try.prog 35 #[.pointer (some ⟨p, 0, none⟩), .int .u64 (n : Int)] w fun e w' => e = .returned (.int .i64 0) ∧ WrMore p g l w (gammaBits n) w' := by
  unfold gammaBits
  have H := Lib.hid (highest_any n w h0 hn)
  have hk := log2_lt64 n hn
  have hb : ((n : Int) == 0) = false := by simp; omega
  have hlt := (log2_bounds n h0).2
  generalize Nat.log2 n = k at *
  have h1 := num_ok p g l 0 k w h (by omega) (by omega) (fits_no 0 k (Nat.two_pow_pos _))
  have H1 := Lib.hid h1
  have HLT := Lib.hid hlt
  clear hn h0 h h1 hlt
  go_enter Try.func35, Try.ntmps35
  go_wp2_with (go_at_call 75; refine H.out.mono ?_; rintro e w' ⟨rfl, rfl⟩)
  refine H1.out.mono ?_
  rintro e w1 ⟨rfl, g', hwr, hup, hfr⟩
  have h2 := num_ok p g' _ n (k + 1) w1 hwr (by simp; omega) (by omega) (fits_no n (k + 1) HLT.out)
  rw [show ((k + 1 : Nat) : Int) = (k : Int) + 1 by omega] at h2
  have H2 := Lib.hid h2
  have H3 := Lib.hid (And.intro hwr (And.intro hup hfr))
  clear h2 hwr hup hfr
  go_wp2_with fail
  refine H2.out.mono ?_
  rintro e w2 ⟨rfl, hm⟩
  have HM := Lib.hid hm
  clear hm
  go_wp2
  go_ret
  exact ⟨rfl, WrMore.both H3.out HM.out⟩

theorem andNot_pow (n k : Nat) (h1 : 2 ^ k ≤ n) (h2 : n < 2 ^ (k + 1)) (hk : k < 64) (hn : n < 18446744073709551616) :
    bits .andNot .u64 (n : Int) (IntKind.u64.wrap (2 ^ k)) = ((n - 2 ^ k : Nat) : Int) := by
  have hp : 2 ^ k < 18446744073709551616 := Nat.lt_of_le_of_lt (Nat.pow_le_pow_right (by decide) (show k ≤ 63 by omega)) (by decide)
  have e : ((2 : Int) ^ k) = ((2 ^ k : Nat) : Int) := by simp
  rw [e, show IntKind.u64.wrap ((2 ^ k : Nat) : Int) = ((2 ^ k : Nat) : Int) by rw [IntKind.wrap_u64]; omega, u64_andNot_nat n (2 ^ k) hn hp]
  congr 1
  apply Nat.eq_of_testBit_eq
  intro i
  have hq : n - 2 ^ k < 2 ^ k := by rw [Nat.pow_succ] at h2; omega
  have hn2 : n = 2 ^ k + (n - 2 ^ k) := by omega
  rw [Nat.testBit_and]
  have e2 : (18446744073709551615 - 2 ^ k).testBit i = (decide (i < 64) && !decide (k = i)) := by
    have := Nat.testBit_two_pow_sub_succ (x := 2 ^ k) (n := 64) (by simpa using hp) i
    rw [Nat.testBit_two_pow] at this
    rw [← this]
    congr 1
    omega
  rw [e2]
  rcases Nat.lt_trichotomy i k with hi | hi | hi
  · have e3 : n.testBit i = (n - 2 ^ k).testBit i := by
      conv => lhs; rw [hn2]
      exact Nat.testBit_two_pow_add_gt hi _
    rw [e3]; simp [show i < 64 by omega, show ¬ k = i by omega]
  · subst hi
    rw [Nat.testBit_lt_two_pow hq]; simp
  · rw [Nat.testBit_lt_two_pow (Nat.lt_of_lt_of_le h2 (Nat.pow_le_pow_right (by decide) hi)), Nat.testBit_lt_two_pow (Nat.lt_of_lt_of_le hq (Nat.pow_le_pow_right (by decide) (Nat.le_of_lt hi)))]
    simp

set_option maxHeartbeats 800000 in
theorem putDelta_any (p : Nat) (g : Option Nat) (l : List Bool) (n : Nat) (w : World) (h : Wr w p g l) (hl : l.length < 140737488355328) (h0 : n ≠ 0) (hn : n < 18446744073709551616) :
    Calls Try.prog 36 #[.pointer (some ⟨p, 0, none⟩), .int .u64 (n : Int)] w fun e w' => e = .returned (.int .i64 0) ∧ WrMore p g l w (deltaBits n) w' := by
  unfold deltaBits
  have H := Lib.hid (highest_any n w h0 hn)
  have hk := log2_lt64 n hn
  have hb : ((n : Int) == 0) = false := by simp; omega
  have hlt := log2_bounds n h0
  generalize Nat.log2 n = k at *
  have han := andNot_pow n k hlt.1 hlt.2 hk hn
  have h1 := putGamma_any p g l (k + 1) w h (by omega) (by omega) (by omega)
  rw [show ((k + 1 : Nat) : Int) = (k : Int) + 1 by omega] at h1
  have hw : IntKind.u64.wrap ((k : Int) + 1) = (k : Int) + 1 := by rw [IntKind.wrap_u64]; omega
  have hgl := gammaBits_length (k + 1)
  have hg2 := log2_lt64 (k + 1) (by omega)
  have H1 := Lib.hid h1
  have HLT := Lib.hid hlt
  have HGL := Lib.hid hgl
  have HAN := Lib.hid han
  clear hn h0 h h1 hlt hgl han
  go_enter Try.func36, Try.ntmps36
  go_wp2_with (go_at_call 75; refine H.out.mono ?_; rintro e w' ⟨rfl, rfl⟩)
  refine H1.out.mono ?_
  rintro e w1 ⟨rfl, g', hwr, hup, hfr⟩
  have h2 := num_ok p g' _ (n - 2 ^ k) k w1 hwr (by rw [List.length_append, HGL.out]; omega) (by omega) (fits_no _ k (by have := HLT.out; rw [Nat.pow_succ] at this; omega))
  have H2 := Lib.hid h2
  have H3 := Lib.hid (And.intro hwr (And.intro hup hfr))
  have han := HAN.out
  clear h2 hwr hup hfr
  obtain ⟨y, hy⟩ : ∃ y, y = n - 2 ^ k := ⟨_, rfl⟩
  rw [← hy] at H2 han
  have HY := Lib.hid hy
  clear hy
  go_wp2_with fail
  refine H2.out.mono ?_
  rintro e w2 ⟨rfl, hm⟩
  have HM := Lib.hid (WrMore.both H3.out hm)
  clear hm
  go_wp2
  go_ret
  exact ⟨rfl, by rw [← HY.out]; exact HM.out⟩

theorem or_128 (x : Nat) (h : x < 128) : bits .or .u64 (x : Int) 128 = ((x + 128 : Nat) : Int) := by
  have := u64_or_nat x 128 (by omega) (by decide)
  rw [show ((128 : Nat) : Int) = 128 from rfl] at this
  rw [this, Nat.or_comm, nat_join 7 128 x (by decide) (by omega), Nat.add_comm]

set_option maxHeartbeats 800000 in
theorem putVar_any (p : Nat) (g : Option Nat) (l : List Bool) (n : Nat) (w : World) (h : Wr w p g l) (hl : l.length < 140737488355328) (hn : n < 18446744073709551616) :
    Calls Try.prog 37 #[.pointer (some ⟨p, 0, none⟩), .int .u64 (n : Int)] w fun e w' => e = .returned (.tuple #[]) ∧ WrMore p g l w (varBits n) w' := by
  have H := Lib.hid (count_any n w hn)
  have hgp := groups_pos n
  have hgl := groups_le n
  have HG : Hid (∀ i, i < groups n → (varG 10 n)[i]? = some (n / 128 ^ i % 128 + if i + 1 < groups n then 128 else 0)) := fun i hi => varG_get 10 n i (Nat.lt_trans hn (by decide)) hi
  have HVL : Hid (groups n = (varG 10 n).length) := rfl
  obtain ⟨m, hm⟩ : ∃ m, groups n = m + 1 := ⟨groups n - 1, by omega⟩
  rw [hm] at H HG HVL hgl
  have HI := Lib.hid (WrMore.refl h)
  clear hgp hm h hn
  go_enter Try.func37, Try.ntmps37
  go_wp2_with (go_at_call 76; refine H.out.mono ?_; rintro e w' ⟨rfl, rfl⟩)
  go_loopw [12] (fun v12 wr => ∃ i : Nat, i ≤ m + 1 ∧ v12 = .int .i64 i ∧ WrMore p g l w (((varG 10 n).take i).flatMap fun g => numBits g 8) wr) (fun v12 _ => m + 1 - (intOf v12).toNat)
  case atStart => exact ⟨0, Nat.zero_le _, rfl, by simpa using HI.out⟩
  case round =>
    obtain ⟨i, hi, rfl, hinv⟩ := hrel
    by_cases hlt : i < m + 1
    · obtain ⟨g', hwr, hup, hfr⟩ := hinv
      have H3 := Lib.hid (And.intro hwr (And.intro hup hfr))
      have hgi := HG.out i hlt
      have hil : (((varG 10 n).take i).flatMap fun g => numBits g 8).length ≤ 80 := by rw [flatMap8_length]; simp; omega
      have htk : ((varG 10 n).take (i + 1)) = (varG 10 n).take i ++ [n / 128 ^ i % 128 + if i + 1 < m + 1 then 128 else 0] := by rw [List.take_add_one, hgi]; rfl
      obtain ⟨q, hq⟩ : ∃ q, q = n / 128 ^ i := ⟨_, rfl⟩
      rw [← hq] at htk hgi
      have hx : q % 128 < 128 := Nat.mod_lt _ (by decide)
      have hsh : (n : Int) / 2 ^ (7 * i) = (q : Int) := by
        have : (128 : Nat) ^ i = 2 ^ (7 * i) := by rw [Nat.pow_mul]
        rw [hq, this]; simp
      have htm : (q : Int).tmod 128 = (q : Int) % 128 := Int.tmod_eq_emod_of_nonneg (by omega)
      have HTK := Lib.hid htk
      have c0 : (0 : Int) ≤ 7 * (i : Int) := by omega
      have c1 : 7 * (i : Int) ≤ 64 := by omega
      clear htk hgi hq
      by_cases hlast : i < m
      · rw [if_pos (show i + 1 < m + 1 by omega)] at HTK
        have h2 := num_ok p g' _ (q % 128 + 128) 8 wr hwr (by simp only [List.length_append]; omega) (by decide) (fits_no _ 8 (by omega))
        have hor := or_128 _ hx
        rw [show ((q % 128 : Nat) : Int) = (q : Int) % 128 by omega] at hor
        generalize q % 128 + 128 = y at *
        have H2 := Lib.hid h2
        clear h2 hwr hup hfr hil
        go_wp2_with fail
        refine H2.out.mono ?_
        rintro e w2 ⟨rfl, hm⟩
        have HM := Lib.hid (WrMore.both H3.out hm)
        clear hm
        go_wp2
        go_roundw
        case rel => exact ⟨i + 1, by omega, by go_num, by rw [HTK.out, List.flatMap_append]; simpa using HM.out⟩
        case measure => simp [intOf]; omega
      · rw [if_neg (show ¬ i + 1 < m + 1 by omega), Nat.add_zero] at HTK
        have h2 := num_ok p g' _ (q % 128) 8 wr hwr (by simp only [List.length_append]; omega) (by decide) (fits_no _ 8 (by omega))
        rw [show ((q % 128 : Nat) : Int) = (q : Int) % 128 by omega] at h2
        have H2 := Lib.hid h2
        clear h2 hwr hup hfr hil
        go_wp2_with fail
        refine H2.out.mono ?_
        rintro e w2 ⟨rfl, hm⟩
        have HM := Lib.hid (WrMore.both H3.out hm)
        clear hm
        go_wp2
        go_roundw
        case rel => exact ⟨i + 1, by omega, by go_num, by rw [HTK.out, List.flatMap_append]; simpa using HM.out⟩
        case measure => simp [intOf]; omega
    · obtain rfl : i = m + 1 := by omega
      have HIN := Lib.hid hinv
      clear hinv
      go_wp2
      go_end0
      refine ⟨rfl, ?_⟩
      have := HIN.out
      rw [HVL.out, List.take_length] at this
      exact this
end Go.Proofs.Ytbbbfkcpkcfndaa
