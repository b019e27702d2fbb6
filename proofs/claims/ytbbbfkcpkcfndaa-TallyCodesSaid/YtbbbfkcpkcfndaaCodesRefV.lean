/- The contract of the document's own reader of Var. -/
import Derived.Test.YtbbbfkcpkcfndaaCodesRefR
namespace Go.Proofs.Ytbbbfkcpkcfndaa
open Go.RowKit Go.Proofs.Tm
set_option linter.unusedVariables false
set_option maxRecDepth 20000

theorem varS_step (L : List Bool) (f k n i : Nat) : varS L (f + 1) k n i =
    if L.length < i + 8 then (0, i, 5) else
    if (0 < k ∧ numL L i 8 = 0) ∨ (k = 9 ∧ 1 < numL L i 8 % 128) then (0, i, 4) else
    if numL L i 8 < 128 then (n + numL L i 8 % 128 * 2 ^ (7 * k), i + 8, 0) else varS L f (k + 1) (n + numL L i 8 % 128 * 2 ^ (7 * k)) (i + 8) := rfl
theorem varS_done (L : List Bool) (k n i : Nat) : varS L 0 k n i = (0, i, 4) := rfl

theorem rgrp_ok (n x k : Nat) (hx : x < 128) (hk : k < 10) (hfit : k < 9 ∨ x ≤ 1) (hn : n < 2 ^ (7 * k)) :
    IntKind.u64.wrap ((x : Int) * 2 ^ (7 * k)) = ((x * 2 ^ (7 * k) : Nat) : Int) ∧
    IntKind.u64.wrap ((n : Int) + ((x * 2 ^ (7 * k) : Nat) : Int)) = ((n + x * 2 ^ (7 * k) : Nat) : Int) ∧ n + x * 2 ^ (7 * k) < 2 ^ (7 * (k + 1)) := by
  have hp := Nat.two_pow_pos (7 * k)
  have h1 : x * 2 ^ (7 * k) + 2 ^ (7 * k) ≤ 18446744073709551616 := by
    rcases hfit with h | h
    · have h2 : (x + 1) * 2 ^ (7 * k) ≤ 128 * 2 ^ 56 := Nat.mul_le_mul (by omega) (Nat.pow_le_pow_right (by decide) (by omega))
      rw [Nat.add_mul] at h2; omega
    · have h2 : (x + 1) * 2 ^ (7 * k) ≤ 2 * 2 ^ 63 := Nat.mul_le_mul (by omega) (Nat.pow_le_pow_right (by decide) (by omega))
      rw [Nat.add_mul] at h2; omega
  have e1 : (x : Int) * 2 ^ (7 * k) = ((x * 2 ^ (7 * k) : Nat) : Int) := by simp
  refine ⟨?_, ?_, ?_⟩
  · rw [e1, IntKind.wrap_u64]; omega
  · rw [IntKind.wrap_u64]; omega
  · have h3 : (x + 1) * 2 ^ (7 * k) ≤ 128 * 2 ^ (7 * k) := Nat.mul_le_mul_right _ (by omega)
    rw [Nat.add_mul] at h3
    rw [show 7 * (k + 1) = 7 * k + 7 by omega, Nat.pow_add]
    omega

set_option maxRecDepth 100000 in
set_option maxHeartbeats 3200000 in
theorem refReadVar_any (lv : Value) (l : List Bool) (i : Nat) (w : World) (h : Sl w lv (cb l)) (hl : l.length ≤ 1125899906842624) (hi : i ≤ l.length) :
    Calls Try.prog 49 #[lv, .int .i64 (i : Int)] w (RefRead w (varS l 10 0 0 i)) := by
  have HS := Lib.hid h
  obtain ⟨a, cap, rfl, _, _, _⟩ := h
  simp only [cb_length] at *
  obtain ⟨n, hn⟩ : ∃ n, n = l.length := ⟨_, rfl⟩
  rw [← hn] at hl hi
  have HN := Lib.hid hn
  rw [← hn]
  have HS2 : Hid (Sl w (.slice a n cap) (cb l)) := by show Sl _ _ _; rw [HN.out]; exact HS.out
  obtain ⟨r, HR⟩ : ∃ r, r = varS l 10 0 0 i := ⟨_, rfl⟩
  rw [← HR]
  replace HR := Lib.hid HR
  clear hn
  go_enter Try.func49, Try.ntmps49
  go_wp2
  go_loop [1, 7, 8] (fun v1 v7 v8 => ∃ k m j : Nat, k ≤ 10 ∧ j ≤ n ∧ v8 = .int .i64 k ∧ v7 = .int .u64 (m : Int) ∧ v1 = .int .i64 (j : Int) ∧ Hid (m < 2 ^ (7 * k)) ∧ Hid (r = varS l (10 - k) k m j)) (fun _ _ v8 => 10 - (intOf v8).toNat)
  case atStart => exact ⟨0, 0, i, by omega, hi, rfl, rfl, rfl, by show (0 : Nat) < _; decide, HR.out⟩
  case round =>
    obtain ⟨k, m, j, hk, hj, rfl, rfl, rfl, HNB, HV⟩ := hrel
    by_cases hk10 : k < 10
    · have hvs := HV.out
      obtain ⟨f, hf⟩ : ∃ f, 10 - k = f + 1 := ⟨9 - k, by omega⟩
      rw [hf, varS_step, ← HN.out] at hvs
      by_cases hfew : n < j + 8
      · rw [if_pos hfew] at hvs
        have H := Lib.hid (get_end _ l j 8 w HS2.out (by rw [← HN.out]; exact hl) (by decide) (by rw [← HN.out]; exact hj) (by rw [← HN.out]; exact hfew))
        have HVS := Lib.hid hvs
        clear hvs
        go_wp2_with fail
        refine H.out.mono ?_
        rintro e w1 ⟨rfl, rfl⟩
        go_wp2
        go_ret3
        rw [HVS.out]
        exact ⟨j, rfl, (fun h => by cases h), rfl⟩
      · rw [if_neg hfew] at hvs
        have hnum := get_ok _ l j 8 w HS2.out (by rw [← HN.out]; exact hl) (by decide) (by rw [← HN.out]; omega)
        have hg := numL_lt l j 8
        generalize numL l j 8 = q at *
        have hq : q < 256 := hg
        obtain ⟨j8, hj8⟩ : ∃ j8, j8 = j + 8 := ⟨_, rfl⟩
        rw [← hj8] at hnum hvs
        have H := Lib.hid hnum
        have hj8n : j8 ≤ n := by omega
        have HJ8 := Lib.hid hj8
        clear hj8
        obtain ⟨x, hx⟩ : ∃ x, x = q % 128 := ⟨_, rfl⟩
        have hx128 : x < 128 := by omega
        rw [← hx] at hvs
        have htm : (q : Int).tmod 128 = (x : Int) := by rw [Int.tmod_eq_emod_of_nonneg (by omega)]; omega
        have htm2 : (q : Int) % 128 = (x : Int) := by omega
        have HX := Lib.hid hx
        have c0 : (0 : Int) ≤ 7 * (k : Int) := by omega
        have c1 : 7 * (k : Int) ≤ 64 := by omega
        clear hnum hg hx
        by_cases href : (0 < k ∧ q = 0) ∨ (k = 9 ∧ 1 < x)
        · rw [if_pos href] at hvs
          have HVS := Lib.hid hvs
          clear hvs
          rcases href with ⟨hk0, hq0⟩ | ⟨hk9, hx1⟩
          · have b1 : decide (0 < k) = true := by simpa using hk0
            have b2 : ((q : Int) == 0) = true := by simpa using hq0
            have b4 : decide ((1 : Int) < (x : Int)) = false := by have := HX.out; simp; omega
            clear hk0 hq0
            go_wp2_with fail
            refine H.out.mono ?_
            rintro e w1 ⟨rfl, rfl⟩
            go_wp2
            go_ret3
            rw [HVS.out]
            exact ⟨j8, rfl, (fun h => by cases h), rfl⟩
          · have b1 : decide (0 < k) = true := by simp; omega
            have b2 : ((q : Int) == 0) = false := by have := HX.out; simp; omega
            have b3 : ((k : Int) == 9) = true := by simp; omega
            have b4 : decide ((1 : Int) < (x : Int)) = true := by simp; omega
            clear hk9 hx1
            go_wp2_with fail
            refine H.out.mono ?_
            rintro e w1 ⟨rfl, rfl⟩
            go_wp2
            go_ret3
            rw [HVS.out]
            exact ⟨j8, rfl, (fun h => by cases h), rfl⟩
        · rw [if_neg href] at hvs
          obtain ⟨g1, g2, g3⟩ := rgrp_ok m x k hx128 hk10 (by omega) HNB.out
          obtain ⟨y, hy⟩ : ∃ y, y = x * 2 ^ (7 * k) := ⟨_, rfl⟩
          obtain ⟨m', hm'⟩ : ∃ m', m' = m + x * 2 ^ (7 * k) := ⟨_, rfl⟩
          rw [← hm'] at hvs g2 g3
          rw [← hy] at g1 g2
          have HG3 := Lib.hid g3
          have hall : ∃ p1 p2 p3 p4 : Bool, decide (0 < k) = p1 ∧ ((q : Int) == 0) = p2 ∧ ((k : Int) == 9) = p3 ∧ decide ((1 : Int) < (x : Int)) = p4 ∧ (p1 && p2) = false ∧ (p3 && p4) = false := by
            refine ⟨_, _, _, _, rfl, rfl, rfl, rfl, ?_, ?_⟩
            · rw [Bool.and_eq_false_iff]
              by_cases h : 0 < k
              · right; simp; omega
              · left; simpa using h
            · rw [Bool.and_eq_false_iff]
              by_cases h : k = 9
              · right; simp; omega
              · left; simp; omega
          obtain ⟨p1, p2, p3, p4, b1, b2, b3, b4, b5, b6⟩ := hall
          have HREF := Lib.hid href
          have hc1 : (p1 = false) ∨ (p1 = true ∧ p2 = false) := by cases p1 <;> simp_all
          have hc2 : (p3 = false) ∨ (p3 = true ∧ p4 = false) := by cases p3 <;> simp_all
          clear hy hm' g3 href b5 b6
          by_cases hlast : q < 128
          · rw [if_pos hlast] at hvs
            have b7 : decide ((q : Int) < 128) = true := by simp; omega
            have HVS := Lib.hid hvs
            clear hvs hlast
            rcases hc1 with rfl | ⟨rfl, rfl⟩ <;> rcases hc2 with rfl | ⟨rfl, rfl⟩
            all_goals
              go_wp2_with fail
              refine H.out.mono ?_
              rintro e w1 ⟨rfl, rfl⟩
              go_wp2
              go_ret3
              rw [HVS.out]
              exact ⟨j8, rfl, fun _ => rfl, rfl⟩
          · rw [if_neg hlast] at hvs
            have b7 : decide ((q : Int) < 128) = false := by simp; omega
            have HVS := Lib.hid hvs
            have HF := Lib.hid hf
            clear hvs hf hlast
            rcases hc1 with rfl | ⟨rfl, rfl⟩ <;> rcases hc2 with rfl | ⟨rfl, rfl⟩
            all_goals
              go_wp2_with fail
              refine H.out.mono ?_
              rintro e w1 ⟨rfl, rfl⟩
              go_wp2
              go_round
              case rel => exact ⟨k + 1, m', j8, by omega, hj8n, by go_num, rfl, rfl, HG3.out, by show _ = _; rw [HVS.out, show 10 - (k + 1) = f by have := HF.out; omega]⟩
              case measure => simp [intOf]; omega
    · obtain rfl : k = 10 := by omega
      have HVS : Hid (r = (0, j, 4)) := Lib.hid (HV.out.trans (varS_done _ _ _ _))
      go_wp2
      go_ret3
      rw [HVS.out]
      exact ⟨j, rfl, (fun h => by cases h), rfl⟩
end Go.Proofs.Ytbbbfkcpkcfndaa
