/- The contract of groupwise (Var's reader). -/
import Derived.Test.YtbbbfkcpkcfndaaCodesGet2
import Derived.Test.YtbbbfkcpkcfndaaCodesRefV
namespace Go.Proofs.Ytbbbfkcpkcfndaa
open Go.RowKit Go.Proofs.Tm
set_option linter.unusedVariables false
set_option maxRecDepth 20000

set_option maxHeartbeats 6400000 in
theorem groupwise_any (p : Nat) (g : Option Nat) (bs : List Nat) (i : Nat) (w : World) (h : Rd w p g bs i) :
    Calls Try.prog 81 #[.pointer (some ⟨p, 0, none⟩)] w (ReadTo p g bs w (varS (bitsOf bs) 10 0 0 i)) := by
  have HI := Lib.hid h
  have hL : (bitsOf bs).length = 8 * bs.length := bitsOf_length bs
  have HLN := Lib.hid hL
  have HVI : ∃ r, r = varS (bitsOf bs) 10 0 0 i := ⟨_, rfl⟩
  obtain ⟨r, HVI⟩ := HVI
  rw [← HVI]
  replace HVI := Lib.hid HVI
  clear h hL
  go_enter Try.func81, Try.ntmps81
  go_wp2
  go_loopw [4, 9] (fun v4 v9 wr => ∃ k n j : Nat, k ≤ 10 ∧ v9 = .int .i64 k ∧ v4 = .int .u64 (n : Int) ∧ Hid (n < 2 ^ (7 * k)) ∧ Hid (r = varS (bitsOf bs) (10 - k) k n j) ∧ RdGone p g bs w j wr) (fun _ v9 _ => 10 - (intOf v9).toNat)
  case atStart => exact ⟨0, 0, i, by omega, rfl, rfl, by show (0 : Nat) < _; decide, HVI.out, HI.out, Upd.refl _ _⟩
  case round =>
    obtain ⟨k, n, j, hk, rfl, rfl, HNB, HV, hrd, hup⟩ := hrel
    obtain ⟨wo, rfl⟩ : ∃ wo : World, wo = wr := ⟨_, rfl⟩
    have RD := Lib.hid hrd
    have RU := Lib.hid hup
    clear hrd hup
    by_cases hk10 : k < 10
    · have hvs := HV.out
      obtain ⟨f, hf⟩ : ∃ f, 10 - k = f + 1 := ⟨9 - k, by omega⟩
      rw [hf] at hvs
      rw [varS_step] at hvs
      rw [HLN.out] at hvs
      by_cases hfew : 8 * bs.length < j + 8
      · rw [if_pos hfew] at hvs
        have H := Lib.hid (rnum_end p g bs j 8 wo RD.out (by decide) hfew)
        have HVS := Lib.hid hvs
        clear hvs
        go_wp2_with fail
        refine H.out.mono ?_
        rintro e w1 ⟨rfl, m, rfl⟩
        go_wp2
        go_ret2
        rw [HVS.out]
        exact ⟨rfl, ⟨j, RD.out.drewN m, fun h => by cases h⟩, RU.out.drewN m⟩
      · rw [if_neg hfew] at hvs
        have hnum := rnum_ok p g bs j 8 wo RD.out (by decide) (by omega)
        obtain ⟨j8, hj8⟩ : ∃ j8, j8 = j + 8 := ⟨_, rfl⟩
        rw [← hj8] at hnum hvs
        have hna : numAt bs j 8 = numL (bitsOf bs) j 8 := rfl
        have hg := numL_lt (bitsOf bs) j 8
        rw [hna] at hnum
        generalize numL (bitsOf bs) j 8 = q at *
        have hq : q < 256 := hg
        have H := Lib.hid hnum
        obtain ⟨x, hx⟩ : ∃ x, x = q % 128 := ⟨_, rfl⟩
        have hx128 : x < 128 := by omega
        rw [← hx] at hvs
        have htm : (q : Int).tmod 128 = (x : Int) := by rw [Int.tmod_eq_emod_of_nonneg (by omega)]; omega
        have htm2 : (q : Int) % 128 = (x : Int) := by omega
        have HX := Lib.hid hx
        have c0 : (0 : Int) ≤ 7 * (k : Int) := by omega
        have c1 : 7 * (k : Int) ≤ 64 := by omega
        clear hnum hna hg hx hj8 hfew
        by_cases hover : k = 9 ∧ 1 < x
        · rw [if_pos (.inr hover)] at hvs
          obtain ⟨hk9, hx1⟩ := hover
          have hbad := grp_bad x k hx128 hk9 hx1
          clear hk9 hx1
          have HVS := Lib.hid hvs
          clear hvs
          go_wp2_with fail
          refine H.out.mono ?_
          rintro e w1 ⟨rfl, hr1, hu1⟩
          have HR1 := Lib.hid hr1
          have HU1 := Lib.hid (RU.out.trans hu1 (by simp))
          clear hr1 hu1
          go_wp2
          go_ret2
          rw [HVS.out]
          exact ⟨rfl, ⟨_, HR1.out, fun h => by cases h⟩, HU1.out⟩
        · obtain ⟨g1, g2, g3, g4, g5⟩ := grp_ok n x k hx128 hk10 (by omega) HNB.out
          obtain ⟨y, hy⟩ : ∃ y, y = x * 2 ^ (7 * k) := ⟨_, rfl⟩
          obtain ⟨n', hn'⟩ : ∃ n', n' = n + x * 2 ^ (7 * k) := ⟨_, rfl⟩
          rw [← hn'] at hvs g3 g4
          rw [← hy] at g1 g2 g3
          have HG4 := Lib.hid g4
          clear hy hn' g4 g5
          by_cases hlast : q < 128
          · have hqx : ((q : Int) == (x : Int)) = true := by have := HX.out; simp; omega
            by_cases hzero : 0 < k ∧ q = 0
            · rw [if_pos (.inl hzero)] at hvs
              have HVS := Lib.hid hvs
              have HE := Lib.hid (fun w => ended_no (n' : Int) x k w (by have := HX.out; omega) hzero.1)
              clear hvs hzero hlast
              go_wp2_with fail
              refine H.out.mono ?_
              rintro e w1 ⟨rfl, hr1, hu1⟩
              have HR1 := Lib.hid hr1
              have HU1 := Lib.hid (RU.out.trans hu1 (by simp))
              clear hr1 hu1
              go_wp2_with fail
              refine (HE.out _).mono ?_
              rintro e w' ⟨rfl, rfl⟩
              go_wp2
              go_ret2
              rw [HVS.out]
              exact ⟨rfl, ⟨_, HR1.out, fun h => by cases h⟩, HU1.out⟩
            · rw [if_neg (by have := HX.out; omega), if_pos hlast] at hvs
              have HVS := Lib.hid hvs
              have HE := Lib.hid (fun w => ended_ok (n' : Int) x k w (by have := HX.out; omega))
              clear hvs hzero hlast
              go_wp2_with fail
              refine H.out.mono ?_
              rintro e w1 ⟨rfl, hr1, hu1⟩
              have HR1 := Lib.hid hr1
              have HU1 := Lib.hid (RU.out.trans hu1 (by simp))
              clear hr1 hu1
              go_wp2_with fail
              refine (HE.out _).mono ?_
              rintro e w' ⟨rfl, rfl⟩
              go_wp2
              go_ret2
              rw [HVS.out]
              exact ⟨rfl, ⟨_, HR1.out, fun _ => rfl⟩, HU1.out⟩
          · rw [if_neg (by have := HX.out; omega), if_neg hlast] at hvs
            have hqx : ((q : Int) == (x : Int)) = false := by have := HX.out; simp; omega
            have HVS := Lib.hid hvs
            have HF := Lib.hid hf
            clear hvs hf
            go_wp2_with fail
            refine H.out.mono ?_
            rintro e w1 ⟨rfl, hr1, hu1⟩
            have HR1 := Lib.hid hr1
            have HU1 := Lib.hid (RU.out.trans hu1 (by simp))
            clear hr1 hu1
            go_wp2
            go_roundw
            case rel => exact ⟨k + 1, n', j8, by omega, by go_num, rfl, HG4.out, by show _ = _; rw [HVS.out, show 10 - (k + 1) = f by have := HF.out; omega], HR1.out, HU1.out⟩
            case measure => simp [intOf]; omega
    · obtain rfl : k = 10 := by omega
      have HVS : Hid (r = (0, j, 4)) := Lib.hid (HV.out.trans (varS_done _ _ _ _))
      go_wp2
      go_ret2
      rw [HVS.out]
      exact ⟨rfl, ⟨_, RD.out, fun h => by cases h⟩, RU.out⟩
end Go.Proofs.Ytbbbfkcpkcfndaa
