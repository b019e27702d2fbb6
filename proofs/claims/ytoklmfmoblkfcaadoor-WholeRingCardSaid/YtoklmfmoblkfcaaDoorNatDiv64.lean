/- The contract of the library's Div64. -/
import Derived.Test.YtoklmfmoblkfcaaDoorAa
import Derived.Test.YtoklmfmoblkfcaaDoorAb
import Derived.Test.YtoklmfmoblkfcaaDoorNatHalf
import Derived.Deep.CutBlock
import Derived.Deep.DeepCutAuto
import Derived.Deep.QuietTactic
import Derived.BigQuiet
namespace Go.Proofs.YtoklmfmoblkfcaaDoor
open Go.RowKit Go.Proofs.Tm
set_option linter.unusedVariables false
set_option maxRecDepth 20000


theorem div64_low (lo y : Nat) (w : World) (hlo : lo < 18446744073709551616) (hy : 0 < y) (hy2 : y < 18446744073709551616) :
    Calls Tryd.prog 82 #[.int .u64 0, .int .u64 (lo : Int), .int .u64 (y : Int)] w fun e w' =>
      e = .returned (.tuple #[.int .u64 ((lo / y : Nat) : Int), .int .u64 ((lo % y : Nat) : Int)]) ∧ Upd [] w w' := by
  have h1 : ((y : Int) == 0) = false := by simp; omega
  have h2 : decide (y = 0) = false := by simp; omega
  have h3 : ¬ y = 0 := by omega
  have h4 : decide ((y : Int) ≤ 0) = false := by simp; omega
  have h5 : (lo : Int).tdiv (y : Int) = ((lo / y : Nat) : Int) := by rw [Int.tdiv_eq_ediv_of_nonneg (by omega)]; simp
  have h6 : (lo : Int).tmod (y : Int) = ((lo % y : Nat) : Int) := by rw [Int.tmod_eq_emod_of_nonneg (by omega)]; simp
  have h7 : IntKind.u64.wrap ((lo / y : Nat) : Int) = ((lo / y : Nat) : Int) := wrap_nat _ (Nat.lt_of_le_of_lt (Nat.div_le_self lo y) hlo)
  have h8 : IntKind.u64.wrap ((lo % y : Nat) : Int) = ((lo % y : Nat) : Int) := wrap_nat _ (Nat.lt_of_le_of_lt (Nat.mod_le lo y) hlo)
  obtain ⟨q, hq⟩ : ∃ q, q = lo / y := ⟨_, rfl⟩
  obtain ⟨r, hr⟩ : ∃ r, r = lo % y := ⟨_, rfl⟩
  rw [← hq] at h5 h7 ⊢
  rw [← hr] at h6 h8 ⊢
  clear hq hr
  go_enter Tryd.func82, Tryd.ntmps82
  go_wp2
  go_quiet (fail)
  go_wp2
  go_ret2
  exact ⟨rfl, (Upd.refl _ _).drewN _⟩

theorem lz_spec (y : Nat) (h0 : y ≠ 0) (h : y < 18446744073709551616) : ∃ s : Nat, s ≤ 63 ∧ (64 : Int) - (Lib.bitLen y : Int) = (s : Int) ∧ 9223372036854775808 ≤ y * 2 ^ s ∧ y * 2 ^ s < 18446744073709551616 := by
  obtain ⟨h1, h2, h3⟩ := Lib.bitLenAux_bounds 64 y (by simpa using h) h0
  have hl : Lib.bitLenAux 64 y ≤ 64 := Lib.bitLenAux_le 64 y 64 (by simpa using h)
  refine ⟨64 - Lib.bitLenAux 64 y, by omega, by show (64 : Int) - (Lib.bitLenAux 64 y : Int) = _; omega, ?_, ?_⟩
  · have := Nat.mul_le_mul_right (2 ^ (64 - Lib.bitLenAux 64 y)) h2
    rw [← Nat.pow_add, show Lib.bitLenAux 64 y - 1 + (64 - Lib.bitLenAux 64 y) = 63 by omega] at this
    simpa using this
  · have := Nat.mul_lt_mul_of_pos_right h3 (Nat.two_pow_pos (64 - Lib.bitLenAux 64 y))
    rw [← Nat.pow_add, show Lib.bitLenAux 64 y + (64 - Lib.bitLenAux 64 y) = 64 by omega] at this
    simpa using this

theorem and_mask32 (a : Nat) (ha : a < 18446744073709551616) : bits .and .u64 (a : Int) 4294967295 = ((a % 4294967296 : Nat) : Int) := by
  rw [show (4294967295 : Int) = ((4294967295 : Nat) : Int) from rfl, u64_and_nat a 4294967295 ha (by decide), show (4294967295 : Nat) = 2 ^ 32 - 1 by decide, Nat.and_two_pow_sub_one_eq_mod]

/-- What stands above, and what stands below 2^k, are put together. -/
theorem or_low (a b k : Nat) (hb : b < 2 ^ k) (h : a * 2 ^ k < 18446744073709551616) (hb2 : b < 18446744073709551616) : bits .or .u64 ((a * 2 ^ k : Nat) : Int) (b : Int) = ((a * 2 ^ k + b : Nat) : Int) := by
  rw [u64_or_nat _ _ h hb2]
  congr 1
  rw [Nat.mul_comm, Nat.two_pow_add_eq_or_of_lt hb]

theorem shl_nat (a s : Nat) : (a : Int) * 2 ^ s = ((a * 2 ^ s : Nat) : Int) := by simp
theorem wrap_mod (n : Nat) : IntKind.u64.wrap (n : Int) = ((n % 18446744073709551616 : Nat) : Int) := by rw [IntKind.wrap_u64]; omega
/-- A difference that is there, reckoned in words. -/
theorem wrap_sub (X c Z r : Nat) (h : X + c = Z + r) (hr : r < 18446744073709551616) :
    IntKind.u64.wrap (((((X % 18446744073709551616) + c) % 18446744073709551616 : Nat) : Int) - ((Z % 18446744073709551616 : Nat) : Int)) = (r : Int) := by
  rw [IntKind.wrap_u64]; omega

set_option maxRecDepth 100000 in
set_option maxHeartbeats 3200000 in
theorem div64_high (hi lo y : Nat) (w : World) (hhi : hi ≠ 0) (hlt : hi < y) (hlo : lo < 18446744073709551616) (hy2 : y < 18446744073709551616) :
    Calls Tryd.prog 82 #[.int .u64 (hi : Int), .int .u64 (lo : Int), .int .u64 (y : Int)] w fun e w' =>
      e = .returned (.tuple #[.int .u64 (((hi * 18446744073709551616 + lo) / y : Nat) : Int), .int .u64 (((hi * 18446744073709551616 + lo) % y : Nat) : Int)]) ∧ Upd [] w w' := by
  have h1 : ((y : Int) == 0) = false := by simp; omega
  have h2 : decide (y ≤ hi) = false := by simp; omega
  have h3 : ((hi : Int) == 0) = false := by simp; omega
  obtain ⟨s, hs, hsb, hn1, hn2⟩ := lz_spec y (by omega) hy2
  have hsp := Nat.two_pow_pos s
  have hsp2 := Nat.two_pow_pos (64 - s)
  have hpw : 2 ^ s * 2 ^ (64 - s) = 18446744073709551616 := by rw [← Nat.pow_add, show s + (64 - s) = 64 by omega]
  obtain ⟨Y, hY⟩ : ∃ Y, Y = y * 2 ^ s := ⟨_, rfl⟩
  obtain ⟨hs', hhs⟩ : ∃ a, a = hi * 2 ^ s := ⟨_, rfl⟩
  obtain ⟨ls, hls⟩ : ∃ a, a = lo / 2 ^ (64 - s) := ⟨_, rfl⟩
  obtain ⟨lw, hlw⟩ : ∃ a, a = lo * 2 ^ s % 18446744073709551616 := ⟨_, rfl⟩
  obtain ⟨u, hu⟩ : ∃ a, a = hs' + ls := ⟨_, rfl⟩
  obtain ⟨a1, ha1⟩ : ∃ a, a = Y / 4294967296 := ⟨_, rfl⟩
  obtain ⟨a0, ha0⟩ : ∃ a, a = Y % 4294967296 := ⟨_, rfl⟩
  obtain ⟨un1, hun1⟩ : ∃ a, a = lw / 4294967296 := ⟨_, rfl⟩
  obtain ⟨un0, hun0⟩ : ∃ a, a = lw % 4294967296 := ⟨_, rfl⟩
  have hls2 : ls < 2 ^ s := by rw [hls, Nat.div_lt_iff_lt_mul hsp2, hpw]; exact hlo
  have hhY : hs' + 2 ^ s ≤ Y := by
    have := Nat.mul_le_mul_right (2 ^ s) hlt
    rw [Nat.succ_eq_add_one, Nat.add_mul, Nat.one_mul] at this
    rw [hhs, hY]; exact this
  have huY : u < Y := by omega
  have hlwlt : lw < 18446744073709551616 := by rw [hlw]; exact Nat.mod_lt _ (by decide)
  have hcut : lo * 2 ^ s = ls * 18446744073709551616 + lw := by
    have e1 : lo * 2 ^ s / 18446744073709551616 = ls := by
      rw [hls, ← hpw, Nat.mul_comm lo, Nat.mul_div_mul_left _ _ hsp]
    have e2 := Nat.div_add_mod (lo * 2 ^ s) 18446744073709551616
    rw [e1, ← hlw] at e2
    omega
  have HN : Hid ((hi * 18446744073709551616 + lo) * 2 ^ s = (u * 4294967296 + un1) * 4294967296 + un0) := by
    show _ = _
    rw [Nat.add_mul, hcut, Nat.mul_right_comm, ← hhs, hu]
    omega
  have f1 : IntKind.u64.wrap ((y : Int) * 2 ^ s) = (Y : Int) := by rw [shl_nat, ← hY]; exact wrap_nat _ (by omega)
  have f2 : (Y : Int) / 4294967296 = (a1 : Int) := by omega
  have f3 : bits .and .u64 (Y : Int) 4294967295 = (a0 : Int) := by rw [and_mask32 _ (by omega), ← ha0]
  have f4 : IntKind.u64.wrap ((hi : Int) * 2 ^ s) = (hs' : Int) := by rw [shl_nat, ← hhs]; exact wrap_nat _ (by omega)
  have f5 : (lo : Int) / 2 ^ (64 - s) = (ls : Int) := by rw [shr_nat, ← hls]
  have f6 : bits .or .u64 (hs' : Int) (ls : Int) = (u : Int) := by rw [hu, hhs]; exact or_low hi ls s hls2 (by omega) (by omega)
  have f7 : IntKind.u64.wrap ((lo : Int) * 2 ^ s) = (lw : Int) := by rw [shl_nat, wrap_mod, ← hlw]
  have f8 : (lw : Int) / 4294967296 = (un1 : Int) := by omega
  have f9 : bits .and .u64 (lw : Int) 4294967295 = (un0 : Int) := by rw [and_mask32 _ (by omega), ← hun0]
  have HS1 : Hid (Half u un1 Y a1 a0 (u / a1) (u % a1)) := Half.start (by omega) (by omega) (by omega) huY (by omega) (by omega)
  have f10 := tdiv_nat u a1
  obtain ⟨qs, hqs⟩ : ∃ q, q = u / a1 := ⟨_, rfl⟩
  obtain ⟨rs, hrs⟩ : ∃ r, r = u % a1 := ⟨_, rfl⟩
  rw [← hqs, ← hrs] at HS1
  rw [← hqs] at f10
  have hqb := HS1.out.q_le
  have f11 : IntKind.u64.wrap ((qs : Int) * (a1 : Int)) = ((qs * a1 : Nat) : Int) := by
    rw [← Int.natCast_mul]; exact wrap_nat _ (by have := HS1.out.heq; omega)
  have f12 : IntKind.u64.wrap ((u : Int) - ((qs * a1 : Nat) : Int)) = (rs : Int) := by have := HS1.out.heq; rw [IntKind.wrap_u64]; omega
  obtain ⟨qa, hqa⟩ : ∃ a, a = qs * a1 := ⟨_, rfl⟩
  rw [← hqa] at f11 f12
  have hua : u < 18446744073709551616 := by omega
  have hrb : rs < 4294967296 := by have := Nat.mod_lt u (show 0 < a1 by omega); omega
  have hap : 0 < a1 := by omega
  have hun1b : un1 < 4294967296 := by omega
  have hun0b : un0 < 4294967296 := by omega
  have HH : Hid (∀ q1 q0 u2 : Nat, q1 = (u * 4294967296 + un1) / Y → u2 = (u * 4294967296 + un1) % Y → q0 = (u2 * 4294967296 + un0) / Y → (hi * 18446744073709551616 + lo) / y = q1 * 4294967296 + q0 ∧ (hi * 18446744073709551616 + lo) % y = (u2 * 4294967296 + un0) % Y / 2 ^ s) :=
    fun q1 q0 u2 e1 e2 e3 => halves _ y s Y u un1 un0 q1 q0 u2 hY (by omega) HN.out e1 e2 e3
  have HYL := Lib.hid hn2
  rw [← hY] at HYL
  clear hY hhs hls hlw hu ha1 ha0 hun1 hun0 hls2 hhY hcut hqs hrs hqa hn1 hn2 hsp hsp2 hpw hlwlt
  have hsb' : (64 : Int) - (Lib.bitLen y : Int) = (s : Int) := hsb
  go_enter Tryd.func82, Tryd.ntmps82
  go_wp2_with fail
  refine (Tryd.bits_LeadingZeros64 (y : Int) w (by omega) (by omega)).mono ?_
  rintro e w' ⟨rfl, rfl⟩
  rw [Int.toNat_natCast, hsb]
  clear hsb hsb'
  go_upto_block 0 with fail
  clear f1 f2 f3 f4 f5 f6 f7 f8 f9 f10 f11 f12
  go_cut [15] (fun v15 wx => ∃ q1 : Nat, v15 = .int .u64 (q1 : Int) ∧ Hid (q1 = (u * 4294967296 + un1) / Y) ∧ wx = w')
  case first =>
    go_wp2_with fail
    go_loop [15, 16] (fun vq vr => ∃ q r : Nat, vq = .int .u64 (q : Int) ∧ vr = .int .u64 (r : Int) ∧ r < 4294967296 ∧ q ≤ 8589934592 ∧ Hid (Half u un1 Y a1 a0 q r)) (fun vq _ => (intOf vq).toNat)
    case atStart => exact ⟨_, _, rfl, rfl, hrb, hqb.2.2, HS1⟩
    case round =>
      obtain ⟨q, r, rfl, rfl, hr, hq, HI⟩ := hrel
      by_cases hbig : 4294967296 ≤ q
      · obtain ⟨hq1, hm⟩ := HI.out.more (.inl hbig)
        have g1 : decide ((4294967296 : Int) ≤ (q : Int)) = true := by simp; omega
        have g2 : IntKind.u64.wrap ((q : Int) - 1) = ((q - 1 : Nat) : Int) := by rw [IntKind.wrap_u64]; omega
        have hqm := hm.q_le
        have g3 : IntKind.u64.wrap ((r : Int) + (a1 : Int)) = ((r + a1 : Nat) : Int) := by rw [IntKind.wrap_u64]; omega
        have HM := Lib.hid hm
        clear hm
        by_cases hbr : 4294967296 ≤ r + a1
        · have g4 : decide ((4294967296 : Int) ≤ ((r + a1 : Nat) : Int)) = true := by simp; omega
          have HE := Lib.hid (HM.out.break hbr)
          generalize q - 1 = q' at *
          generalize r + a1 = r' at *
          go_wp2
          go_meet
          exact ⟨q', rfl, HE.out, rfl⟩
        · have g4 : decide ((4294967296 : Int) ≤ ((r + a1 : Nat) : Int)) = false := by simp; omega
          have hm2 : q - 1 < q := by omega
          have hr' : r + a1 < 4294967296 := by omega
          have hqq : q - 1 ≤ 8589934592 := by omega
          generalize q - 1 = q' at *
          generalize r + a1 = r' at *
          go_wp2
          go_round
          case rel => exact ⟨q', r', rfl, rfl, hr', hqq, HM⟩
          case measure => simp [intOf]; omega
      · have g1 : decide ((4294967296 : Int) ≤ (q : Int)) = false := by simp; omega
        have hqa0 : q * a0 ≤ 4294967295 * 4294967295 := Nat.mul_le_mul (by omega) (by have := HI.out.h0; omega)
        have hc := HI.out.hc
        have g5 : IntKind.u64.wrap ((q : Int) * (a0 : Int)) = ((q * a0 : Nat) : Int) := by rw [← Int.natCast_mul]; exact wrap_nat _ (by omega)
        have g6 : IntKind.u64.wrap (4294967296 * (r : Int)) = ((4294967296 * r : Nat) : Int) := by rw [IntKind.wrap_u64]; omega
        have g7 : IntKind.u64.wrap (((4294967296 * r : Nat) : Int) + (un1 : Int)) = ((4294967296 * r + un1 : Nat) : Int) := by rw [IntKind.wrap_u64]; omega
        by_cases hgt : 4294967296 * r + un1 < q * a0
        · obtain ⟨hq1, hm⟩ := HI.out.more (.inr hgt)
          have g8 : decide (4294967296 * r + un1 < q * a0) = true := by simp; omega
          have g2 : IntKind.u64.wrap ((q : Int) - 1) = ((q - 1 : Nat) : Int) := by rw [IntKind.wrap_u64]; omega
          have hqm := hm.q_le
          have g3 : IntKind.u64.wrap ((r : Int) + (a1 : Int)) = ((r + a1 : Nat) : Int) := by rw [IntKind.wrap_u64]; omega
          have HM := Lib.hid hm
          clear hm hc hqa0
          generalize 4294967296 * r + un1 = bu at *
          generalize 4294967296 * r = br at *
          generalize q * a0 = qa0 at *
          by_cases hbr : 4294967296 ≤ r + a1
          · have g4 : decide ((4294967296 : Int) ≤ ((r + a1 : Nat) : Int)) = true := by simp; omega
            have HE := Lib.hid (HM.out.break hbr)
            generalize q - 1 = q' at *
            generalize r + a1 = r' at *
            go_wp2
            go_meet
            exact ⟨q', rfl, HE.out, rfl⟩
          · have g4 : decide ((4294967296 : Int) ≤ ((r + a1 : Nat) : Int)) = false := by simp; omega
            have hm2 : q - 1 < q := by omega
            have hr' : r + a1 < 4294967296 := by omega
            have hqq : q - 1 ≤ 8589934592 := by omega
            generalize q - 1 = q' at *
            generalize r + a1 = r' at *
            go_wp2
            go_round
            case rel => exact ⟨q', r', rfl, rfl, hr', hqq, HM⟩
            case measure => simp [intOf]; omega
        · have g8 : decide (4294967296 * r + un1 < q * a0) = false := by simp; omega
          have HE := Lib.hid (HI.out.done (by omega))
          clear hc hqa0
          generalize 4294967296 * r + un1 = bu at *
          generalize 4294967296 * r = br at *
          generalize q * a0 = qa0 at *
          go_wp2
          go_meet
          exact ⟨q, rfl, HE.out, rfl⟩
  case rest =>
    obtain ⟨q1, rfl, HQ1, rfl⟩ := hcut
    obtain ⟨u2, hu2⟩ : ∃ a, a = (u * 4294967296 + un1) % Y := ⟨_, rfl⟩
    have hYp : 0 < Y := by omega
    have hY64 := HYL.out
    have hu2Y : u2 < Y := by rw [hu2]; exact Nat.mod_lt _ hYp
    have hdm : u * 4294967296 + un1 = q1 * Y + u2 := by
      have := Nat.div_add_mod (u * 4294967296 + un1) Y
      rw [← HQ1.out, ← hu2, Nat.mul_comm] at this
      exact this.symm
    have hq1b : q1 < 4294967296 := by
      rw [HQ1.out, Nat.div_lt_iff_lt_mul hYp]; omega
    have e1 : IntKind.u64.wrap ((u : Int) * 4294967296) = ((u * 4294967296 % 18446744073709551616 : Nat) : Int) := by rw [IntKind.wrap_u64]; omega
    have e2 : IntKind.u64.wrap (((u * 4294967296 % 18446744073709551616 : Nat) : Int) + (un1 : Int)) = (((u * 4294967296 % 18446744073709551616 + un1) % 18446744073709551616 : Nat) : Int) := by rw [IntKind.wrap_u64]; omega
    have e3 : IntKind.u64.wrap ((q1 : Int) * (Y : Int)) = ((q1 * Y % 18446744073709551616 : Nat) : Int) := by rw [← Int.natCast_mul]; exact wrap_mod _
    have e4 := wrap_sub (u * 4294967296) un1 (q1 * Y) u2 hdm (by omega)
    have HS2 : Hid (Half u2 un0 Y a1 a0 (u2 / a1) (u2 % a1)) := Half.start HS1.out.hy HS1.out.h0 HS1.out.h1 hu2Y hun0b (by omega)
    have e5 := tdiv_nat u2 a1
    have hr2 := Nat.mod_lt u2 (show 0 < a1 by omega)
    obtain ⟨qs2, hqs⟩ : ∃ q, q = u2 / a1 := ⟨_, rfl⟩
    obtain ⟨rs2, hrs⟩ : ∃ r, r = u2 % a1 := ⟨_, rfl⟩
    rw [← hqs, ← hrs] at HS2
    rw [← hqs] at e5
    rw [← hrs] at hr2
    have hq2b := HS2.out.q_le
    have hr2b : rs2 < 4294967296 := by have := HS1.out.hy; omega
    have e6 : IntKind.u64.wrap ((qs2 : Int) * (a1 : Int)) = ((qs2 * a1 : Nat) : Int) := by
      rw [← Int.natCast_mul]; exact wrap_nat _ (by have := HS2.out.heq; omega)
    have e7 : IntKind.u64.wrap ((u2 : Int) - ((qs2 * a1 : Nat) : Int)) = (rs2 : Int) := by have := HS2.out.heq; rw [IntKind.wrap_u64]; omega
    have HU2 := Lib.hid hu2
    have hu2b : u2 < 18446744073709551616 := by omega
    obtain ⟨m1, hm1⟩ : ∃ m, m = u * 4294967296 % 18446744073709551616 := ⟨_, rfl⟩
    rw [← hm1] at e1 e2 e4
    obtain ⟨m2, hm2⟩ : ∃ m, m = (m1 + un1) % 18446744073709551616 := ⟨_, rfl⟩
    rw [← hm2] at e2 e4
    obtain ⟨m3, hm3⟩ : ∃ m, m = q1 * Y % 18446744073709551616 := ⟨_, rfl⟩
    rw [← hm3] at e3 e4
    obtain ⟨qa2, hqa⟩ : ∃ a, a = qs2 * a1 := ⟨_, rfl⟩
    rw [← hqa] at e6 e7
    clear hu2 hdm hqs hrs hm1 hm2 hm3 hqa
    go_upto_block 2 with fail
    clear e1 e2 e3 e4 e5 e6 e7
    go_cut [18] (fun v18 wx => ∃ q0 : Nat, v18 = .int .u64 (q0 : Int) ∧ Hid (q0 = (u2 * 4294967296 + un0) / Y) ∧ wx = wc)
    case first =>
      go_wp2_with fail
      go_loop [18, 16] (fun vq vr => ∃ q r : Nat, vq = .int .u64 (q : Int) ∧ vr = .int .u64 (r : Int) ∧ r < 4294967296 ∧ q ≤ 8589934592 ∧ Hid (Half u2 un0 Y a1 a0 q r)) (fun vq _ => (intOf vq).toNat)
      case atStart => exact ⟨_, _, rfl, rfl, hr2b, hq2b.2.2, HS2⟩
      case round =>
        obtain ⟨q, r, rfl, rfl, hr, hq, HI⟩ := hrel
        by_cases hbig : 4294967296 ≤ q
        · obtain ⟨hq1, hm⟩ := HI.out.more (.inl hbig)
          have g1 : decide ((4294967296 : Int) ≤ (q : Int)) = true := by simp; omega
          have g2 : IntKind.u64.wrap ((q : Int) - 1) = ((q - 1 : Nat) : Int) := by rw [IntKind.wrap_u64]; omega
          have hqm := hm.q_le
          have g3 : IntKind.u64.wrap ((r : Int) + (a1 : Int)) = ((r + a1 : Nat) : Int) := by rw [IntKind.wrap_u64]; omega
          have HM := Lib.hid hm
          clear hm
          by_cases hbr : 4294967296 ≤ r + a1
          · have g4 : decide ((4294967296 : Int) ≤ ((r + a1 : Nat) : Int)) = true := by simp; omega
            have HE := Lib.hid (HM.out.break hbr)
            generalize q - 1 = q' at *
            generalize r + a1 = r' at *
            go_wp2
            go_meet
            exact ⟨q', rfl, HE.out, rfl⟩
          · have g4 : decide ((4294967296 : Int) ≤ ((r + a1 : Nat) : Int)) = false := by simp; omega
            have hm2 : q - 1 < q := by omega
            have hr' : r + a1 < 4294967296 := by omega
            have hqq : q - 1 ≤ 8589934592 := by omega
            generalize q - 1 = q' at *
            generalize r + a1 = r' at *
            go_wp2
            go_round
            case rel => exact ⟨q', r', rfl, rfl, hr', hqq, HM⟩
            case measure => simp [intOf]; omega
        · have g1 : decide ((4294967296 : Int) ≤ (q : Int)) = false := by simp; omega
          have hqa0 : q * a0 ≤ 4294967295 * 4294967295 := Nat.mul_le_mul (by omega) (by have := HI.out.h0; omega)
          have hc := HI.out.hc
          have g5 : IntKind.u64.wrap ((q : Int) * (a0 : Int)) = ((q * a0 : Nat) : Int) := by rw [← Int.natCast_mul]; exact wrap_nat _ (by omega)
          have g6 : IntKind.u64.wrap (4294967296 * (r : Int)) = ((4294967296 * r : Nat) : Int) := by rw [IntKind.wrap_u64]; omega
          have g7 : IntKind.u64.wrap (((4294967296 * r : Nat) : Int) + (un0 : Int)) = ((4294967296 * r + un0 : Nat) : Int) := by rw [IntKind.wrap_u64]; omega
          by_cases hgt : 4294967296 * r + un0 < q * a0
          · obtain ⟨hq1, hm⟩ := HI.out.more (.inr hgt)
            have g8 : decide (4294967296 * r + un0 < q * a0) = true := by simp; omega
            have g2 : IntKind.u64.wrap ((q : Int) - 1) = ((q - 1 : Nat) : Int) := by rw [IntKind.wrap_u64]; omega
            have hqm := hm.q_le
            have g3 : IntKind.u64.wrap ((r : Int) + (a1 : Int)) = ((r + a1 : Nat) : Int) := by rw [IntKind.wrap_u64]; omega
            have HM := Lib.hid hm
            clear hm hc hqa0
            generalize 4294967296 * r + un0 = bu at *
            generalize 4294967296 * r = br at *
            generalize q * a0 = qa0 at *
            by_cases hbr : 4294967296 ≤ r + a1
            · have g4 : decide ((4294967296 : Int) ≤ ((r + a1 : Nat) : Int)) = true := by simp; omega
              have HE := Lib.hid (HM.out.break hbr)
              generalize q - 1 = q' at *
              generalize r + a1 = r' at *
              go_wp2
              go_meet
              exact ⟨q', rfl, HE.out, rfl⟩
            · have g4 : decide ((4294967296 : Int) ≤ ((r + a1 : Nat) : Int)) = false := by simp; omega
              have hm2 : q - 1 < q := by omega
              have hr' : r + a1 < 4294967296 := by omega
              have hqq : q - 1 ≤ 8589934592 := by omega
              generalize q - 1 = q' at *
              generalize r + a1 = r' at *
              go_wp2
              go_round
              case rel => exact ⟨q', r', rfl, rfl, hr', hqq, HM⟩
              case measure => simp [intOf]; omega
          · have g8 : decide (4294967296 * r + un0 < q * a0) = false := by simp; omega
            have HE := Lib.hid (HI.out.done (by omega))
            clear hc hqa0
            generalize 4294967296 * r + un0 = bu at *
            generalize 4294967296 * r = br at *
            generalize q * a0 = qa0 at *
            go_wp2
            go_meet
            exact ⟨q, rfl, HE.out, rfl⟩
    case rest =>
      obtain ⟨q0, rfl, HQ0, rfl⟩ := hcut
      have hfin := HH.out q1 q0 u2 HQ1.out HU2.out HQ0.out
      obtain ⟨r, hr⟩ : ∃ a, a = (u2 * 4294967296 + un0) % Y := ⟨_, rfl⟩
      have hrY : r < Y := by rw [hr]; exact Nat.mod_lt _ hYp
      have hdm : u2 * 4294967296 + un0 = q0 * Y + r := by
        have := Nat.div_add_mod (u2 * 4294967296 + un0) Y
        rw [← HQ0.out, ← hr, Nat.mul_comm] at this
        exact this.symm
      have hq0b : q0 < 4294967296 := by
        rw [HQ0.out, Nat.div_lt_iff_lt_mul hYp]; omega
      have e0 : IntKind.u64.wrap ((q1 : Int) * 4294967296) = ((q1 * 4294967296 : Nat) : Int) := by rw [IntKind.wrap_u64]; omega
      have e00 : IntKind.u64.wrap (((q1 * 4294967296 : Nat) : Int) + (q0 : Int)) = ((q1 * 4294967296 + q0 : Nat) : Int) := by rw [IntKind.wrap_u64]; omega
      have e1 : IntKind.u64.wrap ((u2 : Int) * 4294967296) = ((u2 * 4294967296 % 18446744073709551616 : Nat) : Int) := by rw [IntKind.wrap_u64]; omega
      have e2 : IntKind.u64.wrap (((u2 * 4294967296 % 18446744073709551616 : Nat) : Int) + (un0 : Int)) = (((u2 * 4294967296 % 18446744073709551616 + un0) % 18446744073709551616 : Nat) : Int) := by rw [IntKind.wrap_u64]; omega
      have e3 : IntKind.u64.wrap ((q0 : Int) * (Y : Int)) = ((q0 * Y % 18446744073709551616 : Nat) : Int) := by rw [← Int.natCast_mul]; exact wrap_mod _
      have e4 := wrap_sub (u2 * 4294967296) un0 (q0 * Y) r hdm (by omega)
      have e5 := shr_nat r s
      rw [← hr] at hfin
      have HFIN := Lib.hid hfin
      obtain ⟨m1, hm1⟩ : ∃ m, m = u2 * 4294967296 % 18446744073709551616 := ⟨_, rfl⟩
      rw [← hm1] at e1 e2 e4
      obtain ⟨m2, hm2⟩ : ∃ m, m = (m1 + un0) % 18446744073709551616 := ⟨_, rfl⟩
      rw [← hm2] at e2 e4
      obtain ⟨m3, hm3⟩ : ∃ m, m = q0 * Y % 18446744073709551616 := ⟨_, rfl⟩
      rw [← hm3] at e3 e4
      clear hfin hr hdm hm1 hm2 hm3
      obtain ⟨qq, hqq⟩ : ∃ m, m = q1 * 4294967296 + q0 := ⟨_, rfl⟩
      rw [← hqq] at e00 HFIN
      obtain ⟨qh, hqh⟩ : ∃ m, m = q1 * 4294967296 := ⟨_, rfl⟩
      rw [← hqh] at e0 e00
      obtain ⟨rr, hrr⟩ : ∃ m, m = r / 2 ^ s := ⟨_, rfl⟩
      rw [← hrr] at e5 HFIN
      clear hqq hqh hrr
      go_wp2
      go_ret2
      exact ⟨by rw [HFIN.out.1, HFIN.out.2]; rfl, Upd.refl _ _⟩

theorem div64_any (hi lo y : Nat) (w : World) (hlt : hi < y) (hlo : lo < 18446744073709551616) (hy2 : y < 18446744073709551616) :
    Calls Tryd.prog 82 #[.int .u64 (hi : Int), .int .u64 (lo : Int), .int .u64 (y : Int)] w fun e w' =>
      e = .returned (.tuple #[.int .u64 (((hi * 18446744073709551616 + lo) / y : Nat) : Int), .int .u64 (((hi * 18446744073709551616 + lo) % y : Nat) : Int)]) ∧ Upd [] w w' := by
  by_cases h : hi = 0
  · subst h
    rw [Nat.zero_mul, Nat.zero_add]
    exact div64_low lo y w hlo hlt hy2
  · exact div64_high hi lo y w h hlt hlo hy2
end Go.Proofs.YtoklmfmoblkfcaaDoor
