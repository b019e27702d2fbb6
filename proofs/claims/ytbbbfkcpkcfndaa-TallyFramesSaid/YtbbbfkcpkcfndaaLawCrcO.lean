/- CrcSeals: what is sealed is opened; one byte another one is told: the walk of the law, out of the contracts. -/
import Derived.Test.YtbbbfkcpkcfndaaLawCrcS
import Derived.Test.YtbbbfkcpkcfndaaCrcErr
namespace Go.Proofs.Ytbbbfkcpkcfndaa
open Go.RowKit Go.Proofs.Tm
set_option linter.unusedVariables false
set_option maxRecDepth 20000

theorem run_min2 {P : Program} (a b : Int) (ts : Array TypeId) (t : TypeId) (W : World) : (Builtin.min_ ts t #[.int .i64 a, .int .i64 b]).run P W = .ok (.int .i64 (min a b)) W := by
  have e : Builtin.min_ ts t #[.int .i64 a, .int .i64 b] = pure (.int .i64 (if b < a then b else a)) := rfl
  rw [e, Sem.run_pure]
  congr 2
  split <;> omega
theorem run_max2 {P : Program} (a b : Int) (ts : Array TypeId) (t : TypeId) (W : World) : (Builtin.max_ ts t #[.int .i64 a, .int .i64 b]).run P W = .ok (.int .i64 (max a b)) W := by
  have e : Builtin.max_ ts t #[.int .i64 a, .int .i64 b] = pure (.int .i64 (if a < b then b else a)) := rfl
  rw [e, Sem.run_pure]
  congr 2
  split <;> omega

/-- The place that is spoilt. -/
theorem place_of (at_ : Int) (L : Nat) (hL : 0 < L) : ∃ (r : Int) (i : Nat), at_.tmod (L : Int) = r ∧ -(L : Int) < r ∧ r < L ∧ (r + (L : Int)) % (L : Int) = (i : Int) ∧ i < L := by
  refine ⟨_, ((at_.tmod (L : Int) + L) % L).toNat, rfl, ?_, ?_, ?_, ?_⟩
  · have := Int.lt_tmod_of_pos at_ (show (0 : Int) < L by omega); omega
  · exact Int.tmod_lt_of_pos at_ (by omega)
  · have := Int.emod_nonneg (at_.tmod (L : Int) + L) (show (L : Int) ≠ 0 by omega); omega
  · have := Int.emod_nonneg (at_.tmod (L : Int) + L) (show (L : Int) ≠ 0 by omega)
    have := Int.emod_lt_of_pos (at_.tmod (L : Int) + L) (show (0 : Int) < L by omega); omega

theorem or_one_ne (x b : Nat) (hx : x < 256) (hb : b < 256) : x ^^^ (b ||| 1) < 256 ∧ x ^^^ (b ||| 1) ≠ x := by
  have hb1 : b ||| 1 < 256 := Nat.or_lt_two_pow (n := 8) hb (by decide)
  refine ⟨Nat.xor_lt_two_pow (n := 8) hx hb1, fun h => ?_⟩
  have h1 := congrArg (x ^^^ ·) h
  simp only [← Nat.xor_assoc, Nat.xor_self, Nat.zero_xor] at h1
  have h2 := congrArg (Nat.testBit · 0) h1
  simp at h2

set_option maxHeartbeats 1600000 in
theorem crcSeals_law (a0 : Option Addr) (cap0 : Nat) (bs0 : List Nat) (at_ : Int) (by_ : Nat) (w : World) (hA : Sl w (.slice a0 bs0.length cap0) (cu8 bs0)) (ha : ∀ b ∈ bs0, b < 256) (hby : by_ < 256) :
    Calls Try.prog 15 #[.slice a0 bs0.length cap0, .int .i64 at_, .int .u8 (by_ : Int)] w fun e w' => e = .returned (.bool true) ∧ Upd [] w w' := by
  have HA := Lib.hid hA
  have HAB := Lib.hid ha
  clear hA ha
  go_enter Try.func15, Try.ntmps15
  go_wp2_with fail
  refine (awake4 w).mono ?_
  rintro e w1 ⟨rfl, hu1⟩
  have HS1 := Lib.hid (short_any a0 cap0 bs0 w1 (HA.out.upd0 hu1))
  have HU1 := Lib.hid hu1
  clear hu1
  go_wp2_with fail
  refine HS1.out.mono ?_
  rintro e w2 ⟨cs, hl1, rfl, hs1, hm1, rfl⟩
  have HB := Lib.hid (fun b hb => HAB.out b (hm1 b hb))
  have HS := Lib.hid hs1
  clear hm1 hs1
  go_wp2_with fail
  refine (seal_any _ cs w1 HS.out HB.out (by omega)).mono ?_
  rintro e w2 ⟨sv, rfl, ho2, hu2⟩
  obtain ⟨g, cp, hv⟩ := own_ex ho2
  subst hv
  have HSV := Lib.hid (Sl.own ho2)
  have HU2 := Lib.hid hu2
  have HSB := Lib.hid (sealL_lt cs HB.out)
  have HSL := Lib.hid (sealL_length cs)
  have HTK : Hid ((sealL cs).take ((sealL cs).length - 4) = cs) := by show _ = _; rw [HSL.out]; simp [sealL]
  have h4 := open_ok (.slice g (cs.length + 4) cp) (sealL cs) w2 HSV.out HSB.out (by rw [HSL.out]; omega) (by rw [HSL.out]; omega) (by rw [HTK.out])
  rw [HTK.out] at h4
  have HO := Lib.hid h4
  clear ho2 hu2 h4
  go_wp2_with fail
  refine HO.out.mono ?_
  rintro e w3 ⟨bv, rfl, hs3, hu3⟩
  have HBV := Lib.hid hs3
  have HU3 := Lib.hid hu3
  have HR := Lib.hid (rseal_any _ cs w3 (HS.out.upd0 (HU2.out.trans0 hu3)) HB.out (by omega))
  clear hs3 hu3
  go_wp2_with fail
  refine HR.out.mono ?_
  rintro e w4 ⟨rv, rfl, ho4, hu4⟩
  have HSM := Lib.hid (same_any _ _ (sealL cs) (sealL cs) w4 (HSV.out.upd0 (HU3.out.trans0 hu4)) (Sl.own ho4) (by rw [HSL.out]; omega))
  rw [show decide (sealL cs = sealL cs) = true by simp] at HSM
  have HU4 := Lib.hid hu4
  clear ho4 hu4
  go_wp2_with fail
  refine HSM.out.mono ?_
  rintro e w5 ⟨rfl, m5, rfl⟩
  have HSM2 := Lib.hid (same_any _ _ cs cs (w4.drewN m5) (HBV.out.upd0 (HU4.out.drewN m5)) (HS.out.upd0 (((HU2.out.trans0 HU3.out).trans0 HU4.out).drewN m5)) (by omega))
  rw [show decide (cs = cs) = true by simp] at HSM2
  go_wp2_with fail
  refine HSM2.out.mono ?_
  rintro e w6 ⟨rfl, m6, rfl⟩
  have HUA : Hid (Upd [] w1 ((w4.drewN m5).drewN m6)) := (((HU2.out.trans0 HU3.out).trans0 HU4.out).drewN m5).drewN m6
  have HUB : Hid (Upd [] w2 ((w4.drewN m5).drewN m6)) := ((HU3.out.trans0 HU4.out).drewN m5).drewN m6
  generalize (w4.drewN m5).drewN m6 = w7 at *
  clear HSM HSM2 HU4 HU3 HR HO HBV
  go_wp2_with (at_builtin; refine wpList_append_sl _ rfl (.tmp 39) (.tmp 40) 24 rfl w7.heap.size 5 (.int .u8 0) 1 Try.underlying24 infoU8 rfl _ _ _ rfl (own_lit w7 5 #[] (by decide)) _ (cu8 (sealL cs)) rfl ((HSV.out.upd0 HUB.out).upd0 ((Upd.refl _ _).alloc _)) (cu8_one _) ?c2 ?c3 ?c4 ?go)
  case c2 => unfold maxLen; simp [HSL.out]; omega
  case c3 => simp [HSL.out]; omega
  case c4 => simp
  case go =>
    intro v8 w8 ho hg _
    have HO8 : Hid (w8.ownsRow w7.heap.size 5 1 v8 (cs.length + 4) (cu8 (sealL cs))) := by show World.ownsRow _ _ _ _ _ _ _; simpa [HSL.out] using ho
    have HU8 : Hid (Upd [] w7 w8) := ((Upd.refl _ _).alloc _).grown hg (fun k hk => .inr (by simp [Value.ownBlock] at hk; omega))
    clear ho hg
    obtain ⟨g8, cp8, rfl⟩ := own_shape HO8.out (by omega)
    obtain ⟨L, hL⟩ : ∃ L, L = cs.length + 4 := ⟨_, rfl⟩
    obtain ⟨r, i, hr, hr1, hr2, hi, hiL⟩ := place_of at_ L (by omega)
    have hiS : i < (sealL cs).length := by rw [HSL.out]; omega
    have hx : (sealL cs)[i] < 256 := HSB.out _ (List.getElem_mem hiS)
    have hcell := HO8.out.cellAt i (by omega)
    have hfro := HO8.out.frozenAt i
    rw [cu8_getElem?, List.getElem?_eq_getElem hiS] at hcell
    simp only [Option.map_some] at hcell
    obtain ⟨hy, hyx⟩ := or_one_ne (sealL cs)[i] by_ hx hby
    have hno : (sealL cs)[i]? ≠ some ((sealL cs)[i] ^^^ (by_ ||| 1)) := by rw [List.getElem?_eq_getElem hiS]; simpa using Ne.symm hyx
    have HNE := Lib.hid (seal_one cs i _ HB.out (by omega) hy hno)
    have HX : Hid ((sealL cs)[i] = (sealL cs)[i]) := rfl
    have q1 : bits .or .u8 (by_ : Int) 1 = ((by_ ||| 1 : Nat) : Int) := u8_or_nat _ 1 hby (by decide)
    have q2 : bits .xor .u8 (((sealL cs)[i] : Nat) : Int) ((by_ ||| 1 : Nat) : Int) = (((sealL cs)[i] ^^^ (by_ ||| 1) : Nat) : Int) := u8_xor_nat _ _ hx (Nat.or_lt_two_pow (n := 8) hby (by decide))
    generalize (sealL cs)[i] ^^^ (by_ ||| 1) = y at *
    generalize (sealL cs)[i] = x at *
    generalize by_ ||| 1 = bo at *
    rw [← hL] at HO8 HSV ⊢
    have HLL := Lib.hid hL
    have i0 : (0 : Int) ≤ (i : Int) := by omega
    have i1 : (i : Int) < (L : Int) := by omega
    have i2 : L ≤ 304 := by omega
    have i3 : 4 ≤ L := by omega
    have HY := Lib.hid hy
    clear hL hno hyx hy hx HX
    have r0 : (0 : Int) ≤ r + (L : Int) := by omega
    have HSX : Hid (Sl (w8.setCell ⟨g8, i, none⟩ (.int .u8 (y : Int))) (.slice (some ⟨g8, 0, none⟩) L cp8) (cu8 ((sealL cs).set i y))) := by
      have h := (HO8.out.stored i (.int .u8 (y : Int))).1
      rw [← cu8_set] at h
      exact Sl.own h
    have HU9 : Hid (Upd [] w7 (w8.setCell ⟨g8, i, none⟩ (.int .u8 (y : Int)))) := HU8.out.setCell (.inr (HO8.out.lt g8 rfl).1) _
    have hlen : ((sealL cs).set i y).length = L := by rw [List.length_set, HSL.out, HLL.out]
    have hop := open_sum (.slice (some ⟨g8, 0, none⟩) L cp8) ((sealL cs).set i y) _ HSX.out (by
      intro b hb
      rcases List.mem_or_eq_of_mem_set hb with hb | rfl
      · exact HSB.out b hb
      · exact HY.out) (by omega) (by omega) (by rw [hlen, show L - 4 = cs.length by rw [HLL.out]; omega]; exact HNE.out)
    have HOP := Lib.hid hop
    clear hop hlen
    go_wp2_with fail
    refine HOP.out.mono ?_
    rintro e w10 ⟨rfl, hu10⟩
    have HU10 := Lib.hid (HU9.out.trans0 hu10)
    obtain ⟨m3, hm3⟩ : ∃ m3, m3 = min at_ 3 := ⟨_, rfl⟩
    obtain ⟨k, hk⟩ : ∃ k : Nat, max 0 m3 = (k : Int) := ⟨(max 0 m3).toNat, by omega⟩
    have hmn : ∀ ts t W, (Builtin.min_ ts t #[.int .i64 at_, .int .i64 3]).run Try.prog W = .ok (.int .i64 m3) W := fun ts t W => by rw [hm3]; exact run_min2 _ _ _ _ _
    have hmx : ∀ ts t W, (Builtin.max_ ts t #[.int .i64 0, .int .i64 m3]).run Try.prog W = .ok (.int .i64 (k : Int)) W := fun ts t W => by rw [← hk]; exact run_max2 _ _ _ _ _
    have hk3 : k ≤ 3 := by omega
    have hcp : L ≤ cp := by obtain ⟨a, c, h, h2, _⟩ := HSV.out; rw [cu8_length, HSL.out, ← HLL.out] at h h2; simp at h; omega
    have hkc : (k : Int) ≤ (cp : Int) := by omega
    have hend := open_end (.slice g k cp) ((sealL cs).take k) w10 (by
      rw [cu8_take]
      exact (sl_take (HSV.out.upd0 (HUB.out.trans0 HU10.out)) k (by omega))) (by simp; omega)
    have HEND := Lib.hid hend
    clear hm3 hk hend hu10
    go_wp2_with fail
    refine HEND.out.mono ?_
    rintro e w11 ⟨rfl, rfl⟩
    go_wp2
    go_ret
    exact ⟨rfl, (HU1.out.trans0 HUA.out).trans0 HU10.out⟩
end Go.Proofs.Ytbbbfkcpkcfndaa
