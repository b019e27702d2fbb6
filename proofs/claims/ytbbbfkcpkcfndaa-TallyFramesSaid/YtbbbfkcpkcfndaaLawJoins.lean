/- BitsJoins: bits are read at once, or in parts: the law's walk, out of the contracts, for every list of bytes and every two ints. -/
import Derived.Test.YtbbbfkcpkcfndaaLawBits
import Derived.Test.YtbbbfkcpkcfndaaBase2
import Derived.Deep.DeepCutAuto
namespace Go.Proofs.Ytbbbfkcpkcfndaa
open Go.RowKit Go.Proofs.Tm
set_option linter.unusedVariables false
set_option maxRecDepth 20000

theorem sl_take {w : World} {a : Option Addr} {n cap : Nat} {xs : List Value} (h : Sl w (.slice a n cap) xs) (k : Nat) (hk : k ≤ n) : Sl w (.slice a k cap) (xs.take k) := by
  obtain ⟨a', cap', he, h1, h2, h3⟩ := h
  simp only [Value.slice.injEq] at he
  obtain ⟨rfl, rfl, rfl⟩ := he
  have hl : (xs.take k).length = k := by simp; omega
  refine ⟨a, cap, by rw [hl], by rw [hl]; omega, h2, fun hne => ?_⟩
  obtain ⟨b, o, rfl, hc⟩ := h3 (by rintro rfl; simp at hne)
  refine ⟨b, o, rfl, fun i hi => ?_⟩
  rw [hl] at hi
  rw [hc i (by omega), List.getElem?_take, if_pos hi]

theorem numAt_join (bs : List Nat) (i A C : Nat) (h : i + A + C ≤ 8 * bs.length) : numAt bs i (A + C) = numAt bs i A * 2 ^ C + numAt bs (i + A) C := by
  unfold numAt
  have e : ((bitsOf bs).drop i).take (A + C) = ((bitsOf bs).drop i).take A ++ ((bitsOf bs).drop (i + A)).take C := by
    rw [List.take_add, List.drop_drop]
  rw [e, val_append, show (((bitsOf bs).drop (i + A)).take C).length = C by simp; omega]

theorem join_eq (x y n A C : Nat) (hx : x < 2 ^ A) (hy : y < 2 ^ C) (hAC : A + C ≤ 64) (hn : n = x * 2 ^ C + y) :
    ((n : Int) == bits BinOp.or IntKind.u64 (IntKind.u64.wrap ((x : Int) * 2 ^ C)) (y : Int)) = true := by
  have h1 : x * 2 ^ C < 18446744073709551616 := by
    have : x * 2 ^ C < 2 ^ A * 2 ^ C := Nat.mul_lt_mul_of_pos_right hx (Nat.two_pow_pos _)
    rw [← Nat.pow_add] at this
    exact Nat.lt_of_lt_of_le this (Nat.le_trans (Nat.pow_le_pow_right (by decide) hAC) (by decide))
  have h2 : y < 18446744073709551616 := Nat.lt_of_lt_of_le hy (Nat.le_trans (Nat.pow_le_pow_right (by decide) (show C ≤ 64 by omega)) (by decide))
  have e1 : (x : Int) * 2 ^ C = ((x * 2 ^ C : Nat) : Int) := by simp
  have e2 : IntKind.u64.wrap ((x * 2 ^ C : Nat) : Int) = ((x * 2 ^ C : Nat) : Int) := by rw [IntKind.wrap_u64]; omega
  rw [e1, e2, u64_or_nat _ _ h1 h2, nat_join C _ y (Nat.mul_mod_left _ _) hy, hn]
  simp

/-- A list of bytes, cut to k at most, in the world w. -/
def IsCut (w : World) (v : Value) (bs : List Nat) : Prop := Sl w v (cu8 bs) ∧ bs.length ≤ 100 ∧ ∀ b ∈ bs, b < 256

set_option maxRecDepth 100000 in
set_option maxHeartbeats 1600000 in
/-- BitsJoins: bits are read at once, or in parts. -/
theorem joins_law (a0 : Option Addr) (cap : Nat) (bs : List Nat) (a c : Int) (w : World) (hS : Sl w (.slice a0 bs.length cap) (cu8 bs)) (hb : ∀ b ∈ bs, b < 256) :
    Calls Try.prog 6 #[.slice a0 bs.length cap, .int .i64 a, .int .i64 c] w fun e w' => e = .returned (.bool true) ∧ Upd [] w w' := by
  have HS := Lib.hid hS
  have HB := Lib.hid hb
  have hcap : bs.length ≤ cap := by obtain ⟨a, c, h, h2, _⟩ := hS; simp at h h2; omega
  have hmx : cap ≤ maxLen := by obtain ⟨a, c, h, h2, h3, _⟩ := hS; simp at h; omega
  unfold maxLen at hmx
  clear hS hb
  go_enter Try.func6, Try.ntmps6
  go_wp2_with fail
  refine (awake1 w).mono ?_
  rintro e w1 ⟨rfl, hu1⟩
  have HU1 := Lib.hid hu1
  clear hu1
  go_upto_if 19 with fail
  go_cut [0] (fun s0 wx => ∃ bs', IsCut wx s0 bs' ∧ w1 = wx)
  case first =>
    by_cases hl : 100 < bs.length
    · go_wp2_with fail
      go_meet
      exact ⟨bs.take 100, ⟨by have := sl_take (HS.out.upd0 HU1.out) 100 (by omega); simpa [cu8, List.map_take] using this, by simp; omega, fun b hb => HB.out b (List.mem_of_mem_take hb)⟩, rfl⟩
    · go_wp2_with fail
      go_meet
      exact ⟨bs, ⟨HS.out.upd0 HU1.out, by omega, HB.out⟩, rfl⟩
  case rest =>
    obtain ⟨bs', hcut, rfl⟩ := hcut
    have HCU := Lib.hid hcut
    clear hcut
    go_upto_region 5 with fail
    go_cut [1, 2] (fun s1 s2 wx => ∃ A C : Nat, A ≤ 32 ∧ C ≤ 32 ∧ s1 = .int .i64 A ∧ s2 = .int .i64 C ∧ w1 = wx)
    case first =>
      have ha : ∃ A : Nat, A ≤ 32 ∧ max 0 (min a 32) = (A : Int) := ⟨(max 0 (min a 32)).toNat, by omega, by omega⟩
      have hc : ∃ C : Nat, C ≤ 32 ∧ max 0 (min c 32) = (C : Int) := ⟨(max 0 (min c 32)).toNat, by omega, by omega⟩
      obtain ⟨A, hA, ha⟩ := ha
      obtain ⟨C, hC, hc⟩ := hc
      have HA := Lib.hid ha
      have HC := Lib.hid hc
      clear ha hc
      by_cases a1 : 0 < a <;> by_cases a2 : 32 < a <;> by_cases c1 : 0 < c <;> by_cases c2 : 32 < c <;> (try (exfalso; omega))
      all_goals
        go_wp2_with fail
        go_meet
        have := HA.out
        have := HC.out
        exact ⟨A, C, hA, hC, congrArg _ (by omega), congrArg _ (by omega), by first | rfl | trivial⟩
    case rest =>
      obtain ⟨A, C, hA, hC, rfl, rfl, rfl⟩ := hcut
      obtain ⟨hsl, hlen, hlt⟩ := HCU.out
      have HR1 := Lib.hid (read_any u0 bs' w1 hsl (by omega) hlt)
      have HSL := Lib.hid hsl
      have HLT := Lib.hid hlt
      clear hsl hlt
      go_wp2_with fail
      refine HR1.out.mono ?_
      rintro e w2 ⟨p1, g1, rfl, hr1, hu2, hp1, hg1⟩
      have HR2 := Lib.hid (read_any u0 bs' w2 (HSL.out.upd0 hu2) (by omega) HLT.out)
      have l1 := hr1.lt
      have l2 := hr1.glt g1 rfl
      have RD1 := Lib.hid hr1
      have HU2 := Lib.hid hu2
      clear hr1 hu2
      go_wp2_with fail
      refine HR2.out.mono ?_
      rintro e w3 ⟨p2, g2, rfl, hr2, hu3, hp2, hg2⟩
      have RD2 := Lib.hid hr2
      have RD3 := Lib.hid (RD1.out.upd hu3 (by simp) (by simp))
      have HU3 := Lib.hid hu3
      clear hr2 hu3
      by_cases hall : A + C ≤ 8 * bs'.length
      · have h1 := rnum_ok p1 _ bs' 0 (A + C) w3 RD3.out (by omega) (by omega)
        rw [show ((A + C : Nat) : Int) = (A : Int) + (C : Int) by omega] at h1
        have H1 := Lib.hid h1
        clear h1
        go_wp2_with fail
        refine H1.out.mono ?_
        rintro e w4 ⟨rfl, hr4, hu4⟩
        have RD4 := Lib.hid hr4
        have HU4 := Lib.hid hu4
        have RD5 := Lib.hid (RD2.out.upd hu4 (by simp; omega) (by simp; omega))
        clear hr4 hu4
        go_wp2_with fail
        refine (rnum_ok p2 _ bs' 0 A w4 RD5.out (by omega) (by omega)).mono ?_
        rintro e w5 ⟨rfl, hr5, hu5⟩
        have RD6 := Lib.hid hr5
        have HU5 := Lib.hid hu5
        have RD7 := Lib.hid (RD4.out.upd hu5 (by simp; omega) (by simp; omega))
        clear hr5 hu5
        go_wp2_with fail
        refine (rnum_ok p2 _ bs' _ C w5 RD6.out (by omega) (by omega)).mono ?_
        rintro e w6 ⟨rfl, hr6, hu6⟩
        have RD8 := Lib.hid hr6
        have HU6 := Lib.hid hu6
        have RD9 := Lib.hid (RD7.out.upd hu6 (by simp; omega) (by simp; omega))
        clear hr6 hu6
        have hq := join_eq (numAt bs' 0 A) (numAt bs' (0 + A) C) (numAt bs' 0 (A + C)) A C (numAt_lt _ _ _) (numAt_lt _ _ _) (by omega) (numAt_join bs' 0 A C (by omega))
        have RDA : Hid (Rd w6 p2 (some g2) bs' (0 + (A + C))) := by have := RD8.out; rw [Nat.add_assoc] at this; exact this
        simp only [Nat.zero_add] at *
        generalize numAt bs' 0 (A + C) = n at *
        generalize numAt bs' 0 A = x at *
        generalize numAt bs' A C = y at *
        go_wp2_with fail
        refine (left_any p1 _ bs' _ w6 RD9.out).mono ?_
        rintro e w7 ⟨rfl, m1, rfl⟩
        go_wp2_with fail
        refine (left_any p2 _ bs' _ _ (RDA.out.drewN m1)).mono ?_
        rintro e w8 ⟨rfl, m2, rfl⟩
        go_wp2
        go_ret
        refine ⟨rfl, Upd.drewN ?_ _⟩
        have u3 := (HU1.out.trans0 HU2.out).trans0 HU3.out
        have s1 := HU1.out.size
        have s2 := HU2.out.size
        have u4 := u3.trans HU4.out (by intro x hx; simp at hx; subst hx; right; omega)
        have u5 := u4.trans HU5.out (by intro x hx; simp at hx; subst hx; right; omega)
        exact u5.trans HU6.out (by intro x hx; simp at hx; subst hx; right; omega)
      · have h1 := rnum_end p1 _ bs' 0 (A + C) w3 RD3.out (by omega) (by omega)
        rw [show ((A + C : Nat) : Int) = (A : Int) + (C : Int) by omega] at h1
        have H1 := Lib.hid h1
        clear h1
        obtain ⟨len, cap', hv⟩ : ∃ ad cap', u0 = .slice ad bs'.length cap' := by
          obtain ⟨ad, cap', h, _⟩ := HSL.out
          exact ⟨ad, cap', by simpa using h⟩
        subst hv
        have hend : (((8 * bs'.length - 0 : Nat) : Int) == 8 * (bs'.length : Int)) = true := by simp
        go_wp2_with fail
        refine H1.out.mono ?_
        rintro e w4 ⟨rfl, hw4⟩
        have HU4 := Lib.hid (upd_heap hw4)
        have RD4 : Hid (Rd w4 p1 (some g1) bs' 0) := by obtain ⟨m, rfl⟩ := hw4; exact RD3.out.drewN m
        have RD5 : Hid (Rd w4 p2 (some g2) bs' 0) := by obtain ⟨m, rfl⟩ := hw4; exact RD2.out.drewN m
        clear hw4
        by_cases hA8 : A ≤ 8 * bs'.length
        · go_wp2_with fail
          refine (rnum_ok p2 _ bs' 0 A w4 RD5.out (by omega) (by omega)).mono ?_
          rintro e w5 ⟨rfl, hr5, hu5⟩
          have RD6 := Lib.hid hr5
          have HU5 := Lib.hid hu5
          have RD7 := Lib.hid (RD4.out.upd hu5 (by simp; omega) (by simp; omega))
          clear hr5 hu5
          go_wp2_with fail
          refine (rnum_end p2 _ bs' _ C w5 RD6.out (by omega) (by omega)).mono ?_
          rintro e w6 ⟨rfl, m6, rfl⟩
          go_wp2_with fail
          refine (left_any p1 _ bs' _ _ (RD7.out.drewN m6)).mono ?_
          rintro e w7 ⟨rfl, m7, rfl⟩
          go_wp2
          go_ret
          refine ⟨rfl, Upd.drewN ?_ _⟩
          have u3 := ((HU1.out.trans0 HU2.out).trans0 HU3.out).trans0 HU4.out
          have s1 := HU1.out.size
          have s2 := HU2.out.size
          exact u3.trans HU5.out (by intro x hx; simp at hx; subst hx; right; omega)
        · go_wp2_with fail
          refine (rnum_end p2 _ bs' 0 A w4 RD5.out (by omega) (by omega)).mono ?_
          rintro e w5 ⟨rfl, hw5⟩
          have HU5 := Lib.hid (upd_heap hw5)
          have RD6 : Hid (Rd w5 p1 (some g1) bs' 0) := by obtain ⟨m, rfl⟩ := hw5; exact RD4.out.drewN m
          have RD7 : Hid (Rd w5 p2 (some g2) bs' 0) := by obtain ⟨m, rfl⟩ := hw5; exact RD5.out.drewN m
          clear hw5
          by_cases hC8 : C ≤ 8 * bs'.length
          · go_wp2_with fail
            refine (rnum_ok p2 _ bs' 0 C w5 RD7.out (by omega) (by omega)).mono ?_
            rintro e w6 ⟨rfl, hr6, hu6⟩
            have HU6 := Lib.hid hu6
            have RD8 := Lib.hid (RD6.out.upd hu6 (by simp; omega) (by simp; omega))
            clear hr6 hu6
            go_wp2_with fail
            refine (left_any p1 _ bs' _ _ RD8.out).mono ?_
            rintro e w7 ⟨rfl, m7, rfl⟩
            go_wp2
            go_ret
            refine ⟨rfl, Upd.drewN ?_ _⟩
            have u3 := (((HU1.out.trans0 HU2.out).trans0 HU3.out).trans0 HU4.out).trans0 HU5.out
            have s1 := HU1.out.size
            have s2 := HU2.out.size
            exact u3.trans HU6.out (by intro x hx; simp at hx; subst hx; right; omega)
          · go_wp2_with fail
            refine (rnum_end p2 _ bs' 0 C w5 RD7.out (by omega) (by omega)).mono ?_
            rintro e w6 ⟨rfl, m6, rfl⟩
            go_wp2_with fail
            refine (left_any p1 _ bs' _ _ (RD6.out.drewN m6)).mono ?_
            rintro e w7 ⟨rfl, m7, rfl⟩
            go_wp2
            go_ret
            refine ⟨rfl, Upd.drewN ?_ _⟩
            exact (((HU1.out.trans0 HU2.out).trans0 HU3.out).trans0 HU4.out).trans0 HU5.out
end Go.Proofs.Ytbbbfkcpkcfndaa
