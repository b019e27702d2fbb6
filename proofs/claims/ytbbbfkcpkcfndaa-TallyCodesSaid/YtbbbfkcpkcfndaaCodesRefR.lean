/- The contracts of the document's own readers of layer 2. -/
import Derived.Test.YtbbbfkcpkcfndaaCodesGet
import Derived.Test.YtbbbfkcpkcfndaaCodesRef
namespace Go.Proofs.Ytbbbfkcpkcfndaa
open Go.RowKit Go.Proofs.Tm
set_option linter.unusedVariables false
set_option maxRecDepth 20000

/-- What the document's own reader answers. -/
def RefRead (w : World) (r : Nat × Nat × Int) (e : Ending) (w' : World) : Prop :=
  ∃ q : Nat, e = .returned (.tuple #[.int .u64 ((r.1 : Nat) : Int), .int .i64 (q : Int), .int .i64 r.2.2]) ∧ (r.2.2 = 0 → q = r.2.1) ∧ w = w'

set_option maxHeartbeats 1600000 in
theorem refReadGamma_any (lv : Value) (l : List Bool) (i : Nat) (w : World) (h : Sl w lv (cb l)) (hl : l.length ≤ 1125899906842624) (hi : i ≤ l.length) :
    Calls Try.prog 45 #[lv, .int .i64 (i : Int)] w (RefRead w (gammaS l i)) := by
  have HS := Lib.hid h
  obtain ⟨a, cap, rfl, _, _, _⟩ := h
  simp only [cb_length] at *
  obtain ⟨n, hn⟩ : ∃ n, n = l.length := ⟨_, rfl⟩
  rw [← hn] at hl hi
  have HN := Lib.hid hn
  rw [← hn]
  have HS2 : Hid (Sl w (.slice a n cap) (cb l)) := by show Sl _ _ _; rw [HN.out]; exact HS.out
  obtain ⟨r, HR⟩ : ∃ r, r = gammaS l i := ⟨_, rfl⟩
  rw [← HR]
  replace HR := Lib.hid HR
  clear hn
  go_enter Try.func45, Try.ntmps45
  go_wp2
  go_loop [1, 7] (fun v1 v7 => ∃ k : Nat, k < 64 ∧ i + k ≤ n ∧ v7 = .int .i64 k ∧ v1 = .int .i64 ((i : Int) + (k : Int)) ∧ Hid (∀ j, j < k → l.getD (i + j) false = false)) (fun _ v7 => 64 - (intOf v7).toNat)
  case atStart => exact ⟨0, by omega, by omega, rfl, by go_num, fun j hj => by omega⟩
  case round =>
    obtain ⟨k, hk, hkn, rfl, rfl, HZ⟩ := hrel
    have i0 : (0 : Int) ≤ (i : Int) + (k : Int) := by omega
    by_cases hend : i + k = n
    · have HG : Hid (r = (0, i, 5)) := by
        show _ = _
        have hz := zrun_eq l i k (by rw [← HN.out]; omega) (by rw [← HN.out]; omega) HZ.out (by rw [← HN.out]; omega)
        rw [HR.out]
        unfold gammaS
        rw [hz, ← HN.out, if_neg (by omega), if_pos (by omega)]
      have hg := get_end _ l (i + k) (k + 1) w HS2.out (by rw [← HN.out]; exact hl) (by omega) (by rw [← HN.out]; omega) (by rw [← HN.out]; omega)
      rw [show ((i + k : Nat) : Int) = (i : Int) + (k : Int) by omega, show ((k + 1 : Nat) : Int) = (k : Int) + 1 by omega] at hg
      have H := Lib.hid hg
      have b1 : decide ((i : Int) + (k : Int) < (n : Int)) = false := by simp; omega
      have b2 : decide (i + k < n) = false := by simp; omega
      have HE := Lib.hid hend
      clear hg hend
      go_wp2_with fail
      refine H.out.mono ?_
      rintro e w1 ⟨rfl, rfl⟩
      go_wp2
      go_ret3
      rw [HG.out]
      exact ⟨i + k, rfl, (fun h => by cases h), rfl⟩
    · obtain ⟨b, o, cap', hv, hc⟩ := sl_at HS.out (by intro h; have := congrArg List.length h; simp at this; have := HN.out; simp_all)
      obtain ⟨rfl, rfl⟩ : a = some ⟨b, o, none⟩ ∧ cap = cap' := by have := HN.out; simpa [← this] using hv
      have hcell := hc (i + k) (by rw [cb_length, ← HN.out]; omega)
      rw [cb_getElem? l _ (by rw [← HN.out]; omega)] at hcell
      have i1 : (i : Int) + (k : Int) < (n : Int) := by omega
      clear hc hv
      by_cases hb : l.getD (i + k) false = true
      · have HZR : Hid (zrun l i = k) := zrun_eq l i k (by rw [← HN.out]; omega) (by rw [← HN.out]; omega) HZ.out (fun _ => hb)
        rw [hb] at hcell
        clear hb
        by_cases hfit : i + 2 * k + 1 ≤ n
        · have HG : Hid (r = (numL l (i + k) (k + 1), i + 2 * k + 1, 0)) := by
            show _ = _
            rw [HR.out]
            unfold gammaS
            rw [HZR.out, ← HN.out, if_neg (by omega), if_neg (by omega)]
          have hg := get_ok _ l (i + k) (k + 1) w HS2.out (by rw [← HN.out]; exact hl) (by omega) (by rw [← HN.out]; omega)
          rw [show i + k + (k + 1) = i + 2 * k + 1 by omega, show ((i + k : Nat) : Int) = (i : Int) + (k : Int) by omega, show ((k + 1 : Nat) : Int) = (k : Int) + 1 by omega] at hg
          have H := Lib.hid hg
          clear hg hfit
          generalize numL l (i + k) (k + 1) = x at *
          obtain ⟨y, hy⟩ : ∃ y, y = i + 2 * k + 1 := ⟨_, rfl⟩
          rw [← hy] at H HG
          clear hy
          go_wp2_with fail
          refine H.out.mono ?_
          rintro e w1 ⟨rfl, rfl⟩
          go_wp2
          go_ret3
          rw [HG.out]
          exact ⟨y, rfl, fun _ => rfl, rfl⟩
        · have HG : Hid (r = (0, i, 5)) := by
            show _ = _
            rw [HR.out]
            unfold gammaS
            rw [HZR.out, ← HN.out, if_neg (by omega), if_pos (by omega)]
          have hg := get_end _ l (i + k) (k + 1) w HS2.out (by rw [← HN.out]; exact hl) (by omega) (by rw [← HN.out]; omega) (by rw [← HN.out]; omega)
          rw [show ((i + k : Nat) : Int) = (i : Int) + (k : Int) by omega, show ((k + 1 : Nat) : Int) = (k : Int) + 1 by omega] at hg
          have H := Lib.hid hg
          clear hg hfit
          go_wp2_with fail
          refine H.out.mono ?_
          rintro e w1 ⟨rfl, rfl⟩
          go_wp2
          go_ret3
          rw [HG.out]
          exact ⟨i + k, rfl, (fun h => by cases h), rfl⟩
      · have hb : l.getD (i + k) false = false := by simpa using hb
        rw [hb] at hcell
        have HB := Lib.hid hb
        clear hb
        have HZ2 : Hid (∀ j, j < k + 1 → l.getD (i + j) false = false) := fun j hj => by
          rcases Nat.lt_or_ge j k with h | h
          · exact HZ.out j h
          · obtain rfl : j = k := by omega
            exact HB.out
        by_cases hk63 : k = 63
        · have HG : Hid (r = (0, i, 4)) := by
            show _ = _
            rw [HR.out]
            unfold gammaS
            rw [if_pos (zrun_ge l i 64 (by rw [← HN.out]; omega) (by rw [← HN.out]; omega) (by rw [hk63] at HZ2; exact HZ2.out))]
          subst hk63
          go_wp2
          go_ret3
          rw [HG.out]
          exact ⟨i + 64, by first | rfl | (congr 3; simp; omega) | skip, (fun h => by cases h), rfl⟩
        · have b3 : ((k : Int) + 1 == 64) = false := by simp; omega
          go_wp2
          go_round
          case rel => exact ⟨k + 1, by omega, by omega, by go_num, by go_num, HZ2⟩
          case measure => simp [intOf]; omega

set_option maxHeartbeats 1600000 in
theorem refReadDelta_any (lv : Value) (l : List Bool) (i : Nat) (w : World) (h : Sl w lv (cb l)) (hl : l.length ≤ 1125899906842624) (hi : i ≤ l.length) :
    Calls Try.prog 47 #[lv, .int .i64 (i : Int)] w (RefRead w (deltaS l i)) := by
  have HG := Lib.hid (refReadGamma_any lv l i w h hl hi)
  have hpos := gammaS_pos l i hi
  have hde : deltaS l i = deltaS l i := rfl
  conv at hde => rhs; unfold deltaS
  obtain ⟨x, y, z, hxyz⟩ : ∃ x y z, gammaS l i = (x, y, z) := ⟨_, _, _, rfl⟩
  rw [hxyz] at HG hpos hde
  dsimp only at hpos hde
  generalize deltaS l i = r at *
  have HD := Lib.hid hde
  have HS := Lib.hid h
  clear h hxyz hde
  by_cases hz : z = 0
  · subst hz
    have hp := hpos rfl
    obtain ⟨hp1, hp2, hp3⟩ := hp
    clear hpos
    by_cases hx : 64 < x
    · have hb : decide ((64 : Int) < (x : Int)) = true := by simp; omega
      have HX := Lib.hid hx
      go_enter Try.func47, Try.ntmps47
      go_wp2_with fail
      refine HG.out.mono ?_
      rintro e w1 ⟨q, rfl, _, rfl⟩
      go_wp2
      go_ret3
      have hd := HD.out
      rw [if_neg (by simp), if_pos HX.out] at hd
      rw [hd]
      exact ⟨i, rfl, (fun h => by cases h), rfl⟩
    · have hb : decide ((64 : Int) < (x : Int)) = false := by simp; omega
      have hw : IntKind.i64.wrap (x : Int) = (x : Int) := IntWalk.i64_in _ (by omega)
      have hw2 : IntKind.u64.wrap ((x : Int) - 1) = (x : Int) - 1 := by rw [IntKind.wrap_u64]; omega
      have HX := Lib.hid hx
      by_cases hfit : y + (x - 1) ≤ l.length
      · have hg := get_ok lv l y (x - 1) w HS.out hl (by omega) hfit
        rw [show ((x - 1 : Nat) : Int) = (x : Int) - 1 by omega] at hg
        have hlt := numL_lt l y (x - 1)
        have hpw : 2 ^ (x - 1) ≤ 2 ^ 63 := Nat.pow_le_pow_right (by decide) (by omega)
        obtain ⟨y2, hy2⟩ : ∃ y2, y2 = y + (x - 1) := ⟨_, rfl⟩
        obtain ⟨s, hs⟩ : ∃ s, s = 2 ^ (x - 1) := ⟨_, rfl⟩
        have hd := HD.out
        rw [if_neg (by simp), if_neg hx, if_neg (by omega), ← hs] at hd
        rw [← hy2] at hg hd
        rw [← hs] at hlt hpw
        generalize numL l y (x - 1) = m at *
        have hw3 : IntKind.u64.wrap ((2 : Int) ^ (x - 1)) = (s : Int) := by
          rw [show ((2 : Int) ^ (x - 1)) = ((2 ^ (x - 1) : Nat) : Int) by simp, ← hs, IntKind.wrap_u64]; omega
        have hw4 : IntKind.u64.wrap ((m : Int) + (s : Int)) = (m : Int) + (s : Int) := by rw [IntKind.wrap_u64]; omega
        have c0 : (0 : Int) ≤ (x : Int) - 1 := by omega
        have c1 : (x : Int) - 1 ≤ 64 := by omega
        have H := Lib.hid hg
        have HD2 := Lib.hid hd
        clear hg hd hs hy2 hlt hpw hfit
        go_enter Try.func47, Try.ntmps47
        go_wp2_with fail
        refine HG.out.mono ?_
        rintro e w1 ⟨q, rfl, hq, rfl⟩
        obtain rfl : q = y := hq rfl
        go_wp2_with fail
        refine H.out.mono ?_
        rintro e w1 ⟨rfl, rfl⟩
        go_wp2
        go_ret3
        rw [HD2.out]
        exact ⟨y2, by show Ending.returned (.tuple #[.int .u64 _, _, _]) = .returned (.tuple #[.int .u64 _, _, _]); congr 6; omega, fun _ => rfl, rfl⟩
      · have hg := get_end lv l y (x - 1) w HS.out hl (by omega) hp2 (by omega)
        rw [show ((x - 1 : Nat) : Int) = (x : Int) - 1 by omega] at hg
        have H := Lib.hid hg
        have hd := HD.out
        rw [if_neg (by simp), if_neg hx, if_pos (by omega)] at hd
        have HD2 := Lib.hid hd
        clear hg hd hfit
        go_enter Try.func47, Try.ntmps47
        go_wp2_with fail
        refine HG.out.mono ?_
        rintro e w1 ⟨q, rfl, hq, rfl⟩
        obtain rfl : q = y := hq rfl
        go_wp2_with fail
        refine H.out.mono ?_
        rintro e w1 ⟨rfl, rfl⟩
        go_wp2
        go_ret3
        rw [HD2.out]
        exact ⟨i, rfl, (fun h => by cases h), rfl⟩
  · have hb : (z == 0) = false := by simpa using hz
    have hb2 : (z != 0) = true := by simpa using hz
    have HZ := Lib.hid hz
    clear hz hpos
    go_enter Try.func47, Try.ntmps47
    go_wp2_with fail
    refine HG.out.mono ?_
    rintro e w1 ⟨q, rfl, _, rfl⟩
    go_wp2
    go_ret3
    have hd := HD.out
    rw [if_pos HZ.out] at hd
    rw [hd]
    exact ⟨i, rfl, fun h => absurd h HZ.out, rfl⟩
end Go.Proofs.Ytbbbfkcpkcfndaa
