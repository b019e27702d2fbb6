/- CodesOne: of unlike numbers none is written as the beginning of the other one: the law's walk. -/
import Derived.Test.YtaokkfbcjacmfaaCodesTold
namespace Go.Proofs.Ytaokkfbcjacmfaa
open Go.RowKit Go.Proofs.Tm
set_option linter.unusedVariables false

theorem agree_step (la lb : List Bool) (i : Nat) (s s' : Bool) (h : s = true ↔ ∀ j, j < i → la.getD j false = lb.getD j false) (hs : s' = (s && (la.getD i false == lb.getD i false))) :
    s' = true ↔ ∀ j, j < i + 1 → la.getD j false = lb.getD j false := by
  rw [hs, Bool.and_eq_true, h, beq_iff_eq]
  constructor
  · rintro ⟨h1, h2⟩ j hj
    rcases Nat.lt_or_ge j i with h3 | h3
    · exact h1 j h3
    · obtain rfl : j = i := by omega
      exact h2
  · intro h1
    exact ⟨fun j hj => h1 j (by omega), h1 i (by omega)⟩

set_option maxRecDepth 100000 in
set_option maxHeartbeats 6400000 in
theorem codes1_law (a b : Nat) (w : World) (ha : a < 18446744073709551616) (hb : b < 18446744073709551616) :
    Calls Try.prog 9 #[.int .u64 (a : Int), .int .u64 (b : Int)] w fun e w' => e = .returned (.bool true) ∧ Upd [] w w' := by
  have hx : bits .or .u64 (a : Int) 1 = ((a ||| 1 : Nat) : Int) := by have := u64_or_nat a 1 ha (by decide); simpa using this
  have hy : bits .or .u64 (b : Int) 1 = ((b ||| 1 : Nat) : Int) := by have := u64_or_nat b 1 hb (by decide); simpa using this
  have x0 : a ||| 1 ≠ 0 := by have : (1 : Nat) ≤ a ||| 1 := Nat.right_le_or; omega
  have y0 : b ||| 1 ≠ 0 := by have : (1 : Nat) ≤ b ||| 1 := Nat.right_le_or; omega
  have x64 : a ||| 1 < 18446744073709551616 := Nat.or_lt_two_pow (n := 64) ha (by decide)
  have y64 : b ||| 1 < 18446744073709551616 := Nat.or_lt_two_pow (n := 64) hb (by decide)
  generalize a ||| 1 = x at *
  generalize b ||| 1 = y at *
  have X0 := Lib.hid x0
  have Y0 := Lib.hid y0
  have X64 := Lib.hid x64
  have Y64 := Lib.hid y64
  clear x0 y0 x64 y64
  go_enter Try.func9, Try.ntmps9
  go_wp2_with fail
  refine (awake2 w).mono ?_
  rintro e w1 ⟨rfl, hu1⟩
  have HU1 := Lib.hid hu1
  clear hu1
  go_wp2_with fail
  go_loopw [13] (fun v13 wr => ∃ t : Nat, t ≤ 3 ∧ v13 = .int .i64 t ∧ Upd [] w wr) (fun v13 _ => 3 - (intOf v13).toNat)
  case atStart => exact ⟨0, by omega, rfl, HU1.out⟩
  case round =>
    obtain ⟨t, ht, rfl, hup⟩ := hrel
    obtain ⟨wo, rfl⟩ : ∃ wo : World, wo = wr := ⟨_, rfl⟩
    have RU := Lib.hid hup
    clear hup
    have ht4 : t = 0 ∨ t = 1 ∨ t = 2 ∨ t = 3 := by omega
    clear ht
    rcases ht4 with rfl | rfl | rfl | rfl
    · have P1 := Lib.hid (fun W => told_any 28 (x : Int) (gammaBits x) W (Nat.le_trans (show (gammaBits x).length ≤ 200 from wordS_len 0 x X64.out) (by decide)) (fun _ _ => enters_of Try.func28 (by kernel_rfl) rfl _ _) (Lib.hid (fun p W h => putGamma_any p none [] x W h (by decide) X0.out X64.out)))
      have P2 := Lib.hid (fun W => told_any 28 (y : Int) (gammaBits y) W (Nat.le_trans (show (gammaBits y).length ≤ 200 from wordS_len 0 y Y64.out) (by decide)) (fun _ _ => enters_of Try.func28 (by kernel_rfl) rfl _ _) (Lib.hid (fun p W h => putGamma_any p none [] y W h (by decide) Y0.out Y64.out)))
      have HONE : Hid ((∀ j, j < (gammaBits x).length → j < (gammaBits y).length → (gammaBits x).getD j false = (gammaBits y).getD j false) ↔ x = y) :=
        ⟨fun h => words_one 0 x y X0.out Y0.out X64.out Y64.out h, fun h => by subst h; intros; rfl⟩
      have hn1 : (gammaBits x).length ≤ 200 := wordS_len 0 x X64.out
      have hn2 : (gammaBits y).length ≤ 200 := wordS_len 0 y Y64.out
      generalize gammaBits x = la at *
      generalize gammaBits y = lb at *
      go_wp2_with fail
      refine (P1.out _).mono ?_
      rintro e w2 ⟨a1, c1, rfl, hs1, hu1⟩
      have T1 := Lib.hid hs1
      have V1 := Lib.hid hu1
      clear hs1 hu1
      go_wp2_with fail
      refine (P2.out _).mono ?_
      rintro e w3 ⟨a2, c2, rfl, hs2, hu2⟩
      have S1 := Lib.hid (T1.out.upd0 hu2)
      have S2 := Lib.hid hs2
      have U3 := Lib.hid ((RU.out.trans0 V1.out).trans0 hu2)
      clear hs2 hu2
      go_wp2_with fail
      go_loopw [9, 10] (fun v9 v10 wr => ∃ (i : Nat) (s : Bool), i ≤ la.length ∧ i ≤ lb.length ∧ v10 = .int .i64 i ∧ v9 = .bool s ∧ Hid (s = true ↔ ∀ j, j < i → la.getD j false = lb.getD j false) ∧ Upd [] w3 wr) (fun _ v10 _ => la.length - (intOf v10).toNat)
      case atStart => exact ⟨0, true, by omega, by omega, rfl, rfl, by show _ ↔ _; simp, Upd.refl _ _⟩
      case round =>
        obtain ⟨i, s, hi1, hi2, rfl, rfl, HSI, hupx⟩ := hrel
        obtain ⟨wx, rfl⟩ : ∃ wx : World, wx = wr := ⟨_, rfl⟩
        have RX := Lib.hid hupx
        clear hupx
        by_cases hlt : i < la.length ∧ i < lb.length
        · obtain ⟨l1, l2⟩ := hlt
          obtain ⟨q1, o1, cap1', hv1, hc1⟩ := sl_at (S1.out.upd0 RX.out) (by intro h; have := congrArg List.length h; simp at this; simp_all)
          obtain ⟨rfl, rfl⟩ : a1 = some ⟨q1, o1, none⟩ ∧ c1 = cap1' := by simpa using hv1
          obtain ⟨q2, o2, cap2', hv2, hc2⟩ := sl_at (S2.out.upd0 RX.out) (by intro h; have := congrArg List.length h; simp at this; simp_all)
          obtain ⟨rfl, rfl⟩ : a2 = some ⟨q2, o2, none⟩ ∧ c2 = cap2' := by simpa using hv2
          have k1 := hc1 i (by simpa using l1)
          have k2 := hc2 i (by simpa using l2)
          rw [cb_getElem? la _ l1] at k1
          rw [cb_getElem? lb _ l2] at k2
          have b1 : decide (i < la.length) = true := by simpa using l1
          have b2 : decide (i < lb.length) = true := by simpa using l2
          have i0 : (0 : Int) ≤ (i : Int) := by omega
          have HSTEP : Hid (∀ s', s' = (s && (la.getD i false == lb.getD i false)) → (s' = true ↔ ∀ j, j < i + 1 → la.getD j false = lb.getD j false)) := fun s' hs' => agree_step la lb i s s' HSI.out hs'
          clear hc1 hc2 hv1 hv2
          generalize la.getD i false = u at *
          generalize lb.getD i false = v at *
          cases s <;> cases u <;> cases v
          all_goals
            go_wp2
            go_quiet (fail)
            go_wp2
            go_roundw
            case rel => exact ⟨i + 1, _, by omega, by omega, by go_num, rfl, HSTEP.out _ rfl, by first | exact RX.out | exact RX.out.drew | exact RX.out.drewN _⟩
            case measure => simp [intOf]; omega
        · have hfin : s = decide (x = y) := by
            rw [Bool.eq_iff_iff, HSI.out, decide_eq_true_eq]
            constructor
            · intro h
              exact HONE.out.1 (fun j h1 h2 => h j (by omega))
            · intro h j hj
              exact HONE.out.2 h j (by omega) (by omega)
          have hend : (decide (i < la.length) = false) ∨ (decide (i < la.length) = true ∧ decide (i < lb.length) = false) := by
            by_cases h1 : i < la.length
            · right; exact ⟨by simpa using h1, by simp; omega⟩
            · left; simpa using h1
          clear hlt
          by_cases hxy : x = y
          · have e1 : ((x : Int) == (y : Int)) = true := by simp [hxy]
            obtain rfl : s = true := by simpa [hxy] using hfin
            clear hxy hfin
            rcases hend with hend | ⟨hend, hend2⟩
            all_goals
              go_wp2
              go_roundw
              case rel => exact ⟨1, by omega, by first | rfl | go_num, U3.out.trans0 RX.out⟩
              case measure => simp [intOf]
          · have e1 : ((x : Int) == (y : Int)) = false := by simp; omega
            obtain rfl : s = false := by simpa [hxy] using hfin
            clear hxy hfin
            rcases hend with hend | ⟨hend, hend2⟩
            all_goals
              go_wp2
              go_roundw
              case rel => exact ⟨1, by omega, by first | rfl | go_num, U3.out.trans0 RX.out⟩
              case measure => simp [intOf]
    · have P1 := Lib.hid (fun W => told_any 29 (x : Int) (deltaBits x) W (Nat.le_trans (show (deltaBits x).length ≤ 200 from wordS_len 1 x X64.out) (by decide)) (fun _ _ => enters_of Try.func29 (by kernel_rfl) rfl _ _) (Lib.hid (fun p W h => putDelta_any p none [] x W h (by decide) X0.out X64.out)))
      have P2 := Lib.hid (fun W => told_any 29 (y : Int) (deltaBits y) W (Nat.le_trans (show (deltaBits y).length ≤ 200 from wordS_len 1 y Y64.out) (by decide)) (fun _ _ => enters_of Try.func29 (by kernel_rfl) rfl _ _) (Lib.hid (fun p W h => putDelta_any p none [] y W h (by decide) Y0.out Y64.out)))
      have HONE : Hid ((∀ j, j < (deltaBits x).length → j < (deltaBits y).length → (deltaBits x).getD j false = (deltaBits y).getD j false) ↔ x = y) :=
        ⟨fun h => words_one 1 x y X0.out Y0.out X64.out Y64.out h, fun h => by subst h; intros; rfl⟩
      have hn1 : (deltaBits x).length ≤ 200 := wordS_len 1 x X64.out
      have hn2 : (deltaBits y).length ≤ 200 := wordS_len 1 y Y64.out
      generalize deltaBits x = la at *
      generalize deltaBits y = lb at *
      go_wp2_with fail
      refine (P1.out _).mono ?_
      rintro e w2 ⟨a1, c1, rfl, hs1, hu1⟩
      have T1 := Lib.hid hs1
      have V1 := Lib.hid hu1
      clear hs1 hu1
      go_wp2_with fail
      refine (P2.out _).mono ?_
      rintro e w3 ⟨a2, c2, rfl, hs2, hu2⟩
      have S1 := Lib.hid (T1.out.upd0 hu2)
      have S2 := Lib.hid hs2
      have U3 := Lib.hid ((RU.out.trans0 V1.out).trans0 hu2)
      clear hs2 hu2
      go_wp2_with fail
      go_loopw [9, 10] (fun v9 v10 wr => ∃ (i : Nat) (s : Bool), i ≤ la.length ∧ i ≤ lb.length ∧ v10 = .int .i64 i ∧ v9 = .bool s ∧ Hid (s = true ↔ ∀ j, j < i → la.getD j false = lb.getD j false) ∧ Upd [] w3 wr) (fun _ v10 _ => la.length - (intOf v10).toNat)
      case atStart => exact ⟨0, true, by omega, by omega, rfl, rfl, by show _ ↔ _; simp, Upd.refl _ _⟩
      case round =>
        obtain ⟨i, s, hi1, hi2, rfl, rfl, HSI, hupx⟩ := hrel
        obtain ⟨wx, rfl⟩ : ∃ wx : World, wx = wr := ⟨_, rfl⟩
        have RX := Lib.hid hupx
        clear hupx
        by_cases hlt : i < la.length ∧ i < lb.length
        · obtain ⟨l1, l2⟩ := hlt
          obtain ⟨q1, o1, cap1', hv1, hc1⟩ := sl_at (S1.out.upd0 RX.out) (by intro h; have := congrArg List.length h; simp at this; simp_all)
          obtain ⟨rfl, rfl⟩ : a1 = some ⟨q1, o1, none⟩ ∧ c1 = cap1' := by simpa using hv1
          obtain ⟨q2, o2, cap2', hv2, hc2⟩ := sl_at (S2.out.upd0 RX.out) (by intro h; have := congrArg List.length h; simp at this; simp_all)
          obtain ⟨rfl, rfl⟩ : a2 = some ⟨q2, o2, none⟩ ∧ c2 = cap2' := by simpa using hv2
          have k1 := hc1 i (by simpa using l1)
          have k2 := hc2 i (by simpa using l2)
          rw [cb_getElem? la _ l1] at k1
          rw [cb_getElem? lb _ l2] at k2
          have b1 : decide (i < la.length) = true := by simpa using l1
          have b2 : decide (i < lb.length) = true := by simpa using l2
          have i0 : (0 : Int) ≤ (i : Int) := by omega
          have HSTEP : Hid (∀ s', s' = (s && (la.getD i false == lb.getD i false)) → (s' = true ↔ ∀ j, j < i + 1 → la.getD j false = lb.getD j false)) := fun s' hs' => agree_step la lb i s s' HSI.out hs'
          clear hc1 hc2 hv1 hv2
          generalize la.getD i false = u at *
          generalize lb.getD i false = v at *
          cases s <;> cases u <;> cases v
          all_goals
            go_wp2
            go_quiet (fail)
            go_wp2
            go_roundw
            case rel => exact ⟨i + 1, _, by omega, by omega, by go_num, rfl, HSTEP.out _ rfl, by first | exact RX.out | exact RX.out.drew | exact RX.out.drewN _⟩
            case measure => simp [intOf]; omega
        · have hfin : s = decide (x = y) := by
            rw [Bool.eq_iff_iff, HSI.out, decide_eq_true_eq]
            constructor
            · intro h
              exact HONE.out.1 (fun j h1 h2 => h j (by omega))
            · intro h j hj
              exact HONE.out.2 h j (by omega) (by omega)
          have hend : (decide (i < la.length) = false) ∨ (decide (i < la.length) = true ∧ decide (i < lb.length) = false) := by
            by_cases h1 : i < la.length
            · right; exact ⟨by simpa using h1, by simp; omega⟩
            · left; simpa using h1
          clear hlt
          by_cases hxy : x = y
          · have e1 : ((x : Int) == (y : Int)) = true := by simp [hxy]
            obtain rfl : s = true := by simpa [hxy] using hfin
            clear hxy hfin
            rcases hend with hend | ⟨hend, hend2⟩
            all_goals
              go_wp2
              go_roundw
              case rel => exact ⟨2, by omega, by first | rfl | go_num, U3.out.trans0 RX.out⟩
              case measure => simp [intOf]
          · have e1 : ((x : Int) == (y : Int)) = false := by simp; omega
            obtain rfl : s = false := by simpa [hxy] using hfin
            clear hxy hfin
            rcases hend with hend | ⟨hend, hend2⟩
            all_goals
              go_wp2
              go_roundw
              case rel => exact ⟨2, by omega, by first | rfl | go_num, U3.out.trans0 RX.out⟩
              case measure => simp [intOf]
    · have P1 := Lib.hid (fun W => told_any 44 (x : Int) (varBits x) W (Nat.le_trans (show (varBits x).length ≤ 200 from wordS_len 2 x X64.out) (by decide)) (fun _ _ => enters_of Try.func44 (by kernel_rfl) rfl _ _) (Lib.hid (fun p W h => putVarF_any p x W h X64.out)))
      have P2 := Lib.hid (fun W => told_any 44 (y : Int) (varBits y) W (Nat.le_trans (show (varBits y).length ≤ 200 from wordS_len 2 y Y64.out) (by decide)) (fun _ _ => enters_of Try.func44 (by kernel_rfl) rfl _ _) (Lib.hid (fun p W h => putVarF_any p y W h Y64.out)))
      have HONE : Hid ((∀ j, j < (varBits x).length → j < (varBits y).length → (varBits x).getD j false = (varBits y).getD j false) ↔ x = y) :=
        ⟨fun h => words_one 2 x y X0.out Y0.out X64.out Y64.out h, fun h => by subst h; intros; rfl⟩
      have hn1 : (varBits x).length ≤ 200 := wordS_len 2 x X64.out
      have hn2 : (varBits y).length ≤ 200 := wordS_len 2 y Y64.out
      generalize varBits x = la at *
      generalize varBits y = lb at *
      go_wp2_with fail
      refine (P1.out _).mono ?_
      rintro e w2 ⟨a1, c1, rfl, hs1, hu1⟩
      have T1 := Lib.hid hs1
      have V1 := Lib.hid hu1
      clear hs1 hu1
      go_wp2_with fail
      refine (P2.out _).mono ?_
      rintro e w3 ⟨a2, c2, rfl, hs2, hu2⟩
      have S1 := Lib.hid (T1.out.upd0 hu2)
      have S2 := Lib.hid hs2
      have U3 := Lib.hid ((RU.out.trans0 V1.out).trans0 hu2)
      clear hs2 hu2
      go_wp2_with fail
      go_loopw [9, 10] (fun v9 v10 wr => ∃ (i : Nat) (s : Bool), i ≤ la.length ∧ i ≤ lb.length ∧ v10 = .int .i64 i ∧ v9 = .bool s ∧ Hid (s = true ↔ ∀ j, j < i → la.getD j false = lb.getD j false) ∧ Upd [] w3 wr) (fun _ v10 _ => la.length - (intOf v10).toNat)
      case atStart => exact ⟨0, true, by omega, by omega, rfl, rfl, by show _ ↔ _; simp, Upd.refl _ _⟩
      case round =>
        obtain ⟨i, s, hi1, hi2, rfl, rfl, HSI, hupx⟩ := hrel
        obtain ⟨wx, rfl⟩ : ∃ wx : World, wx = wr := ⟨_, rfl⟩
        have RX := Lib.hid hupx
        clear hupx
        by_cases hlt : i < la.length ∧ i < lb.length
        · obtain ⟨l1, l2⟩ := hlt
          obtain ⟨q1, o1, cap1', hv1, hc1⟩ := sl_at (S1.out.upd0 RX.out) (by intro h; have := congrArg List.length h; simp at this; simp_all)
          obtain ⟨rfl, rfl⟩ : a1 = some ⟨q1, o1, none⟩ ∧ c1 = cap1' := by simpa using hv1
          obtain ⟨q2, o2, cap2', hv2, hc2⟩ := sl_at (S2.out.upd0 RX.out) (by intro h; have := congrArg List.length h; simp at this; simp_all)
          obtain ⟨rfl, rfl⟩ : a2 = some ⟨q2, o2, none⟩ ∧ c2 = cap2' := by simpa using hv2
          have k1 := hc1 i (by simpa using l1)
          have k2 := hc2 i (by simpa using l2)
          rw [cb_getElem? la _ l1] at k1
          rw [cb_getElem? lb _ l2] at k2
          have b1 : decide (i < la.length) = true := by simpa using l1
          have b2 : decide (i < lb.length) = true := by simpa using l2
          have i0 : (0 : Int) ≤ (i : Int) := by omega
          have HSTEP : Hid (∀ s', s' = (s && (la.getD i false == lb.getD i false)) → (s' = true ↔ ∀ j, j < i + 1 → la.getD j false = lb.getD j false)) := fun s' hs' => agree_step la lb i s s' HSI.out hs'
          clear hc1 hc2 hv1 hv2
          generalize la.getD i false = u at *
          generalize lb.getD i false = v at *
          cases s <;> cases u <;> cases v
          all_goals
            go_wp2
            go_quiet (fail)
            go_wp2
            go_roundw
            case rel => exact ⟨i + 1, _, by omega, by omega, by go_num, rfl, HSTEP.out _ rfl, by first | exact RX.out | exact RX.out.drew | exact RX.out.drewN _⟩
            case measure => simp [intOf]; omega
        · have hfin : s = decide (x = y) := by
            rw [Bool.eq_iff_iff, HSI.out, decide_eq_true_eq]
            constructor
            · intro h
              exact HONE.out.1 (fun j h1 h2 => h j (by omega))
            · intro h j hj
              exact HONE.out.2 h j (by omega) (by omega)
          have hend : (decide (i < la.length) = false) ∨ (decide (i < la.length) = true ∧ decide (i < lb.length) = false) := by
            by_cases h1 : i < la.length
            · right; exact ⟨by simpa using h1, by simp; omega⟩
            · left; simpa using h1
          clear hlt
          by_cases hxy : x = y
          · have e1 : ((x : Int) == (y : Int)) = true := by simp [hxy]
            obtain rfl : s = true := by simpa [hxy] using hfin
            clear hxy hfin
            rcases hend with hend | ⟨hend, hend2⟩
            all_goals
              go_wp2
              go_roundw
              case rel => exact ⟨3, by omega, by first | rfl | go_num, U3.out.trans0 RX.out⟩
              case measure => simp [intOf]
          · have e1 : ((x : Int) == (y : Int)) = false := by simp; omega
            obtain rfl : s = false := by simpa [hxy] using hfin
            clear hxy hfin
            rcases hend with hend | ⟨hend, hend2⟩
            all_goals
              go_wp2
              go_roundw
              case rel => exact ⟨3, by omega, by first | rfl | go_num, U3.out.trans0 RX.out⟩
              case measure => simp [intOf]
    · go_wp2
      go_ret
      exact ⟨rfl, RU.out⟩
end Go.Proofs.Ytaokkfbcjacmfaa
