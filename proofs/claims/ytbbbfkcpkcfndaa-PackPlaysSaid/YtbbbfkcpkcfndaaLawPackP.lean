/- PackPlays: each number is what it was set to last; a clone goes its own way: the walk of the law, out of the contracts. -/
import Derived.Test.YtbbbfkcpkcfndaaPackIs
namespace Go.Proofs.Ytbbbfkcpkcfndaa
open Go.RowKit Go.Proofs.Tm
set_option linter.unusedVariables false
set_option maxRecDepth 20000

/-- What holds at each round's head: the Vector and the list hold the same numbers. -/
def PlayInv (p g wd n : Nat) (w : World) (v9 : Value) (l : List Nat) (wr : World) : Prop :=
  Vec wr p g wd l ∧ wr.ownsRow 0 28 1 v9 n (cu64 l) ∧ l.length = n ∧ (∀ k, v9.ownBlock = some k → k ≠ g) ∧ Upd [] w wr

theorem setL_lt (l : List Nat) (wd : Nat) (i : Int) (n : Nat) (hl : ∀ x ∈ l, x < 2 ^ wd) : ∀ x ∈ (setL l wd i n).1, x < 2 ^ wd := by
  unfold setL; split
  · exact hl
  · split
    · exact hl
    · intro x hx
      rcases List.mem_or_eq_of_mem_set hx with hx | rfl
      · exact hl x hx
      · omega

set_option maxRecDepth 100000 in
set_option maxHeartbeats 3200000 in
theorem packPlays_law (a b : Int) (a2 : Option Addr) (cap2 : Nat) (ps : List (Int × Int)) (w : World) (hP : SlPair .i64 .u64 w (.slice a2 ps.length cap2) ps) :
    Calls Try.prog 11 #[.int .i64 a, .int .i64 b, .slice a2 ps.length cap2] w fun e w' => e = .returned (.bool true) ∧ Upd [] w w' := by
  obtain ⟨n0, hn0⟩ : ∃ m, m = min a 300 := ⟨_, rfl⟩
  have hmn1 : ∀ ts t W, (Builtin.min_ ts t #[.int .i64 a, .int .i64 300]).run Try.prog W = .ok (.int .i64 n0) W := fun ts t W => by rw [hn0]; exact run_min2 _ _ _ _ _
  have hn0' : n0 ≤ 300 := by omega
  have hpl : ps.length ≤ cap2 ∧ cap2 ≤ maxLen := by obtain ⟨x, c, h, h2, h3, _⟩ := hP; simp at h; omega
  obtain ⟨hpl1, hpl2⟩ := hpl
  unfold maxLen at hpl2
  have HP := Lib.hid hP
  clear hn0 hP
  by_cases hbad : n0 < 0 ∨ 256 < n0 ∨ b < 1 ∨ 32 < b
  · have HN := Lib.hid (fun W => vnew_bad n0 b W hbad)
    have d : (decide (n0 < 0) = true) ∨ (decide (n0 < 0) = false ∧ decide (256 < n0) = true) ∨ (decide (n0 < 0) = false ∧ decide (256 < n0) = false ∧ decide (b < 1) = true) ∨ (decide (n0 < 0) = false ∧ decide (256 < n0) = false ∧ decide (b < 1) = false ∧ decide (32 < b) = true) := by
      simp only [decide_eq_true_eq, decide_eq_false_iff_not]; omega
    clear hbad
    rcases d with d | ⟨d, d2⟩ | ⟨d, d2, d3⟩ | ⟨d, d2, d3, d4⟩
    all_goals
      go_enter Try.func11, Try.ntmps11
      go_wp2_with fail
      refine (awake3 w).mono ?_
      rintro e w1 ⟨rfl, hu1⟩
      have HU1 := Lib.hid hu1
      clear hu1
      go_wp2_with fail
      refine (HN.out w1).mono ?_
      rintro e w2 ⟨rfl, rfl⟩
      go_wp2
      go_ret
      exact ⟨rfl, HU1.out⟩
  · obtain ⟨n, rfl⟩ := Int.eq_ofNat_of_zero_le (show 0 ≤ n0 by omega)
    obtain ⟨wd, rfl⟩ := Int.eq_ofNat_of_zero_le (show 0 ≤ b by omega)
    have hn2 : n ≤ 256 := by omega
    have hw1 : 1 ≤ wd := by omega
    have hw2 : wd ≤ 32 := by omega
    have d1 : decide ((n : Int) < 0) = false := by simp
    have d2 : decide ((256 : Int) < (n : Int)) = false := by simp; omega
    have d3 : decide ((wd : Int) < 1) = false := by simp; omega
    have d4 : decide ((32 : Int) < (wd : Int)) = false := by simp; omega
    clear hbad
    go_enter Try.func11, Try.ntmps11
    go_wp2_with fail
    refine (awake3 w).mono ?_
    rintro e w1 ⟨rfl, hu1⟩
    have HU1 := Lib.hid hu1
    clear hu1
    go_wp2_with fail
    refine (vnew_ok n wd w1 hn2 hw1 hw2).mono ?_
    rintro e w2 ⟨p, rfl, g, hv2, hu2, hp2, hg2⟩
    have HV2 := Lib.hid hv2
    have HU2 := Lib.hid (HU1.out.trans0 hu2)
    have HWD := Lib.hid (vwidth_any p g wd _ w2 hv2)
    have hs1 := HU1.out.size
    have lp := hv2.lt
    have lg := hv2.glt
    clear hv2 hu2
    go_wp2_with fail
    refine HWD.out.mono ?_
    rintro e w3 ⟨rfl, rfl⟩
    go_wp2_with (refine wpList_make_lc _ rfl (.tmp 59) (.tmp 59) 54 rfl 28 (.int .u64 0) 8 Try.underlying54 infoU64 rfl .i64 .i64 _ _ n n rfl rfl rfl rfl (by omega) (by omega) (by unfold maxLen; omega) ?_)
    intro w3 ho3 hu3 hw3
    have H0 : Hid (PlayInv p g wd n w (.slice (some ⟨w2.heap.size, 0, none⟩) n n) (List.replicate n 0) w3) :=
      ⟨HV2.out.upd0 hu3, by have := ownsRow_base ho3 (Nat.zero_le _); simpa [cu64] using this, by simp, by intro k hk; simp [Value.ownBlock] at hk; omega, HU2.out.trans0 hu3⟩
    clear ho3 hu3 hw3 HWD
    have hsw : w.heap.size ≤ g := by omega
    clear HV2
    go_wp2_with fail
    go_loopw [9, 10] (fun v9 v10 wr => ∃ (i : Nat) (l : List Nat), i ≤ ps.length ∧ v10 = .int .i64 i ∧ PlayInv p g wd n w v9 l wr) (fun _ v10 _ => ps.length - (intOf v10).toNat)
    case atStart => exact ⟨0, _, Nat.zero_le _, rfl, H0.out⟩
    case round =>
      obtain ⟨i, l, hi, rfl, hv, ho, hl, hb9, hu⟩ := hrel
      obtain ⟨lv, rfl⟩ : ∃ lv : Value, lv = u9 := ⟨_, rfl⟩
      have HV := Lib.hid hv
      have HO := Lib.hid ho
      have HL := Lib.hid hl
      have HB9 := Lib.hid hb9
      have HU := Lib.hid hu
      have hvlt := hv.lt
      have hglt := hv.glt
      have HX : Hid (∀ x ∈ l, x < 2 ^ wd) := by obtain ⟨_, _, _, _, _, _, h⟩ := hv; exact h
      clear hv ho hl hb9 hu
      by_cases hlt : i < ps.length ∧ i < 60
      · obtain ⟨hlt1, hlt2⟩ := hlt
        have b1 : decide (i < ps.length) = true := by simpa using hlt1
        have b2 : decide ((i : Int) < 60) = true := by simp; omega
        obtain ⟨x, c, hq, _, _, hcell0⟩ := HP.out
        obtain ⟨b, o, rfl, hcell⟩ := hcell0 (by rintro rfl; simp at hlt1)
        simp only [Value.slice.injEq] at hq
        obtain ⟨rfl, _, rfl⟩ := hq
        obtain ⟨I, N0, _, hwI, hwN, hc0, hc1⟩ := hcell i hlt1
        clear hcell0
        have hbw := World.block_lt_of_cell? w _ hc0
        obtain ⟨hN0, hN1⟩ := bounds_u64 hwN
        obtain ⟨N, rfl⟩ := Int.eq_ofNat_of_zero_le hN0
        have hN : N < 18446744073709551616 := by omega
        have HC : Hid (∀ W, Upd [] w W → W.cell? ⟨b, o + i * 2, none⟩ = some (.int .i64 I) ∧ W.cell? ⟨b, o + i * 2 + 1, none⟩ = some (.int .u64 (N : Int)) ∧ Upd [] w W) := fun W h =>
          ⟨(h.cell (p := ⟨b, o + i * 2, none⟩) hbw (by simp)).trans hc0, (h.cell (p := ⟨b, o + i * 2 + 1, none⟩) hbw (by simp)).trans hc1, h⟩
        have i0 : (0 : Int) ≤ (i : Int) := by omega
        have i1 : (i : Int) < (ps.length : Int) := by omega
        clear hcell hc0 hc1 hwI hwN hN0 hN1
        go_wp2_with fail
        refine (vclone_any p g wd l wr HV.out).mono ?_
        rintro e w4 ⟨q, rfl, g4, hv4, hu4, hq4, hg4⟩
        have HW := Lib.hid hv4
        have HV4 := Lib.hid (HV.out.upd0 hu4)
        have HO4 := Lib.hid (ownsRow_upd HO.out hu4 (by simp))
        have HU4 := Lib.hid (HU.out.trans0 hu4)
        have HB4 : Hid (∀ k, lv.ownBlock = some k → k < wr.heap.size) := fun k hk => (HO.out.lt k hk).2
        have hs4 := hu4.size
        clear hv4 hu4
        obtain ⟨l', z, hz⟩ : ∃ l' z, setL l wd I N = (l', z) := ⟨_, _, rfl⟩
        have hset := fun W h => vset_any p g wd l W I N h
        rw [hz] at hset
        have HSET := Lib.hid hset
        have hrs := fun W lv h => rset_any lv l wd I N W h (by omega) (by rw [HL.out]; omega) hN
        rw [hz] at hrs
        have HRS := Lib.hid hrs
        have HL' : Hid (l'.length = n) := by show _ = _; have := setL_length l wd I N; rw [hz, HL.out] at this; exact this
        have HX' : Hid (∀ x ∈ l', x < 2 ^ wd) := by have := setL_lt l wd I N HX.out; rw [hz] at this; exact this
        clear hset hrs hz
        go_wp2_with fail
        go_region_held3 (fun W => W.cell? ⟨b, o + i * 2, none⟩ = some (.int .i64 I) ∧ W.cell? ⟨b, o + i * 2 + 1, none⟩ = some (.int .u64 (N : Int)) ∧ Upd [] w W)
          (first
            | exact HC.out _ HU4.out.drew
            | exact HC.out _ huy)
          (first
            | (go_at_call 56; refine (HSET.out _ (HV4.out.upd0 (Upd.refl _ _).drew)).mono ?_; rintro e wy ⟨rfl, hvy, hgy⟩; have huy : Upd [] w wy := HU4.out.drew.trans hgy (by intro x hx; simp at hx; subst hx; right; exact hsw)))
        obtain ⟨y0, y1, _⟩ := HC.out _ huy
        have HV5 := Lib.hid hvy
        have HW5 := Lib.hid ((HW.out.upd0 (Upd.refl _ _).drew).upd hgy (by simp; omega) (by simp; omega))
        have HO5 := Lib.hid (ownsRow_upd (HO4.out.drew) hgy (by intro k hk; have := HB9.out k hk; simp; exact this))
        have HU5 := Lib.hid huy
        have HGY : Hid (wy.heap.size = wy.heap.size) := rfl
        have hs5 := hgy.size
        have hs5' : wr.heap.size ≤ wy.heap.size := Nat.le_trans hs4 hs5
        rw [← HL.out] at HO5
        have HR := Lib.hid (HRS.out wy lv HO5.out)
        rw [HL.out] at HO5
        clear hvy hgy huy
        go_wp2_with fail
        refine HR.out.mono ?_
        rintro e w6 ⟨v6, rfl, ho6, hf6, hu6⟩
        rw [HL.out] at ho6
        have HO6 := Lib.hid ho6
        have HF6 := Lib.hid hf6
        have HU6 := Lib.hid (HU5.out.trans0 hu6)
        have HV6 := Lib.hid (HV5.out.upd0 hu6)
        have HW6 := Lib.hid (HW5.out.upd0 hu6)
        have HLV6 := Lib.hid (ownsRow_upd HO5.out hu6 (by simp))
        clear ho6 hf6 hu6 HR y0 y1
        have hzz : (z != z) = false := by simp
        have H64 : Hid (∀ x ∈ l, x < 18446744073709551616) := fun x hx => Nat.lt_of_lt_of_le (HX.out x hx) (Nat.le_trans (Nat.pow_le_pow_right (by decide) hw2) (by decide))
        have H64' : Hid (∀ x ∈ l', x < 18446744073709551616) := fun x hx => Nat.lt_of_lt_of_le (HX'.out x hx) (Nat.le_trans (Nat.pow_le_pow_right (by decide) hw2) (by decide))
        have HI1 := Lib.hid (is_any q g4 wd l lv w6 HW6.out (Sl.own HLV6.out) H64.out)
        go_wp2_with fail
        refine HI1.out.mono ?_
        rintro e w7 ⟨rfl, m7, rfl⟩
        have HI2 := Lib.hid (is_any p g wd l' v6 (w6.drewN m7) (HV6.out.upd0 ((Upd.refl _ _).drewN _)) (Sl.own (ownsRow_upd HO6.out ((Upd.refl [] _).drewN _) (by simp))) H64'.out)
        go_wp2_with fail
        refine HI2.out.mono ?_
        rintro e w8 ⟨rfl, m8, hw8⟩
        have UU : Upd [] w6 w8 := by rw [hw8]; exact ((Upd.refl _ _).drewN _).drewN _
        have HU8 := Lib.hid (HU6.out.trans0 UU)
        have HV8 := Lib.hid (HV6.out.upd0 UU)
        have HW8 := Lib.hid (HW6.out.upd0 UU)
        have HLV8 := Lib.hid (ownsRow_upd HLV6.out UU (by simp))
        have HO8 := Lib.hid (ownsRow_upd HO6.out UU (by simp))
        clear hw8 UU HI1 HI2
        obtain ⟨la, lcap, rfl⟩ := own_ex HLV8.out
        obtain ⟨ma, mcap, rfl⟩ := own_ex HO8.out
        go_wp2_with fail
        go_loopw [15, 112] (fun v15 v112 wq => ∃ k : Nat, k ≤ n ∧ v112 = .int .i64 k ∧ v15 = .bool (decide (l.take k = l'.take k)) ∧ ∃ m, wq = w8.drewN m) (fun _ v112 _ => n - (intOf v112).toNat)
        case atStart => exact ⟨0, Nat.zero_le _, rfl, by simp, 0, rfl⟩
        case round =>
          obtain ⟨k, hk, rfl, rfl, m9, rfl⟩ := hrel
          by_cases hkn : k < n
          · obtain ⟨b5, o5, c5, hv5, hc5⟩ := sl_at (Sl.own HLV8.out) (by intro h; have := congrArg List.length h; rw [cu64_length, HL.out] at this; simp at this; omega)
            obtain ⟨b6, o6, c6, hv6, hc6⟩ := sl_at (Sl.own HO8.out) (by intro h; have := congrArg List.length h; rw [cu64_length, HL'.out] at this; simp at this; omega)
            obtain ⟨rfl, _, rfl⟩ : la = some ⟨b5, o5, none⟩ ∧ True ∧ lcap = c5 := by simp at hv5; exact ⟨hv5.1, trivial, hv5.2.2⟩
            obtain ⟨rfl, _, rfl⟩ : ma = some ⟨b6, o6, none⟩ ∧ True ∧ mcap = c6 := by simp at hv6; exact ⟨hv6.1, trivial, hv6.2.2⟩
            have l5 : k < l.length := by rw [HL.out]; exact hkn
            have l6 : k < l'.length := by rw [HL'.out]; exact hkn
            have q5 := hc5 k (by simpa using l5)
            have q6 := hc6 k (by simpa using l6)
            rw [cu64_getElem?, List.getElem?_eq_getElem l5] at q5
            rw [cu64_getElem?, List.getElem?_eq_getElem l6] at q6
            simp only [Option.map_some] at q5 q6
            have HT : Hid (decide (l.take (k + 1) = l'.take (k + 1)) = (decide (l.take k = l'.take k) && ((l[k] : Int) == (l'[k] : Int)))) := by
              show _ = _
              rw [List.take_succ_eq_append_getElem l5, List.take_succ_eq_append_getElem l6, Bool.eq_iff_iff]
              simp only [decide_eq_true_eq, Bool.and_eq_true, beq_iff_eq, Int.natCast_inj]
              constructor
              · intro h
                have h := List.append_inj h (by simp; omega)
                exact ⟨h.1, by simpa using h.2⟩
              · rintro ⟨h1, h2⟩
                rw [h1, h2]
            generalize l[k] = x5 at *
            generalize l'[k] = x6 at *
            have i0 : (0 : Int) ≤ (k : Int) := by omega
            have i1 : (k : Int) < (n : Int) := by omega
            clear hc5 hc6 hv5 hv6
            generalize decide (l.take k = l'.take k) = s at *
            cases s
            · go_wp2_with fail
              go_quiet (fail)
              go_wp2
              refine ⟨⟨k + 1, by omega, by go_num, by rw [HT.out]; rfl, _, rfl⟩, by simp [intOf]; omega⟩
            · go_wp2_with fail
              go_quiet (fail)
              go_wp2
              refine ⟨⟨k + 1, by omega, by go_num, by rw [HT.out]; rfl, _, rfl⟩, by simp [intOf]; omega⟩
          · obtain rfl : k = n := by omega
            have HTK : Hid (l.take k = l) := List.take_of_length_le (by have := HL.out; omega)
            have HTK' : Hid (l'.take k = l') := List.take_of_length_le (by have := HL'.out; omega)
            rw [HTK.out, HTK'.out]
            have UU : Upd [] w8 (w8.drewN m9) := (Upd.refl _ _).drewN m9
            have hs1 := vsame_any p g q g4 wd l' l _ (HV8.out.upd0 UU) (HW8.out.upd0 UU) (by rw [HL.out, HL'.out])
            have hs2 := fun W (hu : Upd [] w8 W) => vsame_any q g4 p g wd l l' W (HW8.out.upd0 hu) (HV8.out.upd0 hu) (by rw [HL.out, HL'.out])
            rw [show decide (l' = l) = decide (l = l') by rw [Bool.eq_iff_iff, decide_eq_true_eq, decide_eq_true_eq]; exact eq_comm] at hs1
            have HS1 := Lib.hid hs1
            have HS2 := Lib.hid hs2
            have HUU := Lib.hid UU
            clear hs1 hs2 UU
            generalize decide (l = l') = s at *
            go_wp2_with fail
            refine HS1.out.mono ?_
            rintro e w10 ⟨rfl, m10, rfl⟩
            have hss : (s != s) = false := by cases s <;> rfl
            go_wp2_with fail
            refine (HS2.out (w8.drewN (m9 + m10)) ((Upd.refl _ _).drewN _)).mono ?_
            rintro e w11 ⟨rfl, m11, rfl⟩
            have HB8 : Hid (∀ j, (Value.slice ma k mcap).ownBlock = some j → j ≠ g) := by
              intro j hj
              rcases HF6.out with h | ⟨j', h, h2⟩
              · rw [h] at hj; exact HB9.out j hj
              · rw [h] at hj; obtain rfl : j' = j := by simpa using hj
                omega
            clear HF6
            go_wp2
            have UX : Upd [] w8 (w8.drewN (m9 + m10 + m11)) := (Upd.refl _ _).drewN _
            go_roundw
            case rel => exact ⟨i + 1, l', by omega, by go_num, HV8.out.upd0 UX, ownsRow_upd HO8.out UX (by simp), HL'.out, HB8.out, HU8.out.trans0 UX⟩
            case measure => simp [intOf]; omega
      · have hend : (decide (i < ps.length) = false) ∨ (decide (i < ps.length) = true ∧ decide ((i : Int) < 60) = false) := by
          by_cases h1 : i < ps.length
          · right; exact ⟨by simpa using h1, by simp; omega⟩
          · left; simpa using h1
        clear hlt
        rcases hend with hend | ⟨hend, hend2⟩
        all_goals
          go_wp2_with fail
          go_ret
          exact ⟨rfl, HU.out⟩
end Go.Proofs.Ytbbbfkcpkcfndaa
