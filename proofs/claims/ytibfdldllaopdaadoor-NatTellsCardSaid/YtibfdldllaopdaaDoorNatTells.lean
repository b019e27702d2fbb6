/- The law NatTells (layer 5). -/
import Derived.Test.YtibfdldllaopdaaDoorNatIs
import Derived.Test.YtibfdldllaopdaaDoorNatWake
import Derived.Test.YtibfdldllaopdaaDoorNatFew
import Derived.Test.YtibfdldllaopdaaDoorNatInt
import Derived.Test.YtibfdldllaopdaaDoorNatBit
import Derived.Test.YtibfdldllaopdaaDoorNatBits
import Derived.Deep.CutBlock
import Derived.Deep.DeepCutAuto
import Derived.BigQuiet
namespace Go.Proofs.YtibfdldllaopdaaDoor
open Go.RowKit Go.Proofs.Tm
set_option linter.unusedVariables false
set_option linter.unusedSimpArgs false
set_option maxRecDepth 20000

/-- The words of a list are those of its number, and noughts. -/
theorem trim_getD (L : List Nat) (n : Nat) (hn : n ≤ L.length) (h : L.take n = wds (wval L)) (hz : ∀ j, n ≤ j → j < L.length → L[j]? = some 0) (j : Nat) : L.getD j 0 = (wds (wval L)).getD j 0 := by
  rw [← h, List.getD_eq_getElem?_getD, List.getD_eq_getElem?_getD, List.getElem?_take]
  split
  · rfl
  · rename_i hj
    rcases Nat.lt_or_ge j L.length with h2 | h2
    · rw [hz j (by omega) h2]; rfl
    · rw [List.getElem?_eq_none h2]

theorem bits_none (V k q : Nat) (h : V < 18446744073709551616 ^ q) (hk : q ≤ k / 64) : V / 2 ^ k % 2 = 0 := by
  have : V < 2 ^ k := by
    refine Nat.lt_of_lt_of_le h ?_
    rw [W_two, ← Nat.pow_mul]
    exact Nat.pow_le_pow_right (by decide) (by omega)
  rw [Nat.div_eq_of_lt this]

set_option maxHeartbeats 6400000 in
theorem natTells_law (a0 : Option Addr) (cap0 : Nat) (p : List Nat) (t : Int) (w : World) (ht : Tab w) (hp : Sl w (.slice a0 p.length cap0) (cu64 p)) (hpw : ∀ d ∈ p, d < 18446744073709551616) (h1 : -9223372036854775808 ≤ t) (h2 : t ≤ 9223372036854775807) :
    Calls Tryd.prog 3 #[.slice a0 p.length cap0, .int .i64 t] w fun e w' => e = .returned (.bool true) ∧ Upd [] w w' := by
  have HT : Hid (∀ W, Upd [] w W → Tab W) := fun W h => ht.upd0 h
  obtain ⟨L, hL⟩ : ∃ L, L = p.take 8 := ⟨_, rfl⟩
  have HP : Hid (∀ W, Upd [] w W → Calls Tryd.prog 14 #[.slice a0 p.length cap0, .int .i64 8] W (RFew L W)) := fun W h => by rw [hL]; exact few_any a0 cap0 p 8 (by decide) W (hp.upd0 h)
  have HPW : Hid (∀ d ∈ L, d < 18446744073709551616) := fun d hd => hpw d (by rw [hL] at hd; exact List.mem_of_mem_take hd)
  have hl8 : L.length ≤ 8 := by rw [hL, List.length_take]; omega
  obtain ⟨V, hV⟩ : ∃ V, V = wval L := ⟨_, rfl⟩
  have hVl : (wds V).length ≤ 8 := by rw [hV, hL]; exact few_len p 8 hpw
  have hVW : V < 18446744073709551616 ^ L.length := by rw [hV]; exact wval_lt L HPW.out
  have HVD : Hid ((digs V).length ≤ 40) := by show _ ≤ _; have := digs_wlen ((wds_length_le_iff _ _).1 hVl); omega
  have HVL : Hid (∀ n, n = V → (wds n).length ≤ 8) := fun n h => by rw [h]; exact hVl
  have HEV := Lib.hid hV
  have HVW := Lib.hid hVW
  obtain ⟨lp, hlp⟩ : ∃ l, l = p.length := ⟨_, rfl⟩
  rw [← hlp] at HP ⊢
  obtain ⟨ll, hll⟩ : ∃ l, l = L.length := ⟨_, rfl⟩
  have HLL := Lib.hid hll
  rw [← hll] at hl8
  obtain ⟨n, hn⟩ : ∃ n, n = (wds V).length := ⟨_, rfl⟩
  have HNN := Lib.hid hn
  rw [← hn] at hVl
  clear ht hp hpw hL hV hVW hlp hll hn
  go_enter Tryd.func3, Tryd.ntmps3
  go_wp2_with fail
  refine (awake_any _ (HT.out _ (Upd.refl _ _))).mono ?_
  rintro e w1 ⟨rfl, hu1⟩
  have HU1 := Lib.hid hu1
  clear hu1
  go_wp2_with fail
  refine (HP.out _ HU1.out).mono ?_
  rintro e w2 ⟨v2, rfl, hs2, rfl⟩
  obtain ⟨a2, c2, rfl, hlc2, hcm2, _⟩ := hs2.open
  rw [cu64_length, ← HLL.out] at hlc2
  rw [cu64_length, ← HLL.out] at hs2 ⊢
  unfold maxLen at hcm2
  have HS2 := Lib.hid hs2
  clear hs2
  go_wp2_with fail
  refine (of_any _ L _ HS2.out (by rw [← HLL.out]; omega) HPW.out).mono ?_
  rintro e w4 ⟨v4, rfl, hn4, hu4⟩
  rw [← HEV.out] at hn4
  have HN4 := Lib.hid hn4
  have HU4 := Lib.hid hu4
  clear hn4 hu4
  go_wp2_with fail
  refine (rof_any _ L _ (HS2.out.upd0 HU4.out) HPW.out (by rw [← HLL.out]; omega)).mono ?_
  rintro e w6 ⟨v6, rfl, hs6, hu6⟩
  rw [← HEV.out] at hs6
  have hn6 := HN4.out.upd0 hu6
  obtain ⟨x4, c4, rfl, _, _⟩ := hn6.open
  rw [← HNN.out] at hn6 ⊢
  obtain ⟨w8, hw8⟩ : ∃ W, W = w6.alloc (.cells #[.slice x4 n c4] 26) := ⟨_, rfl⟩
  obtain ⟨k5, hk5⟩ : ∃ k, k = w6.heap.size := ⟨_, rfl⟩
  have hu8 : Upd [] w6 w8 := by rw [hw8]; exact (Upd.refl _ _).alloc _
  have hb5 : Box w8 k5 (.slice x4 n c4) 26 := by rw [hw8, hk5]; exact Box.new _ _ _
  have HBX : Hid (∀ W, Upd [] w8 W → W.cell? ⟨k5, 0, none⟩ = some (.slice x4 n c4)) := fun W h => (hb5.upd h).cell
  have HA8 : Hid (∀ W, Upd [] w8 W → NV W (.agg #[.slice x4 n c4]) V) := fun W h => (hn6.upd0 hu8).upd0 h
  have HSA8 : Hid (∀ W, Upd [] w8 W → Sl W v6 (ci64 (digs V))) := fun W h => (hs6.upd0 hu8).upd0 h
  have HS8 : Hid (∀ W, Upd [] w8 W → Sl W (.slice a2 ll c2) (cu64 L)) := fun W h => ((HS2.out.upd0 HU4.out).upd0 hu6).upd0 (hu8.trans0 h)
  have HUT : Hid (∀ W, Upd [] w8 W → Upd [] w W) := fun W h => HU1.out.trans0 (HU4.out.trans0 (hu6.trans0 (hu8.trans0 h)))
  have HIS : Hid (∀ W, Upd [] w8 W → Calls Tryd.prog 21 #[.agg #[.slice x4 n c4], v6] W fun e w' => e = .returned (.bool true) ∧ Upd [] W w') := fun W h => is_any _ _ V W (HA8.out W h) (HSA8.out W h) (HT.out _ (HUT.out _ h)) (by have := HVL.out V rfl; omega) (by have := HVD.out; omega)
  have HW8 := Lib.hid hw8
  have HK5 := Lib.hid hk5
  have hrf : Upd [] w8 w8 := Upd.refl _ _
  have HR8 := Lib.hid hrf
  clear hu6 hs6 hn6 hu8 hb5 hk5 hw8 hrf HN4 HU4 HS2
  go_upto_block 0 with fail
  rw [← HW8.out]
  rw [← HK5.out]
  go_cut [7] (fun v7 wx => v7 = .int .i64 (n : Int) ∧ Hid (L.take n = wds V ∧ ∀ j, n ≤ j → j < ll → L[j]? = some 0) ∧ wx = w8)
  case first =>
    go_wp2_with fail
    go_loop [7] (fun v7 => ∃ k : Nat, k ≤ ll ∧ v7 = .int .i64 k ∧ Hid (∀ j, k ≤ j → j < ll → L[j]? = some 0)) (fun v7 => (intOf v7).toNat)
    case atStart => exact ⟨ll, Nat.le_refl _, rfl, fun j h1 h2 => by omega⟩
    case round =>
      obtain ⟨k, hk, rfl, HZ⟩ := hrel
      by_cases hk0 : k = 0
      · subst hk0
        have HR : Hid (n = 0 ∧ L.take n = wds V ∧ ∀ j, n ≤ j → j < ll → L[j]? = some 0) := by
          have hv0 : V = 0 := by
            rw [HEV.out]
            exact wval_zeros _ (fun d hd => by
              obtain ⟨j, hj, rfl⟩ := List.mem_iff_getElem.1 hd
              have := HZ.out j (Nat.zero_le _) (by rw [HLL.out]; exact hj)
              rw [List.getElem?_eq_getElem hj] at this
              simpa using this)
          have hn0 : n = 0 := by rw [HNN.out, hv0, wds_zero]; rfl
          exact ⟨hn0, by rw [hn0, hv0, wds_zero]; rfl, fun j _ h => HZ.out j (Nat.zero_le _) h⟩
        go_wp2
        go_meet
        exact ⟨by rw [HR.out.1]; rfl, HR.out.2, rfl⟩
      · obtain ⟨b, o, cap', hv, hc⟩ := sl_at (HS8.out w8 HR8.out) (by rw [cu64_nil]; rintro rfl; have := HLL.out; simp at this; omega)
        obtain ⟨rfl, rfl⟩ : a2 = some ⟨b, o, none⟩ ∧ c2 = cap' := by simp at hv; exact ⟨hv.1, hv.2.2⟩
        have hll := HLL.out
        have hcell := hc (k - 1) (by rw [cu64_length]; omega)
        rw [cu64_getD _ _ (by omega)] at hcell
        have HX : Hid (L[k - 1]? = some (L.getD (k - 1) 0)) := by show _ = _; rw [List.getElem?_eq_getElem (show k - 1 < L.length by omega)]; simp [show k - 1 < L.length by omega]
        have i0 : (0 : Int) ≤ (k : Int) - 1 := by omega
        have i1 : (k : Int) - 1 < (ll : Int) := by omega
        have i2 : ((k : Int) - 1).toNat = k - 1 := by omega
        have i3 : decide (0 < k) = true := by simp; omega
        have i4 : IntKind.i64.wrap ((k : Int) - 1) = (k : Int) - 1 := IntWalk.i64_in _ (by omega)
        clear hc hv hll
        rw [HW8.out, HK5.out] at *
        generalize L.getD (k - 1) 0 = x at *
        by_cases hx : x = 0
        · subst hx
          go_wp2
          refine ⟨⟨k - 1, by omega, by rw [Int.natCast_sub (by omega)]; rfl, fun j h1 h2 => ?_⟩, by simp [intOf]; omega⟩
          rcases Nat.lt_or_ge j k with h | h
          · obtain rfl : j = k - 1 := by omega
            exact HX.out
          · exact HZ.out j h h2
        · have hx' : ((x : Int) == 0) = false := by simp; omega
          go_wp2
          have hh := HLL.out
          have ht := fit_wds L k HPW.out (by omega) (.inr (by rw [HX.out]; simpa using hx)) (fun j h1 h2 => HZ.out j h1 (by omega))
          have hkn : k = n := by
            rw [HNN.out, HEV.out, ← ht, List.length_take]; omega
          go_meet
          exact ⟨by rw [hkn], ⟨by rw [← hkn, HEV.out]; exact ht, fun j h1 h2 => HZ.out j (by omega) h2⟩, rfl⟩
  case rest =>
    obtain ⟨rfl, HTR, rfl⟩ := hcut
    have b5 := HBX.out wc HR8.out
    have HWD := Lib.hid (words_any _ V wc (HA8.out _ HR8.out) (by have := HVL.out V rfl; omega))
    rw [← HNN.out] at HWD
    go_wp2_with fail
    refine HWD.out.mono ?_
    rintro e w9 ⟨vw, rfl, how, hu9⟩
    obtain ⟨aw, cw, rfl⟩ := own_ex how
    have HOW := Lib.hid how
    have HU9 := Lib.hid hu9
    have HSZ := Lib.hid hu9.size
    clear how hu9 b5 HWD
    have b5 := HBX.out w9 HU9.out
    have hnn : ((n : Int) != (n : Int)) = false := by simp
    go_wp2_with fail
    refine (bits_any _ V w9 (HA8.out _ HU9.out) (by have := HVL.out V rfl; omega)).mono ?_
    rintro e w10 ⟨rfl, hu10⟩
    have HU10 := Lib.hid (HU9.out.trans0 hu10)
    have H10 := Lib.hid hu10
    clear hu10 b5
    go_wp2_with fail
    refine (rbits_any _ V w10 (HSA8.out _ HU10.out) (by have := HVD.out; omega)).mono ?_
    rintro e w11 ⟨rfl, hu11⟩
    have HU11 := Lib.hid (HU10.out.trans0 hu11)
    have H11 := Lib.hid (H10.out.trans0 hu11)
    clear hu11
    have b5 := HBX.out w11 HU11.out
    obtain ⟨nb, hnb⟩ : ∃ k, k = nbits V := ⟨_, rfl⟩
    rw [← hnb]
    have hbb : ((nb : Int) != (nb : Int)) = false := by simp
    clear hnb
    go_wp2_with fail
    refine (zero_any _ V w11 (HA8.out _ HU11.out)).mono ?_
    rintro e w12 ⟨rfl, hu12⟩
    have HU12 := Lib.hid (HU11.out.trans0 hu12)
    have H12 := Lib.hid (H11.out.trans0 hu12)
    clear hu12 b5
    have b5 := HBX.out w12 HU12.out
    have hz0 : ((n : Int) == 0) = decide (V = 0) := by
      rw [Bool.eq_iff_iff, beq_iff_eq, decide_eq_true_eq, ← wds_length_zero, ← HNN.out]; omega
    obtain ⟨z, hz⟩ : ∃ z, z = decide (V = 0) := ⟨_, rfl⟩
    rw [← hz] at hz0 ⊢
    have hzz : (z != z) = false := by simp
    have HZ := Lib.hid hz
    clear hz
    go_wp2_with fail
    refine (HIS.out w12 HU12.out).mono ?_
    rintro e w13 ⟨rfl, hu13⟩
    have HU13 := Lib.hid (HU12.out.trans0 hu13)
    have H13 := Lib.hid (H12.out.trans0 hu13)
    have HO13 := Lib.hid (ownsRow_upd HOW.out H13.out (by simp))
    clear hu13 b5
    have H0 : Hid (w13.ownsRow wc.heap.size 31 1 (.slice aw n cw) n (cu64 (wds V)) ∧ (wds V).length = n ∧ (∀ j, 0 ≤ j → (wds V).getD j 0 = (wds V).getD j 0) ∧ (∀ d ∈ wds V, d < 18446744073709551616) ∧ Upd [] wc w13) := ⟨HO13.out, HNN.out.symm, fun _ _ => rfl, wds_lt V, HU13.out⟩
    go_wp2_with fail
    go_loopw [63] (fun v63 wr => ∃ (i : Nat) (M : List Nat), i ≤ n ∧ v63 = .int .i64 i ∧ Hid (wr.ownsRow wc.heap.size 31 1 (.slice aw n cw) n (cu64 M) ∧ M.length = n ∧ (∀ j, i ≤ j → M.getD j 0 = (wds V).getD j 0) ∧ (∀ d ∈ M, d < 18446744073709551616) ∧ Upd [] wc wr)) (fun v63 _ => n - (intOf v63).toNat)
    case atStart => exact ⟨0, wds V, Nat.zero_le _, rfl, H0.out.1, H0.out.2.1, fun _ _ => rfl, wds_lt V, HU13.out⟩
    case round =>
      obtain ⟨i, M, hi, rfl, HI⟩ := hrel
      by_cases hlt : i < n
      · obtain ⟨i1, i2, i3, i4, i5⟩ := HI.out
        obtain ⟨gw, hgw⟩ : ∃ g, aw = some ⟨g, 0, none⟩ := by
          rcases i1.2 with ⟨h, h0⟩ | ⟨g, cap, cur, h, _⟩
          · omega
          · simp only [Value.slice.injEq] at h; exact ⟨g, h.1⟩
        subst hgw
        have kx := i1.cellAt i (by omega)
        rw [cu64_getD _ _ (by omega)] at kx
        have kf := i1.frozenAt i
        obtain ⟨b, o, cap', hv, hc⟩ := sl_at (HS8.out wr i5) (by rw [cu64_nil]; rintro rfl; have h3 := HLL.out; simp at h3; have h4 := congrArg List.length HTR.out.1; rw [← HNN.out] at h4; simp at h4; omega)
        obtain ⟨rfl, rfl⟩ : a2 = some ⟨b, o, none⟩ ∧ c2 = cap' := by simp at hv; exact ⟨hv.1, hv.2.2⟩
        have hnl : n ≤ ll := by have h4 := congrArg List.length HTR.out.1; rw [← HNN.out, List.length_take, ← HLL.out] at h4; omega
        have ky := hc i (by rw [cu64_length, ← HLL.out]; omega)
        rw [cu64_getD _ _ (by rw [← HLL.out]; omega)] at ky
        have hsame : M.getD i 0 = L.getD i 0 := by
          rw [i3 i (Nat.le_refl _), HEV.out]
          exact (trim_getD L n (by rw [← HLL.out]; exact hnl) (by rw [← HEV.out]; exact HTR.out.1) (fun j h1 h2 => HTR.out.2 j h1 (by rw [HLL.out]; exact h2)) i).symm
        rw [hsame] at kx
        have hgl := (i1.lt gw rfl).1
        have hxl : L.getD i 0 < 18446744073709551616 := getD_lt HPW.out i
        obtain ⟨x, hx⟩ : ∃ x, x = L.getD i 0 := ⟨_, rfl⟩
        rw [← hx] at kx ky hxl
        obtain ⟨x1, hx1⟩ : ∃ k, k = (x + 1) % 18446744073709551616 := ⟨_, rfl⟩
        have hwx : IntKind.u64.wrap ((x : Int) + 1) = (x1 : Int) := by rw [IntKind.wrap_u64, hx1]; omega
        have hxx : ((x : Int) != (x : Int)) = false := by simp
        have j0 : (0 : Int) ≤ (i : Int) := by omega
        have j1 : (i : Int) < (n : Int) := by omega
        have j2 : (i : Int) < (ll : Int) := by omega
        have HST : Hid (∀ k, ((wr.drewN k).setCell ⟨gw, i, none⟩ (.int .u64 (x1 : Int))).ownsRow wc.heap.size 31 1 (.slice (some ⟨gw, 0, none⟩) n cw) n (cu64 (M.set i x1)) ∧ (M.set i x1).length = n ∧ (∀ j, i + 1 ≤ j → (M.set i x1).getD j 0 = (wds V).getD j 0) ∧ (∀ d ∈ M.set i x1, d < 18446744073709551616) ∧ Upd [] wc ((wr.drewN k).setCell ⟨gw, i, none⟩ (.int .u64 (x1 : Int)))) := fun k => by
          refine ⟨?_, by simpa using i2, fun j hj => ?_, fun d hd => ?_, (i5.drewN k).setCell (.inr hgl) _⟩
          · rw [cu64_set]
            exact ((ownsRow_upd i1 ((Upd.refl [] _).drewN k) (by simp)).stored i _).1
          · rw [List.getD_eq_getElem?_getD, List.getElem?_set_ne (by omega), ← List.getD_eq_getElem?_getD]
            exact i3 j (by omega)
          · rcases List.mem_or_eq_of_mem_set hd with h | h
            · exact i4 d h
            · rw [h, hx1]; exact Nat.mod_lt _ (by decide)
        clear i1 i2 i3 i4 i5 hc hv hsame hgl hx hx1 hnl
        go_wp2_with fail
        go_quiet (fail)
        go_wp2_with fail
        go_roundw
        case rel => exact ⟨i + 1, _, by omega, by go_num, HST.out _⟩
        case measure => simp [intOf]; omega
      · obtain rfl : i = n := by omega
        have HUR := Lib.hid HI.out.2.2.2.2
        have HNL : Hid (i ≤ ll) := by show _ ≤ _; have h4 := congrArg List.length HTR.out.1; rw [← HNN.out, List.length_take, ← HLL.out] at h4; omega
        have HGD : Hid (∀ j, L.getD j 0 = V / 18446744073709551616 ^ j % 18446744073709551616) := fun j => by
          rw [← wds_getD, trim_getD L i (by rw [← HLL.out]; exact HNL.out) (by rw [← HEV.out]; exact HTR.out.1) (fun j h1 h2 => HTR.out.2 j h1 (by rw [HLL.out]; exact h2)) j, ← HEV.out]
        clear H0
        go_upto_region 18 with fail
        go_cut [10] (fun v10 wx => v10 = .bool (bitOf V t) ∧ wx = wr)
        case first =>
          by_cases hneg : t < 0
          · have HB : Hid (bitOf V t = false) := by show _ = _; unfold bitOf; rw [decide_eq_false (by omega)]; rfl
            have g1 : decide (0 ≤ t) = false := by simp; omega
            go_wp2_with fail
            go_meet
            exact ⟨by rw [HB.out], rfl⟩
          · obtain ⟨k, rfl⟩ := Int.eq_ofNat_of_zero_le (show 0 ≤ t by omega)
            obtain ⟨q, hq⟩ : ∃ q, q = k / 64 := ⟨_, rfl⟩
            obtain ⟨sh, hs⟩ : ∃ s, s = k % 64 := ⟨_, rfl⟩
            have j1 : (k : Int) / 64 = (q : Int) := by omega
            have j2 : (k : Int) % 64 = (sh : Int) := by omega
            have hs64 : sh < 64 := by omega
            by_cases hql : q < ll
            · have g2 : decide (q < ll) = true := by simpa using hql
              obtain ⟨b, o, cap', hv, hc⟩ := sl_at (HS8.out wr HUR.out) (by rw [cu64_nil]; rintro rfl; have h3 := HLL.out; simp at h3; omega)
              obtain ⟨rfl, rfl⟩ : a2 = some ⟨b, o, none⟩ ∧ c2 = cap' := by simp at hv; exact ⟨hv.1, hv.2.2⟩
              have ky := hc q (by rw [cu64_length, ← HLL.out]; omega)
              rw [cu64_getD _ _ (by rw [← HLL.out]; omega)] at ky
              have hxl : L.getD q 0 < 18446744073709551616 := getD_lt HPW.out q
              have hgd := HGD.out q
              obtain ⟨x, hx⟩ : ∃ x, x = L.getD q 0 := ⟨_, rfl⟩
              rw [← hx] at ky hxl hgd
              have HBIT : Hid ((bits .and .u64 ((x : Int) / 2 ^ sh) 1 == 1) = bitOf V (k : Int)) := by
                show _ = _
                unfold bitOf
                rw [shr_nat, u64_and_one _ (Nat.lt_of_le_of_lt (Nat.div_le_self _ _) hxl), decide_eq_true (show (0 : Int) ≤ (k : Int) by omega), Bool.true_and, Bool.eq_iff_iff, beq_iff_eq, decide_eq_true_eq, show ((k : Int)).toNat = k by omega, ← bit_word V k, ← hq, ← hs, ← hgd]
                omega
              have j3 : (0 : Int) ≤ (q : Int) := by omega
              have j4 : (q : Int) < (ll : Int) := by omega
              clear hc hv hx hgd hq hs hneg hql
              go_wp2_with fail
              go_meet
              exact ⟨by rw [← HBIT.out], rfl⟩
            · have g2 : decide (q < ll) = false := by simpa using hql
              have HB : Hid (bitOf V (k : Int) = false) := by
                show _ = _
                unfold bitOf
                rw [show ((k : Int)).toNat = k by omega, bits_none V k ll (by rw [HLL.out]; exact HVW.out) (by omega)]; simp
              clear hq hs hneg hql
              go_wp2_with fail
              go_meet
              exact ⟨by rw [HB.out], rfl⟩
        case rest =>
          obtain ⟨rfl, rfl⟩ := hcut
          obtain ⟨M, hM⟩ : ∃ M : Nat, M = t.toNat := ⟨_, rfl⟩
          have HM := Lib.hid hM
          have hMt : max 0 t = (M : Int) := by omega
          have hM2 : (M : Int) ≤ 9223372036854775807 := by omega
          clear hM
          go_upto_region 19 with fail
          go_cut [11] (fun v11 wx => v11 = .int .i64 (M : Int) ∧ wx = wc)
          case first =>
            go_wp2_with fail
            go_meet
            exact ⟨rfl, rfl⟩
          case rest =>
            obtain ⟨rfl, rfl⟩ := hcut
            clear hMt
            clear hz0
            obtain ⟨c, hcd⟩ : ∃ c, c = decide (i = 0 ∨ i = 1 ∧ V < M) := ⟨_, rfl⟩
            have HCD := Lib.hid hcd
            clear hcd
            go_upto_region 21 with fail
            go_cut [119] (fun v119 wx => v119 = .bool c ∧ wx = wc)
            case first =>
              rcases Nat.lt_or_ge i 2 with hi2 | hi2
              · rcases Nat.eq_zero_or_pos i with hi0 | hi0
                · subst hi0
                  have HC : Hid (c = true) := by show _ = _; rw [HCD.out]; simp
                  go_wp2_with fail
                  go_meet
                  exact ⟨by rw [HC.out], rfl⟩
                · rcases Nat.lt_or_ge V M with hvm | hvm
                  · have HC : Hid (c = true) := by show _ = _; rw [HCD.out]; simp; omega
                    obtain rfl : i = 1 := by omega
                    have h0 : 0 < ll := by have := HNL.out; omega
                    obtain ⟨b, o, cap', hv, hc⟩ := sl_at (HS8.out wc HUR.out) (by rw [cu64_nil]; rintro rfl; have h3 := HLL.out; simp at h3; omega)
                    obtain ⟨rfl, rfl⟩ : a2 = some ⟨b, o, none⟩ ∧ c2 = cap' := by simp at hv; exact ⟨hv.1, hv.2.2⟩
                    have ky := hc 0 (by rw [cu64_length, ← HLL.out]; omega)
                    rw [cu64_getD _ _ (by rw [← HLL.out]; omega)] at ky
                    have hVW1 : V < 18446744073709551616 := by
                      have := (wds_length_le_iff V 1).1 (by rw [← HNN.out]; exact Nat.le_refl _); simpa using this
                    have hg0 : L.getD 0 0 = V := by
                      rw [HGD.out 0]; simp; omega
                    rw [hg0] at ky
                    have ky2 := ky
                    rw [Nat.add_zero] at ky2
                    have j4 : (0 : Int) < (ll : Int) := by omega
                    clear hc hv hg0 h0
                    go_wp2_with fail
                    go_meet
                    exact ⟨by rw [HC.out] <;> simp <;> omega, rfl⟩
                  · have HC : Hid (c = false) := by show _ = _; rw [HCD.out]; simp; omega
                    obtain rfl : i = 1 := by omega
                    have h0 : 0 < ll := by have := HNL.out; omega
                    obtain ⟨b, o, cap', hv, hc⟩ := sl_at (HS8.out wc HUR.out) (by rw [cu64_nil]; rintro rfl; have h3 := HLL.out; simp at h3; omega)
                    obtain ⟨rfl, rfl⟩ : a2 = some ⟨b, o, none⟩ ∧ c2 = cap' := by simp at hv; exact ⟨hv.1, hv.2.2⟩
                    have ky := hc 0 (by rw [cu64_length, ← HLL.out]; omega)
                    rw [cu64_getD _ _ (by rw [← HLL.out]; omega)] at ky
                    have hVW1 : V < 18446744073709551616 := by
                      have := (wds_length_le_iff V 1).1 (by rw [← HNN.out]; exact Nat.le_refl _); simpa using this
                    have hg0 : L.getD 0 0 = V := by
                      rw [HGD.out 0]; simp; omega
                    rw [hg0] at ky
                    have ky2 := ky
                    rw [Nat.add_zero] at ky2
                    have j4 : (0 : Int) < (ll : Int) := by omega
                    clear hc hv hg0 h0
                    go_wp2_with fail
                    go_meet
                    exact ⟨by rw [HC.out] <;> simp <;> omega, rfl⟩
              · have HC : Hid (c = false) := by show _ = _; rw [HCD.out]; simp; omega
                have g0 : ((i : Int) == 0) = false := by simp; omega
                have g1 : ((i : Int) == 1) = false := by simp; omega
                have g2 : (i == 0) = false := by simp; omega
                have g3 : (i == 1) = false := by simp; omega
                have g4 : ¬ i = 0 := by omega
                have g5 : ¬ i = 1 := by omega
                clear hi2
                go_wp2_with fail
                go_meet
                exact ⟨by rw [HC.out], rfl⟩
            case rest =>
            obtain ⟨rfl, rfl⟩ := hcut
            go_upto_if 119 with fail
            go_cut [12] (fun v12 wx => v12 = .int .i64 ((min V M : Nat) : Int) ∧ wx = wc)
            case first =>
              cases c with
              | false =>
                have HMN : Hid (((min V M : Nat) : Int) = (M : Int)) := by
                  have h3 := of_decide_eq_false HCD.out.symm
                  have h5 : M ≤ V := by
                    rcases Nat.lt_or_ge i 2 with hi2 | hi2
                    · rcases Nat.eq_zero_or_pos i with hi0 | hi0
                      · exact absurd (.inl hi0) h3
                      · rcases Nat.lt_or_ge V M with hvm | hvm
                        · exact absurd (.inr ⟨by omega, hvm⟩) h3
                        · exact hvm
                    · have : ¬ V < 18446744073709551616 := fun h => by
                        have := (wds_length_le_iff V 1).2 (by simpa using h); rw [← HNN.out] at this; omega
                      omega
                  show _ = _; rw [Nat.min_eq_right h5]
                go_wp2_with fail
                go_meet
                exact ⟨by rw [HMN.out], rfl⟩
              | true =>
                have h3 := of_decide_eq_true HCD.out.symm
                rcases h3 with hi0 | ⟨hi1, hvm⟩
                · subst hi0
                  have HV0 : Hid (((min V M : Nat) : Int) = 0) := by
                    have := wds_length_zero.1 HNN.out.symm
                    show _ = _; rw [this]; simp
                  go_wp2_with fail
                  go_meet
                  exact ⟨by rw [HV0.out], rfl⟩
                · have HMN : Hid (((min V M : Nat) : Int) = (V : Int)) := by show _ = _; rw [Nat.min_eq_left (by omega)]
                  obtain rfl : i = 1 := by omega
                  have h0 : 0 < ll := by have := HNL.out; omega
                  obtain ⟨b, o, cap', hv, hc⟩ := sl_at (HS8.out wc HUR.out) (by rw [cu64_nil]; rintro rfl; have h3 := HLL.out; simp at h3; omega)
                  obtain ⟨rfl, rfl⟩ : a2 = some ⟨b, o, none⟩ ∧ c2 = cap' := by simp at hv; exact ⟨hv.1, hv.2.2⟩
                  have ky := hc 0 (by rw [cu64_length, ← HLL.out]; omega)
                  rw [cu64_getD _ _ (by rw [← HLL.out]; omega)] at ky
                  have hVW1 : V < 18446744073709551616 := by
                    have := (wds_length_le_iff V 1).1 (by rw [← HNN.out]; exact Nat.le_refl _); simpa using this
                  have hg0 : L.getD 0 0 = V := by
                    rw [HGD.out 0]; simp; omega
                  rw [hg0] at ky
                  have ky2 := ky
                  rw [Nat.add_zero] at ky2
                  have j4 : (0 : Int) < (ll : Int) := by omega
                  clear hc hv hg0 h0
                  go_wp2_with fail
                  go_meet
                  exact ⟨by rw [HMN.out], rfl⟩
            case rest =>
              obtain ⟨rfl, rfl⟩ := hcut
              have b5 := HBX.out wc HUR.out
              have HBT := Lib.hid (bit_any _ V t wc (HA8.out _ HUR.out) h2 h1)
              obtain ⟨bb, hbb⟩ : ∃ b, b = bitOf V t := ⟨_, rfl⟩
              rw [← hbb] at HBT ⊢
              obtain ⟨mm, hmm⟩ : ∃ m, m = min V M := ⟨_, rfl⟩
              have HMM : Hid (min V t.toNat = mm) := by show _ = _; rw [hmm, ← HM.out]
              rw [← hmm]
              have hb1 : (bb == bb) = true := by simp
              have hm1 : ((mm : Int) == (mm : Int)) = true := by simp
              clear hbb hmm hM2
              go_wp2_with fail
              refine HBT.out.mono ?_
              rintro e w14 ⟨rfl, hu14⟩
              have HU14 := Lib.hid (HUR.out.trans0 hu14)
              clear hu14 b5 HBT
              have b5 := HBX.out w14 HU14.out
              go_wp2_with fail
              refine (int_any _ V t w14 (HA8.out _ HU14.out) h2).mono ?_
              rintro e w15 ⟨rfl, hu15⟩
              rw [HMM.out]
              have HU15 := Lib.hid (HU14.out.trans0 hu15)
              clear hu15 b5
              have b5 := HBX.out w15 HU15.out
              go_wp2_with fail
              refine (HIS.out w15 HU15.out).mono ?_
              rintro e w16 ⟨rfl, hu16⟩
              have HU16 := Lib.hid (HUT.out _ (HU15.out.trans0 hu16))
              clear hu16 b5
              go_wp2_with fail
              go_ret
              exact ⟨rfl, HU16.out⟩
end Go.Proofs.YtibfdldllaopdaaDoor
