/- The law NatDivides (layer 5). -/
import Derived.Test.YtcehkflkekefpaaDoorNatIs
import Derived.Test.YtcehkflkekefpaaDoorNatWake
import Derived.Test.YtcehkflkekefpaaDoorNatFewB
import Derived.Test.YtcehkflkekefpaaDoorNatSub
import Derived.Test.YtcehkflkekefpaaDoorNatSum
import Derived.Test.YtcehkflkekefpaaDoorNatMul2
import Derived.Deep.RegionHeld3
import Derived.Test.YtcehkflkekefpaaDoorNatDMany
import Derived.Test.YtcehkflkekefpaaDoorRefDiv
namespace Go.Proofs.YtcehkflkekefpaaDoor
open Go.RowKit Go.Proofs.Tm
set_option linter.unusedVariables false
set_option linter.unusedSimpArgs false
set_option maxRecDepth 20000

set_option maxHeartbeats 3200000 in
theorem natDivides_law (a0 : Option Addr) (cap0 : Nat) (p : List Nat) (a1 : Option Addr) (cap1 : Nat) (q : List Nat) (w : World) (ht : Tab w)
    (hp : Sl w (.slice a0 p.length cap0) (cu64 p)) (hpw : ∀ d ∈ p, d < 18446744073709551616) (hq : Sl w (.slice a1 q.length cap1) (cu64 q)) (hqw : ∀ d ∈ q, d < 18446744073709551616) :
    Calls Tryd.prog 3 #[.slice a0 p.length cap0, .slice a1 q.length cap1] w fun e w' => e = .returned (.bool true) ∧ Upd [] w w' := by
  have HT : Hid (∀ W, Upd [] w W → Tab W) := fun W h => ht.upd0 h
  have HP : Hid (∀ W, Upd [] w W → Calls Tryd.prog 13 #[.slice a0 p.length cap0, .int .i64 7] W (RFew (p.take 7) W)) := fun W h => few_any a0 cap0 p 7 (by decide) W (hp.upd0 h)
  have HQ : Hid (∀ W, Upd [] w W → Calls Tryd.prog 13 #[.slice a1 q.length cap1, .int .i64 5] W (RFew (q.take 5) W)) := fun W h => few_any a1 cap1 q 5 (by decide) W (hq.upd0 h)
  have hbp := few_bounds p 7 hpw
  have hbq := few_bounds q 5 hqw
  have HPW : Hid (∀ d ∈ p.take 7, d < 18446744073709551616) := fun d hd => hpw d (List.mem_of_mem_take hd)
  have HQW : Hid (∀ d ∈ q.take 5, d < 18446744073709551616) := fun d hd => hqw d (List.mem_of_mem_take hd)
  have HPL : Hid ((p.take 7).length ≤ 7) := by show _ ≤ _; rw [List.length_take]; omega
  have HQL : Hid ((q.take 5).length ≤ 5) := by show _ ≤ _; rw [List.length_take]; omega
  obtain ⟨A, hA⟩ : ∃ A, A = wval (p.take 7) := ⟨_, rfl⟩
  obtain ⟨B, hB⟩ : ∃ A, A = wval (q.take 5) := ⟨_, rfl⟩
  rw [← hA] at hbp
  rw [← hB] at hbq
  have HEA := Lib.hid hA
  have HEB := Lib.hid hB
  have HBP : Hid (∀ n, n = A → (wds n).length ≤ 7 ∧ (digs n).length ≤ 35) := fun n h => by rw [h]; exact hbp
  have HBQ : Hid (∀ n, n = B → (wds n).length ≤ 5 ∧ (digs n).length ≤ 25) := fun n h => by rw [h]; exact hbq
  obtain ⟨lp, hlp⟩ : ∃ l, l = p.length := ⟨_, rfl⟩
  obtain ⟨lq, hlq⟩ : ∃ l, l = q.length := ⟨_, rfl⟩
  rw [← hlp] at HP ⊢
  rw [← hlq] at HQ ⊢
  clear ht hp hpw hq hqw hbp hbq hA hB hlp hlq
  go_enter Tryd.func3, Tryd.ntmps3
  go_wp2_with fail
  refine (awake_any _ (HT.out _ (Upd.refl _ _))).mono ?_
  rintro e w1 ⟨rfl, hu1⟩
  have HU1 := Lib.hid hu1
  clear hu1
  go_wp2_with fail
  refine (HP.out _ HU1.out).mono ?_
  rintro e w2 ⟨v2, rfl, hs2, rfl⟩
  have HS2 := Lib.hid hs2
  clear hs2
  go_wp2_with fail
  refine (HQ.out _ HU1.out).mono ?_
  rintro e w3 ⟨v3, rfl, hs3, rfl⟩
  have HS3 := Lib.hid hs3
  clear hs3
  go_wp2_with fail
  refine (of_any _ _ _ HS2.out (by have := HPL.out; omega) HPW.out).mono ?_
  rintro e w4 ⟨v4, rfl, hn4, hu4⟩
  rw [← HEA.out] at hn4
  have HN4 := Lib.hid hn4
  have HU4 := Lib.hid hu4
  clear hn4 hu4
  go_wp2_with fail
  refine (of_any _ _ _ (HS3.out.upd0 HU4.out) (by have := HQL.out; omega) HQW.out).mono ?_
  rintro e w5 ⟨v5, rfl, hn5, hu5⟩
  rw [← HEB.out] at hn5
  have HN5 := Lib.hid hn5
  have HU5 := Lib.hid (HU4.out.trans0 hu5)
  have HN4' := Lib.hid (HN4.out.upd0 hu5)
  clear hn5 hu5
  go_wp2_with fail
  refine (rof_any _ _ _ (HS2.out.upd0 HU5.out) HPW.out (by have := HPL.out; omega)).mono ?_
  rintro e w6 ⟨v6, rfl, hs6, hu6⟩
  rw [← HEA.out] at hs6
  have HS6 := Lib.hid hs6
  have HU56 := Lib.hid hu6
  have HU6 := Lib.hid (HU5.out.trans0 hu6)
  clear hs6 hu6
  go_wp2_with fail
  refine (rof_any _ _ _ (HS3.out.upd0 HU6.out) HQW.out (by have := HQL.out; omega)).mono ?_
  rintro e w7 ⟨v7, rfl, hs7, hu7⟩
  rw [← HEB.out] at hs7
  have HU57 := Lib.hid (HU56.out.trans0 hu7)
  have hn4 := HN4'.out.upd0 HU57.out
  have hn5 := HN5.out.upd0 HU57.out
  have hs6 := HS6.out.upd0 hu7
  have hu17 := HU1.out.trans0 (HU6.out.trans0 hu7)
  obtain ⟨x4, c4, rfl, _, _⟩ := hn4.open
  obtain ⟨x5, c5, rfl, _, _⟩ := hn5.open
  generalize (wds A).length = l4 at *
  generalize (wds B).length = l5 at *
  have HNA := Lib.hid hn4
  have HNB := Lib.hid hn5
  have HSA := Lib.hid hs6
  have HSB := Lib.hid hs7
  have HU := Lib.hid hu17
  clear hn4 hn5 hs6 hs7 hu17 hu7 HN4 HN5 HN4' HS6 HU56 HU57 HS2 HS3 HU4 HU5 HU6
  -- CASES
  obtain ⟨w8, hw8⟩ : ∃ W, W = (w7.alloc (.cells #[.slice x4 l4 c4] 26)).alloc (.cells #[.slice x5 l5 c5] 26) := ⟨_, rfl⟩
  obtain ⟨k5, hk5⟩ : ∃ k, k = w7.heap.size := ⟨_, rfl⟩
  obtain ⟨hu8, hbx8⟩ := two_boxes w7 _ _ _ _ w8 hw8 k5 hk5
  have HBX : Hid (∀ W, Upd [] w8 W → W.cell? ⟨k5, 0, none⟩ = some (.slice x4 l4 c4) ∧ W.cell? ⟨k5 + 1, 0, none⟩ = some (.slice x5 l5 c5)) := hbx8
  have HA8 : Hid (∀ W, Upd [] w8 W → NV W (.agg #[.slice x4 l4 c4]) A) := fun W h => (HNA.out.upd0 hu8).upd0 h
  have HB8 : Hid (∀ W, Upd [] w8 W → NV W (.agg #[.slice x5 l5 c5]) B) := fun W h => (HNB.out.upd0 hu8).upd0 h
  have HSA8 : Hid (∀ W, Upd [] w8 W → Sl W v6 (ci64 (digs A))) := fun W h => (HSA.out.upd0 hu8).upd0 h
  have HSB8 : Hid (∀ W, Upd [] w8 W → Sl W v7 (ci64 (digs B))) := fun W h => (HSB.out.upd0 hu8).upd0 h
  have HUT : Hid (∀ W, Upd [] w8 W → Upd [] w W) := fun W h => HU.out.trans0 (hu8.trans0 h)
  have HW8 := Lib.hid hw8
  have HK5 := Lib.hid hk5
  have HIS : Hid (∀ W n u v, Upd [] w8 W → NV W u n → Sl W v (ci64 (digs n)) → (wds n).length ≤ 7 → Calls Tryd.prog 19 #[u, v] W fun e w' => e = .returned (.bool true) ∧ Upd [] W w') := fun W n u v h h1 h2 h3 => is_any u v n W h1 h2 (HT.out _ (HUT.out _ h)) (by omega) (by have := digs_wlen ((wds_length_le_iff _ _).1 h3); omega)
  obtain ⟨bv, bcap, hbv⟩ : ∃ a cap, v7 = .slice a (digs B).length cap := by obtain ⟨a, cap, h, _⟩ := dig_open HSB.out; exact ⟨a, cap, h⟩
  subst hbv
  obtain ⟨lB, hlB⟩ : ∃ l, l = (digs B).length := ⟨_, rfl⟩
  have HLB := Lib.hid hlB
  rw [← hlB] at HSB8 ⊢
  have hrf8 : Upd [] w8 w8 := Upd.refl _ _
  have HR8 := Lib.hid hrf8
  clear hu8 hbx8 hk5 hw8 hrf8 HNA HNB HSA HSB hlB
  go_wp2_with fail
  rw [← HW8.out]
  rw [← HK5.out]
  by_cases hB0 : B = 0
  · have hb8 := HB8.out _ HR8.out
    have hl0 : lB = 0 := by rw [HLB.out, hB0, digs_zero]; rfl
    rw [hB0] at hb8
    have HD := Lib.hid (divmod_zero _ _ A _ (HA8.out _ HR8.out) hb8)
    have hlz : ((lB : Int) == 0) = true := by rw [hl0]; rfl
    clear hb8 hl0 hB0
    refine HD.out.mono ?_
    rintro e w9 ⟨v9, v10, rfl, hn9, hn10, hu9⟩
    obtain ⟨x9, c9, rfl, _, _⟩ := hn9.open
    obtain ⟨x10, c10, rfl, _, _⟩ := hn10.open
    obtain ⟨l9, hl9⟩ : ∃ l, l = (wds 0).length := ⟨_, rfl⟩
    rw [← hl9] at hn9 hn10 ⊢
    obtain ⟨w10, hw10⟩ : ∃ W, W = (w9.alloc (.cells #[.slice x9 l9 c9] 26)).alloc (.cells #[.slice x10 l9 c10] 26) := ⟨_, rfl⟩
    obtain ⟨k9, hk9⟩ : ∃ k, k = w9.heap.size := ⟨_, rfl⟩
    obtain ⟨hu10, hbx10⟩ := two_boxes w9 _ _ _ _ w10 hw10 k9 hk9
    have HBX9 : Hid (∀ W, Upd [] w10 W → W.cell? ⟨k9, 0, none⟩ = some (.slice x9 l9 c9) ∧ W.cell? ⟨k9 + 1, 0, none⟩ = some (.slice x10 l9 c10)) := hbx10
    have HN9 : Hid (∀ W, Upd [] w10 W → NV W (.agg #[.slice x9 l9 c9]) (0)) := fun W h => (hn9.upd0 hu10).upd0 h
    have HN10 : Hid (∀ W, Upd [] w10 W → NV W (.agg #[.slice x10 l9 c10]) (0)) := fun W h => (hn10.upd0 hu10).upd0 h
    have HU10 := Lib.hid (hu9.trans0 hu10)
    have HW10 := Lib.hid hw10
    have HK9 := Lib.hid hk9
    have hrf10 : Upd [] w10 w10 := Upd.refl _ _
    have HR10 := Lib.hid hrf10
    clear hu9 hu10 hbx10 hn9 hn10 hk9 hw10 hl9 hrf10
    obtain ⟨b9, b10⟩ := HBX9.out _ HR10.out
    go_wp2_with fail
    rw [← HW10.out]
    rw [← HK9.out]
    refine (zero_any _ _ _ (HN9.out _ HR10.out)).mono ?_
    rintro e w11 ⟨rfl, hu11⟩
    have HU11 := Lib.hid hu11
    clear hu11 b9 b10
    obtain ⟨b9, b10⟩ := HBX9.out _ HU11.out
    go_wp2_with fail
    refine (zero_any _ _ _ (HN10.out _ HU11.out)).mono ?_
    rintro e w12 ⟨rfl, hu12⟩
    have HF := Lib.hid (HUT.out _ (HU10.out.trans0 (HU11.out.trans0 hu12)))
    clear hu12
    go_wp2
    go_ret
    exact ⟨rfl, HF.out⟩
  · have hlz : ((lB : Int) == 0) = false := by
      have : lB ≠ 0 := by
        rw [HLB.out]
        intro h
        have h9 := dval_digs B
        rw [List.eq_nil_of_length_eq_zero h] at h9
        exact hB0 (by rw [← h9]; rfl)
      simp; omega
    have HB0 : Hid (0 < B) := Nat.pos_of_ne_zero hB0
    refine (divmod_any _ _ A B _ (HA8.out _ HR8.out) (HB8.out _ HR8.out) HB0.out (by have := (HBP.out A rfl).1; omega)).mono ?_
    rintro e w9 ⟨v9, v10, rfl, hn9, hn10, hu9⟩
    obtain ⟨x9, c9, rfl, _, _⟩ := hn9.open
    obtain ⟨x10, c10, rfl, _, _⟩ := hn10.open
    obtain ⟨l9, hl9⟩ : ∃ l, l = (wds (A / B)).length := ⟨_, rfl⟩
    obtain ⟨l10, hl10⟩ : ∃ l, l = (wds (A % B)).length := ⟨_, rfl⟩
    rw [← hl9] at hn9 ⊢
    rw [← hl10] at hn10 ⊢
    obtain ⟨w10, hw10⟩ : ∃ W, W = (w9.alloc (.cells #[.slice x9 l9 c9] 26)).alloc (.cells #[.slice x10 l10 c10] 26) := ⟨_, rfl⟩
    obtain ⟨k9, hk9⟩ : ∃ k, k = w9.heap.size := ⟨_, rfl⟩
    obtain ⟨hu10, hbx10⟩ := two_boxes w9 _ _ _ _ w10 hw10 k9 hk9
    have HBX9 : Hid (∀ W, Upd [] w10 W → W.cell? ⟨k9, 0, none⟩ = some (.slice x9 l9 c9) ∧ W.cell? ⟨k9 + 1, 0, none⟩ = some (.slice x10 l10 c10)) := hbx10
    have HN9 : Hid (∀ W, Upd [] w10 W → NV W (.agg #[.slice x9 l9 c9]) ((A / B))) := fun W h => (hn9.upd0 hu10).upd0 h
    have HN10 : Hid (∀ W, Upd [] w10 W → NV W (.agg #[.slice x10 l10 c10]) ((A % B))) := fun W h => (hn10.upd0 hu10).upd0 h
    have HU10 := Lib.hid (hu9.trans0 hu10)
    have HW10 := Lib.hid hw10
    have HK9 := Lib.hid hk9
    have hrf10 : Upd [] w10 w10 := Upd.refl _ _
    have HR10 := Lib.hid hrf10
    clear hu9 hu10 hbx10 hn9 hn10 hk9 hw10 hl9 hl10 hrf10 hB0
    go_wp2_with fail
    rw [← HW10.out]
    rw [← HK9.out]
    refine (rdivmod_any _ _ A B _ (HSA8.out _ HU10.out) (HSB8.out _ HU10.out) (by have := (HBP.out A rfl).2; omega) (by have := (HBQ.out B rfl).2; omega) HB0.out).mono ?_
    rintro e w11 ⟨v12, v13, rfl, hs12, hs13, hu11⟩
    have HU11 := Lib.hid (HU10.out.trans0 hu11)
    have H11 := Lib.hid hu11
    obtain ⟨Q, hQ⟩ : ∃ Q, Q = A / B := ⟨_, rfl⟩
    obtain ⟨R, hR⟩ : ∃ R, R = A % B := ⟨_, rfl⟩
    rw [← hQ] at HN9 hs12
    rw [← hR] at HN10 hs13
    have hQA : Q ≤ A := by rw [hQ]; exact Nat.div_le_self _ _
    have hRB : R < B := by rw [hR]; exact Nat.mod_lt _ HB0.out
    have hsum : Q * B + R = A := by rw [hQ, hR, Nat.mul_comm]; exact Nat.div_add_mod A B
    have la := (HBP.out A rfl).1
    have lb := (HBQ.out B rfl).1
    have lq := wds_length_le hQA
    have lr := wds_length_le (Nat.le_of_lt hRB)
    have hqb : Q * B ≤ A := by omega
    have lqb := wds_length_le hqb
    have HRB := Lib.hid hRB
    have HSM := Lib.hid hsum
    have HC : Hid (∀ W, Upd [] w11 W → W.cell? ⟨k9, 0, none⟩ = some (.slice x9 l9 c9) ∧ W.cell? ⟨k9 + 1, 0, none⟩ = some (.slice x10 l10 c10) ∧ W.cell? ⟨k5, 0, none⟩ = some (.slice x4 l4 c4) ∧ W.cell? ⟨k5 + 1, 0, none⟩ = some (.slice x5 l5 c5) ∧ Upd [] w11 W) := fun W h => ⟨(HBX9.out _ (H11.out.trans0 h)).1, (HBX9.out _ (H11.out.trans0 h)).2, (HBX.out _ (HU11.out.trans0 h)).1, (HBX.out _ (HU11.out.trans0 h)).2, h⟩
    have HI1 : Hid (∀ W, Upd [] w11 W → Calls Tryd.prog 19 #[.agg #[.slice x9 l9 c9], v12] W fun e w' => e = .returned (.bool true) ∧ Upd [] W w') := fun W h => HIS.out W Q _ _ (HU11.out.trans0 h) (HN9.out W (H11.out.trans0 h)) (hs12.upd0 h) (by omega)
    have HI2 : Hid (∀ W, Upd [] w11 W → Calls Tryd.prog 19 #[.agg #[.slice x10 l10 c10], v13] W fun e w' => e = .returned (.bool true) ∧ Upd [] W w') := fun W h => HIS.out W R _ _ (HU11.out.trans0 h) (HN10.out W (H11.out.trans0 h)) (hs13.upd0 h) (by omega)
    have HI3 : Hid (∀ W, Upd [] w11 W → Calls Tryd.prog 19 #[.agg #[.slice x4 l4 c4], v6] W fun e w' => e = .returned (.bool true) ∧ Upd [] W w') := fun W h => HIS.out W A _ _ (HU11.out.trans0 h) (HA8.out W (HU11.out.trans0 h)) (HSA8.out W (HU11.out.trans0 h)) (by omega)
    have HI4 : Hid (∀ W, Upd [] w11 W → Calls Tryd.prog 19 #[.agg #[.slice x5 l5 c5], .slice bv lB bcap] W fun e w' => e = .returned (.bool true) ∧ Upd [] W w') := fun W h => HIS.out W B _ _ (HU11.out.trans0 h) (HB8.out W (HU11.out.trans0 h)) (HSB8.out W (HU11.out.trans0 h)) (by omega)
    have HCM : Hid (∀ W, Upd [] w11 W → Calls Tryd.prog 20 #[.agg #[.slice x10 l10 c10], .agg #[.slice x5 l5 c5]] W fun e w' => e = .returned (.int .i64 (-1)) ∧ Upd [] W w') := fun W h => by
      have := cmp_any _ _ R B W (HN10.out W (H11.out.trans0 h)) (HB8.out W (HU11.out.trans0 h)) (by omega)
      rw [cmpN_lt HRB.out] at this
      exact this
    have HML : Hid (∀ W, Upd [] w11 W → Calls Tryd.prog 22 #[.agg #[.slice x9 l9 c9], .agg #[.slice x5 l5 c5]] W (RNat (Q * B) W)) := fun W h => mul_any _ _ _ _ W (HN9.out W (H11.out.trans0 h)) (HB8.out W (HU11.out.trans0 h)) (by omega) (by omega)
    have HAD : Hid (∀ W v, Upd [] w11 W → NV W v (Q * B) → Calls Tryd.prog 21 #[v, .agg #[.slice x10 l10 c10]] W (RNat A W)) := fun W v h hv => by
      have := add_any _ _ (Q * B) R W hv (HN10.out W (H11.out.trans0 h)) (by omega) (by omega)
      rw [HSM.out] at this
      exact this
    have HCE : Hid (∀ W v, Upd [] w11 W → NV W v A → Calls Tryd.prog 20 #[v, .agg #[.slice x4 l4 c4]] W fun e w' => e = .returned (.int .i64 0) ∧ Upd [] W w') := fun W v h hv => by
      have := cmp_any _ _ A A W hv (HA8.out W (HU11.out.trans0 h)) (by omega)
      unfold cmpN at this
      rw [if_neg (Nat.lt_irrefl _), if_pos rfl] at this
      exact this
    have hrf : Upd [] w11 w11 := Upd.refl _ _
    clear hu11 hs12 hs13 hQ hR hQA hRB hsum la lb lq lr hqb lqb
    go_wp2_with fail
    go_region_held3 (fun W => W.cell? ⟨k9, 0, none⟩ = some (.slice x9 l9 c9) ∧ W.cell? ⟨k9 + 1, 0, none⟩ = some (.slice x10 l10 c10) ∧ W.cell? ⟨k5, 0, none⟩ = some (.slice x4 l4 c4) ∧ W.cell? ⟨k5 + 1, 0, none⟩ = some (.slice x5 l5 c5) ∧ Upd [] w11 W)
      (first
        | exact HC.out _ huy
        | exact HC.out _ huy.drew
        | exact HC.out _ hrf.drew
        | exact HC.out _ hrf)
      (first
        | (go_at_call 19; (with_reducible refine (HI1.out _ (by first | exact huy | exact hrf.drew | exact hrf)).mono ?_); rintro e wz ⟨rfl, hu20⟩; have huz : Upd [] w11 wz := (by first | exact huy.trans0 hu20 | exact hrf.drew.trans0 hu20 | exact hrf.trans0 hu20); (try clear huy); clear hu20; have huy := huz; clear huz)
        | (go_at_call 19; (with_reducible refine (HI2.out _ (by first | exact huy | exact hrf.drew | exact hrf)).mono ?_); rintro e wz ⟨rfl, hu20⟩; have huz : Upd [] w11 wz := (by first | exact huy.trans0 hu20 | exact hrf.drew.trans0 hu20 | exact hrf.trans0 hu20); (try clear huy); clear hu20; have huy := huz; clear huz)
        | (go_at_call 19; (with_reducible refine (HI3.out _ (by first | exact huy | exact hrf.drew | exact hrf)).mono ?_); rintro e wz ⟨rfl, hu20⟩; have huz : Upd [] w11 wz := (by first | exact huy.trans0 hu20 | exact hrf.drew.trans0 hu20 | exact hrf.trans0 hu20); (try clear huy); clear hu20; have huy := huz; clear huz)
        | (go_at_call 19; (with_reducible refine (HI4.out _ (by first | exact huy | exact hrf.drew | exact hrf)).mono ?_); rintro e wz ⟨rfl, hu20⟩; have huz : Upd [] w11 wz := (by first | exact huy.trans0 hu20 | exact hrf.drew.trans0 hu20 | exact hrf.trans0 hu20); (try clear huy); clear hu20; have huy := huz; clear huz)
        | (go_at_call 20; (with_reducible refine (HCM.out _ huy).mono ?_); rintro e wz ⟨rfl, hu20⟩; have huz := huy.trans0 hu20; clear huy hu20; have huy := huz; clear huz)
        | (go_at_call 20; (with_reducible refine (HCE.out _ _ huy HNS.out).mono ?_); rintro e wz ⟨rfl, hu20⟩; have huz := huy.trans0 hu20; clear huy hu20; have huy := huz; clear huz)
        | (go_at_call 22; (with_reducible refine (HML.out _ huy).mono ?_); rintro e wz ⟨vM, rfl, hnM, hu20⟩; have HNM := Lib.hid hnM; have huz := huy.trans0 hu20; clear huy hu20 hnM; have huy := huz; clear huz)
        | (go_at_call 21; (with_reducible refine (HAD.out _ _ huy HNM.out).mono ?_); rintro e wz ⟨vS, rfl, hnS, hu20⟩; have HNS := Lib.hid hnS; have huz := huy.trans0 hu20; clear huy hu20 hnS; have huy := huz; clear huz))
    go_wp2
    go_ret
    exact ⟨rfl, HUT.out _ (HU11.out.trans0 huy)⟩
end Go.Proofs.YtcehkflkekefpaaDoor
