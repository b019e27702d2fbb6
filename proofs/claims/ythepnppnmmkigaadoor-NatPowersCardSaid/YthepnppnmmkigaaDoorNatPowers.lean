/- The law NatPowers (layer 5). -/
import Derived.Test.YthepnppnmmkigaaDoorNatIs
import Derived.Test.YthepnppnmmkigaaDoorNatWake
import Derived.Test.YthepnppnmmkigaaDoorNatFew
import Derived.Test.YthepnppnmmkigaaDoorNatPow
import Derived.Test.YthepnppnmmkigaaDoorMinMax
namespace Go.Proofs.YthepnppnmmkigaaDoor
open Go.RowKit Go.Proofs.Tm
set_option linter.unusedVariables false
set_option linter.unusedSimpArgs false
set_option maxRecDepth 20000

theorem pow_small {A N b : Nat} (hb : b = nbits A) (h : b * N ≤ 8192) : (wds (A ^ N)).length ≤ 129 := by
  obtain ⟨E, hE⟩ : ∃ E, E = 129 := ⟨_, rfl⟩
  rw [← hE, wds_length_le_iff, W_two, ← Nat.pow_mul]
  have h1 : A ^ N ≤ (2 ^ b) ^ N := Nat.pow_le_pow_left (Nat.le_of_lt (by rw [hb]; exact nbits_lt A)) N
  rw [← Nat.pow_mul] at h1
  exact Nat.lt_of_le_of_lt h1 (Nat.pow_lt_pow_right (by decide) (by omega))
theorem pow_one_len {A : Nat} (h : A ≤ 1) (M : Nat) : (wds (A ^ M)).length ≤ 200 := by
  have h1 : A ^ M ≤ 1 := Nat.le_trans (Nat.pow_le_pow_left h M) (Nat.le_of_eq (Nat.one_pow M))
  have h2 := wds_length_le h1
  have h3 : (wds 1).length ≤ 1 := (wds_length_le_iff 1 1).2 (by decide)
  exact Nat.le_trans h2 (Nat.le_trans h3 (by decide))
theorem pow_min (A N : Nat) (h : A ≤ 1) : (if N = 0 then 1 else A) = A ^ min N 1 := by
  by_cases h0 : N = 0
  · subst h0; simp
  · rw [if_neg h0, show min N 1 = 1 by omega, Nat.pow_one]

set_option maxHeartbeats 3200000 in
theorem natPowers_law (a0 : Option Addr) (cap0 : Nat) (p : List Nat) (n : Int) (w : World) (ht : Tab w)
    (hp : Sl w (.slice a0 p.length cap0) (cu64 p)) (hpw : ∀ d ∈ p, d < 18446744073709551616) (hn : n ≤ 9223372036854775807) (hn' : -9223372036854775808 ≤ n) :
    Calls Tryd.prog 7 #[.slice a0 p.length cap0, .int .i64 n] w fun e w' => e = .returned (.bool true) ∧ Upd [] w w' := by
  have HT : Hid (∀ W, Upd [] w W → Tab W) := fun W h => ht.upd0 h
  have HP : Hid (∀ W, Upd [] w W → Calls Tryd.prog 17 #[.slice a0 p.length cap0, .int .i64 3] W (RFew (p.take 3) W)) := fun W h => few_any a0 cap0 p 3 (by decide) W (hp.upd0 h)
  have hbp : (wds (wval (p.take 3))).length ≤ 3 := few_len p 3 hpw
  have HPW : Hid (∀ d ∈ p.take 3, d < 18446744073709551616) := fun d hd => hpw d (List.mem_of_mem_take hd)
  have HPL : Hid ((p.take 3).length ≤ 3) := by show _ ≤ _; rw [List.length_take]; omega
  obtain ⟨A, hA⟩ : ∃ A, A = wval (p.take 3) := ⟨_, rfl⟩
  rw [← hA] at hbp
  have HEA := Lib.hid hA
  have HBP : Hid (∀ n, n = A → (wds n).length ≤ 3 ∧ (digs n).length ≤ 15) := fun n h => by rw [h]; exact ⟨hbp, by have := digs_wlen ((wds_length_le_iff _ _).1 hbp); omega⟩
  obtain ⟨lp, hlp⟩ : ∃ l, l = p.length := ⟨_, rfl⟩
  rw [← hlp] at HP ⊢
  clear ht hp hpw hbp hA hlp
  go_enter Tryd.func7, Tryd.ntmps7
  go_wp2_with fail
  refine (awake_any _ (HT.out _ (Upd.refl _ _))).mono ?_
  rintro e w1 ⟨rfl, hu1⟩
  have HU1 := Lib.hid hu1
  clear hu1
  go_wp2_with fail
  refine (HP.out _ HU1.out).mono ?_
  rintro e w2 ⟨v2, rfl, hs2, rfl⟩
  have HS2 := Lib.hid hs2
  clear hs2
  go_wp2_with fail
  refine (of_any _ _ _ HS2.out (by have := HPL.out; omega) HPW.out).mono ?_
  rintro e w4 ⟨v4, rfl, hn4, hu4⟩
  rw [← HEA.out] at hn4
  have HN4 := Lib.hid hn4
  have HU4 := Lib.hid hu4
  clear hn4 hu4
  go_wp2_with fail
  refine (rof_any _ _ _ (HS2.out.upd0 HU4.out) HPW.out (by have := HPL.out; omega)).mono ?_
  rintro e w6 ⟨v6, rfl, hs6, hu6⟩
  rw [← HEA.out] at hs6
  have hn4 := HN4.out.upd0 hu6
  have hu16 := HU1.out.trans0 (HU4.out.trans0 hu6)
  obtain ⟨x4, c4, rfl, _, _⟩ := hn4.open
  obtain ⟨l4, hl4⟩ : ∃ l, l = (wds A).length := ⟨_, rfl⟩
  rw [← hl4] at hn4 HN4 ⊢
  obtain ⟨w8, hw8⟩ : ∃ W, W = w6.alloc (.cells #[.slice x4 l4 c4] 26) := ⟨_, rfl⟩
  obtain ⟨k5, hk5⟩ : ∃ k, k = w6.heap.size := ⟨_, rfl⟩
  have hu8 : Upd [] w6 w8 := by rw [hw8]; exact (Upd.refl _ _).alloc _
  have hb5 : Box w8 k5 (.slice x4 l4 c4) 26 := by rw [hw8, hk5]; exact Box.new _ _ _
  have HBX : Hid (∀ W, Upd [] w8 W → W.cell? ⟨k5, 0, none⟩ = some (.slice x4 l4 c4)) := fun W h => (hb5.upd h).cell
  have HA8 : Hid (∀ W, Upd [] w8 W → NV W (.agg #[.slice x4 l4 c4]) A) := fun W h => (hn4.upd0 hu8).upd0 h
  have HSA8 : Hid (∀ W, Upd [] w8 W → Sl W v6 (ci64 (digs A))) := fun W h => (hs6.upd0 hu8).upd0 h
  have HUT : Hid (∀ W, Upd [] w8 W → Upd [] w W) := fun W h => hu16.trans0 (hu8.trans0 h)
  have HW8 := Lib.hid hw8
  have HK5 := Lib.hid hk5
  have HRB : Hid (∀ W, Upd [] w8 W → Calls Tryd.prog 22 #[v6] W fun e w' => e = .returned (.int .i64 (nbits A : Int)) ∧ Upd [] W w') := fun W h => rbits_any _ _ _ (HSA8.out W h) (by have := (HBP.out A rfl).2; omega)
  have HIS : Hid (∀ W n u v, Upd [] w8 W → NV W u n → Sl W v (ci64 (digs n)) → (wds n).length ≤ 200 → Calls Tryd.prog 24 #[u, v] W fun e w' => e = .returned (.bool true) ∧ Upd [] W w') := fun W n u v h h1 h2 h3 => is_any u v n W h1 h2 (HT.out _ (HUT.out _ h)) (by omega) (by have := digs_wlen ((wds_length_le_iff _ _).1 h3); omega)
  have hb192 : nbits A ≤ 192 := by
    rw [nbits_le_iff, show (192 : Nat) = 64 * 3 by decide, Nat.pow_mul, ← W_two]
    exact (wds_length_le_iff A 3).1 (HBP.out A rfl).1
  obtain ⟨b, hb⟩ : ∃ b, b = nbits A := ⟨_, rfl⟩
  rw [← hb] at HRB hb192
  have HB := Lib.hid hb
  have hrf8 : Upd [] w8 w8 := Upd.refl _ _
  have HR8 := Lib.hid hrf8
  clear hu8 hb5 hk5 hrf8 hs6 hu6 hn4 hu16 hl4 hw8 HN4 HU4 HS2 HU1 hb
  go_wp2_with fail
  rw [← HW8.out]
  rw [← HK5.out]
  by_cases hneg : n < 0
  · refine (pow_neg _ A n hneg _ (HA8.out _ HR8.out)).mono ?_
    rintro e w9 ⟨v9, rfl, hn9, hu9⟩
    obtain ⟨x9, c9, rfl, _, _⟩ := hn9.open
    obtain ⟨l9, hl9⟩ : ∃ l, l = (wds (0)).length := ⟨_, rfl⟩
    rw [← hl9] at hn9 ⊢
    obtain ⟨w10, hw10⟩ : ∃ W, W = w9.alloc (.cells #[.slice x9 l9 c9] 26) := ⟨_, rfl⟩
    obtain ⟨k9, hk9⟩ : ∃ k, k = w9.heap.size := ⟨_, rfl⟩
    have hu10 : Upd [] w9 w10 := by rw [hw10]; exact (Upd.refl _ _).alloc _
    have hb9 : Box w10 k9 (.slice x9 l9 c9) 26 := by rw [hw10, hk9]; exact Box.new _ _ _
    have HBX9 : Hid (∀ W, Upd [] w10 W → W.cell? ⟨k9, 0, none⟩ = some (.slice x9 l9 c9)) := fun W h => (hb9.upd h).cell
    have HN9 : Hid (∀ W, Upd [] w10 W → NV W (.agg #[.slice x9 l9 c9]) (0)) := fun W h => (hn9.upd0 hu10).upd0 h
    have HU10 := Lib.hid (hu9.trans0 hu10)
    have HW10 := Lib.hid hw10
    have HK9 := Lib.hid hk9
    clear hu9 hu10 hb9 hn9 hk9 hw10 hl9
    go_wp2_with fail
    rw [← HW10.out]
    rw [← HK9.out]
    refine (HRB.out _ HU10.out).mono ?_
    rintro e w11 ⟨rfl, hu11⟩
    have HU11 := Lib.hid (HU10.out.trans0 hu11)
    have H11 := Lib.hid hu11
    clear hu11
    have b9 := HBX9.out _ H11.out
    have b5 := HBX.out _ HU11.out
    go_wp2_with fail
    refine (zero_any _ _ _ (HN9.out _ H11.out)).mono ?_
    rintro e w19 ⟨rfl, hu19⟩
    have HF := Lib.hid (HUT.out _ (HU11.out.trans0 hu19))
    clear hu19
    go_wp2
    go_ret
    exact ⟨rfl, HF.out⟩
  · obtain ⟨N, rfl⟩ := Int.eq_ofNat_of_zero_le (show 0 ≤ n by omega)
    have hN : N ≤ 9223372036854775807 := by omega
    have HPW1 : Hid (∀ (W : World) (u : Value) (k : Nat), NV W u A → k ≤ 9223372036854775807 → Calls Tryd.prog 41 #[u, .int .i64 (k : Int)] W (PowPost A k W)) := fun W u k h hk => pow_any u A k W h (by have := (HBP.out A rfl).1; omega) hk
    by_cases hA1 : A ≤ 1
    · have hb1 : b ≤ 1 := by rw [HB.out]; exact nbits_le_one.2 hA1
      have HX : Hid (∀ e w', PowPost A N w8 e w' → RNatE (A ^ min N 1) 0 w8 e w') := fun e w' h => by
        unfold PowPost at h
        rw [← pow_min A N hA1]
        by_cases h0 : N = 0
        · rw [if_pos h0] at h ⊢; exact h
        · rw [if_neg h0, if_pos hA1] at h; rw [if_neg h0]; exact h
      have j1 : decide (1 < b) = false := by simp; omega
      have j2 : decide (b ≤ 1) = true := by simpa using hb1
      obtain ⟨M, hM⟩ : ∃ M, M = min N 1 := ⟨_, rfl⟩
      have hmn := fun ts t W => mini_is (P := Tryd.prog) (show min (N : Int) 1 = (M : Int) by omega) ts t W
      rw [← hM] at HX
      have hM1 : M ≤ 1 := by omega
      have HXL : Hid ((wds (A ^ M)).length ≤ 200) := pow_one_len hA1 M
      clear hM
      refine (HPW1.out _ _ N (HA8.out _ HR8.out) hN).mono fun e w' h => ?_
      have h' := HX.out e w' h
      clear h
      revert h'
      revert e w'
      rintro e w9 ⟨v9, rfl, hn9, hu9⟩
      obtain ⟨x9, c9, rfl, _, _⟩ := hn9.open
      obtain ⟨l9, hl9⟩ : ∃ l, l = (wds (A ^ M)).length := ⟨_, rfl⟩
      rw [← hl9] at hn9 ⊢
      obtain ⟨w10, hw10⟩ : ∃ W, W = w9.alloc (.cells #[.slice x9 l9 c9] 26) := ⟨_, rfl⟩
      obtain ⟨k9, hk9⟩ : ∃ k, k = w9.heap.size := ⟨_, rfl⟩
      have hu10 : Upd [] w9 w10 := by rw [hw10]; exact (Upd.refl _ _).alloc _
      have hb9 : Box w10 k9 (.slice x9 l9 c9) 26 := by rw [hw10, hk9]; exact Box.new _ _ _
      have HBX9 : Hid (∀ W, Upd [] w10 W → W.cell? ⟨k9, 0, none⟩ = some (.slice x9 l9 c9)) := fun W h => (hb9.upd h).cell
      have HN9 : Hid (∀ W, Upd [] w10 W → NV W (.agg #[.slice x9 l9 c9]) (A ^ M)) := fun W h => (hn9.upd0 hu10).upd0 h
      have HU10 := Lib.hid (hu9.trans0 hu10)
      have HW10 := Lib.hid hw10
      have HK9 := Lib.hid hk9
      clear hu9 hu10 hb9 hn9 hk9 hw10 hl9
      go_wp2_with fail
      rw [← HW10.out]
      rw [← HK9.out]
      refine (HRB.out _ HU10.out).mono ?_
      rintro e w11 ⟨rfl, hu11⟩
      have HU11 := Lib.hid (HU10.out.trans0 hu11)
      have H11 := Lib.hid hu11
      clear hu11
      have b9 := HBX9.out _ H11.out
      have b5 := HBX.out _ HU11.out
      have HC : Hid (∀ W, Upd [] w11 W → W.cell? ⟨k9, 0, none⟩ = some (.slice x9 l9 c9) ∧ Upd [] w11 W) := fun W h => ⟨HBX9.out _ (H11.out.trans0 h), h⟩
      have HRP : Hid (∀ W, Upd [] w11 W → Calls Tryd.prog 39 #[v6, .int .i64 (M : Int)] W (RDig (A ^ M) W)) := fun W h => rpow_any _ _ _ _ (HSA8.out W (HU11.out.trans0 h)) (by have := (HBP.out A rfl).2; omega) (by omega)
      have HIS9 : Hid (∀ W v, Upd [] w11 W → Sl W v (ci64 (digs (A ^ M))) → Calls Tryd.prog 24 #[.agg #[.slice x9 l9 c9], v] W fun e w' => e = .returned (.bool true) ∧ Upd [] W w') := fun W v h h2 => HIS.out W _ _ _ (HU11.out.trans0 h) (HN9.out W (H11.out.trans0 h)) h2 (by have := HXL.out; omega)
      have hrf : Upd [] w11 w11 := Upd.refl _ _
      go_wp2_with fail
      go_region_held3 (fun W => W.cell? ⟨k9, 0, none⟩ = some (.slice x9 l9 c9) ∧ Upd [] w11 W)
        (first
          | exact HC.out _ huy
          | exact HC.out _ huy.drew
          | exact HC.out _ hrf.drew
          | exact HC.out _ hrf)
        (first
          | (go_at_call 39; (with_reducible refine (HRP.out _ (by first | exact hrf.drew | exact hrf)).mono ?_); rintro e wy ⟨v19, rfl, hs19, hu19⟩; have huy : Upd [] w11 wy := (by first | exact hrf.drew.trans0 hu19 | exact hrf.trans0 hu19); have HS19 := Lib.hid hs19; clear hs19 hu19)
          | (go_at_call 24; (with_reducible refine (HIS9.out _ _ huy HS19.out).mono ?_); rintro e wz ⟨rfl, hu20⟩; have huz := huy.trans0 hu20; clear huy hu20; have huy := huz; clear huz))
      go_wp2
      go_ret
      exact ⟨rfl, HUT.out _ (HU11.out.trans0 huy)⟩
    · have hb1 : 1 < b := by
        rw [HB.out]
        rcases Nat.lt_or_ge 1 (nbits A) with h | h
        · exact h
        · exact absurd (nbits_le_one.1 h) hA1
      have j1 : decide (1 < b) = true := by simpa using hb1
      have j2 : decide (b ≤ 1) = false := by simp; omega
      obtain ⟨q, hq⟩ : ∃ q, q = 8192 / b := ⟨_, rfl⟩
      have hqi : (8192 : Int) / (b : Int) = (q : Int) := by rw [hq]; exact (Int.natCast_ediv 8192 b).symm
      have hq0 : q ≠ 0 := by
        have : 1 ≤ 8192 / b := by rw [Nat.le_div_iff_mul_le (by omega)]; omega
        omega
      have HX : Hid (∀ (k : Nat) w e w', k ≤ N → PowPost A k w e w' → (¬ q < k) → RNatE (A ^ k) 0 w e w') := fun k w e w' hk h hqn => by
        unfold PowPost at h
        by_cases h0 : k = 0
        · rw [if_pos h0] at h; rw [h0, Nat.pow_zero]; exact h
        · rw [if_neg h0, if_neg hA1, ← HB.out, ← hq, if_neg hqn] at h; exact h
      by_cases hqn : q < N
      · have hX2 : ∀ e w', PowPost A N w8 e w' → RNatE 0 3 w8 e w' := fun e w' h => by
          unfold PowPost at h
          rw [if_neg (by omega), if_neg hA1, ← HB.out, ← hq, if_pos hqn] at h; exact h
        have j3 : decide (q < N) = true := by simpa using hqn
        have HX2 := Lib.hid hX2
        clear hX2 hq
        refine (HPW1.out _ _ N (HA8.out _ HR8.out) hN).mono fun e w' h => ?_
        have h' := HX2.out e w' h
        clear h
        revert h'
        revert e w'
        rintro e w9 ⟨v9, rfl, hn9, hu9⟩
        obtain ⟨x9, c9, rfl, _, _⟩ := hn9.open
        obtain ⟨l9, hl9⟩ : ∃ l, l = (wds (0)).length := ⟨_, rfl⟩
        rw [← hl9] at hn9 ⊢
        obtain ⟨w10, hw10⟩ : ∃ W, W = w9.alloc (.cells #[.slice x9 l9 c9] 26) := ⟨_, rfl⟩
        obtain ⟨k9, hk9⟩ : ∃ k, k = w9.heap.size := ⟨_, rfl⟩
        have hu10 : Upd [] w9 w10 := by rw [hw10]; exact (Upd.refl _ _).alloc _
        have hb9 : Box w10 k9 (.slice x9 l9 c9) 26 := by rw [hw10, hk9]; exact Box.new _ _ _
        have HBX9 : Hid (∀ W, Upd [] w10 W → W.cell? ⟨k9, 0, none⟩ = some (.slice x9 l9 c9)) := fun W h => (hb9.upd h).cell
        have HN9 : Hid (∀ W, Upd [] w10 W → NV W (.agg #[.slice x9 l9 c9]) (0)) := fun W h => (hn9.upd0 hu10).upd0 h
        have HU10 := Lib.hid (hu9.trans0 hu10)
        have HW10 := Lib.hid hw10
        have HK9 := Lib.hid hk9
        clear hu9 hu10 hb9 hn9 hk9 hw10 hl9
        go_wp2_with fail
        rw [← HW10.out]
        rw [← HK9.out]
        refine (HRB.out _ HU10.out).mono ?_
        rintro e w11 ⟨rfl, hu11⟩
        have HU11 := Lib.hid (HU10.out.trans0 hu11)
        have H11 := Lib.hid hu11
        clear hu11
        have b9 := HBX9.out _ H11.out
        have b5 := HBX.out _ HU11.out
        go_wp2_with fail
        refine (zero_any _ _ _ (HN9.out _ H11.out)).mono ?_
        rintro e w19 ⟨rfl, hu19⟩
        have HF := Lib.hid (HUT.out _ (HU11.out.trans0 hu19))
        clear hu19
        go_wp2
        go_ret
        exact ⟨rfl, HF.out⟩
      · have j3 : decide (q < N) = false := by simp; omega
        have hbN : b * N ≤ 8192 := by
          have h1 := Nat.mul_le_mul_left b (show N ≤ q by omega)
          have h2 := Nat.mul_div_le 8192 b
          rw [← hq] at h2
          omega
        have HXL : Hid ((wds (A ^ N)).length ≤ 129) := pow_small HB.out hbN
        have HXR : Hid (∀ k : Nat, k ≤ N → ∀ W u, NV W u A → Calls Tryd.prog 41 #[u, .int .i64 (k : Int)] W (RNatE (A ^ k) 0 W)) := fun k hk W u h => (HPW1.out W u k h (by omega)).mono fun e w' h => HX.out k W e w' hk h (by omega)
        obtain ⟨bN, hbn⟩ : ∃ bN, bN = b * N := ⟨_, rfl⟩
        have hbi : (b : Int) * (N : Int) = (bN : Int) := by rw [hbn]; simp
        rw [← hbn] at hbN
        have hN8 : N ≤ 8192 := by have := Nat.div_le_self 8192 b; omega
        have HBN := Lib.hid hbn
        clear hq hbn
        refine (HXR.out N (Nat.le_refl _) _ _ (HA8.out _ HR8.out)).mono ?_
        rintro e w9 ⟨v9, rfl, hn9, hu9⟩
        obtain ⟨x9, c9, rfl, _, _⟩ := hn9.open
        obtain ⟨l9, hl9⟩ : ∃ l, l = (wds (A ^ N)).length := ⟨_, rfl⟩
        rw [← hl9] at hn9 ⊢
        obtain ⟨w10, hw10⟩ : ∃ W, W = w9.alloc (.cells #[.slice x9 l9 c9] 26) := ⟨_, rfl⟩
        obtain ⟨k9, hk9⟩ : ∃ k, k = w9.heap.size := ⟨_, rfl⟩
        have hu10 : Upd [] w9 w10 := by rw [hw10]; exact (Upd.refl _ _).alloc _
        have hb9 : Box w10 k9 (.slice x9 l9 c9) 26 := by rw [hw10, hk9]; exact Box.new _ _ _
        have HBX9 : Hid (∀ W, Upd [] w10 W → W.cell? ⟨k9, 0, none⟩ = some (.slice x9 l9 c9)) := fun W h => (hb9.upd h).cell
        have HN9 : Hid (∀ W, Upd [] w10 W → NV W (.agg #[.slice x9 l9 c9]) (A ^ N)) := fun W h => (hn9.upd0 hu10).upd0 h
        have HU10 := Lib.hid (hu9.trans0 hu10)
        have HW10 := Lib.hid hw10
        have HK9 := Lib.hid hk9
        clear hu9 hu10 hb9 hn9 hk9 hw10 hl9
        go_wp2_with fail
        rw [← HW10.out]
        rw [← HK9.out]
        refine (HRB.out _ HU10.out).mono ?_
        rintro e w11 ⟨rfl, hu11⟩
        have HU11 := Lib.hid (HU10.out.trans0 hu11)
        have H11 := Lib.hid hu11
        clear hu11
        have b9 := HBX9.out _ H11.out
        have b5 := HBX.out _ HU11.out
        by_cases h7 : 700 < bN
        · have j4 : decide (700 < (bN : Int)) = true := by simp; omega
          have hN1 : 1 ≤ N := by
            have hb := HBN.out
            rcases Nat.eq_zero_or_pos N with h | h
            · rw [h, Nat.mul_zero] at hb; omega
            · exact h
          obtain ⟨k, hk⟩ : ∃ k, k = N - 1 := ⟨_, rfl⟩
          have i1 : (N : Int) - 1 = (k : Int) := by omega
          have HKN : Hid (A ^ N = A ^ k * A) := by show _ = _; rw [← Nat.pow_succ]; congr 1; omega
          have hkN : k ≤ N := by omega
          clear hk
          go_wp2_with fail
          refine (HXR.out k hkN _ _ (HA8.out _ HU11.out)).mono ?_
          rintro e w12 ⟨v12, rfl, hn12, hu12⟩
          obtain ⟨x12, c12, rfl, _, _⟩ := hn12.open
          obtain ⟨l12, hl12⟩ : ∃ l, l = (wds (A ^ k)).length := ⟨_, rfl⟩
          rw [← hl12] at hn12 ⊢
          obtain ⟨w13, hw13⟩ : ∃ W, W = w12.alloc (.cells #[.slice x12 l12 c12] 26) := ⟨_, rfl⟩
          obtain ⟨k13, hk13⟩ : ∃ k, k = w12.heap.size := ⟨_, rfl⟩
          have hu13 : Upd [] w12 w13 := by rw [hw13]; exact (Upd.refl _ _).alloc _
          have hb13 : Box w13 k13 (.slice x12 l12 c12) 26 := by rw [hw13, hk13]; exact Box.new _ _ _
          have HU13 := Lib.hid (HU11.out.trans0 (hu12.trans0 hu13))
          have H13 := Lib.hid (H11.out.trans0 (hu12.trans0 hu13))
          have HC : Hid (∀ W, Upd [] w13 W → W.cell? ⟨k9, 0, none⟩ = some (.slice x9 l9 c9) ∧ W.cell? ⟨k13, 0, none⟩ = some (.slice x12 l12 c12) ∧ W.cell? ⟨k5, 0, none⟩ = some (.slice x4 l4 c4) ∧ Upd [] w13 W) := fun W h => ⟨HBX9.out _ (H13.out.trans0 h), (hb13.upd h).cell, HBX.out _ (HU13.out.trans0 h), h⟩
          have HKL : Hid ((wds (A ^ k)).length ≤ 129) := by
            show _ ≤ _
            refine Nat.le_trans (wds_length_le ?_) HXL.out
            exact Nat.pow_le_pow_right (by omega) hkN
          have HML : Hid (∀ W, Upd [] w13 W → Calls Tryd.prog 32 #[.agg #[.slice x12 l12 c12], .agg #[.slice x4 l4 c4]] W (RNat (A ^ N) W)) := fun W h => by
            rw [HKN.out]
            exact mul_any _ _ _ _ _ ((hn12.upd0 hu13).upd0 h) (HA8.out W (HU13.out.trans0 h)) (by have := HKL.out; omega) (by have := (HBP.out A rfl).1; omega)
          have HCP : Hid (∀ W v, Upd [] w13 W → NV W v (A ^ N) → Calls Tryd.prog 29 #[.agg #[.slice x9 l9 c9], v] W fun e w' => e = .returned (.int .i64 0) ∧ Upd [] W w') := fun W v h h2 => by
            have := cmp_any _ _ _ _ _ (HN9.out W (H13.out.trans0 h)) h2 (by have := HXL.out; omega)
            rw [show cmpN (A ^ N) (A ^ N) = 0 by unfold cmpN; simp] at this
            exact this
          have HW13 := Lib.hid hw13
          have HK13 := Lib.hid hk13
          have hrf : Upd [] w13 w13 := Upd.refl _ _
          clear hl12 hw13 hk13 hu12 hu13 hb13 hn12 b9 b5
          go_wp2_with fail
          rw [← HW13.out]
          rw [← HK13.out]
          go_region_held3 (fun W => W.cell? ⟨k9, 0, none⟩ = some (.slice x9 l9 c9) ∧ W.cell? ⟨k13, 0, none⟩ = some (.slice x12 l12 c12) ∧ W.cell? ⟨k5, 0, none⟩ = some (.slice x4 l4 c4) ∧ Upd [] w13 W)
            (first
              | exact HC.out _ huy
              | exact HC.out _ huy.drew
              | exact HC.out _ hrf.drew
              | exact HC.out _ hrf)
            (first
              | (go_at_call 32; (with_reducible refine (HML.out _ (by first | exact hrf.drew | exact hrf)).mono ?_); rintro e wy ⟨v19, rfl, hs19, hu19⟩; have huy : Upd [] w13 wy := (by first | exact hrf.drew.trans0 hu19 | exact hrf.trans0 hu19); have HS19 := Lib.hid hs19; clear hs19 hu19)
              | (go_at_call 29; (with_reducible refine (HCP.out _ _ huy HS19.out).mono ?_); rintro e wz ⟨rfl, hu20⟩; have huz := huy.trans0 hu20; clear huy hu20; have huy := huz; clear huz))
          all_goals (go_wp2; go_ret; exact ⟨rfl, HUT.out _ (HU13.out.trans0 huy)⟩)
        · have j4 : decide (700 < (bN : Int)) = false := by simp; omega
          have HC : Hid (∀ W, Upd [] w11 W → W.cell? ⟨k9, 0, none⟩ = some (.slice x9 l9 c9) ∧ Upd [] w11 W) := fun W h => ⟨HBX9.out _ (H11.out.trans0 h), h⟩
          have HRP : Hid (∀ W, Upd [] w11 W → Calls Tryd.prog 39 #[v6, .int .i64 (N : Int)] W (RDig (A ^ N) W)) := fun W h => rpow_any _ _ _ _ (HSA8.out W (HU11.out.trans0 h)) (by have := (HBP.out A rfl).2; omega) (by omega)
          have HIS9 : Hid (∀ W v, Upd [] w11 W → Sl W v (ci64 (digs (A ^ N))) → Calls Tryd.prog 24 #[.agg #[.slice x9 l9 c9], v] W fun e w' => e = .returned (.bool true) ∧ Upd [] W w') := fun W v h h2 => HIS.out W _ _ _ (HU11.out.trans0 h) (HN9.out W (H11.out.trans0 h)) h2 (by have := HXL.out; omega)
          have hrf : Upd [] w11 w11 := Upd.refl _ _
          go_wp2_with fail
          go_region_held3 (fun W => W.cell? ⟨k9, 0, none⟩ = some (.slice x9 l9 c9) ∧ Upd [] w11 W)
            (first
              | exact HC.out _ huy
              | exact HC.out _ huy.drew
              | exact HC.out _ hrf.drew
              | exact HC.out _ hrf)
            (first
              | (go_at_call 39; (with_reducible refine (HRP.out _ (by first | exact hrf.drew | exact hrf)).mono ?_); rintro e wy ⟨v19, rfl, hs19, hu19⟩; have huy : Upd [] w11 wy := (by first | exact hrf.drew.trans0 hu19 | exact hrf.trans0 hu19); have HS19 := Lib.hid hs19; clear hs19 hu19)
              | (go_at_call 24; (with_reducible refine (HIS9.out _ _ huy HS19.out).mono ?_); rintro e wz ⟨rfl, hu20⟩; have huz := huy.trans0 hu20; clear huy hu20; have huy := huz; clear huz))
          go_wp2
          go_ret
          exact ⟨rfl, HUT.out _ (HU11.out.trans0 huy)⟩
end Go.Proofs.YthepnppnmmkigaaDoor
