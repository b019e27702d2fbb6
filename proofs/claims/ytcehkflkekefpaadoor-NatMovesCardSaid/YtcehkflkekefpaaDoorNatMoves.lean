/- The law NatMoves (layer 5). -/
import Derived.Test.YtcehkflkekefpaaDoorNatIs
import Derived.Test.YtcehkflkekefpaaDoorNatWake
import Derived.Test.YtcehkflkekefpaaDoorNatFew
import Derived.Test.YtcehkflkekefpaaDoorNatShift
import Derived.Test.YtcehkflkekefpaaDoorNatBit
import Derived.Test.YtcehkflkekefpaaDoorNatBits
import Derived.Test.YtcehkflkekefpaaDoorMinMax
namespace Go.Proofs.YtcehkflkekefpaaDoor
open Go.RowKit Go.Proofs.Tm
set_option linter.unusedVariables false
set_option linter.unusedSimpArgs false
set_option maxRecDepth 20000

/-- An operation that its guard passes over. -/
theorem held_skip {b : Bool} {p q : Prop} (h : b = false) (hq : q) : if b = true then p else q := by rw [h, if_neg Bool.false_ne_true]; exact hq
theorem moves_zero {A N : Nat} (h : (wds A).length ≤ 5) (hn : 320 ≤ N) : A / 2 ^ N = 0 := by
  apply Nat.div_eq_of_lt
  have h1 := (wds_length_le_iff A 5).1 h
  obtain ⟨E, hE⟩ : ∃ E, E = 5 := ⟨_, rfl⟩
  rw [← hE, W_two, ← Nat.pow_mul] at h1
  exact Nat.lt_of_lt_of_le h1 (Nat.pow_le_pow_right (by decide) (by omega))
theorem moves_len {A N : Nat} (h : (wds A).length ≤ 5) (hn : N ≤ 8192) : (wds (A * 2 ^ N)).length ≤ 134 := by
  have h1 := wds_length_mul A (2 ^ N)
  have h2 : (wds (2 ^ N)).length ≤ 129 := by
    obtain ⟨E, hE⟩ : ∃ E, E = 129 := ⟨_, rfl⟩
    rw [← hE, wds_length_le_iff, W_two, ← Nat.pow_mul]
    exact Nat.pow_lt_pow_right (by decide) (by omega)
  omega
theorem moves_bits {A N : Nat} (h : A ≠ 0) : nbits (A * 2 ^ N) = nbits A + N := by
  obtain ⟨k, hk, h1, h2⟩ := nbits_spec h
  rw [hk, show k + 1 + N = (k + N) + 1 by omega]
  refine nbits_of ?_ ?_
  · rw [Nat.pow_add]; exact Nat.mul_le_mul_right _ h1
  · rw [show k + N + 1 = (k + 1) + N by omega, Nat.pow_add]; exact Nat.mul_lt_mul_of_pos_right h2 (Nat.two_pow_pos N)
theorem moves_bit (A N : Nat) : bitOf (A * 2 ^ N) ((N : Int) - 1) = false := by
  unfold bitOf
  rcases Nat.eq_zero_or_pos N with rfl | h
  · rfl
  · rw [show ((N : Int) - 1).toNat = N - 1 by omega]
    have e : A * 2 ^ N / 2 ^ (N - 1) = A * 2 := by
      rw [show N = 1 + (N - 1) by omega, Nat.pow_add, Nat.pow_one, ← Nat.mul_assoc, show 1 + (N - 1) - 1 = N - 1 by omega, Nat.mul_div_cancel _ (Nat.two_pow_pos _)]
    rw [e]
    have : A * 2 % 2 = 0 := Nat.mul_mod_left A 2
    rw [this]; simp

set_option maxHeartbeats 3200000 in
theorem natMoves_law (a0 : Option Addr) (cap0 : Nat) (p : List Nat) (n : Int) (w : World) (ht : Tab w)
    (hp : Sl w (.slice a0 p.length cap0) (cu64 p)) (hpw : ∀ d ∈ p, d < 18446744073709551616) (hn : n ≤ 9223372036854775807) (hn' : -9223372036854775808 ≤ n) :
    Calls Tryd.prog 4 #[.slice a0 p.length cap0, .int .i64 n] w fun e w' => e = .returned (.bool true) ∧ Upd [] w w' := by
  have HT : Hid (∀ W, Upd [] w W → Tab W) := fun W h => ht.upd0 h
  have HP : Hid (∀ W, Upd [] w W → Calls Tryd.prog 13 #[.slice a0 p.length cap0, .int .i64 5] W (RFew (p.take 5) W)) := fun W h => few_any a0 cap0 p 5 (by decide) W (hp.upd0 h)
  have hbp : (wds (wval (p.take 5))).length ≤ 5 := few_len p 5 hpw
  have HPW : Hid (∀ d ∈ p.take 5, d < 18446744073709551616) := fun d hd => hpw d (List.mem_of_mem_take hd)
  have HPL : Hid ((p.take 5).length ≤ 5) := by show _ ≤ _; rw [List.length_take]; omega
  obtain ⟨A, hA⟩ : ∃ A, A = wval (p.take 5) := ⟨_, rfl⟩
  rw [← hA] at hbp
  have HEA := Lib.hid hA
  have HBP : Hid (∀ n, n = A → (wds n).length ≤ 5 ∧ (digs n).length ≤ 25) := fun n h => by rw [h]; exact ⟨hbp, by have := digs_wlen ((wds_length_le_iff _ _).1 hbp); omega⟩
  obtain ⟨lp, hlp⟩ : ∃ l, l = p.length := ⟨_, rfl⟩
  rw [← hlp] at HP ⊢
  clear ht hp hpw hbp hA hlp
  go_enter Tryd.func4, Tryd.ntmps4
  go_wp2_with fail
  refine (awake_any _ (HT.out _ (Upd.refl _ _))).mono ?_
  rintro e w1 ⟨rfl, hu1⟩
  have HU1 := Lib.hid hu1
  clear hu1
  go_wp2_with fail
  refine (HP.out _ HU1.out).mono ?_
  rintro e w2 ⟨v2, rfl, hs2, rfl⟩
  have HS2 := Lib.hid hs2
  clear hs2
  go_wp2_with fail
  refine (of_any _ _ _ HS2.out (by have := HPL.out; omega) HPW.out).mono ?_
  rintro e w4 ⟨v4, rfl, hn4, hu4⟩
  rw [← HEA.out] at hn4
  have HN4 := Lib.hid hn4
  have HU4 := Lib.hid hu4
  clear hn4 hu4
  go_wp2_with fail
  refine (rof_any _ _ _ (HS2.out.upd0 HU4.out) HPW.out (by have := HPL.out; omega)).mono ?_
  rintro e w6 ⟨v6, rfl, hs6, hu6⟩
  rw [← HEA.out] at hs6
  have hn4 := HN4.out.upd0 hu6
  have hu16 := HU1.out.trans0 (HU4.out.trans0 hu6)
  obtain ⟨x4, c4, rfl, _, _⟩ := hn4.open
  obtain ⟨l4, hl4⟩ : ∃ l, l = (wds A).length := ⟨_, rfl⟩
  rw [← hl4] at hn4 HN4 ⊢
  obtain ⟨w8, hw8⟩ : ∃ W, W = w6.alloc (.cells #[.slice x4 l4 c4] 26) := ⟨_, rfl⟩
  obtain ⟨k5, hk5⟩ : ∃ k, k = w6.heap.size := ⟨_, rfl⟩
  have hu8 : Upd [] w6 w8 := by rw [hw8]; exact (Upd.refl _ _).alloc _
  have hb5 : Box w8 k5 (.slice x4 l4 c4) 26 := by rw [hw8, hk5]; exact Box.new _ _ _
  have HBX : Hid (∀ W, Upd [] w8 W → W.cell? ⟨k5, 0, none⟩ = some (.slice x4 l4 c4)) := fun W h => (hb5.upd h).cell
  have HA8 : Hid (∀ W, Upd [] w8 W → NV W (.agg #[.slice x4 l4 c4]) A) := fun W h => (hn4.upd0 hu8).upd0 h
  have HSA8 : Hid (∀ W, Upd [] w8 W → Sl W v6 (ci64 (digs A))) := fun W h => (hs6.upd0 hu8).upd0 h
  have HUT : Hid (∀ W, Upd [] w8 W → Upd [] w W) := fun W h => hu16.trans0 (hu8.trans0 h)
  have HW8 := Lib.hid hw8
  have HK5 := Lib.hid hk5
  have HIS : Hid (∀ W n u v, Upd [] w8 W → NV W u n → Sl W v (ci64 (digs n)) → (wds n).length ≤ 200 → Calls Tryd.prog 19 #[u, v] W fun e w' => e = .returned (.bool true) ∧ Upd [] W w') := fun W n u v h h1 h2 h3 => is_any u v n W h1 h2 (HT.out _ (HUT.out _ h)) (by omega) (by have := digs_wlen ((wds_length_le_iff _ _).1 h3); omega)
  have hrf8 : Upd [] w8 w8 := Upd.refl _ _
  have HR8 := Lib.hid hrf8
  clear hu8 hb5 hk5 hrf8 hs6 hu6 hn4 hu16 hl4 hw8 HN4 HU4 HS2 HU1
  go_wp2_with fail
  rw [← HW8.out]
  rw [← HK5.out]
  by_cases hneg : n < 0
  · have HD : Hid (A / 2 ^ n.toNat = A) := by show _ = _; rw [show n.toNat = 0 by omega]; simp
    refine (shl_bad _ A n (.inl hneg) _ (HA8.out _ HR8.out)).mono ?_
    rintro e w9 ⟨v7, rfl, hn7, hu9⟩
    obtain ⟨x7, c7, rfl, _, _⟩ := hn7.open
    obtain ⟨l7, hl7⟩ : ∃ l, l = (wds (0)).length := ⟨_, rfl⟩
    rw [← hl7] at hn7 ⊢
    obtain ⟨w10, hw10⟩ : ∃ W, W = w9.alloc (.cells #[.slice x7 l7 c7] 26) := ⟨_, rfl⟩
    obtain ⟨k7, hk7⟩ : ∃ k, k = w9.heap.size := ⟨_, rfl⟩
    have hu10 : Upd [] w9 w10 := by rw [hw10]; exact (Upd.refl _ _).alloc _
    have hb7 : Box w10 k7 (.slice x7 l7 c7) 26 := by rw [hw10, hk7]; exact Box.new _ _ _
    have HBX7 : Hid (∀ W, Upd [] w10 W → W.cell? ⟨k7, 0, none⟩ = some (.slice x7 l7 c7)) := fun W h => (hb7.upd h).cell
    have HN7 : Hid (∀ W, Upd [] w10 W → NV W (.agg #[.slice x7 l7 c7]) (0)) := fun W h => (hn7.upd0 hu10).upd0 h
    have HU10 := Lib.hid (hu9.trans0 hu10)
    have HW10 := Lib.hid hw10
    have HK7 := Lib.hid hk7
    have b5 := HBX.out _ HU10.out
    clear hu9 hu10 hb7 hn7 hk7 hl7
    rw [hw10] at b5
    clear hw10
    go_wp2_with fail
    rw [← HW10.out]
    rw [← HK7.out]
    refine (shr_any _ A n _ (HA8.out _ HU10.out) (by have := (HBP.out A rfl).1; omega) (by omega)).mono ?_
    rintro e w11 ⟨v9, rfl, hn9, hu11⟩
    rw [HD.out] at hn9
    obtain ⟨x9, c9, rfl, _, _⟩ := hn9.open
    obtain ⟨l9, hl9⟩ : ∃ l, l = (wds (A)).length := ⟨_, rfl⟩
    rw [← hl9] at hn9 ⊢
    obtain ⟨w12, hw12⟩ : ∃ W, W = w11.alloc (.cells #[.slice x9 l9 c9] 26) := ⟨_, rfl⟩
    obtain ⟨k9, hk9⟩ : ∃ k, k = w11.heap.size := ⟨_, rfl⟩
    have hu12 : Upd [] w11 w12 := by rw [hw12]; exact (Upd.refl _ _).alloc _
    have hb9 : Box w12 k9 (.slice x9 l9 c9) 26 := by rw [hw12, hk9]; exact Box.new _ _ _
    have HBX9 : Hid (∀ W, Upd [] w12 W → W.cell? ⟨k9, 0, none⟩ = some (.slice x9 l9 c9)) := fun W h => (hb9.upd h).cell
    have HN9 : Hid (∀ W, Upd [] w12 W → NV W (.agg #[.slice x9 l9 c9]) (A)) := fun W h => (hn9.upd0 hu12).upd0 h
    have H12 := Lib.hid (hu11.trans0 hu12)
    have HU12 := Lib.hid (HU10.out.trans0 (hu11.trans0 hu12))
    have HW12 := Lib.hid hw12
    have HK9 := Lib.hid hk9
    have b7 := HBX7.out _ H12.out
    have b9 := HBX9.out w12 (Upd.refl _ _)
    have b5' := HBX.out _ HU12.out
    clear hu11 hu12 hb9 hn9 hk9 hl9 b5
    rw [hw12] at b7 b9 b5'
    clear hw12
    have g1 : decide (0 < n) = false := by simp; omega
    go_wp2_with fail
    rw [← HW12.out]
    rw [← HK9.out]
    refine (zero_any _ _ _ (HN7.out _ H12.out)).mono ?_
    rintro e w13 ⟨rfl, hu13⟩
    have b9 := HBX9.out _ hu13
    have HU13 := Lib.hid (HU12.out.trans0 hu13)
    have H13 := Lib.hid hu13
    clear hu13 b7 b5'
    go_wp2_with fail
    refine (HIS.out _ A _ _ HU13.out (HN9.out _ H13.out) (HSA8.out _ HU13.out) (by have := (HBP.out A rfl).1; omega)).mono ?_
    rintro e w14 ⟨rfl, hu14⟩
    have HF := Lib.hid (HUT.out _ (HU13.out.trans0 hu14))
    clear hu14
    go_wp2
    go_ret
    exact ⟨rfl, HF.out⟩
  · by_cases hbig : 8192 < n
    · have HD : Hid (A / 2 ^ n.toNat = 0) := moves_zero (HBP.out A rfl).1 (by omega)
      refine (shl_bad _ A n (.inr hbig) _ (HA8.out _ HR8.out)).mono ?_
      rintro e w9 ⟨v7, rfl, hn7, hu9⟩
      obtain ⟨x7, c7, rfl, _, _⟩ := hn7.open
      obtain ⟨l7, hl7⟩ : ∃ l, l = (wds (0)).length := ⟨_, rfl⟩
      rw [← hl7] at hn7 ⊢
      obtain ⟨w10, hw10⟩ : ∃ W, W = w9.alloc (.cells #[.slice x7 l7 c7] 26) := ⟨_, rfl⟩
      obtain ⟨k7, hk7⟩ : ∃ k, k = w9.heap.size := ⟨_, rfl⟩
      have hu10 : Upd [] w9 w10 := by rw [hw10]; exact (Upd.refl _ _).alloc _
      have hb7 : Box w10 k7 (.slice x7 l7 c7) 26 := by rw [hw10, hk7]; exact Box.new _ _ _
      have HBX7 : Hid (∀ W, Upd [] w10 W → W.cell? ⟨k7, 0, none⟩ = some (.slice x7 l7 c7)) := fun W h => (hb7.upd h).cell
      have HN7 : Hid (∀ W, Upd [] w10 W → NV W (.agg #[.slice x7 l7 c7]) (0)) := fun W h => (hn7.upd0 hu10).upd0 h
      have HU10 := Lib.hid (hu9.trans0 hu10)
      have HW10 := Lib.hid hw10
      have HK7 := Lib.hid hk7
      have b5 := HBX.out _ HU10.out
      clear hu9 hu10 hb7 hn7 hk7 hl7
      rw [hw10] at b5
      clear hw10
      go_wp2_with fail
      rw [← HW10.out]
      rw [← HK7.out]
      refine (shr_any _ A n _ (HA8.out _ HU10.out) (by have := (HBP.out A rfl).1; omega) (by omega)).mono ?_
      rintro e w11 ⟨v9, rfl, hn9, hu11⟩
      rw [HD.out] at hn9
      obtain ⟨x9, c9, rfl, _, _⟩ := hn9.open
      obtain ⟨l9, hl9⟩ : ∃ l, l = (wds (0)).length := ⟨_, rfl⟩
      rw [← hl9] at hn9 ⊢
      obtain ⟨w12, hw12⟩ : ∃ W, W = w11.alloc (.cells #[.slice x9 l9 c9] 26) := ⟨_, rfl⟩
      obtain ⟨k9, hk9⟩ : ∃ k, k = w11.heap.size := ⟨_, rfl⟩
      have hu12 : Upd [] w11 w12 := by rw [hw12]; exact (Upd.refl _ _).alloc _
      have hb9 : Box w12 k9 (.slice x9 l9 c9) 26 := by rw [hw12, hk9]; exact Box.new _ _ _
      have HBX9 : Hid (∀ W, Upd [] w12 W → W.cell? ⟨k9, 0, none⟩ = some (.slice x9 l9 c9)) := fun W h => (hb9.upd h).cell
      have HN9 : Hid (∀ W, Upd [] w12 W → NV W (.agg #[.slice x9 l9 c9]) (0)) := fun W h => (hn9.upd0 hu12).upd0 h
      have H12 := Lib.hid (hu11.trans0 hu12)
      have HU12 := Lib.hid (HU10.out.trans0 (hu11.trans0 hu12))
      have HW12 := Lib.hid hw12
      have HK9 := Lib.hid hk9
      have b7 := HBX7.out _ H12.out
      have b9 := HBX9.out w12 (Upd.refl _ _)
      have b5' := HBX.out _ HU12.out
      clear hu11 hu12 hb9 hn9 hk9 hl9 b5
      rw [hw12] at b7 b9 b5'
      clear hw12
      have g1 : decide (0 < n) = true := by simp; omega
      go_wp2_with fail
      rw [← HW12.out]
      rw [← HK9.out]
      refine (zero_any _ _ _ (HN7.out _ H12.out)).mono ?_
      rintro e w13 ⟨rfl, hu13⟩
      have b9 := HBX9.out _ hu13
      have HU13 := Lib.hid (HU12.out.trans0 hu13)
      have H13 := Lib.hid hu13
      clear hu13 b7 b5'
      go_wp2_with fail
      refine (zero_any _ _ _ (HN9.out _ H13.out)).mono ?_
      rintro e w14 ⟨rfl, hu14⟩
      have HF := Lib.hid (HUT.out _ (HU13.out.trans0 hu14))
      clear hu14
      go_wp2
      go_ret
      exact ⟨rfl, HF.out⟩
    · obtain ⟨N, rfl⟩ := Int.eq_ofNat_of_zero_le (show 0 ≤ n by omega)
      have hN : N ≤ 8192 := by omega
      have HD : Hid (A / 2 ^ ((N : Int)).toNat = A / 2 ^ N) := by show _ = _; rw [show ((N : Int)).toNat = N by omega]
      clear hneg hbig hn hn'
      refine (shl_any _ A N _ (HA8.out _ HR8.out) (by have := (HBP.out A rfl).1; omega) (by omega)).mono ?_
      rintro e w9 ⟨v7, rfl, hn7, hu9⟩
      obtain ⟨x7, c7, rfl, _, _⟩ := hn7.open
      obtain ⟨l7, hl7⟩ : ∃ l, l = (wds (A * 2 ^ N)).length := ⟨_, rfl⟩
      rw [← hl7] at hn7 ⊢
      obtain ⟨w10, hw10⟩ : ∃ W, W = w9.alloc (.cells #[.slice x7 l7 c7] 26) := ⟨_, rfl⟩
      obtain ⟨k7, hk7⟩ : ∃ k, k = w9.heap.size := ⟨_, rfl⟩
      have hu10 : Upd [] w9 w10 := by rw [hw10]; exact (Upd.refl _ _).alloc _
      have hb7 : Box w10 k7 (.slice x7 l7 c7) 26 := by rw [hw10, hk7]; exact Box.new _ _ _
      have HBX7 : Hid (∀ W, Upd [] w10 W → W.cell? ⟨k7, 0, none⟩ = some (.slice x7 l7 c7)) := fun W h => (hb7.upd h).cell
      have HN7 : Hid (∀ W, Upd [] w10 W → NV W (.agg #[.slice x7 l7 c7]) (A * 2 ^ N)) := fun W h => (hn7.upd0 hu10).upd0 h
      have HU10 := Lib.hid (hu9.trans0 hu10)
      have HW10 := Lib.hid hw10
      have HK7 := Lib.hid hk7
      have b5 := HBX.out _ HU10.out
      clear hu9 hu10 hb7 hn7 hk7 hl7
      rw [hw10] at b5
      clear hw10
      go_wp2_with fail
      rw [← HW10.out]
      rw [← HK7.out]
      refine (shr_any _ A (N : Int) _ (HA8.out _ HU10.out) (by have := (HBP.out A rfl).1; omega) (by omega)).mono ?_
      rintro e w11 ⟨v9, rfl, hn9, hu11⟩
      rw [HD.out] at hn9
      obtain ⟨x9, c9, rfl, _, _⟩ := hn9.open
      obtain ⟨l9, hl9⟩ : ∃ l, l = (wds (A / 2 ^ N)).length := ⟨_, rfl⟩
      rw [← hl9] at hn9 ⊢
      obtain ⟨w12, hw12⟩ : ∃ W, W = w11.alloc (.cells #[.slice x9 l9 c9] 26) := ⟨_, rfl⟩
      obtain ⟨k9, hk9⟩ : ∃ k, k = w11.heap.size := ⟨_, rfl⟩
      have hu12 : Upd [] w11 w12 := by rw [hw12]; exact (Upd.refl _ _).alloc _
      have hb9 : Box w12 k9 (.slice x9 l9 c9) 26 := by rw [hw12, hk9]; exact Box.new _ _ _
      have HBX9 : Hid (∀ W, Upd [] w12 W → W.cell? ⟨k9, 0, none⟩ = some (.slice x9 l9 c9)) := fun W h => (hb9.upd h).cell
      have HN9 : Hid (∀ W, Upd [] w12 W → NV W (.agg #[.slice x9 l9 c9]) (A / 2 ^ N)) := fun W h => (hn9.upd0 hu12).upd0 h
      have H12 := Lib.hid (hu11.trans0 hu12)
      have HU12 := Lib.hid (HU10.out.trans0 (hu11.trans0 hu12))
      have HW12 := Lib.hid hw12
      have HK9 := Lib.hid hk9
      have b7 := HBX7.out _ H12.out
      have b9 := HBX9.out w12 (Upd.refl _ _)
      have b5' := HBX.out _ HU12.out
      clear hu11 hu12 hb9 hn9 hk9 hl9 b5
      rw [hw12] at b7 b9 b5'
      clear hw12
      have HL7 : Hid ((wds (A * 2 ^ N)).length ≤ 134) := moves_len (HBP.out A rfl).1 hN
      have HC : Hid (∀ W, Upd [] w12 W → W.cell? ⟨k7, 0, none⟩ = some (.slice x7 l7 c7) ∧ W.cell? ⟨k5, 0, none⟩ = some (.slice x4 l4 c4) ∧ Upd [] w12 W) := fun W h => ⟨HBX7.out _ (H12.out.trans0 h), HBX.out _ (HU12.out.trans0 h), h⟩
      have HSHR : Hid (∀ W, Upd [] w12 W → Calls Tryd.prog 24 #[.agg #[.slice x7 l7 c7], .int .i64 (N : Int)] W (RNat A W)) := fun W h => by
        have := shr_any _ _ (N : Int) W (HN7.out W (H12.out.trans0 h)) (by have := HL7.out; omega) (by omega)
        rw [show ((N : Int)).toNat = N by omega, Nat.mul_div_cancel _ (Nat.two_pow_pos N)] at this
        exact this
      have HCP : Hid (∀ W v, Upd [] w12 W → NV W v A → Calls Tryd.prog 20 #[v, .agg #[.slice x4 l4 c4]] W fun e w' => e = .returned (.int .i64 0) ∧ Upd [] W w') := fun W v h h2 => by
        have := cmp_any _ _ _ _ _ h2 (HA8.out W (HU12.out.trans0 h)) (by have := (HBP.out A rfl).1; omega)
        rw [show cmpN A A = 0 by unfold cmpN; simp] at this
        exact this
      have HZ4 : Hid (∀ W, Upd [] w12 W → Calls Tryd.prog 17 #[.agg #[.slice x4 l4 c4]] W fun e w' => e = .returned (.bool (decide (A = 0))) ∧ Upd [] W w') := fun W h => zero_any _ _ _ (HA8.out W (HU12.out.trans0 h))
      have HB7 : Hid (∀ W, Upd [] w12 W → Calls Tryd.prog 25 #[.agg #[.slice x7 l7 c7]] W fun e w' => e = .returned (.int .i64 (nbits (A * 2 ^ N) : Int)) ∧ Upd [] W w') := fun W h => bits_any _ _ W (HN7.out W (H12.out.trans0 h)) (by have := HL7.out; omega)
      have HB4 : Hid (∀ W, Upd [] w12 W → Calls Tryd.prog 25 #[.agg #[.slice x4 l4 c4]] W fun e w' => e = .returned (.int .i64 (nbits A : Int)) ∧ Upd [] W w') := fun W h => bits_any _ _ W (HA8.out W (HU12.out.trans0 h)) (by have := (HBP.out A rfl).1; omega)
      have HBT : Hid (∀ W, Upd [] w12 W → Calls Tryd.prog 26 #[.agg #[.slice x7 l7 c7], .int .i64 (IntKind.i64.wrap ((N : Int) - 1))] W fun e w' => e = .returned (.bool false) ∧ Upd [] W w') := fun W h => by
        rw [show IntKind.i64.wrap ((N : Int) - 1) = (N : Int) - 1 by rw [IntKind.wrap_i64]; omega]
        have := bit_any _ _ ((N : Int) - 1) W (HN7.out W (H12.out.trans0 h)) (by omega) (by omega)
        rw [moves_bit] at this
        exact this
      have hnl : nbits A ≤ 320 := by
        obtain ⟨E, hE⟩ : ∃ E, E = 5 := ⟨_, rfl⟩
        have h1 := (wds_length_le_iff A 5).1 (HBP.out A rfl).1
        rw [← hE, W_two, ← Nat.pow_mul, ← nbits_le_iff] at h1
        omega
      have hrf : Upd [] w12 w12 := Upd.refl _ _
      go_upto_region 9 with fail
      rw [← HW12.out]
      rw [← HK9.out]
      clear b7 b9 b5'
      go_cut [88] (fun v88 wx => v88 = .bool false ∧ Upd [] w12 wx)
      case first =>
        by_cases hA0 : A = 0
        · have HZ : Hid (∀ W, Upd [] w12 W → Calls Tryd.prog 17 #[.agg #[.slice x4 l4 c4]] W fun e w' => e = .returned (.bool true) ∧ Upd [] W w') := fun W h => by have := HZ4.out W h; rw [decide_eq_true hA0] at this; exact this
          clear hA0 HZ4 hnl
          refine wp_region_held_drew (S := (fun W => W.cell? ⟨k7, 0, none⟩ = some (.slice x7 l7 c7) ∧ W.cell? ⟨k5, 0, none⟩ = some (.slice x4 l4 c4) ∧ Upd [] w12 W)) (by kernel_rfl) ?_ (fun hHeld => ?_)
          · exact HC.out _ hrf.drew
          refine wpAnyH_take (i := 0) (oi := _) (v := ?_) rfl (by kernel_rfl) (by kernel_rfl) (by kernel_rfl) (fun _ _ _ h => h) (Or.inl ⟨by kernel_rfl, ?_⟩) hHeld ?_
          rotate_left
          · intro w hSw; (try dsimp only at hSw); go_simp; (try with_reducible rfl)
          try simp only [Act.put, List.setIfInBounds_toArray, List.set_cons_zero, List.set_cons_succ]
          refine wpAnyH_take (i := 1) (oi := _) (v := ?_) rfl (by kernel_rfl) (by kernel_rfl) (by kernel_rfl) (fun _ _ _ h => h) (Or.inl ⟨by kernel_rfl, ?_⟩) hHeld ?_
          rotate_left
          · intro w hSw; (try dsimp only at hSw); go_simp; (try with_reducible rfl)
          try simp only [Act.put, List.setIfInBounds_toArray, List.set_cons_zero, List.set_cons_succ]
          refine wpAnyH_take (i := 2) (oi := _) (v := ?_) rfl (by kernel_rfl) (by kernel_rfl) (by kernel_rfl) (fun _ _ _ h => h) (Or.inl ⟨by kernel_rfl, ?_⟩) hHeld ?_
          rotate_left
          · intro w hSw; (try dsimp only at hSw); go_simp; (try with_reducible rfl)
          try simp only [Act.put, List.setIfInBounds_toArray, List.set_cons_zero, List.set_cons_succ]
          refine wpAnyH_take (i := 3) (oi := _) (v := ?_) rfl (by kernel_rfl) (by kernel_rfl) (by kernel_rfl) (fun _ _ _ h => h) (Or.inl ⟨by kernel_rfl, ?_⟩) hHeld ?_
          rotate_left
          · intro w hSw; (try dsimp only at hSw); go_simp; (try with_reducible rfl)
          try simp only [Act.put, List.setIfInBounds_toArray, List.set_cons_zero, List.set_cons_succ]
          refine wpAnyH_take (i := 4) (oi := _) (v := ?_) rfl (by kernel_rfl) (by kernel_rfl) (by kernel_rfl) (fun _ _ _ h => h) (Or.inl ⟨by kernel_rfl, ?_⟩) hHeld ?_
          rotate_left
          · intro w hSw; (try dsimp only at hSw); go_simp; (try with_reducible rfl)
          try simp only [Act.put, List.setIfInBounds_toArray, List.set_cons_zero, List.set_cons_succ]
          refine wpAnyH_take (i := 6) (oi := _) (v := ?_) rfl (by kernel_rfl) (by kernel_rfl) (by kernel_rfl) (fun _ _ _ h => h) (Or.inl ⟨by kernel_rfl, ?_⟩) hHeld ?_
          rotate_left
          · intro w hSw; (try dsimp only at hSw); go_simp; (try with_reducible rfl)
          try simp only [Act.put, List.setIfInBounds_toArray, List.set_cons_zero, List.set_cons_succ]
          refine wpAnyH_ready (rs := [5]) (by kernel_rfl) (by simp) ?_
          refine AllReadyH.cons (o := _) rfl (fun K hK => ?_) ?_
          rotate_left
          · exact AllReadyH.nil
          go_simp
          refine (HSHR.out _ hrf.drew).mono ?_; rintro e wy ⟨v19, rfl, hs19, hu19⟩; have huy : Upd [] w12 wy := hrf.drew.trans0 hu19; have HS19 := Lib.hid hs19; clear hs19 hu19
          clear hHeld
          refine hK.out _ _ ?_ (fun hHeld => ?_)
          · exact HC.out _ huy
          clear hK K
          try simp only [Act.put, List.setIfInBounds_toArray, List.set_cons_zero, List.set_cons_succ]
          refine wpAnyH_ready (rs := [7]) (by kernel_rfl) (by simp) ?_
          refine AllReadyH.cons (o := _) rfl (fun K hK => ?_) ?_
          rotate_left
          · exact AllReadyH.nil
          go_simp
          refine (HCP.out _ _ huy HS19.out).mono ?_; rintro e wz ⟨rfl, hu20⟩; have huz := huy.trans0 hu20; clear huy hu20; have huy := huz; clear huz
          clear hHeld
          refine hK.out _ _ ?_ (fun hHeld => ?_)
          · exact HC.out _ huy
          clear hK K
          try simp only [Act.put, List.setIfInBounds_toArray, List.set_cons_zero, List.set_cons_succ]
          refine wpAnyH_take (i := 8) (oi := _) (v := ?_) rfl (by kernel_rfl) (by kernel_rfl) (by kernel_rfl) (fun _ _ _ h => h) (Or.inl ⟨by kernel_rfl, ?_⟩) hHeld ?_
          rotate_left
          · intro w hSw; (try dsimp only at hSw); go_simp; (try with_reducible rfl)
          try simp only [Act.put, List.setIfInBounds_toArray, List.set_cons_zero, List.set_cons_succ]
          refine wpAnyH_take (i := 9) (oi := _) (v := ?_) rfl (by kernel_rfl) (by kernel_rfl) (by kernel_rfl) (fun _ _ _ h => h) (Or.inl ⟨by kernel_rfl, ?_⟩) hHeld ?_
          rotate_left
          · intro w hSw; (try dsimp only at hSw); go_simp; (try with_reducible rfl)
          try simp only [Act.put, List.setIfInBounds_toArray, List.set_cons_zero, List.set_cons_succ]
          refine wpAnyH_take (i := 10) (oi := _) (v := ?_) rfl (by kernel_rfl) (by kernel_rfl) (by kernel_rfl) (fun _ _ _ h => h) (Or.inl ⟨by kernel_rfl, ?_⟩) hHeld ?_
          rotate_left
          · intro w hSw; (try dsimp only at hSw); go_simp; (try with_reducible rfl)
          try simp only [Act.put, List.setIfInBounds_toArray, List.set_cons_zero, List.set_cons_succ]
          refine wpAnyH_take (i := 11) (oi := _) (v := ?_) rfl (by kernel_rfl) (by kernel_rfl) (by kernel_rfl) (fun _ _ _ h => h) (Or.inl ⟨by kernel_rfl, ?_⟩) hHeld ?_
          rotate_left
          · intro w hSw; (try dsimp only at hSw); go_simp; (try with_reducible rfl)
          try simp only [Act.put, List.setIfInBounds_toArray, List.set_cons_zero, List.set_cons_succ]
          refine wpAnyH_ready (rs := [12]) (by kernel_rfl) (by simp) ?_
          refine AllReadyH.cons (o := _) rfl (fun K hK => ?_) ?_
          rotate_left
          · exact AllReadyH.nil
          go_simp
          refine (HZ.out _ huy).mono ?_; rintro e wz ⟨rfl, hu20⟩; have huz := huy.trans0 hu20; clear huy hu20; have huy := huz; clear huz
          clear hHeld
          refine hK.out _ _ ?_ (fun hHeld => ?_)
          · exact HC.out _ huy
          clear hK K
          try simp only [Act.put, List.setIfInBounds_toArray, List.set_cons_zero, List.set_cons_succ]
          refine wpAnyH_take (i := 13) (oi := _) (v := ?_) rfl (by kernel_rfl) (by kernel_rfl) (by kernel_rfl) (fun _ _ _ h => h) (Or.inl ⟨by kernel_rfl, ?_⟩) hHeld ?_
          rotate_left
          · intro w hSw; (try dsimp only at hSw); go_simp; (try with_reducible rfl)
          try simp only [Act.put, List.setIfInBounds_toArray, List.set_cons_zero, List.set_cons_succ]
          refine wpAnyH_take (i := 14) (oi := _) (v := ?_) rfl (by kernel_rfl) (by kernel_rfl) (by kernel_rfl) (fun _ _ _ h => h) (Or.inl ⟨by kernel_rfl, ?_⟩) hHeld ?_
          rotate_left
          · intro w hSw; (try dsimp only at hSw); go_simp; (try with_reducible rfl)
          try simp only [Act.put, List.setIfInBounds_toArray, List.set_cons_zero, List.set_cons_succ]
          refine wpAnyH_take (i := 15) (oi := _) (v := undef) rfl (by kernel_rfl) (by kernel_rfl) (by kernel_rfl) (fun _ _ _ h => h) (Or.inr ⟨by kernel_rfl, rfl⟩) hHeld ?_
          try simp only [Act.put, List.setIfInBounds_toArray, List.set_cons_zero, List.set_cons_succ]
          refine wpAnyH_take (i := 16) (oi := _) (v := undef) rfl (by kernel_rfl) (by kernel_rfl) (by kernel_rfl) (fun _ _ _ h => h) (Or.inr ⟨by kernel_rfl, rfl⟩) hHeld ?_
          try simp only [Act.put, List.setIfInBounds_toArray, List.set_cons_zero, List.set_cons_succ]
          refine wpAnyH_take (i := 17) (oi := _) (v := undef) rfl (by kernel_rfl) (by kernel_rfl) (by kernel_rfl) (fun _ _ _ h => h) (Or.inr ⟨by kernel_rfl, rfl⟩) hHeld ?_
          try simp only [Act.put, List.setIfInBounds_toArray, List.set_cons_zero, List.set_cons_succ]
          refine wpAnyH_take (i := 18) (oi := _) (v := undef) rfl (by kernel_rfl) (by kernel_rfl) (by kernel_rfl) (fun _ _ _ h => h) (Or.inr ⟨by kernel_rfl, rfl⟩) hHeld ?_
          try simp only [Act.put, List.setIfInBounds_toArray, List.set_cons_zero, List.set_cons_succ]
          refine wpAnyH_take (i := 19) (oi := _) (v := undef) rfl (by kernel_rfl) (by kernel_rfl) (by kernel_rfl) (fun _ _ _ h => h) (Or.inr ⟨by kernel_rfl, rfl⟩) hHeld ?_
          try simp only [Act.put, List.setIfInBounds_toArray, List.set_cons_zero, List.set_cons_succ]
          refine wpAnyH_take (i := 20) (oi := _) (v := undef) rfl (by kernel_rfl) (by kernel_rfl) (by kernel_rfl) (fun _ _ _ h => h) (Or.inr ⟨by kernel_rfl, rfl⟩) hHeld ?_
          try simp only [Act.put, List.setIfInBounds_toArray, List.set_cons_zero, List.set_cons_succ]
          refine wpAnyH_take (i := 21) (oi := _) (v := undef) rfl (by kernel_rfl) (by kernel_rfl) (by kernel_rfl) (fun _ _ _ h => h) (Or.inr ⟨by kernel_rfl, rfl⟩) hHeld ?_
          try simp only [Act.put, List.setIfInBounds_toArray, List.set_cons_zero, List.set_cons_succ]
          refine wpAnyH_take (i := 22) (oi := _) (v := ?_) rfl (by kernel_rfl) (by kernel_rfl) (by kernel_rfl) (fun _ _ _ h => h) (Or.inl ⟨by kernel_rfl, ?_⟩) hHeld ?_
          rotate_left
          · intro w hSw; (try dsimp only at hSw); go_simp; (try with_reducible rfl)
          try simp only [Act.put, List.setIfInBounds_toArray, List.set_cons_zero, List.set_cons_succ]
          refine wpAnyH_take (i := 23) (oi := _) (v := ?_) rfl (by kernel_rfl) (by kernel_rfl) (by kernel_rfl) (fun _ _ _ h => h) (Or.inl ⟨by kernel_rfl, ?_⟩) hHeld ?_
          rotate_left
          · intro w hSw; (try dsimp only at hSw); go_simp; (try with_reducible rfl)
          try simp only [Act.put, List.setIfInBounds_toArray, List.set_cons_zero, List.set_cons_succ]
          refine wpAnyH_take (i := 24) (oi := _) (v := ?_) rfl (by kernel_rfl) (by kernel_rfl) (by kernel_rfl) (fun _ _ _ h => h) (Or.inl ⟨by kernel_rfl, ?_⟩) hHeld ?_
          rotate_left
          · intro w hSw; (try dsimp only at hSw); go_simp; (try with_reducible rfl)
          try simp only [Act.put, List.setIfInBounds_toArray, List.set_cons_zero, List.set_cons_succ]
          refine wpAnyH_take (i := 25) (oi := _) (v := ?_) rfl (by kernel_rfl) (by kernel_rfl) (by kernel_rfl) (fun _ _ _ h => h) (Or.inl ⟨by kernel_rfl, ?_⟩) hHeld ?_
          rotate_left
          · intro w hSw; (try dsimp only at hSw); go_simp; (try with_reducible rfl)
          try simp only [Act.put, List.setIfInBounds_toArray, List.set_cons_zero, List.set_cons_succ]
          refine wpAnyH_take (i := 26) (oi := _) (v := ?_) rfl (by kernel_rfl) (by kernel_rfl) (by kernel_rfl) (fun _ _ _ h => h) (Or.inl ⟨by kernel_rfl, ?_⟩) hHeld ?_
          rotate_left
          · intro w hSw; (try dsimp only at hSw); go_simp; (try with_reducible rfl)
          try simp only [Act.put, List.setIfInBounds_toArray, List.set_cons_zero, List.set_cons_succ]
          refine wpAnyH_take (i := 27) (oi := _) (v := ?_) rfl (by kernel_rfl) (by kernel_rfl) (by kernel_rfl) (fun _ _ _ h => h) (Or.inl ⟨by kernel_rfl, ?_⟩) hHeld ?_
          rotate_left
          · intro w hSw; (try dsimp only at hSw); go_simp; (try with_reducible rfl)
          try simp only [Act.put, List.setIfInBounds_toArray, List.set_cons_zero, List.set_cons_succ]
          refine wpAnyH_ready (rs := [28]) (by kernel_rfl) (by simp) ?_
          refine AllReadyH.cons (o := _) rfl (fun K hK => ?_) ?_
          rotate_left
          · exact AllReadyH.nil
          go_simp
          refine (HBT.out _ huy).mono ?_; rintro e wz ⟨rfl, hu20⟩; have huz := huy.trans0 hu20; clear huy hu20; have huy := huz; clear huz
          clear hHeld
          refine hK.out _ _ ?_ (fun hHeld => ?_)
          · exact HC.out _ huy
          clear hK K
          try simp only [Act.put, List.setIfInBounds_toArray, List.set_cons_zero, List.set_cons_succ]
          refine wpAnyH_take (i := 29) (oi := _) (v := ?_) rfl (by kernel_rfl) (by kernel_rfl) (by kernel_rfl) (fun _ _ _ h => h) (Or.inl ⟨by kernel_rfl, ?_⟩) hHeld ?_
          rotate_left
          · intro w hSw; (try dsimp only at hSw); go_simp; (try with_reducible rfl)
          try simp only [Act.put, List.setIfInBounds_toArray, List.set_cons_zero, List.set_cons_succ]
          refine wpAnyH_done (by kernel_rfl) ?_ _
          try simp only [List.getElem_toArray, List.getElem_cons_succ, List.getElem_cons_zero, Act.put, List.setIfInBounds_toArray, List.set_cons_zero, List.set_cons_succ]
          go_wp2_with fail
          go_meet
          exact ⟨rfl, huy⟩
        · have HZ : Hid (∀ W, Upd [] w12 W → Calls Tryd.prog 17 #[.agg #[.slice x4 l4 c4]] W fun e w' => e = .returned (.bool false) ∧ Upd [] W w') := fun W h => by have := HZ4.out W h; rw [decide_eq_false hA0] at this; exact this
          have hbb := moves_bits (N := N) hA0
          have j1 : IntKind.i64.wrap ((nbits A : Int) + (N : Int)) = (nbits (A * 2 ^ N) : Int) := by rw [hbb, IntKind.wrap_i64]; omega
          clear hA0 HZ4 hbb hnl
          generalize nbits (A * 2 ^ N) = nb7 at *
          generalize nbits A = nb4 at *
          have j2 : ((nb7 : Int) == (nb7 : Int)) = true := by simp
          have j3 : ((nb7 : Int) != (nb7 : Int)) = false := by simp
          have j4 : (nb7 == nb7) = true := by simp
          first
            | go_region_held3 (fun W => W.cell? ⟨k7, 0, none⟩ = some (.slice x7 l7 c7) ∧ W.cell? ⟨k5, 0, none⟩ = some (.slice x4 l4 c4) ∧ Upd [] w12 W)
                (first
                  | exact HC.out _ huy
                  | exact HC.out _ huy.drew
                  | exact HC.out _ hrf.drew
                  | exact HC.out _ hrf)
                (first
                  | (refine held_skip rfl ?_)
                  | (go_at_call 24; (with_reducible refine (HSHR.out _ (by first | exact hrf.drew | exact hrf)).mono ?_); rintro e wy ⟨v19, rfl, hs19, hu19⟩; have huy : Upd [] w12 wy := (by first | exact hrf.drew.trans0 hu19 | exact hrf.trans0 hu19); have HS19 := Lib.hid hs19; clear hs19 hu19)
                  | (go_at_call 20; (with_reducible refine (HCP.out _ _ huy HS19.out).mono ?_); rintro e wz ⟨rfl, hu20⟩; have huz := huy.trans0 hu20; clear huy hu20; have huy := huz; clear huz)
                  | (go_at_call 17; (with_reducible refine (HZ.out _ huy).mono ?_); rintro e wz ⟨rfl, hu20⟩; have huz := huy.trans0 hu20; clear huy hu20; have huy := huz; clear huz)
                  | (go_at_call 25; (with_reducible refine (HB7.out _ huy).mono ?_); rintro e wz ⟨rfl, hu20⟩; have huz := huy.trans0 hu20; clear huy hu20; have huy := huz; clear huz)
                  | (go_at_call 25; (with_reducible refine (HB4.out _ huy).mono ?_); rintro e wz ⟨rfl, hu20⟩; have huz := huy.trans0 hu20; clear huy hu20; have huy := huz; clear huz)
                  | (go_at_call 26; (with_reducible refine (HBT.out _ huy).mono ?_); rintro e wz ⟨rfl, hu20⟩; have huz := huy.trans0 hu20; clear huy hu20; have huy := huz; clear huz))
            | fail
          all_goals
            go_wp2_with fail
            go_meet
            exact ⟨rfl, huy⟩
      case rest =>
        obtain ⟨rfl, hux⟩ := hcut
        have HUX := Lib.hid hux
        clear HSHR HCP HZ4 HB7 HB4 HBT hnl HC hrf hux
        by_cases h500 : 500 < N
        · have g5 : decide ((N : Int) > 500) = true := by simp; omega
          have HZ := Lib.hid (zero_any _ _ _ (HN9.out _ HUX.out))
          rw [decide_eq_true (moves_zero (N := N) (HBP.out A rfl).1 (by omega))] at HZ
          have b9 := HBX9.out _ HUX.out
          clear h500
          go_wp2_with fail
          refine HZ.out.mono ?_
          rintro e w13 ⟨rfl, hu13⟩
          have HF := Lib.hid (HUT.out _ (HU12.out.trans0 (HUX.out.trans0 hu13)))
          clear hu13
          go_wp2
          go_ret
          exact ⟨rfl, HF.out⟩
        · have g5 : decide ((N : Int) > 500) = false := by simp; omega
          have hN5 : N ≤ 500 := by omega
          have h2 : (digs (2 ^ N)).length ≤ 40 := digs_len 40 _ (Nat.lt_of_le_of_lt (Nat.pow_le_pow_right (by decide) hN5) (by decide +kernel))
          have HSM := Lib.hid ((fun W (_ : Upd [] w12 W) => small_any 2 W (by decide)) _ HUX.out)
          have HL2 := Lib.hid h2
          have HN5 := Lib.hid hN5
          clear h500 h2 hN5
          go_wp2_with fail
          refine HSM.out.mono ?_
          rintro e w13 ⟨v13, rfl, hs13, hu13⟩
          have HPW2 := Lib.hid (rpow_any _ 2 N _ hs13 (by have := digs_len1 (a := 2) (by decide); omega) (by have := HN5.out; omega))
          have HU13 := Lib.hid (HUX.out.trans0 hu13)
          clear hs13 hu13
          go_wp2_with fail
          refine HPW2.out.mono ?_
          rintro e w14 ⟨v14, rfl, hs14, hu14⟩
          have HU14 := Lib.hid (HU13.out.trans0 hu14)
          have HS14 := Lib.hid hs14
          have HDM := Lib.hid (rdivmod_any _ _ A (2 ^ N) w14 (HSA8.out _ (HU12.out.trans0 HU14.out)) hs14 (by have := (HBP.out A rfl).2; omega) (by have := HL2.out; omega) (Nat.two_pow_pos N))
          clear hs14 hu14 HU13
          go_wp2_with fail
          refine HDM.out.mono ?_
          rintro e w15 ⟨v15, v16, rfl, hs15, hs16, hu15⟩
          have HU15 := Lib.hid (HU14.out.trans0 hu15)
          have HS14' := Lib.hid (HS14.out.upd0 hu15)
          have HS15 := Lib.hid hs15
          have HC2 : Hid (∀ W, Upd [] w15 W → W.cell? ⟨k7, 0, none⟩ = some (.slice x7 l7 c7) ∧ W.cell? ⟨k9, 0, none⟩ = some (.slice x9 l9 c9) ∧ Upd [] w15 W) := fun W h => ⟨HBX7.out _ (H12.out.trans0 (HU15.out.trans0 h)), HBX9.out _ (HU15.out.trans0 h), h⟩
          have HMU : Hid (∀ W, Upd [] w15 W → Calls Tryd.prog 29 #[v6, v14] W (RDig (A * 2 ^ N) W)) := fun W h =>
            rmul_any _ _ A (2 ^ N) W (HSA8.out _ (HU12.out.trans0 (HU15.out.trans0 h))) (HS14'.out.upd0 h) (by have := (HBP.out A rfl).2; omega) (by have := HL2.out; omega)
          have HI1 : Hid (∀ W v, Upd [] w15 W → Sl W v (ci64 (digs (A * 2 ^ N))) → Calls Tryd.prog 19 #[.agg #[.slice x7 l7 c7], v] W fun e w' => e = .returned (.bool true) ∧ Upd [] W w') := fun W v h hv =>
            HIS.out W _ _ v (HU12.out.trans0 (HU15.out.trans0 h)) (HN7.out _ (H12.out.trans0 (HU15.out.trans0 h))) hv (by have := HL7.out; omega)
          have HI2 : Hid (∀ W, Upd [] w15 W → Calls Tryd.prog 19 #[.agg #[.slice x9 l9 c9], v15] W fun e w' => e = .returned (.bool true) ∧ Upd [] W w') := fun W h =>
            HIS.out W _ _ _ (HU12.out.trans0 (HU15.out.trans0 h)) (HN9.out _ (HU15.out.trans0 h)) (HS15.out.upd0 h) (by have := wds_length_le (Nat.div_le_self A (2 ^ N)); have := (HBP.out A rfl).1; omega)
          have hrf : Upd [] w15 w15 := Upd.refl _ _
          clear hs15 hs16 hu15
          go_wp2_with fail
          go_region_held3 (fun W => W.cell? ⟨k7, 0, none⟩ = some (.slice x7 l7 c7) ∧ W.cell? ⟨k9, 0, none⟩ = some (.slice x9 l9 c9) ∧ Upd [] w15 W)
            (first
              | exact HC2.out _ huy
              | exact HC2.out _ huy.drew
              | exact HC2.out _ hrf.drew
              | exact HC2.out _ hrf)
            (first
              | (go_at_call 29; (with_reducible refine (HMU.out _ (by first | exact huy | exact hrf.drew | exact hrf)).mono ?_); rintro e wz ⟨vM, rfl, hsM, hu20⟩; have HSM2 := Lib.hid hsM; clear hsM; have huz : Upd [] w15 wz := (by first | exact huy.trans0 hu20 | exact hrf.drew.trans0 hu20 | exact hrf.trans0 hu20); (try clear huy); clear hu20; have huy := huz; clear huz)
              | (go_at_call 19; (with_reducible refine (HI2.out _ (by first | exact huy | exact hrf.drew | exact hrf)).mono ?_); rintro e wz ⟨rfl, hu20⟩; have huz : Upd [] w15 wz := (by first | exact huy.trans0 hu20 | exact hrf.drew.trans0 hu20 | exact hrf.trans0 hu20); (try clear huy); clear hu20; have huy := huz; clear huz)
              | (go_at_call 19; (with_reducible refine (HI1.out _ _ huy HSM2.out).mono ?_); rintro e wz ⟨rfl, hu20⟩; have huz : Upd [] w15 wz := (by first | exact huy.trans0 hu20 | exact hrf.drew.trans0 hu20 | exact hrf.trans0 hu20); (try clear huy); clear hu20; have huy := huz; clear huz))
          all_goals
            go_wp2
            go_ret
            exact ⟨rfl, HUT.out _ (HU12.out.trans0 (HU15.out.trans0 huy))⟩
end Go.Proofs.YtcehkflkekefpaaDoor
