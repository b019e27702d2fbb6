/- The law NatSums (layer 5). -/
import Derived.Test.YthepnppnmmkigaaDoorNatIs
import Derived.Test.YthepnppnmmkigaaDoorNatWake
import Derived.Test.YthepnppnmmkigaaDoorNatFew
import Derived.Test.YthepnppnmmkigaaDoorNatSub
import Derived.Test.YthepnppnmmkigaaDoorNatSum
import Derived.Test.YthepnppnmmkigaaDoorNatMul2
namespace Go.Proofs.YthepnppnmmkigaaDoor
open Go.RowKit Go.Proofs.Tm
set_option linter.unusedVariables false
set_option linter.unusedSimpArgs false
set_option maxRecDepth 20000

/-- A number of few words, in both ways. -/
theorem few_bounds (L : List Nat) (k : Nat) (h : ∀ d ∈ L, d < 18446744073709551616) : (wds (wval (L.take k))).length ≤ k ∧ (digs (wval (L.take k))).length ≤ 5 * k :=
  ⟨few_len L k h, digs_wlen ((wds_length_le_iff _ _).1 (few_len L k h))⟩

set_option maxHeartbeats 3200000 in
theorem natSums_law (a0 : Option Addr) (cap0 : Nat) (p : List Nat) (a1 : Option Addr) (cap1 : Nat) (q : List Nat) (w : World) (ht : Tab w)
    (hp : Sl w (.slice a0 p.length cap0) (cu64 p)) (hpw : ∀ d ∈ p, d < 18446744073709551616) (hq : Sl w (.slice a1 q.length cap1) (cu64 q)) (hqw : ∀ d ∈ q, d < 18446744073709551616) :
    Calls Tryd.prog 4 #[.slice a0 p.length cap0, .slice a1 q.length cap1] w fun e w' => e = .returned (.bool true) ∧ Upd [] w w' := by
  have HT : Hid (∀ W, Upd [] w W → Tab W) := fun W h => ht.upd0 h
  have HP : Hid (∀ W, Upd [] w W → Calls Tryd.prog 17 #[.slice a0 p.length cap0, .int .i64 6] W (RFew (p.take 6) W)) := fun W h => few_any a0 cap0 p 6 (by decide) W (hp.upd0 h)
  have HQ : Hid (∀ W, Upd [] w W → Calls Tryd.prog 17 #[.slice a1 q.length cap1, .int .i64 6] W (RFew (q.take 6) W)) := fun W h => few_any a1 cap1 q 6 (by decide) W (hq.upd0 h)
  have hbp := few_bounds p 6 hpw
  have hbq := few_bounds q 6 hqw
  have HPW : Hid (∀ d ∈ p.take 6, d < 18446744073709551616) := fun d hd => hpw d (List.mem_of_mem_take hd)
  have HQW : Hid (∀ d ∈ q.take 6, d < 18446744073709551616) := fun d hd => hqw d (List.mem_of_mem_take hd)
  have HPL : Hid ((p.take 6).length ≤ 6) := by show _ ≤ _; rw [List.length_take]; omega
  have HQL : Hid ((q.take 6).length ≤ 6) := by show _ ≤ _; rw [List.length_take]; omega
  obtain ⟨A, hA⟩ : ∃ A, A = wval (p.take 6) := ⟨_, rfl⟩
  obtain ⟨B, hB⟩ : ∃ A, A = wval (q.take 6) := ⟨_, rfl⟩
  rw [← hA] at hbp
  rw [← hB] at hbq
  have HEA := Lib.hid hA
  have HEB := Lib.hid hB
  have HBP : Hid (∀ n, n = A → (wds n).length ≤ 6 ∧ (digs n).length ≤ 30) := fun n h => by rw [h]; exact hbp
  have HBQ : Hid (∀ n, n = B → (wds n).length ≤ 6 ∧ (digs n).length ≤ 30) := fun n h => by rw [h]; exact hbq
  obtain ⟨lp, hlp⟩ : ∃ l, l = p.length := ⟨_, rfl⟩
  obtain ⟨lq, hlq⟩ : ∃ l, l = q.length := ⟨_, rfl⟩
  rw [← hlp] at HP ⊢
  rw [← hlq] at HQ ⊢
  clear ht hp hpw hq hqw hbp hbq hA hB hlp hlq
  go_enter Tryd.func4, Tryd.ntmps4
  go_wp2_with fail
  refine (awake_any _ (HT.out _ (Upd.refl _ _))).mono ?_
  rintro e w1 ⟨rfl, hu1⟩
  have HU1 := Lib.hid hu1
  clear hu1
  go_wp2_with fail
  refine (HP.out _ HU1.out).mono ?_
  rintro e w2 ⟨v2, rfl, hs2, rfl⟩
  have HS2 := Lib.hid hs2
  clear hs2
  go_wp2_with fail
  refine (HQ.out _ HU1.out).mono ?_
  rintro e w3 ⟨v3, rfl, hs3, rfl⟩
  have HS3 := Lib.hid hs3
  clear hs3
  go_wp2_with fail
  refine (of_any _ _ _ HS2.out (by have := HPL.out; omega) HPW.out).mono ?_
  rintro e w4 ⟨v4, rfl, hn4, hu4⟩
  rw [← HEA.out] at hn4
  have HN4 := Lib.hid hn4
  have HU4 := Lib.hid hu4
  clear hn4 hu4
  go_wp2_with fail
  refine (of_any _ _ _ (HS3.out.upd0 HU4.out) (by have := HQL.out; omega) HQW.out).mono ?_
  rintro e w5 ⟨v5, rfl, hn5, hu5⟩
  rw [← HEB.out] at hn5
  have HN5 := Lib.hid hn5
  have HU5 := Lib.hid (HU4.out.trans0 hu5)
  have HN4' := Lib.hid (HN4.out.upd0 hu5)
  clear hn5 hu5
  go_wp2_with fail
  refine (rof_any _ _ _ (HS2.out.upd0 HU5.out) HPW.out (by have := HPL.out; omega)).mono ?_
  rintro e w6 ⟨v6, rfl, hs6, hu6⟩
  rw [← HEA.out] at hs6
  have HS6 := Lib.hid hs6
  have HU56 := Lib.hid hu6
  have HU6 := Lib.hid (HU5.out.trans0 hu6)
  clear hs6 hu6
  go_wp2_with fail
  refine (rof_any _ _ _ (HS3.out.upd0 HU6.out) HQW.out (by have := HQL.out; omega)).mono ?_
  rintro e w7 ⟨v7, rfl, hs7, hu7⟩
  rw [← HEB.out] at hs7
  have HU57 := Lib.hid (HU56.out.trans0 hu7)
  have hn4 := HN4'.out.upd0 HU57.out
  have hn5 := HN5.out.upd0 HU57.out
  have hs6 := HS6.out.upd0 hu7
  have hu17 := HU1.out.trans0 (HU6.out.trans0 hu7)
  obtain ⟨x4, c4, rfl, _, _⟩ := hn4.open
  obtain ⟨x5, c5, rfl, _, _⟩ := hn5.open
  generalize (wds A).length = l4 at *
  generalize (wds B).length = l5 at *
  have HNA := Lib.hid hn4
  have HNB := Lib.hid hn5
  have HSA := Lib.hid hs6
  have HSB := Lib.hid hs7
  have HU := Lib.hid hu17
  clear hn4 hn5 hs6 hs7 hu17 hu7 HN4 HN5 HN4' HS6 HU56 HU57 HS2 HS3 HU4 HU5 HU6
  -- CASES
  obtain ⟨w8, hw8⟩ : ∃ W, W = (w7.alloc (.cells #[.slice x4 l4 c4] 26)).alloc (.cells #[.slice x5 l5 c5] 26) := ⟨_, rfl⟩
  obtain ⟨k5, hk5⟩ : ∃ k, k = w7.heap.size := ⟨_, rfl⟩
  have hu8 : Upd [] w7 w8 := by rw [hw8]; exact ((Upd.refl _ _).alloc _).alloc _
  have hb5 : Box w8 k5 (.slice x4 l4 c4) 26 := by rw [hw8, hk5]; exact (Box.new _ _ _).upd ((Upd.refl _ _).alloc _)
  have hb6 : Box w8 (k5 + 1) (.slice x5 l5 c5) 26 := by rw [hw8, hk5]; have := Box.new (w7.alloc (.cells #[.slice x4 l4 c4] 26)) (.slice x5 l5 c5) 26; simpa using this
  have HBX : Hid (∀ W, Upd [] w8 W → W.cell? ⟨k5, 0, none⟩ = some (.slice x4 l4 c4) ∧ W.cell? ⟨k5 + 1, 0, none⟩ = some (.slice x5 l5 c5)) := fun W h => ⟨(hb5.upd h).cell, (hb6.upd h).cell⟩
  have HA8 : Hid (∀ W, Upd [] w8 W → NV W (.agg #[.slice x4 l4 c4]) A) := fun W h => (HNA.out.upd0 hu8).upd0 h
  have HB8 : Hid (∀ W, Upd [] w8 W → NV W (.agg #[.slice x5 l5 c5]) B) := fun W h => (HNB.out.upd0 hu8).upd0 h
  have HSA8 : Hid (∀ W, Upd [] w8 W → Sl W v6 (ci64 (digs A))) := fun W h => (HSA.out.upd0 hu8).upd0 h
  have HSB8 : Hid (∀ W, Upd [] w8 W → Sl W v7 (ci64 (digs B))) := fun W h => (HSB.out.upd0 hu8).upd0 h
  have HUT : Hid (∀ W, Upd [] w8 W → Upd [] w W) := fun W h => HU.out.trans0 (hu8.trans0 h)
  have HW8 := Lib.hid hw8
  have HK5 := Lib.hid hk5
  have hin : ∀ m n, (wds m).length ≤ 6 → (wds n).length ≤ 6 → (wds (m + n)).length ≤ 7 ∧ (wds (m * n)).length ≤ 12 ∧ (digs (m + n)).length ≤ 35 ∧ (digs (m * n)).length ≤ 60 := fun m n h1 h2 => by
    have a1 := wds_length_add m n
    have a2 := wds_length_mul m n
    have a3 : (wds (m + n)).length ≤ 7 := by omega
    have a4 : (wds (m * n)).length ≤ 12 := by omega
    exact ⟨a3, a4, by have := digs_wlen ((wds_length_le_iff _ _).1 a3); omega, by have := digs_wlen ((wds_length_le_iff _ _).1 a4); omega⟩
  have HLEN := Lib.hid (hin A B (HBP.out A rfl).1 (HBQ.out B rfl).1)
  have HCMP : Hid (∀ W, Upd [] w8 W → Calls Tryd.prog 29 #[.agg #[.slice x4 l4 c4], .agg #[.slice x5 l5 c5]] W fun e w' => e = .returned (.int .i64 (cmpN A B)) ∧ Upd [] W w') := fun W h => cmp_any _ _ _ _ _ (HA8.out W h) (HB8.out W h) (by have := (HBP.out A rfl).1; omega)
  have HRCMP : Hid (∀ W, Upd [] w8 W → Calls Tryd.prog 28 #[v6, v7] W fun e w' => e = .returned (.int .i64 (cmpN A B)) ∧ Upd [] W w') := fun W h => rcmp_any _ _ _ _ _ (HSA8.out W h) (HSB8.out W h) (by have := (HBP.out A rfl).2; omega) (by have := (HBQ.out B rfl).2; omega)
  have HADD : Hid (∀ W, Upd [] w8 W → Calls Tryd.prog 30 #[.agg #[.slice x4 l4 c4], .agg #[.slice x5 l5 c5]] W (RNat (A + B) W)) := fun W h => add_any _ _ _ _ _ (HA8.out W h) (HB8.out W h) (by have := (HBP.out A rfl).1; omega) (by have := (HBQ.out B rfl).1; omega)
  have HRADD : Hid (∀ W, Upd [] w8 W → Calls Tryd.prog 31 #[v6, v7] W (RDig (A + B) W)) := fun W h => radd_any _ _ _ _ _ (HSA8.out W h) (HSB8.out W h) (by have := (HBP.out A rfl).2; omega) (by have := (HBQ.out B rfl).2; omega)
  have HMUL : Hid (∀ W, Upd [] w8 W → Calls Tryd.prog 32 #[.agg #[.slice x4 l4 c4], .agg #[.slice x5 l5 c5]] W (RNat (A * B) W)) := fun W h => mul_any _ _ _ _ _ (HA8.out W h) (HB8.out W h) (by have := (HBP.out A rfl).1; omega) (by have := (HBQ.out B rfl).1; omega)
  have HRMUL : Hid (∀ W, Upd [] w8 W → Calls Tryd.prog 33 #[v6, v7] W (RDig (A * B) W)) := fun W h => rmul_any _ _ _ _ _ (HSA8.out W h) (HSB8.out W h) (by have := (HBP.out A rfl).2; omega) (by have := (HBQ.out B rfl).2; omega)
  have HIS : Hid (∀ W n u v, Upd [] w8 W → NV W u n → Sl W v (ci64 (digs n)) → (wds n).length ≤ 12 → Calls Tryd.prog 24 #[u, v] W fun e w' => e = .returned (.bool true) ∧ Upd [] W w') := fun W n u v h h1 h2 h3 => is_any u v n W h1 h2 (HT.out _ (HUT.out _ h)) (by omega) (by have := digs_wlen ((wds_length_le_iff _ _).1 h3); omega)
  have hrf8 : Upd [] w8 w8 := Upd.refl _ _
  have HR8 := Lib.hid hrf8
  clear hu8 hb5 hb6 hin hk5 hrf8 HNA HNB HSA HSB
  go_wp2_with fail
  rw [← HW8.out]
  rw [← HK5.out]
  by_cases hAB : A < B
  · refine (sub_less _ _ _ _ _ (HA8.out _ HR8.out) (HB8.out _ HR8.out) (by have := (HBP.out A rfl).1; omega) hAB).mono ?_
    rintro e w9 ⟨v9, rfl, hn9, hu9⟩
    obtain ⟨x9, c9, rfl, _, _⟩ := hn9.open
    obtain ⟨l9, hl9⟩ : ∃ l, l = (wds 0).length := ⟨_, rfl⟩
    rw [← hl9] at hn9 ⊢
    obtain ⟨w10, hw10⟩ : ∃ W, W = w9.alloc (.cells #[.slice x9 l9 c9] 26) := ⟨_, rfl⟩
    obtain ⟨k9, hk9⟩ : ∃ k, k = w9.heap.size := ⟨_, rfl⟩
    have hu10 : Upd [] w9 w10 := by rw [hw10]; exact (Upd.refl _ _).alloc _
    have hb9 : Box w10 k9 (.slice x9 l9 c9) 26 := by rw [hw10, hk9]; exact Box.new _ _ _
    have HBX9 : Hid (∀ W, Upd [] w10 W → W.cell? ⟨k9, 0, none⟩ = some (.slice x9 l9 c9)) := fun W h => (hb9.upd h).cell
    have HN9 : Hid (∀ W, Upd [] w10 W → NV W (.agg #[.slice x9 l9 c9]) 0) := fun W h => (hn9.upd0 hu10).upd0 h
    have HU10 := Lib.hid (hu9.trans0 hu10)
    have HW10 := Lib.hid hw10
    have HK9 := Lib.hid hk9
    clear hu9 hu10 hb9 hn9 hk9 hw10 hl9
    go_wp2_with fail
    rw [← HW10.out]
    rw [← HK9.out]
    refine (HRCMP.out _ HU10.out).mono ?_
    rintro e w11 ⟨rfl, hu11⟩
    have HU11 := Lib.hid (HU10.out.trans0 hu11)
    have H11 := Lib.hid hu11
    clear hu11
    obtain ⟨b5, b6⟩ := HBX.out _ HU11.out
    have e0 : (cmpN A B == cmpN A B) = true := by simp
    have e1 : decide (cmpN A B < 0) = true := by rw [cmpN_lt hAB]; rfl
    go_wp2_with fail
    refine (HCMP.out _ HU11.out).mono ?_
    rintro e w12 ⟨rfl, hu12⟩
    have HU12 := Lib.hid (HU11.out.trans0 hu12)
    have H12 := Lib.hid (H11.out.trans0 hu12)
    clear hu12 b5 b6
    obtain ⟨b5, b6⟩ := HBX.out _ HU12.out
    generalize cmpN A B = cc at *
    go_wp2_with fail
    refine (HADD.out _ HU12.out).mono ?_
    rintro e w13 ⟨v13, rfl, hn13, hu13⟩
    have HN13 := Lib.hid hn13
    have HU13 := Lib.hid (HU12.out.trans0 hu13)
    have H13 := Lib.hid (H12.out.trans0 hu13)
    clear hn13 hu13 b5 b6
    go_wp2_with fail
    refine (HRADD.out _ HU13.out).mono ?_
    rintro e w14 ⟨v14, rfl, hs14, hu14⟩
    have HS14 := Lib.hid hs14
    have HN14 := Lib.hid (HN13.out.upd0 hu14)
    have HU14 := Lib.hid (HU13.out.trans0 hu14)
    have H14 := Lib.hid (H13.out.trans0 hu14)
    clear hs14 hu14
    go_wp2_with fail
    refine (HIS.out _ _ _ _ HU14.out HN14.out HS14.out (by have := HLEN.out.1; omega)).mono ?_
    rintro e w15 ⟨rfl, hu15⟩
    have HU15 := Lib.hid (HU14.out.trans0 hu15)
    have H15 := Lib.hid (H14.out.trans0 hu15)
    clear hu15
    obtain ⟨b5, b6⟩ := HBX.out _ HU15.out
    go_wp2_with fail
    refine (HMUL.out _ HU15.out).mono ?_
    rintro e w16 ⟨v16, rfl, hn16, hu16⟩
    have HN16 := Lib.hid hn16
    have HU16 := Lib.hid (HU15.out.trans0 hu16)
    have H16 := Lib.hid (H15.out.trans0 hu16)
    clear hn16 hu16 b5 b6
    go_wp2_with fail
    refine (HRMUL.out _ HU16.out).mono ?_
    rintro e w17 ⟨v17, rfl, hs17, hu17⟩
    have HS17 := Lib.hid hs17
    have HN17 := Lib.hid (HN16.out.upd0 hu17)
    have HU17 := Lib.hid (HU16.out.trans0 hu17)
    have H17 := Lib.hid (H16.out.trans0 hu17)
    clear hs17 hu17
    go_wp2_with fail
    refine (HIS.out _ _ _ _ HU17.out HN17.out HS17.out HLEN.out.2.1).mono ?_
    rintro e w18 ⟨rfl, hu18⟩
    have HU18 := Lib.hid (HU17.out.trans0 hu18)
    have H18 := Lib.hid (H17.out.trans0 hu18)
    clear hu18
    have b9 := HBX9.out _ H18.out
    go_wp2_with fail
    refine (zero_any _ _ _ (HN9.out _ H18.out)).mono ?_
    rintro e w19 ⟨rfl, hu19⟩
    have HF := Lib.hid (HUT.out _ (HU18.out.trans0 hu19))
    clear hu19
    go_wp2
    go_ret
    exact ⟨rfl, HF.out⟩
  · refine (sub_any _ _ _ _ _ (HA8.out _ HR8.out) (HB8.out _ HR8.out) (by have := (HBP.out A rfl).1; omega) (by omega)).mono ?_
    rintro e w9 ⟨v9, rfl, hn9, hu9⟩
    obtain ⟨x9, c9, rfl, _, _⟩ := hn9.open
    obtain ⟨l9, hl9⟩ : ∃ l, l = (wds (A - B)).length := ⟨_, rfl⟩
    rw [← hl9] at hn9 ⊢
    obtain ⟨w10, hw10⟩ : ∃ W, W = w9.alloc (.cells #[.slice x9 l9 c9] 26) := ⟨_, rfl⟩
    obtain ⟨k9, hk9⟩ : ∃ k, k = w9.heap.size := ⟨_, rfl⟩
    have hu10 : Upd [] w9 w10 := by rw [hw10]; exact (Upd.refl _ _).alloc _
    have hb9 : Box w10 k9 (.slice x9 l9 c9) 26 := by rw [hw10, hk9]; exact Box.new _ _ _
    have HBX9 : Hid (∀ W, Upd [] w10 W → W.cell? ⟨k9, 0, none⟩ = some (.slice x9 l9 c9)) := fun W h => (hb9.upd h).cell
    have HN9 : Hid (∀ W, Upd [] w10 W → NV W (.agg #[.slice x9 l9 c9]) (A - B)) := fun W h => (hn9.upd0 hu10).upd0 h
    have HU10 := Lib.hid (hu9.trans0 hu10)
    have HW10 := Lib.hid hw10
    have HK9 := Lib.hid hk9
    clear hu9 hu10 hb9 hn9 hk9 hw10 hl9
    go_wp2_with fail
    rw [← HW10.out]
    rw [← HK9.out]
    refine (HRCMP.out _ HU10.out).mono ?_
    rintro e w11 ⟨rfl, hu11⟩
    have HU11 := Lib.hid (HU10.out.trans0 hu11)
    have H11 := Lib.hid hu11
    clear hu11
    obtain ⟨b5, b6⟩ := HBX.out _ HU11.out
    have e0 : (cmpN A B == cmpN A B) = true := by simp
    have e1 : decide (cmpN A B < 0) = false := cmpN_ge (by omega)
    go_wp2_with fail
    refine (HCMP.out _ HU11.out).mono ?_
    rintro e w12 ⟨rfl, hu12⟩
    have HU12 := Lib.hid (HU11.out.trans0 hu12)
    have H12 := Lib.hid (H11.out.trans0 hu12)
    clear hu12 b5 b6
    obtain ⟨b5, b6⟩ := HBX.out _ HU12.out
    generalize cmpN A B = cc at *
    go_wp2_with fail
    refine (HADD.out _ HU12.out).mono ?_
    rintro e w13 ⟨v13, rfl, hn13, hu13⟩
    have HN13 := Lib.hid hn13
    have HU13 := Lib.hid (HU12.out.trans0 hu13)
    have H13 := Lib.hid (H12.out.trans0 hu13)
    clear hn13 hu13 b5 b6
    go_wp2_with fail
    refine (HRADD.out _ HU13.out).mono ?_
    rintro e w14 ⟨v14, rfl, hs14, hu14⟩
    have HS14 := Lib.hid hs14
    have HN14 := Lib.hid (HN13.out.upd0 hu14)
    have HU14 := Lib.hid (HU13.out.trans0 hu14)
    have H14 := Lib.hid (H13.out.trans0 hu14)
    clear hs14 hu14
    go_wp2_with fail
    refine (HIS.out _ _ _ _ HU14.out HN14.out HS14.out (by have := HLEN.out.1; omega)).mono ?_
    rintro e w15 ⟨rfl, hu15⟩
    have HU15 := Lib.hid (HU14.out.trans0 hu15)
    have H15 := Lib.hid (H14.out.trans0 hu15)
    clear hu15
    obtain ⟨b5, b6⟩ := HBX.out _ HU15.out
    go_wp2_with fail
    refine (HMUL.out _ HU15.out).mono ?_
    rintro e w16 ⟨v16, rfl, hn16, hu16⟩
    have HN16 := Lib.hid hn16
    have HU16 := Lib.hid (HU15.out.trans0 hu16)
    have H16 := Lib.hid (H15.out.trans0 hu16)
    clear hn16 hu16 b5 b6
    go_wp2_with fail
    refine (HRMUL.out _ HU16.out).mono ?_
    rintro e w17 ⟨v17, rfl, hs17, hu17⟩
    have HS17 := Lib.hid hs17
    have HN17 := Lib.hid (HN16.out.upd0 hu17)
    have HU17 := Lib.hid (HU16.out.trans0 hu17)
    have H17 := Lib.hid (H16.out.trans0 hu17)
    clear hs17 hu17
    go_wp2_with fail
    refine (HIS.out _ _ _ _ HU17.out HN17.out HS17.out HLEN.out.2.1).mono ?_
    rintro e w18 ⟨rfl, hu18⟩
    have HU18 := Lib.hid (HU17.out.trans0 hu18)
    have H18 := Lib.hid (H17.out.trans0 hu18)
    clear hu18
    have b9 := HBX9.out _ H18.out
    obtain ⟨b5, b6⟩ := HBX.out _ HU18.out
    have HC : Hid (∀ W, Upd [] w18 W → W.cell? ⟨k9, 0, none⟩ = some (.slice x9 l9 c9) ∧ W.cell? ⟨k5, 0, none⟩ = some (.slice x4 l4 c4) ∧ W.cell? ⟨k5 + 1, 0, none⟩ = some (.slice x5 l5 c5) ∧ Upd [] w18 W) := fun W h => ⟨HBX9.out _ (H18.out.trans0 h), (HBX.out _ (HU18.out.trans0 h)).1, (HBX.out _ (HU18.out.trans0 h)).2, h⟩
    have HRSUB : Hid (∀ W, Upd [] w18 W → Calls Tryd.prog 34 #[v6, v7] W (RDig (A - B) W)) := fun W h => rsub_any _ _ _ _ _ (HSA8.out W (HU18.out.trans0 h)) (HSB8.out W (HU18.out.trans0 h)) (by have := (HBP.out A rfl).2; omega) (by omega)
    have HIS9 : Hid (∀ W v, Upd [] w18 W → Sl W v (ci64 (digs (A - B))) → Calls Tryd.prog 24 #[.agg #[.slice x9 l9 c9], v] W fun e w' => e = .returned (.bool true) ∧ Upd [] W w') := fun W v h h2 => HIS.out W _ _ _ (HU18.out.trans0 h) (HN9.out W (H18.out.trans0 h)) h2 (by have := wds_length_le (show A - B ≤ A by omega); have := (HBP.out A rfl).1; omega)
    have HIS4 : Hid (∀ W, Upd [] w18 W → Calls Tryd.prog 24 #[.agg #[.slice x4 l4 c4], v6] W fun e w' => e = .returned (.bool true) ∧ Upd [] W w') := fun W h => HIS.out W _ _ _ (HU18.out.trans0 h) (HA8.out W (HU18.out.trans0 h)) (HSA8.out W (HU18.out.trans0 h)) (by have := (HBP.out A rfl).1; omega)
    have HIS5 : Hid (∀ W, Upd [] w18 W → Calls Tryd.prog 24 #[.agg #[.slice x5 l5 c5], v7] W fun e w' => e = .returned (.bool true) ∧ Upd [] W w') := fun W h => HIS.out W _ _ _ (HU18.out.trans0 h) (HB8.out W (HU18.out.trans0 h)) (HSB8.out W (HU18.out.trans0 h)) (by have := (HBQ.out B rfl).1; omega)
    have hrf : Upd [] w18 w18 := Upd.refl _ _
    go_wp2_with fail
    go_region_held3 (fun W => W.cell? ⟨k9, 0, none⟩ = some (.slice x9 l9 c9) ∧ W.cell? ⟨k5, 0, none⟩ = some (.slice x4 l4 c4) ∧ W.cell? ⟨k5 + 1, 0, none⟩ = some (.slice x5 l5 c5) ∧ Upd [] w18 W)
      (first
        | exact HC.out _ huy
        | exact HC.out _ huy.drew
        | exact HC.out _ hrf.drew
        | exact HC.out _ hrf)
      (first
        | (go_at_call 34; (with_reducible refine (HRSUB.out _ (by first | exact hrf.drew | exact hrf)).mono ?_); rintro e wy ⟨v19, rfl, hs19, hu19⟩; have huy : Upd [] w18 wy := (by first | exact hrf.drew.trans0 hu19 | exact hrf.trans0 hu19); have HS19 := Lib.hid hs19; clear hs19 hu19)
        | (go_at_call 24; (with_reducible refine (HIS9.out _ _ huy HS19.out).mono ?_); rintro e wz ⟨rfl, hu20⟩; have huz := huy.trans0 hu20; clear huy hu20; have huy := huz; clear huz)
        | (go_at_call 24; (with_reducible refine (HIS4.out _ huy).mono ?_); rintro e wz ⟨rfl, hu20⟩; have huz := huy.trans0 hu20; clear huy hu20; have huy := huz; clear huz)
        | (go_at_call 24; (with_reducible refine (HIS5.out _ huy).mono ?_); rintro e wz ⟨rfl, hu20⟩; have huz := huy.trans0 hu20; clear huy hu20; have huy := huz; clear huz))
    go_wp2
    go_ret
    exact ⟨rfl, HUT.out _ (HU18.out.trans0 huy)⟩
end Go.Proofs.YthepnppnmmkigaaDoor
