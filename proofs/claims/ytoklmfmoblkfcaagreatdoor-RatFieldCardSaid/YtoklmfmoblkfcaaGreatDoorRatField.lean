/- The law RatField (layer 7). -/
import Derived.Test.YtoklmfmoblkfcaaGreatDoorBoth7
import Derived.Test.YtoklmfmoblkfcaaGreatDoorAw7
import Derived.Test.YtoklmfmoblkfcaaGreatDoorQvM
import Derived.Test.YtoklmfmoblkfcaaGreatDoorRatS
import Derived.Test.YtoklmfmoblkfcaaGreatDoorRatI
import Derived.Test.YtoklmfmoblkfcaaGreatDoorRatZ
import Derived.Test.YtoklmfmoblkfcaaGreatDoorRatP
import Derived.Deep.RegionHeld3
namespace Go.Proofs.YtoklmfmoblkfcaaGreatDoor
open Go.RowKit Go.Proofs.Tm
set_option linter.unusedVariables false
set_option linter.unusedSimpArgs false
set_option maxRecDepth 20000

theorem cmpR_self (x : Rat) : cmpR x x = 0 := by unfold cmpR; rw [if_neg Rat.lt_irrefl, if_pos rfl]
set_option maxHeartbeats 1600000 in
theorem same_any (u v : Value) (x : Rat) (w : World) (hu : RV w u x) (hv : RV w v x) (ht : Tab w) (hx : QL x 67108864) :
    Calls Tryz.prog 57 #[u, v] w (fun e w' => e = .returned (.bool true) ∧ Upd [] w w') := by
  obtain ⟨a0, l0, c0, d0, m0, e0, rfl, _, _⟩ := hu.open
  obtain ⟨a1, l1, c1, d1, m1, e1, rfl, _, _⟩ := hv.open
  have HCM : Hid (∀ W, Upd [] w W → Calls Tryz.prog 39 #[.agg #[.bool (decide (x.num < 0)), .slice a0 l0 c0, .slice d0 m0 e0], .agg #[.bool (decide (x.num < 0)), .slice a1 l1 c1, .slice d1 m1 e1]] W (fun e w' => e = .returned (.int .i64 0) ∧ Upd [] W w')) := fun W h => by
    have := rcmpq_any _ _ _ _ W (hu.upd0 h) (hv.upd0 h) hx hx
    rw [cmpR_self] at this
    exact this
  have HT1 : Hid (∀ W, Upd [] w W → Calls Tryz.prog 28 #[.agg #[.bool (decide (x.num < 0)), .slice a0 l0 c0, .slice d0 m0 e0]] W (fun e w' => e = .returned (.string ⟨(ratTxt x).toArray⟩) ∧ Upd [] W w')) := fun W h => rtextq_any _ _ W (hu.upd0 h) (ht.upd0 h) (hx.mono (by decide))
  have HT2 : Hid (∀ W, Upd [] w W → Calls Tryz.prog 28 #[.agg #[.bool (decide (x.num < 0)), .slice a1 l1 c1, .slice d1 m1 e1]] W (fun e w' => e = .returned (.string ⟨(ratTxt x).toArray⟩) ∧ Upd [] W w')) := fun W h => rtextq_any _ _ W (hv.upd0 h) (ht.upd0 h) (hx.mono (by decide))
  generalize ratTxt x = tx at *
  generalize decide (x.num < 0) = bx at *
  clear hu hv ht hx
  obtain ⟨w0, hw0⟩ : ∃ W, W = ((w.alloc (.cells #[.bool bx, .slice a0 l0 c0, .slice d0 m0 e0] 53)).alloc (.cells #[.bool bx, .slice a1 l1 c1, .slice d1 m1 e1] 53)) := ⟨_, rfl⟩
  obtain ⟨S, hS⟩ : ∃ s, s = w.heap.size := ⟨_, rfl⟩
  obtain ⟨hu0, r0, r1, hz0⟩ := rows2 w #[.bool bx, .slice a0 l0 c0, .slice d0 m0 e0] #[.bool bx, .slice a1 l1 c1, .slice d1 m1 e1] 53 53 w0 hw0 S hS
  have HU0 := Lib.hid hu0
  have HW0 := Lib.hid hw0
  have HS := Lib.hid hS
  have HZ0 := Lib.hid hz0
  have HR0 := Lib.hid r0
  have HR1 := Lib.hid r1
  have hrf : Upd [] w0 w0 := Upd.refl _ _
  clear hw0 hS hu0 r0 r1 hz0
  have HC : Hid (∀ W, Upd [] w0 W → W.cell? ⟨S, 0, none⟩ = some (.bool bx) ∧ W.cell? ⟨S, 1, none⟩ = some (.slice a0 l0 c0) ∧ W.cell? ⟨S, 2, none⟩ = some (.slice d0 m0 e0) ∧ W.cell? ⟨S + 1, 0, none⟩ = some (.bool bx) ∧ W.cell? ⟨S + 1, 1, none⟩ = some (.slice a1 l1 c1) ∧ W.cell? ⟨S + 1, 2, none⟩ = some (.slice d1 m1 e1) ∧ Upd [] w0 W) := fun W h =>
    ⟨(HR0.out.upd h (by simp <;> omega)).cell 0, (HR0.out.upd h (by simp <;> omega)).cell 1, (HR0.out.upd h (by simp <;> omega)).cell 2, (HR1.out.upd h (by simp <;> omega)).cell 0, (HR1.out.upd h (by simp <;> omega)).cell 1, (HR1.out.upd h (by simp <;> omega)).cell 2, h⟩
  go_enter Tryz.func57, Tryz.ntmps57
  go_wp2_with fail
  rw [← HW0.out]
  rw [← HS.out]
  go_region_held3 (fun W => W.cell? ⟨S, 0, none⟩ = some (.bool bx) ∧ W.cell? ⟨S, 1, none⟩ = some (.slice a0 l0 c0) ∧ W.cell? ⟨S, 2, none⟩ = some (.slice d0 m0 e0) ∧ W.cell? ⟨S + 1, 0, none⟩ = some (.bool bx) ∧ W.cell? ⟨S + 1, 1, none⟩ = some (.slice a1 l1 c1) ∧ W.cell? ⟨S + 1, 2, none⟩ = some (.slice d1 m1 e1) ∧ Upd [] w0 W)
    ((refine HC.out _ ?_; repeat (first | exact huy | exact hrf | apply Upd.drew)))
    (first
      | (go_at_call 39; (with_reducible refine (HCM.out _ (HU0.out.trans0 (by repeat (first | exact huy | exact hrf | apply Upd.drew | apply Upd.alloc)))).mono ?_); rintro e wz ⟨rfl, hu20⟩;   have huz : Upd [] w0 wz := Upd.trans0 (by repeat (first | exact huy | exact hrf | apply Upd.drew | apply Upd.alloc)) hu20; (try clear huy); clear hu20; have huy := huz; clear huz)
      | (go_at_call 28; (with_reducible refine (HT1.out _ (HU0.out.trans0 (by repeat (first | exact huy | exact hrf | apply Upd.drew | apply Upd.alloc)))).mono ?_); rintro e wz ⟨rfl, hu20⟩;   have huz : Upd [] w0 wz := Upd.trans0 (by repeat (first | exact huy | exact hrf | apply Upd.drew | apply Upd.alloc)) hu20; (try clear huy); clear hu20; have huy := huz; clear huz)
      | (go_at_call 28; (with_reducible refine (HT2.out _ (HU0.out.trans0 (by repeat (first | exact huy | exact hrf | apply Upd.drew | apply Upd.alloc)))).mono ?_); rintro e wz ⟨rfl, hu20⟩;   have huz : Upd [] w0 wz := Upd.trans0 (by repeat (first | exact huy | exact hrf | apply Upd.drew | apply Upd.alloc)) hu20; (try clear huy); clear hu20; have huy := huz; clear huz))
  all_goals
    go_wp2
    go_ret
    exact ⟨by simp, HU0.out.trans0 huy⟩

theorem cmpR_add (x y z : Rat) : cmpR (x + z) (y + z) = cmpR x y := by
  unfold cmpR
  have h1 : x + z < y + z ↔ x < y := Rat.add_lt_add_right
  have h2 : x + z = y + z ↔ x = y := ⟨fun h => Rat.add_right_cancel z h, fun h => by rw [h]⟩
  by_cases a : x < y
  · rw [if_pos a, if_pos (h1.2 a)]
  · rw [if_neg a, if_neg (fun h => a (h1.1 h))]
    by_cases b : x = y
    · rw [if_pos b, if_pos (h2.2 b)]
    · rw [if_neg b, if_neg (fun h => b (h2.1 h))]
theorem wds_pow (m n k : Nat) (h : (wds m).length ≤ k) : (wds (m ^ n)).length ≤ k * n + 1 := by
  induction n with
  | zero => rw [Nat.pow_zero, wds_one 1 (by decide) (by decide)]; simp
  | succ n ih =>
    rw [Nat.pow_succ]
    have := wds_length_mul (m ^ n) m
    rw [Nat.mul_succ]
    omega
theorem ql_pow {x : Rat} {k : Nat} (hx : QL x k) (n : Nat) : QL (x ^ n) (k * n + 1) := by
  constructor
  · rw [Rat.num_pow, Int.natAbs_pow]; exact wds_pow _ _ _ hx.1
  · rw [Rat.den_pow]; exact wds_pow _ _ _ hx.2
theorem pow_few {m n : Nat} (hn : n ≤ 8) (h : (wds m).length ≤ 2) : PowOK m n := by
  by_cases hm : m ≤ 1
  · exact .inr (.inl hm)
  · refine .inr (.inr ?_)
    have h1 : m < 2 ^ 128 := by have := (wds_length_le_iff m 2).1 h; simpa using this
    have h2 : nbits m ≤ 128 := (nbits_le_iff m 128).2 h1
    have h3 : 8 ≤ 8192 / nbits m := by
      rw [Nat.le_div_iff_mul_le (nbits_pos (by omega))]; omega
    omega

set_option maxHeartbeats 3200000 in
theorem ratField_q (a0 : Option Addr) (l0 c0 : Nat) (L0 : List Nat) (a1 : Option Addr) (l1 c1 : Nat) (M0 : List Nat) (b0 : Bool) (a2 : Option Addr) (l2 c2 : Nat) (L1 : List Nat) (a3 : Option Addr) (l3 c3 : Nat) (M1 : List Nat) (b1 : Bool) (a4 : Option Addr) (l4 c4 : Nat) (L2 : List Nat) (a5 : Option Addr) (l5 c5 : Nat) (M2 : List Nat) (b2 : Bool) (w : World) (ht : Tab w) (hs0 : Sl w (.slice a0 l0 c0) (cu64 L0)) (hw0 : ∀ d ∈ L0, d < 18446744073709551616) (hs1 : Sl w (.slice a1 l1 c1) (cu64 M0)) (hw1 : ∀ d ∈ M0, d < 18446744073709551616) (hs2 : Sl w (.slice a2 l2 c2) (cu64 L1)) (hw2 : ∀ d ∈ L1, d < 18446744073709551616) (hs3 : Sl w (.slice a3 l3 c3) (cu64 M1)) (hw3 : ∀ d ∈ M1, d < 18446744073709551616) (hs4 : Sl w (.slice a4 l4 c4) (cu64 L2)) (hw4 : ∀ d ∈ L2, d < 18446744073709551616) (hs5 : Sl w (.slice a5 l5 c5) (cu64 M2)) (hw5 : ∀ d ∈ M2, d < 18446744073709551616) (hy0 : ¬ qval (zP b1 (wval (L1.take 2))) (zM b1 (wval (L1.take 2))) (den1 (wval (M1.take 2))) = 0) :
    Calls Tryz.prog 8 #[.agg #[.slice a0 l0 c0, .slice a1 l1 c1, .bool b0], .agg #[.slice a2 l2 c2, .slice a3 l3 c3, .bool b1], .agg #[.slice a4 l4 c4, .slice a5 l5 c5, .bool b2]] w (fun e w' => e = .returned (.bool true) ∧ Upd [] w w') := by
  have HAW : Hid (∀ W, Upd [] w W → Calls Tryz.prog 25 #[] W (fun e w' => e = .returned (.bool true) ∧ Upd [] W w')) := fun W h => awake7 W (ht.upd0 h)
  obtain ⟨P1, hP1⟩ : ∃ P, P = wval (L0.take 2) := ⟨_, rfl⟩
  obtain ⟨D1, hD1⟩ : ∃ D, D = den1 (wval (M0.take 2)) := ⟨_, rfl⟩
  have hb11 := few_bounds L0 2 hw0
  have hb21 := few_bounds M0 2 hw1
  rw [← hP1] at hb11
  have hDl1 : (wds D1).length ≤ 2 ∧ (digs D1).length ≤ 10 := by
    rw [hD1]; unfold den1; split
    · exact ⟨(by rw [wds_one 1 (by decide) (by decide)]; decide), Nat.le_trans (digs_len1 (by decide)) (by decide)⟩
    · exact hb21
  have hDp1 : 0 < D1 := by rw [hD1]; exact den1_pos _
  have hz1 : (wds (zP b0 P1)).length ≤ 2 ∧ (digs (zP b0 P1)).length ≤ 10 ∧ (wds (zM b0 P1)).length ≤ 2 ∧ (digs (zM b0 P1)).length ≤ 10 := by
    unfold zP zM
    cases b0 <;> simp [wds_zero, digs_zero] <;> omega
  have HB1 : Hid (∀ W, Upd [] w W → Calls Tryz.prog 26 #[.agg #[.slice a0 l0 c0, .slice a1 l1 c1, .bool b0]] W (RBoth b0 P1 D1 W)) := fun W h => by rw [hP1, hD1]; exact both_any _ _ _ _ _ _ _ _ b0 W (hs0.upd0 h) hw0 (hs1.upd0 h) hw1
  unfold RBoth at HB1
  generalize zP b0 P1 = p1 at *
  generalize zM b0 P1 = m1 at *
  obtain ⟨x, hx⟩ : ∃ r : Rat, r = qval p1 m1 D1 := ⟨_, rfl⟩
  have qx : QL x 2 := by rw [hx]; exact ql_qval hDp1 hz1.1 hz1.2.2.1 hDl1.1
  rw [← hx] at HB1
  obtain ⟨P2, hP2⟩ : ∃ P, P = wval (L1.take 2) := ⟨_, rfl⟩
  obtain ⟨D2, hD2⟩ : ∃ D, D = den1 (wval (M1.take 2)) := ⟨_, rfl⟩
  have hb12 := few_bounds L1 2 hw2
  have hb22 := few_bounds M1 2 hw3
  rw [← hP2] at hb12
  rw [← hP2, ← hD2] at hy0
  have hDl2 : (wds D2).length ≤ 2 ∧ (digs D2).length ≤ 10 := by
    rw [hD2]; unfold den1; split
    · exact ⟨(by rw [wds_one 1 (by decide) (by decide)]; decide), Nat.le_trans (digs_len1 (by decide)) (by decide)⟩
    · exact hb22
  have hDp2 : 0 < D2 := by rw [hD2]; exact den1_pos _
  have hz2 : (wds (zP b1 P2)).length ≤ 2 ∧ (digs (zP b1 P2)).length ≤ 10 ∧ (wds (zM b1 P2)).length ≤ 2 ∧ (digs (zM b1 P2)).length ≤ 10 := by
    unfold zP zM
    cases b1 <;> simp [wds_zero, digs_zero] <;> omega
  have HB2 : Hid (∀ W, Upd [] w W → Calls Tryz.prog 26 #[.agg #[.slice a2 l2 c2, .slice a3 l3 c3, .bool b1]] W (RBoth b1 P2 D2 W)) := fun W h => by rw [hP2, hD2]; exact both_any _ _ _ _ _ _ _ _ b1 W (hs2.upd0 h) hw2 (hs3.upd0 h) hw3
  unfold RBoth at HB2
  generalize zP b1 P2 = p2 at *
  generalize zM b1 P2 = m2 at *
  obtain ⟨y, hy⟩ : ∃ r : Rat, r = qval p2 m2 D2 := ⟨_, rfl⟩
  have qy : QL y 2 := by rw [hy]; exact ql_qval hDp2 hz2.1 hz2.2.2.1 hDl2.1
  rw [← hy] at HB2
  rw [← hy] at hy0
  obtain ⟨P3, hP3⟩ : ∃ P, P = wval (L2.take 2) := ⟨_, rfl⟩
  obtain ⟨D3, hD3⟩ : ∃ D, D = den1 (wval (M2.take 2)) := ⟨_, rfl⟩
  have hb13 := few_bounds L2 2 hw4
  have hb23 := few_bounds M2 2 hw5
  rw [← hP3] at hb13
  have hDl3 : (wds D3).length ≤ 2 ∧ (digs D3).length ≤ 10 := by
    rw [hD3]; unfold den1; split
    · exact ⟨(by rw [wds_one 1 (by decide) (by decide)]; decide), Nat.le_trans (digs_len1 (by decide)) (by decide)⟩
    · exact hb23
  have hDp3 : 0 < D3 := by rw [hD3]; exact den1_pos _
  have hz3 : (wds (zP b2 P3)).length ≤ 2 ∧ (digs (zP b2 P3)).length ≤ 10 ∧ (wds (zM b2 P3)).length ≤ 2 ∧ (digs (zM b2 P3)).length ≤ 10 := by
    unfold zP zM
    cases b2 <;> simp [wds_zero, digs_zero] <;> omega
  have HB3 : Hid (∀ W, Upd [] w W → Calls Tryz.prog 26 #[.agg #[.slice a4 l4 c4, .slice a5 l5 c5, .bool b2]] W (RBoth b2 P3 D3 W)) := fun W h => by rw [hP3, hD3]; exact both_any _ _ _ _ _ _ _ _ b2 W (hs4.upd0 h) hw4 (hs5.upd0 h) hw5
  unfold RBoth at HB3
  generalize zP b2 P3 = p3 at *
  generalize zM b2 P3 = m3 at *
  obtain ⟨z, hz⟩ : ∃ r : Rat, r = qval p3 m3 D3 := ⟨_, rfl⟩
  have qz : QL z 2 := by rw [hz]; exact ql_qval hDp3 hz3.1 hz3.2.2.1 hDl3.1
  rw [← hz] at HB3
  have HAxy : Hid (∀ W s t, RV W s x → RV W t y → Calls Tryz.prog 43 #[s, t] W (RRat (x + y) W)) := fun W s t hs ht => raddq_any _ _ _ _ W hs ht (qx.mono (by decide)) (qy.mono (by decide))
  have HSxy : Hid (∀ W s t, RV W s (x + y) → RV W t y → Calls Tryz.prog 30 #[s, t] W (RRat x W)) := fun W s t hs ht => by have := rsubq_any _ _ _ _ W hs ht ((ql_add qx qy).mono (by decide)) (qy.mono (by decide)); rw [Rat.add_sub_cancel] at this; exact this
  have HMs : Hid (∀ W s t, RV W s (x + y) → RV W t z → Calls Tryz.prog 46 #[s, t] W (RRat ((x + y) * z) W)) := fun W s t hs ht => rmulq_any _ _ _ _ W hs ht ((ql_add qx qy).mono (by decide)) (qz.mono (by decide))
  have HMxz : Hid (∀ W s t, RV W s x → RV W t z → Calls Tryz.prog 46 #[s, t] W (RRat (x * z) W)) := fun W s t hs ht => rmulq_any _ _ _ _ W hs ht (qx.mono (by decide)) (qz.mono (by decide))
  have HMyz : Hid (∀ W s t, RV W s y → RV W t z → Calls Tryz.prog 46 #[s, t] W (RRat (y * z) W)) := fun W s t hs ht => rmulq_any _ _ _ _ W hs ht (qy.mono (by decide)) (qz.mono (by decide))
  have HAm : Hid (∀ W s t, RV W s (x * z) → RV W t (y * z) → Calls Tryz.prog 43 #[s, t] W (RRat ((x + y) * z) W)) := fun W s t hs ht => by have := raddq_any _ _ _ _ W hs ht ((ql_mul qx qz).mono (by decide)) ((ql_mul qy qz).mono (by decide)); rw [← Rat.add_mul] at this; exact this
  have HAxz : Hid (∀ W s t, RV W s x → RV W t z → Calls Tryz.prog 43 #[s, t] W (RRat (x + z) W)) := fun W s t hs ht => raddq_any _ _ _ _ W hs ht (qx.mono (by decide)) (qz.mono (by decide))
  have HAyz : Hid (∀ W s t, RV W s y → RV W t z → Calls Tryz.prog 43 #[s, t] W (RRat (y + z) W)) := fun W s t hs ht => raddq_any _ _ _ _ W hs ht (qy.mono (by decide)) (qz.mono (by decide))
  have HC1 : Hid (∀ W s t, RV W s (x + z) → RV W t (y + z) → Calls Tryz.prog 39 #[s, t] W (fun e w' => e = .returned (.int .i64 (cmpR x y)) ∧ Upd [] W w')) := fun W s t hs ht => by have := rcmpq_any _ _ _ _ W hs ht ((ql_add qx qz).mono (by decide)) ((ql_add qy qz).mono (by decide)); rw [cmpR_add] at this; exact this
  have HC2 : Hid (∀ W s t, RV W s x → RV W t y → Calls Tryz.prog 39 #[s, t] W (fun e w' => e = .returned (.int .i64 (cmpR x y)) ∧ Upd [] W w')) := fun W s t hs ht => rcmpq_any _ _ _ _ W hs ht (qx.mono (by decide)) (qy.mono (by decide))
  have HMxy : Hid (∀ W s t, RV W s x → RV W t y → Calls Tryz.prog 46 #[s, t] W (RRat (x * y) W)) := fun W s t hs ht => rmulq_any _ _ _ _ W hs ht (qx.mono (by decide)) (qy.mono (by decide))
  have HE1 : Hid (∀ W s t, Upd [] w W → RV W s (x) → RV W t (x) → Calls Tryz.prog 57 #[s, t] W (fun e w' => e = .returned (.bool true) ∧ Upd [] W w')) := fun W s t h hs ht' => same_any _ _ _ W hs ht' (ht.upd0 h) (qx.mono (by decide))
  have HE2 : Hid (∀ W s t, Upd [] w W → RV W s ((x + y) * z) → RV W t ((x + y) * z) → Calls Tryz.prog 57 #[s, t] W (fun e w' => e = .returned (.bool true) ∧ Upd [] W w')) := fun W s t h hs ht' => same_any _ _ _ W hs ht' (ht.upd0 h) ((ql_mul (ql_add qx qy) qz).mono (by decide))
  have HD : Hid (∀ W s t, RV W s (x * y) → RV W t y → Calls Tryz.prog 42 #[s, t] W (RRatE x 0 W)) := fun W s t hs ht => by have := rdivq_any _ _ _ _ W hs ht ((ql_mul qx qy).mono (by decide)) (qy.mono (by decide)) hy0; rw [Rat.mul_div_cancel hy0] at this; exact this
  have HD1 : Hid (∀ W s t, RV W s y → RV W t y → Calls Tryz.prog 42 #[s, t] W (RRatE 1 0 W)) := fun W s t hs ht => by have := rdivq_any _ _ _ _ W hs ht (qy.mono (by decide)) (qy.mono (by decide)) hy0; rw [Rat.div_def, Rat.mul_inv_cancel _ hy0] at this; exact this
  have HP2 : Hid (∀ W s, RV W s y → Calls Tryz.prog 49 #[s, .int .i64 2] W (RRatE (y ^ 2) 0 W)) := fun W s hs => powq_any _ y 2 W hs (qy.mono (by decide)) (by decide) (pow_few (by decide) qy.1) (pow_few (by decide) qy.2) (Nat.le_trans (ql_pow qy 2).2 (by decide))
  have HP3 : Hid (∀ W s, RV W s y → Calls Tryz.prog 49 #[s, .int .i64 3] W (RRatE (y ^ 3) 0 W)) := fun W s hs => powq_any _ y 3 W hs (qy.mono (by decide)) (by decide) (pow_few (by decide) qy.1) (pow_few (by decide) qy.2) (Nat.le_trans (ql_pow qy 3).2 (by decide))
  have HM2 : Hid (∀ W s t, RV W s (y ^ 2) → RV W t y → Calls Tryz.prog 46 #[s, t] W (RRat (y ^ 3) W)) := fun W s t hs ht => by have := rmulq_any _ _ _ _ W hs ht ((ql_pow qy 2).mono (by decide)) (qy.mono (by decide)); rw [← Rat.pow_succ] at this; exact this
  have HE3 : Hid (∀ W s t, Upd [] w W → RV W s (y ^ 3) → RV W t (y ^ 3) → Calls Tryz.prog 57 #[s, t] W (fun e w' => e = .returned (.bool true) ∧ Upd [] W w')) := fun W s t h hs ht' => same_any _ _ _ W hs ht' (ht.upd0 h) ((ql_pow qy 3).mono (by decide))
  have HT1 : Hid (∀ W s, Upd [] w W → RV W s 1 → Calls Tryz.prog 28 #[s] W (fun e w' => e = .returned (.string ⟨#[49]⟩) ∧ Upd [] W w')) := fun W s h hs => by
    have := rtextq_any _ _ W hs (ht.upd0 h) ⟨by decide +kernel, by decide +kernel⟩
    rw [txt_one] at this
    exact this
  obtain ⟨ty, hty⟩ : ∃ l, l = ratTxt y := ⟨_, rfl⟩
  have hty0 : (ty == [48]) = false := by rw [hty]; exact beq_false_of_ne (fun h => hy0 (txt_is_zero h))
  have HTY : Hid (∀ W s, Upd [] w W → RV W s y → Calls Tryz.prog 28 #[s] W (fun e w' => e = .returned (.string ⟨ty.toArray⟩) ∧ Upd [] W w')) := fun W s h hs => by
    rw [hty]; exact rtextq_any _ _ W hs (ht.upd0 h) (qy.mono (by decide))
  obtain ⟨qone, hone⟩ : ∃ r : Rat, r = 1 := ⟨_, rfl⟩
  rw [← hone] at HD1 HT1
  obtain ⟨qq, hqq⟩ : ∃ r : Rat, r = x := ⟨_, rfl⟩
  have hcc : (cmpR x y == cmpR x y) = true := by simp
  clear ht hs0 hw0 hs1 hw1 hs2 hw2 hs3 hw3 hs4 hw4 hs5 hw5 hP1 hD1 hb11 hb21 hDl1 hDp1 hz1 hx qx hP2 hD2 hb12 hb22 hDl2 hDp2 hz2 hy qy hP3 hD3 hb13 hb23 hDl3 hDp3 hz3 hz qz hy0 hqq hty hone
  generalize cmpR x y = cc at *
  generalize (x + y) * z = xm at *
  generalize x + y = xa at *
  generalize x * z = xz at *
  generalize y * z = yz at *
  generalize x + z = az at *
  generalize y + z = bz at *
  generalize x * y = xy at *
  generalize y ^ 2 = y2 at *
  generalize y ^ 3 = y3 at *
  obtain ⟨w0, hw0⟩ : ∃ W, W = (((w.alloc (.cells #[.slice a0 l0 c0, .slice a1 l1 c1, .bool b0] 51)).alloc (.cells #[.slice a2 l2 c2, .slice a3 l3 c3, .bool b1] 51)).alloc (.cells #[.slice a4 l4 c4, .slice a5 l5 c5, .bool b2] 51)) := ⟨_, rfl⟩
  obtain ⟨S, hS⟩ : ∃ s, s = w.heap.size := ⟨_, rfl⟩
  obtain ⟨hu0, r0, r1, r2, hz0⟩ := rows3 w #[.slice a0 l0 c0, .slice a1 l1 c1, .bool b0] #[.slice a2 l2 c2, .slice a3 l3 c3, .bool b1] #[.slice a4 l4 c4, .slice a5 l5 c5, .bool b2] 51 51 51 w0 hw0 S hS
  have HU0 := Lib.hid hu0
  have HW0 := Lib.hid hw0
  have HS := Lib.hid hS
  have HZ0 := Lib.hid hz0
  have HR0 := Lib.hid r0
  have HR1 := Lib.hid r1
  have HR2 := Lib.hid r2
  clear hw0 hS hu0 r0 r1 r2 hz0
  go_enter Tryz.func8, Tryz.ntmps8
  go_wp2_with fail
  rw [← HW0.out]
  rw [← HS.out]
  refine (HAW.out _ HU0.out).mono ?_
  rintro e w1 ⟨rfl, hu1⟩
  have HVw1 := Lib.hid hu1
  have s0 := (HR0.out.upd0 hu1).cell 0
  have s1 := (HR0.out.upd0 hu1).cell 1
  have s2 := (HR0.out.upd0 hu1).cell 2
  clear hu1
  go_wp2_with fail
  refine (HB1.out _ (HU0.out.trans0 HVw1.out)).mono ?_
  rintro e wa1 ⟨va1, vb1, rfl, hva1, hvb1, hua1⟩
  obtain ⟨aR1, lR1, cR1, dR1, mR1, eR1, rfl, _, _⟩ := hva1.open
  obtain ⟨aQ1, lQ1, cQ1, dQ1, mQ1, eQ1, fQ1, gQ1, hQ1, rfl, _, _⟩ := hvb1.open
  generalize decide (x.num < 0) = bR1 at *
  obtain ⟨w3, hw3⟩ : ∃ W, W = (wa1.alloc (.cells #[.bool bR1, .slice aR1 lR1 cR1, .slice dR1 mR1 eR1] 53)).alloc (.cells #[.slice aQ1 lQ1 cQ1, .slice dQ1 mQ1 eQ1, .slice fQ1 gQ1 hQ1] 55) := ⟨_, rfl⟩
  obtain ⟨K1, hK1⟩ : ∃ s, s = wa1.heap.size := ⟨_, rfl⟩
  obtain ⟨hul1, rR1, rQ1, _⟩ := rows2 wa1 #[.bool bR1, .slice aR1 lR1 cR1, .slice dR1 mR1 eR1] #[.slice aQ1 lQ1 cQ1, .slice dQ1 mQ1 eQ1, .slice fQ1 gQ1 hQ1] 53 55 w3 hw3 K1 hK1
  have HVw3 := Lib.hid (HVw1.out.trans0 (hua1.trans0 hul1))
  have HX1 := Lib.hid (hva1.upd0 hul1)
  have HY1 := Lib.hid (hvb1.upd0 hul1)
  have HRR1 := Lib.hid rR1
  have HRQ1 := Lib.hid rQ1
  have t0 := (HR1.out.upd0 HVw3.out).cell 0
  have t1 := (HR1.out.upd0 HVw3.out).cell 1
  have t2 := (HR1.out.upd0 HVw3.out).cell 2
  rw [hw3] at t0 t1 t2
  have HWw3 := Lib.hid hw3
  have HKK1 := Lib.hid hK1
  have HL1 := Lib.hid (hua1.trans0 hul1)
  clear hva1 hvb1 hua1 hul1 rR1 rQ1 hw3 hK1 s0 s1 s2
  go_wp2_with fail
  rw [← HWw3.out, ← HKK1.out]
  rw [← HWw3.out] at t0 t1 t2
  have s0 := t0
  have s1 := t1
  have s2 := t2
  clear t0 t1 t2
  refine (HB2.out _ (HU0.out.trans0 HVw3.out)).mono ?_
  rintro e wa2 ⟨va2, vb2, rfl, hva2, hvb2, hua2⟩
  obtain ⟨aR2, lR2, cR2, dR2, mR2, eR2, rfl, _, _⟩ := hva2.open
  obtain ⟨aQ2, lQ2, cQ2, dQ2, mQ2, eQ2, fQ2, gQ2, hQ2, rfl, _, _⟩ := hvb2.open
  generalize decide (y.num < 0) = bR2 at *
  obtain ⟨w5, hw5⟩ : ∃ W, W = (wa2.alloc (.cells #[.bool bR2, .slice aR2 lR2 cR2, .slice dR2 mR2 eR2] 53)).alloc (.cells #[.slice aQ2 lQ2 cQ2, .slice dQ2 mQ2 eQ2, .slice fQ2 gQ2 hQ2] 55) := ⟨_, rfl⟩
  obtain ⟨K2, hK2⟩ : ∃ s, s = wa2.heap.size := ⟨_, rfl⟩
  obtain ⟨hul2, rR2, rQ2, _⟩ := rows2 wa2 #[.bool bR2, .slice aR2 lR2 cR2, .slice dR2 mR2 eR2] #[.slice aQ2 lQ2 cQ2, .slice dQ2 mQ2 eQ2, .slice fQ2 gQ2 hQ2] 53 55 w5 hw5 K2 hK2
  have HVw5 := Lib.hid (HVw3.out.trans0 (hua2.trans0 hul2))
  have HX2 := Lib.hid (hva2.upd0 hul2)
  have HY2 := Lib.hid (hvb2.upd0 hul2)
  have HRR2 := Lib.hid rR2
  have HRQ2 := Lib.hid rQ2
  have t0 := (HR2.out.upd0 HVw5.out).cell 0
  have t1 := (HR2.out.upd0 HVw5.out).cell 1
  have t2 := (HR2.out.upd0 HVw5.out).cell 2
  rw [hw5] at t0 t1 t2
  have HWw5 := Lib.hid hw5
  have HKK2 := Lib.hid hK2
  have HL2 := Lib.hid (hua2.trans0 hul2)
  clear hva2 hvb2 hua2 hul2 rR2 rQ2 hw5 hK2 s0 s1 s2
  go_wp2_with fail
  rw [← HWw5.out, ← HKK2.out]
  rw [← HWw5.out] at t0 t1 t2
  have s0 := t0
  have s1 := t1
  have s2 := t2
  clear t0 t1 t2
  refine (HB3.out _ (HU0.out.trans0 HVw5.out)).mono ?_
  rintro e wa3 ⟨va3, vb3, rfl, hva3, hvb3, hua3⟩
  obtain ⟨aR3, lR3, cR3, dR3, mR3, eR3, rfl, _, _⟩ := hva3.open
  obtain ⟨aQ3, lQ3, cQ3, dQ3, mQ3, eQ3, fQ3, gQ3, hQ3, rfl, _, _⟩ := hvb3.open
  generalize decide (z.num < 0) = bR3 at *
  obtain ⟨w7, hw7⟩ : ∃ W, W = (wa3.alloc (.cells #[.bool bR3, .slice aR3 lR3 cR3, .slice dR3 mR3 eR3] 53)).alloc (.cells #[.slice aQ3 lQ3 cQ3, .slice dQ3 mQ3 eQ3, .slice fQ3 gQ3 hQ3] 55) := ⟨_, rfl⟩
  obtain ⟨K3, hK3⟩ : ∃ s, s = wa3.heap.size := ⟨_, rfl⟩
  obtain ⟨hul3, rR3, rQ3, _⟩ := rows2 wa3 #[.bool bR3, .slice aR3 lR3 cR3, .slice dR3 mR3 eR3] #[.slice aQ3 lQ3 cQ3, .slice dQ3 mQ3 eQ3, .slice fQ3 gQ3 hQ3] 53 55 w7 hw7 K3 hK3
  have HVw7 := Lib.hid (HVw5.out.trans0 (hua3.trans0 hul3))
  have HX3 := Lib.hid (hva3.upd0 hul3)
  have HY3 := Lib.hid (hvb3.upd0 hul3)
  have HRR3 := Lib.hid rR3
  have HRQ3 := Lib.hid rQ3
  have HL3 := Lib.hid (hua3.trans0 hul3)
  have HWw7 := Lib.hid hw7
  have HKK3 := Lib.hid hK3
  have HXa := Lib.hid (HX1.out.upd0 (HL2.out.trans0 HL3.out))
  have HXb := Lib.hid (HX2.out.upd0 HL3.out)
  have HXc := Lib.hid HX3.out
  have HRa := Lib.hid (HRR1.out.upd0 (HL2.out.trans0 HL3.out))
  have HRb := Lib.hid (HRR2.out.upd0 HL3.out)
  have HRc := Lib.hid HRR3.out
  clear hva3 hvb3 hua3 hul3 rR3 rQ3 hw7 hK3 s0 s1 s2
  have hrf : Upd [] w7 w7 := Upd.refl _ _
  have hen : ∀ args W, (callFunc 57 args).run Tryz.prog W = .ok (.enter 57 args) W := enters_of Tryz.func57 (by kernel_rfl) rfl
  have HC : Hid (∀ W, Upd [] w7 W → W.cell? ⟨K1, 0, none⟩ = some (.bool bR1) ∧ W.cell? ⟨K1, 1, none⟩ = some (.slice aR1 lR1 cR1) ∧ W.cell? ⟨K1, 2, none⟩ = some (.slice dR1 mR1 eR1) ∧ W.cell? ⟨K2, 0, none⟩ = some (.bool bR2) ∧ W.cell? ⟨K2, 1, none⟩ = some (.slice aR2 lR2 cR2) ∧ W.cell? ⟨K2, 2, none⟩ = some (.slice dR2 mR2 eR2) ∧ W.cell? ⟨K3, 0, none⟩ = some (.bool bR3) ∧ W.cell? ⟨K3, 1, none⟩ = some (.slice aR3 lR3 cR3) ∧ W.cell? ⟨K3, 2, none⟩ = some (.slice dR3 mR3 eR3) ∧ Upd [] w7 W) := fun W h =>
    ⟨(HRa.out.upd h (by simp <;> omega)).cell 0, (HRa.out.upd h (by simp <;> omega)).cell 1, (HRa.out.upd h (by simp <;> omega)).cell 2, (HRb.out.upd h (by simp <;> omega)).cell 0, (HRb.out.upd h (by simp <;> omega)).cell 1, (HRb.out.upd h (by simp <;> omega)).cell 2, (HRc.out.upd h (by simp <;> omega)).cell 0, (HRc.out.upd h (by simp <;> omega)).cell 1, (HRc.out.upd h (by simp <;> omega)).cell 2, h⟩
  go_wp2_with fail
  rw [← HWw7.out, ← HKK3.out]
  go_region_held3 (fun W => W.cell? ⟨K1, 0, none⟩ = some (.bool bR1) ∧ W.cell? ⟨K1, 1, none⟩ = some (.slice aR1 lR1 cR1) ∧ W.cell? ⟨K1, 2, none⟩ = some (.slice dR1 mR1 eR1) ∧ W.cell? ⟨K2, 0, none⟩ = some (.bool bR2) ∧ W.cell? ⟨K2, 1, none⟩ = some (.slice aR2 lR2 cR2) ∧ W.cell? ⟨K2, 2, none⟩ = some (.slice dR2 mR2 eR2) ∧ W.cell? ⟨K3, 0, none⟩ = some (.bool bR3) ∧ W.cell? ⟨K3, 1, none⟩ = some (.slice aR3 lR3 cR3) ∧ W.cell? ⟨K3, 2, none⟩ = some (.slice dR3 mR3 eR3) ∧ Upd [] w7 W)
    ((refine HC.out _ ?_; repeat (first | (with_reducible exact huy) | (with_reducible exact hrf) | (with_reducible apply Upd.drew))))
    (first
      | (go_at_call 43; (fail_if_success (have hh := HVA)); (with_reducible refine (HAxy.out _ _ _ (HXa.out.upd0 (by repeat (first | exact huy | exact hrf | apply Upd.drew | apply Upd.alloc))) (HXb.out.upd0 (by repeat (first | exact huy | exact hrf | apply Upd.drew | apply Upd.alloc)))).mono ?_); rintro e wz ⟨vA, rfl, hvA, hu20⟩;  have HVA := Lib.hid hvA; clear hvA; have huz : Upd [] w7 wz := Upd.trans0 (by repeat (first | exact huy | exact hrf | apply Upd.drew | apply Upd.alloc)) hu20; (try clear huy); clear hu20; have huy := huz; clear huz)
      | (go_at_call 30; (with_reducible refine (HSxy.out _ _ _ (by first | exact HVA.out | exact RV.upd0 HVA.out ((Upd.refl _ _).alloc _)) (HXb.out.upd0 (by repeat (first | exact huy | exact hrf | apply Upd.drew | apply Upd.alloc)))).mono ?_); rintro e wz ⟨vB, rfl, hvB, hu20⟩; have HVA := Lib.hid (HVA.out.upd0 (by first | exact hu20 | exact Upd.al hu20)); have HVB := Lib.hid hvB; clear hvB; have huz : Upd [] w7 wz := Upd.trans0 (by repeat (first | exact huy | exact hrf | apply Upd.drew | apply Upd.alloc)) hu20; (try clear huy); clear hu20; have huy := huz; clear huz)
      | (go_at_call 57; (with_reducible refine (HE1.out _ _ _ (HU0.out.trans0 (HVw7.out.trans0 (by repeat (first | exact huy | exact hrf | apply Upd.drew | apply Upd.alloc)))) (by first | exact HVB.out | exact RV.upd0 HVB.out ((Upd.refl _ _).alloc _)) (HXa.out.upd0 (by repeat (first | exact huy | exact hrf | apply Upd.drew | apply Upd.alloc)))).mono ?_); rintro e wz ⟨rfl, hu20⟩; have HVA := Lib.hid (HVA.out.upd0 (by first | exact hu20 | exact Upd.al hu20)); have HVB := Lib.hid (HVB.out.upd0 (by first | exact hu20 | exact Upd.al hu20));  have huz : Upd [] w7 wz := Upd.trans0 (by repeat (first | exact huy | exact hrf | apply Upd.drew | apply Upd.alloc)) hu20; (try clear huy); clear hu20; have huy := huz; clear huz)
      | (go_at_call 43; (with_reducible refine (HAxy.out _ _ _ (HXa.out.upd0 (by repeat (first | exact huy | exact hrf | apply Upd.drew | apply Upd.alloc))) (HXb.out.upd0 (by repeat (first | exact huy | exact hrf | apply Upd.drew | apply Upd.alloc)))).mono ?_); rintro e wz ⟨vC, rfl, hvC, hu20⟩; have HVA := Lib.hid (HVA.out.upd0 (by first | exact hu20 | exact Upd.al hu20)); have HVB := Lib.hid (HVB.out.upd0 (by first | exact hu20 | exact Upd.al hu20)); have HVC := Lib.hid hvC; clear hvC; have huz : Upd [] w7 wz := Upd.trans0 (by repeat (first | exact huy | exact hrf | apply Upd.drew | apply Upd.alloc)) hu20; (try clear huy); clear hu20; have huy := huz; clear huz)
      | (go_at_call 46; (with_reducible refine (HMs.out _ _ _ (by first | exact HVC.out | exact RV.upd0 HVC.out ((Upd.refl _ _).alloc _)) (HXc.out.upd0 (by repeat (first | exact huy | exact hrf | apply Upd.drew | apply Upd.alloc)))).mono ?_); rintro e wz ⟨vD, rfl, hvD, hu20⟩; have HVA := Lib.hid (HVA.out.upd0 (by first | exact hu20 | exact Upd.al hu20)); have HVB := Lib.hid (HVB.out.upd0 (by first | exact hu20 | exact Upd.al hu20)); have HVC := Lib.hid (HVC.out.upd0 (by first | exact hu20 | exact Upd.al hu20)); have HVD := Lib.hid hvD; clear hvD; have huz : Upd [] w7 wz := Upd.trans0 (by repeat (first | exact huy | exact hrf | apply Upd.drew | apply Upd.alloc)) hu20; (try clear huy); clear hu20; have huy := huz; clear huz)
      | (go_at_call 46; (with_reducible refine (HMxz.out _ _ _ (HXa.out.upd0 (by repeat (first | exact huy | exact hrf | apply Upd.drew | apply Upd.alloc))) (HXc.out.upd0 (by repeat (first | exact huy | exact hrf | apply Upd.drew | apply Upd.alloc)))).mono ?_); rintro e wz ⟨vE, rfl, hvE, hu20⟩; have HVA := Lib.hid (HVA.out.upd0 (by first | exact hu20 | exact Upd.al hu20)); have HVB := Lib.hid (HVB.out.upd0 (by first | exact hu20 | exact Upd.al hu20)); have HVC := Lib.hid (HVC.out.upd0 (by first | exact hu20 | exact Upd.al hu20)); have HVD := Lib.hid (HVD.out.upd0 (by first | exact hu20 | exact Upd.al hu20)); have HVE := Lib.hid hvE; clear hvE; have huz : Upd [] w7 wz := Upd.trans0 (by repeat (first | exact huy | exact hrf | apply Upd.drew | apply Upd.alloc)) hu20; (try clear huy); clear hu20; have huy := huz; clear huz)
      | (go_at_call 46; (with_reducible refine (HMyz.out _ _ _ (HXb.out.upd0 (by repeat (first | exact huy | exact hrf | apply Upd.drew | apply Upd.alloc))) (HXc.out.upd0 (by repeat (first | exact huy | exact hrf | apply Upd.drew | apply Upd.alloc)))).mono ?_); rintro e wz ⟨vF, rfl, hvF, hu20⟩; have HVA := Lib.hid (HVA.out.upd0 (by first | exact hu20 | exact Upd.al hu20)); have HVB := Lib.hid (HVB.out.upd0 (by first | exact hu20 | exact Upd.al hu20)); have HVC := Lib.hid (HVC.out.upd0 (by first | exact hu20 | exact Upd.al hu20)); have HVD := Lib.hid (HVD.out.upd0 (by first | exact hu20 | exact Upd.al hu20)); have HVE := Lib.hid (HVE.out.upd0 (by first | exact hu20 | exact Upd.al hu20)); have HVF := Lib.hid hvF; clear hvF; have huz : Upd [] w7 wz := Upd.trans0 (by repeat (first | exact huy | exact hrf | apply Upd.drew | apply Upd.alloc)) hu20; (try clear huy); clear hu20; have huy := huz; clear huz)
      | (go_at_call 43; (with_reducible refine (HAm.out _ _ _ (by first | exact HVE.out | exact RV.upd0 HVE.out ((Upd.refl _ _).alloc _)) (by first | exact HVF.out | exact RV.upd0 HVF.out ((Upd.refl _ _).alloc _))).mono ?_); rintro e wz ⟨vG, rfl, hvG, hu20⟩; have HVA := Lib.hid (HVA.out.upd0 (by first | exact hu20 | exact Upd.al hu20)); have HVB := Lib.hid (HVB.out.upd0 (by first | exact hu20 | exact Upd.al hu20)); have HVC := Lib.hid (HVC.out.upd0 (by first | exact hu20 | exact Upd.al hu20)); have HVD := Lib.hid (HVD.out.upd0 (by first | exact hu20 | exact Upd.al hu20)); have HVE := Lib.hid (HVE.out.upd0 (by first | exact hu20 | exact Upd.al hu20)); have HVF := Lib.hid (HVF.out.upd0 (by first | exact hu20 | exact Upd.al hu20)); have HVG := Lib.hid hvG; clear hvG; have huz : Upd [] w7 wz := Upd.trans0 (by repeat (first | exact huy | exact hrf | apply Upd.drew | apply Upd.alloc)) hu20; (try clear huy); clear hu20; have huy := huz; clear huz)
      | (go_at_call 57; (with_reducible refine (HE2.out _ _ _ (HU0.out.trans0 (HVw7.out.trans0 (by repeat (first | exact huy | exact hrf | apply Upd.drew | apply Upd.alloc)))) (by first | exact HVD.out | exact RV.upd0 HVD.out ((Upd.refl _ _).alloc _)) (by first | exact HVG.out | exact RV.upd0 HVG.out ((Upd.refl _ _).alloc _))).mono ?_); rintro e wz ⟨rfl, hu20⟩; have HVA := Lib.hid (HVA.out.upd0 (by first | exact hu20 | exact Upd.al hu20)); have HVB := Lib.hid (HVB.out.upd0 (by first | exact hu20 | exact Upd.al hu20)); have HVC := Lib.hid (HVC.out.upd0 (by first | exact hu20 | exact Upd.al hu20)); have HVD := Lib.hid (HVD.out.upd0 (by first | exact hu20 | exact Upd.al hu20)); have HVE := Lib.hid (HVE.out.upd0 (by first | exact hu20 | exact Upd.al hu20)); have HVF := Lib.hid (HVF.out.upd0 (by first | exact hu20 | exact Upd.al hu20)); have HVG := Lib.hid (HVG.out.upd0 (by first | exact hu20 | exact Upd.al hu20));  have huz : Upd [] w7 wz := Upd.trans0 (by repeat (first | exact huy | exact hrf | apply Upd.drew | apply Upd.alloc)) hu20; (try clear huy); clear hu20; have huy := huz; clear huz)
      | (go_at_call 43; (with_reducible refine (HAxz.out _ _ _ (HXa.out.upd0 (by repeat (first | exact huy | exact hrf | apply Upd.drew | apply Upd.alloc))) (HXc.out.upd0 (by repeat (first | exact huy | exact hrf | apply Upd.drew | apply Upd.alloc)))).mono ?_); rintro e wz ⟨vH, rfl, hvH, hu20⟩; have HVA := Lib.hid (HVA.out.upd0 (by first | exact hu20 | exact Upd.al hu20)); have HVB := Lib.hid (HVB.out.upd0 (by first | exact hu20 | exact Upd.al hu20)); have HVC := Lib.hid (HVC.out.upd0 (by first | exact hu20 | exact Upd.al hu20)); have HVD := Lib.hid (HVD.out.upd0 (by first | exact hu20 | exact Upd.al hu20)); have HVE := Lib.hid (HVE.out.upd0 (by first | exact hu20 | exact Upd.al hu20)); have HVF := Lib.hid (HVF.out.upd0 (by first | exact hu20 | exact Upd.al hu20)); have HVG := Lib.hid (HVG.out.upd0 (by first | exact hu20 | exact Upd.al hu20)); have HVH := Lib.hid hvH; clear hvH; have huz : Upd [] w7 wz := Upd.trans0 (by repeat (first | exact huy | exact hrf | apply Upd.drew | apply Upd.alloc)) hu20; (try clear huy); clear hu20; have huy := huz; clear huz)
      | (go_at_call 43; (with_reducible refine (HAyz.out _ _ _ (HXb.out.upd0 (by repeat (first | exact huy | exact hrf | apply Upd.drew | apply Upd.alloc))) (HXc.out.upd0 (by repeat (first | exact huy | exact hrf | apply Upd.drew | apply Upd.alloc)))).mono ?_); rintro e wz ⟨vI, rfl, hvI, hu20⟩; have HVA := Lib.hid (HVA.out.upd0 (by first | exact hu20 | exact Upd.al hu20)); have HVB := Lib.hid (HVB.out.upd0 (by first | exact hu20 | exact Upd.al hu20)); have HVC := Lib.hid (HVC.out.upd0 (by first | exact hu20 | exact Upd.al hu20)); have HVD := Lib.hid (HVD.out.upd0 (by first | exact hu20 | exact Upd.al hu20)); have HVE := Lib.hid (HVE.out.upd0 (by first | exact hu20 | exact Upd.al hu20)); have HVF := Lib.hid (HVF.out.upd0 (by first | exact hu20 | exact Upd.al hu20)); have HVG := Lib.hid (HVG.out.upd0 (by first | exact hu20 | exact Upd.al hu20)); have HVH := Lib.hid (HVH.out.upd0 (by first | exact hu20 | exact Upd.al hu20)); have HVI := Lib.hid hvI; clear hvI; have huz : Upd [] w7 wz := Upd.trans0 (by repeat (first | exact huy | exact hrf | apply Upd.drew | apply Upd.alloc)) hu20; (try clear huy); clear hu20; have huy := huz; clear huz)
      | (go_at_call 39; (with_reducible refine (HC1.out _ _ _ (by first | exact HVH.out | exact RV.upd0 HVH.out ((Upd.refl _ _).alloc _)) (by first | exact HVI.out | exact RV.upd0 HVI.out ((Upd.refl _ _).alloc _))).mono ?_); rintro e wz ⟨rfl, hu20⟩; have HVA := Lib.hid (HVA.out.upd0 (by first | exact hu20 | exact Upd.al hu20)); have HVB := Lib.hid (HVB.out.upd0 (by first | exact hu20 | exact Upd.al hu20)); have HVC := Lib.hid (HVC.out.upd0 (by first | exact hu20 | exact Upd.al hu20)); have HVD := Lib.hid (HVD.out.upd0 (by first | exact hu20 | exact Upd.al hu20)); have HVE := Lib.hid (HVE.out.upd0 (by first | exact hu20 | exact Upd.al hu20)); have HVF := Lib.hid (HVF.out.upd0 (by first | exact hu20 | exact Upd.al hu20)); have HVG := Lib.hid (HVG.out.upd0 (by first | exact hu20 | exact Upd.al hu20)); have HVH := Lib.hid (HVH.out.upd0 (by first | exact hu20 | exact Upd.al hu20)); have HVI := Lib.hid (HVI.out.upd0 (by first | exact hu20 | exact Upd.al hu20));  have huz : Upd [] w7 wz := Upd.trans0 (by repeat (first | exact huy | exact hrf | apply Upd.drew | apply Upd.alloc)) hu20; (try clear huy); clear hu20; have huy := huz; clear huz)
      | (go_at_call 39; (with_reducible refine (HC2.out _ _ _ (HXa.out.upd0 (by repeat (first | exact huy | exact hrf | apply Upd.drew | apply Upd.alloc))) (HXb.out.upd0 (by repeat (first | exact huy | exact hrf | apply Upd.drew | apply Upd.alloc)))).mono ?_); rintro e wz ⟨rfl, hu20⟩; have HVA := Lib.hid (HVA.out.upd0 (by first | exact hu20 | exact Upd.al hu20)); have HVB := Lib.hid (HVB.out.upd0 (by first | exact hu20 | exact Upd.al hu20)); have HVC := Lib.hid (HVC.out.upd0 (by first | exact hu20 | exact Upd.al hu20)); have HVD := Lib.hid (HVD.out.upd0 (by first | exact hu20 | exact Upd.al hu20)); have HVE := Lib.hid (HVE.out.upd0 (by first | exact hu20 | exact Upd.al hu20)); have HVF := Lib.hid (HVF.out.upd0 (by first | exact hu20 | exact Upd.al hu20)); have HVG := Lib.hid (HVG.out.upd0 (by first | exact hu20 | exact Upd.al hu20)); have HVH := Lib.hid (HVH.out.upd0 (by first | exact hu20 | exact Upd.al hu20)); have HVI := Lib.hid (HVI.out.upd0 (by first | exact hu20 | exact Upd.al hu20));  have huz : Upd [] w7 wz := Upd.trans0 (by repeat (first | exact huy | exact hrf | apply Upd.drew | apply Upd.alloc)) hu20; (try clear huy); clear hu20; have huy := huz; clear huz))
  obtain ⟨w8, hw8⟩ : ∃ W, W = wz := ⟨_, rfl⟩
  rw [← hw8] at huy ⊢
  have HUz := Lib.hid huy
  have HVw8 := Lib.hid (HVw7.out.trans0 huy)
  have HXa8 := Lib.hid (HXa.out.upd0 huy)
  have HXb8 := Lib.hid (HXb.out.upd0 huy)
  have HRa8 := Lib.hid (HRa.out.upd0 huy)
  have HRb8 := Lib.hid (HRb.out.upd0 huy)
  clear huy hw8 hrf HC hcc
  go_wp2_with fail
  have hrf : Upd [] w8 w8 := Upd.refl _ _
  have HC : Hid (∀ W, Upd [] w8 W → W.cell? ⟨K1, 0, none⟩ = some (.bool bR1) ∧ W.cell? ⟨K1, 1, none⟩ = some (.slice aR1 lR1 cR1) ∧ W.cell? ⟨K1, 2, none⟩ = some (.slice dR1 mR1 eR1) ∧ W.cell? ⟨K2, 0, none⟩ = some (.bool bR2) ∧ W.cell? ⟨K2, 1, none⟩ = some (.slice aR2 lR2 cR2) ∧ W.cell? ⟨K2, 2, none⟩ = some (.slice dR2 mR2 eR2) ∧ Upd [] w8 W) := fun W h =>
    ⟨(HRa8.out.upd h (by simp <;> omega)).cell 0, (HRa8.out.upd h (by simp <;> omega)).cell 1, (HRa8.out.upd h (by simp <;> omega)).cell 2, (HRb8.out.upd h (by simp <;> omega)).cell 0, (HRb8.out.upd h (by simp <;> omega)).cell 1, (HRb8.out.upd h (by simp <;> omega)).cell 2, h⟩
  go_cut [14, 15] (fun v14 v15 wx => ∃ (kQ : Nat) (bQ : Bool) (sQ : Option Addr) (lQ cQ : Nat) (sP : Option Addr) (lP cP : Nat), v14 = .pointer (some ⟨kQ, 0, none⟩) ∧ v15 = .int .i64 0 ∧ Hid (NewR w8 (x) wx kQ bQ sQ lQ cQ sP lP cP))
  case first =>
    go_region_held3 (fun W => W.cell? ⟨K1, 0, none⟩ = some (.bool bR1) ∧ W.cell? ⟨K1, 1, none⟩ = some (.slice aR1 lR1 cR1) ∧ W.cell? ⟨K1, 2, none⟩ = some (.slice dR1 mR1 eR1) ∧ W.cell? ⟨K2, 0, none⟩ = some (.bool bR2) ∧ W.cell? ⟨K2, 1, none⟩ = some (.slice aR2 lR2 cR2) ∧ W.cell? ⟨K2, 2, none⟩ = some (.slice dR2 mR2 eR2) ∧ Upd [] w8 W)
      ((refine HC.out _ ?_; repeat (first | (with_reducible refine Upd.setCell ?_ (.inr hrk.lo) _) | (with_reducible refine Upd.setCell ?_ (.inr huy.size) _) | (with_reducible exact huy) | (with_reducible exact hrf) | (with_reducible apply Upd.drew) | (with_reducible apply Upd.alloc))))
      (first
        | (go_at_call 46; (with_reducible refine (HMxy.out _ _ _ (HXa8.out.upd0 (by repeat (first | exact huy | exact hrf | apply Upd.drew | apply Upd.alloc))) (HXb8.out.upd0 (by repeat (first | exact huy | exact hrf | apply Upd.drew | apply Upd.alloc)))).mono ?_); rintro e wz ⟨vJ, rfl, hvJ, hu20⟩;  have HVJ := Lib.hid hvJ; clear hvJ; have huz : Upd [] w8 wz := Upd.trans0 (by repeat (first | exact huy | exact hrf | apply Upd.drew | apply Upd.alloc)) hu20; (try have hrk := NewRow.upd hrk hu20); (try have hrk := NewRow.of (by first | exact huy | exact hrf.drew | exact hrf) hu20); (try have hrk := NewRow.of0 hrf hu20); (try clear huy); clear hu20; have huy := huz; clear huz)
        | (go_at_call 42; (with_reducible refine (HD.out _ _ _ (by first | exact HVJ.out | exact RV.upd0 HVJ.out ((Upd.refl _ _).alloc _)) (HXb8.out.upd0 (by repeat (first | exact huy | exact hrf | apply Upd.drew | apply Upd.alloc)))).mono ?_); rintro e wz ⟨vG, rfl, hGv, hu20⟩; have HVJ := Lib.hid (HVJ.out.upd0 (by first | exact hu20 | exact Upd.al hu20)); obtain ⟨aG, lG, cG, dG, mG, eG, rfl, _, _⟩ := hGv.open; have HG := Lib.hid hGv; clear hGv; have huz : Upd [] w8 wz := Upd.trans0 (by repeat (first | exact huy | exact hrf | apply Upd.drew | apply Upd.alloc)) hu20; (try have hrk := NewRow.upd hrk hu20); (try have hrk := NewRow.of (by first | exact huy | exact hrf.drew | exact hrf) hu20); (try have hrk := NewRow.of0 hrf hu20); (try clear huy); clear hu20; have huy := huz; clear huz; (try have y0 := hrk.row.cell 0); (try have g0 := hrk.row.frozen 0); (try have y1 := hrk.row.cell 1); (try have g1 := hrk.row.frozen 1); (try have y2 := hrk.row.cell 2); (try have g2 := hrk.row.frozen 2)))
    all_goals
      go_wp2_with fail
      go_meet
      first
        | exact ⟨_, _, _, _, _, _, _, _, rfl, rfl, Lib.hid (NewR.set hrk huy HG.out)⟩
        | exact ⟨_, _, _, _, _, _, _, _, rfl, rfl, Lib.hid (NewR.new huy HG.out)⟩
  case rest =>
    obtain ⟨k14, p14, a14, l14, c14, d14, m14, e14, rfl, rfl, HK14⟩ := hcut
    obtain ⟨w9, hw9⟩ : ∃ W, W = wc := ⟨_, rfl⟩
    rw [← hw9] at HK14 ⊢
    have hUw9 : Upd [] w8 w9 := HK14.out.upd
    have hlo14 := HK14.out.lo
    clear hrf HC hw9
    have HVw9 := Lib.hid (HVw8.out.trans0 hUw9)
    have HXa9 := Lib.hid (HXa8.out.upd0 hUw9)
    have HXb9 := Lib.hid (HXb8.out.upd0 hUw9)
    have HRa9 := Lib.hid (HRa8.out.upd0 hUw9)
    have HRb9 := Lib.hid (HRb8.out.upd0 hUw9)
    have HQ9 := Lib.hid HK14.out.rv
    have HR14 := Lib.hid HK14.out.row
    have s0 := HRb9.out.cell 0
    have s1 := HRb9.out.cell 1
    have s2 := HRb9.out.cell 2
    go_wp2_with fail
    refine (HTY.out _ _ (HU0.out.trans0 HVw9.out) HXb9.out).mono ?_
    rintro e wA ⟨rfl, huA⟩
    have HVA0 := Lib.hid (HVw9.out.trans0 huA)
    have HXaA := Lib.hid (HXa9.out.upd0 huA)
    have HXbA := Lib.hid (HXb9.out.upd0 huA)
    have HRaA := Lib.hid (HRa9.out.upd0 huA)
    have HRbA := Lib.hid (HRb9.out.upd0 huA)
    have HQA := Lib.hid (HQ9.out.upd0 huA)
    have HR14A := Lib.hid (HR14.out.upd0 huA)
    have s0 := HRbA.out.cell 0
    have s1 := HRbA.out.cell 1
    have s2 := HRbA.out.cell 2
    clear huA
    go_wp2_with fail
    refine (HD1.out _ _ _ HXbA.out HXbA.out).mono ?_
    rintro e wvB ⟨vvB, rfl, hvB, huB⟩
    obtain ⟨axB, lxB, cxB, dxB, mxB, exB, rfl, _, _⟩ := hvB.open
    generalize decide ((qone).num < 0) = bxB at *
    obtain ⟨wnB, hwnB⟩ : ∃ W, W = wvB.alloc (.cells #[.bool bxB, .slice axB lxB cxB, .slice dxB mxB exB] 53) := ⟨_, rfl⟩
    obtain ⟨JB, hJB⟩ : ∃ s, s = wvB.heap.size := ⟨_, rfl⟩
    obtain ⟨hulB, rJB, _⟩ := rows1 wvB _ _ wnB hwnB JB hJB
    have HUnB := Lib.hid (huB.trans0 hulB)
    have HVB0 := Lib.hid (HVA0.out.trans0 HUnB.out)
    have HXaB := Lib.hid (HXaA.out.upd0 HUnB.out)
    have HXbB := Lib.hid (HXbA.out.upd0 HUnB.out)
    have HRaB := Lib.hid (HRaA.out.upd0 HUnB.out)
    have HRbB := Lib.hid (HRbA.out.upd0 HUnB.out)
    have HQB := Lib.hid (HQA.out.upd0 HUnB.out)
    have HR14B := Lib.hid (HR14A.out.upd0 HUnB.out)
    have HNBB := Lib.hid (hvB.upd0 hulB)
    have HJRBB := Lib.hid rJB
    clear s0 s1 s2
    have s0 := HRbB.out.cell 0
    have s1 := HRbB.out.cell 1
    have s2 := HRbB.out.cell 2
    rw [hwnB] at s0 s1 s2
    have HWnB := Lib.hid hwnB
    have HJJB := Lib.hid hJB
    clear hvB huB hulB rJB hwnB hJB
    go_wp2_with fail
    rw [← HWnB.out, ← HJJB.out]
    rw [← HWnB.out] at s0 s1 s2
    refine (HP2.out _ _ HXbB.out).mono ?_
    rintro e wvC ⟨vvC, rfl, hvC, huC⟩
    obtain ⟨axC, lxC, cxC, dxC, mxC, exC, rfl, _, _⟩ := hvC.open
    generalize decide ((y2).num < 0) = bxC at *
    obtain ⟨wnC, hwnC⟩ : ∃ W, W = wvC.alloc (.cells #[.bool bxC, .slice axC lxC cxC, .slice dxC mxC exC] 53) := ⟨_, rfl⟩
    obtain ⟨JC, hJC⟩ : ∃ s, s = wvC.heap.size := ⟨_, rfl⟩
    obtain ⟨hulC, rJC, _⟩ := rows1 wvC _ _ wnC hwnC JC hJC
    have HUnC := Lib.hid (huC.trans0 hulC)
    have HVC0 := Lib.hid (HVB0.out.trans0 HUnC.out)
    have HXaC := Lib.hid (HXaB.out.upd0 HUnC.out)
    have HXbC := Lib.hid (HXbB.out.upd0 HUnC.out)
    have HRaC := Lib.hid (HRaB.out.upd0 HUnC.out)
    have HRbC := Lib.hid (HRbB.out.upd0 HUnC.out)
    have HQC := Lib.hid (HQB.out.upd0 HUnC.out)
    have HR14C := Lib.hid (HR14B.out.upd0 HUnC.out)
    have HNCC := Lib.hid (hvC.upd0 hulC)
    have HJRCC := Lib.hid rJC
    have HNBC := Lib.hid (HNBB.out.upd0 HUnC.out)
    have HJRBC := Lib.hid (HJRBB.out.upd0 HUnC.out)
    clear s0 s1 s2
    have s0 := HRbC.out.cell 0
    have s1 := HRbC.out.cell 1
    have s2 := HRbC.out.cell 2
    rw [hwnC] at s0 s1 s2
    have HWnC := Lib.hid hwnC
    have HJJC := Lib.hid hJC
    clear hvC huC hulC rJC hwnC hJC
    go_wp2_with fail
    rw [← HWnC.out, ← HJJC.out]
    rw [← HWnC.out] at s0 s1 s2
    refine (HP3.out _ _ HXbC.out).mono ?_
    rintro e wvD ⟨vvD, rfl, hvD, huD⟩
    obtain ⟨axD, lxD, cxD, dxD, mxD, exD, rfl, _, _⟩ := hvD.open
    generalize decide ((y3).num < 0) = bxD at *
    obtain ⟨wnD, hwnD⟩ : ∃ W, W = wvD.alloc (.cells #[.bool bxD, .slice axD lxD cxD, .slice dxD mxD exD] 53) := ⟨_, rfl⟩
    obtain ⟨JD, hJD⟩ : ∃ s, s = wvD.heap.size := ⟨_, rfl⟩
    obtain ⟨hulD, rJD, _⟩ := rows1 wvD _ _ wnD hwnD JD hJD
    have HUnD := Lib.hid (huD.trans0 hulD)
    have HVD0 := Lib.hid (HVC0.out.trans0 HUnD.out)
    have HXaD := Lib.hid (HXaC.out.upd0 HUnD.out)
    have HXbD := Lib.hid (HXbC.out.upd0 HUnD.out)
    have HRaD := Lib.hid (HRaC.out.upd0 HUnD.out)
    have HRbD := Lib.hid (HRbC.out.upd0 HUnD.out)
    have HQD := Lib.hid (HQC.out.upd0 HUnD.out)
    have HR14D := Lib.hid (HR14C.out.upd0 HUnD.out)
    have HNDD := Lib.hid (hvD.upd0 hulD)
    have HJRDD := Lib.hid rJD
    have HNBD := Lib.hid (HNBC.out.upd0 HUnD.out)
    have HJRBD := Lib.hid (HJRBC.out.upd0 HUnD.out)
    have HNCD := Lib.hid (HNCC.out.upd0 HUnD.out)
    have HJRCD := Lib.hid (HJRCC.out.upd0 HUnD.out)
    clear s0 s1 s2
    have s0 := HRbD.out.cell 0
    have s1 := HRbD.out.cell 1
    have s2 := HRbD.out.cell 2
    rw [hwnD] at s0 s1 s2
    have HWnD := Lib.hid hwnD
    have HJJD := Lib.hid hJD
    clear hvD huD hulD rJD hwnD hJD
    go_wp2_with fail
    rw [← HWnD.out, ← HJJD.out]
    rw [← HWnD.out] at s0 s1 s2
    clear s0 s1 s2
    have hrf : Upd [] wnD wnD := Upd.refl _ _
    have HC : Hid (∀ W, Upd [] wnD W → W.cell? ⟨k14, 0, none⟩ = some (.bool p14) ∧ W.cell? ⟨k14, 1, none⟩ = some (.slice a14 l14 c14) ∧ W.cell? ⟨k14, 2, none⟩ = some (.slice d14 m14 e14) ∧ W.cell? ⟨K1, 0, none⟩ = some (.bool bR1) ∧ W.cell? ⟨K1, 1, none⟩ = some (.slice aR1 lR1 cR1) ∧ W.cell? ⟨K1, 2, none⟩ = some (.slice dR1 mR1 eR1) ∧ W.cell? ⟨K2, 0, none⟩ = some (.bool bR2) ∧ W.cell? ⟨K2, 1, none⟩ = some (.slice aR2 lR2 cR2) ∧ W.cell? ⟨K2, 2, none⟩ = some (.slice dR2 mR2 eR2) ∧ W.cell? ⟨JB, 0, none⟩ = some (.bool bxB) ∧ W.cell? ⟨JB, 1, none⟩ = some (.slice axB lxB cxB) ∧ W.cell? ⟨JB, 2, none⟩ = some (.slice dxB mxB exB) ∧ W.cell? ⟨JC, 0, none⟩ = some (.bool bxC) ∧ W.cell? ⟨JC, 1, none⟩ = some (.slice axC lxC cxC) ∧ W.cell? ⟨JC, 2, none⟩ = some (.slice dxC mxC exC) ∧ W.cell? ⟨JD, 0, none⟩ = some (.bool bxD) ∧ W.cell? ⟨JD, 1, none⟩ = some (.slice axD lxD cxD) ∧ W.cell? ⟨JD, 2, none⟩ = some (.slice dxD mxD exD) ∧ Upd [] wnD W) := fun W h =>
      ⟨(HR14D.out.upd h (by simp <;> omega)).cell 0, (HR14D.out.upd h (by simp <;> omega)).cell 1, (HR14D.out.upd h (by simp <;> omega)).cell 2, (HRaD.out.upd h (by simp <;> omega)).cell 0, (HRaD.out.upd h (by simp <;> omega)).cell 1, (HRaD.out.upd h (by simp <;> omega)).cell 2, (HRbD.out.upd h (by simp <;> omega)).cell 0, (HRbD.out.upd h (by simp <;> omega)).cell 1, (HRbD.out.upd h (by simp <;> omega)).cell 2, (HJRBD.out.upd h (by simp <;> omega)).cell 0, (HJRBD.out.upd h (by simp <;> omega)).cell 1, (HJRBD.out.upd h (by simp <;> omega)).cell 2, (HJRCD.out.upd h (by simp <;> omega)).cell 0, (HJRCD.out.upd h (by simp <;> omega)).cell 1, (HJRCD.out.upd h (by simp <;> omega)).cell 2, (HJRDD.out.upd h (by simp <;> omega)).cell 0, (HJRDD.out.upd h (by simp <;> omega)).cell 1, (HJRDD.out.upd h (by simp <;> omega)).cell 2, h⟩
    go_region_held3 (fun W => W.cell? ⟨k14, 0, none⟩ = some (.bool p14) ∧ W.cell? ⟨k14, 1, none⟩ = some (.slice a14 l14 c14) ∧ W.cell? ⟨k14, 2, none⟩ = some (.slice d14 m14 e14) ∧ W.cell? ⟨K1, 0, none⟩ = some (.bool bR1) ∧ W.cell? ⟨K1, 1, none⟩ = some (.slice aR1 lR1 cR1) ∧ W.cell? ⟨K1, 2, none⟩ = some (.slice dR1 mR1 eR1) ∧ W.cell? ⟨K2, 0, none⟩ = some (.bool bR2) ∧ W.cell? ⟨K2, 1, none⟩ = some (.slice aR2 lR2 cR2) ∧ W.cell? ⟨K2, 2, none⟩ = some (.slice dR2 mR2 eR2) ∧ W.cell? ⟨JB, 0, none⟩ = some (.bool bxB) ∧ W.cell? ⟨JB, 1, none⟩ = some (.slice axB lxB cxB) ∧ W.cell? ⟨JB, 2, none⟩ = some (.slice dxB mxB exB) ∧ W.cell? ⟨JC, 0, none⟩ = some (.bool bxC) ∧ W.cell? ⟨JC, 1, none⟩ = some (.slice axC lxC cxC) ∧ W.cell? ⟨JC, 2, none⟩ = some (.slice dxC mxC exC) ∧ W.cell? ⟨JD, 0, none⟩ = some (.bool bxD) ∧ W.cell? ⟨JD, 1, none⟩ = some (.slice axD lxD cxD) ∧ W.cell? ⟨JD, 2, none⟩ = some (.slice dxD mxD exD) ∧ Upd [] wnD W)
      ((refine HC.out _ ?_; repeat (first | (with_reducible exact huy) | (with_reducible exact hrf) | (with_reducible apply Upd.drew))))
      (first
        | (go_at_call 57; (with_reducible refine (HE1.out _ _ _ (HU0.out.trans0 (HVD0.out.trans0 (by repeat (first | exact huy | exact hrf | apply Upd.drew | apply Upd.alloc)))) (HQD.out.upd0 (by repeat (first | exact huy | exact hrf | apply Upd.drew | apply Upd.alloc))) (HXaD.out.upd0 (by repeat (first | exact huy | exact hrf | apply Upd.drew | apply Upd.alloc)))).mono ?_); rintro e wz ⟨rfl, hu20⟩;   have huz : Upd [] wnD wz := Upd.trans0 (by repeat (first | exact huy | exact hrf | apply Upd.drew | apply Upd.alloc)) hu20; (try clear huy); clear hu20; have huy := huz; clear huz)
        | (go_at_call 28; (with_reducible refine (HT1.out _ _ (HU0.out.trans0 (HVD0.out.trans0 (by repeat (first | exact huy | exact hrf | apply Upd.drew | apply Upd.alloc)))) (HNBD.out.upd0 (by repeat (first | exact huy | exact hrf | apply Upd.drew | apply Upd.alloc)))).mono ?_); rintro e wz ⟨rfl, hu20⟩;   have huz : Upd [] wnD wz := Upd.trans0 (by repeat (first | exact huy | exact hrf | apply Upd.drew | apply Upd.alloc)) hu20; (try clear huy); clear hu20; have huy := huz; clear huz)
        | (go_at_call 46; (with_reducible refine (HM2.out _ _ _ (HNCD.out.upd0 (by repeat (first | exact huy | exact hrf | apply Upd.drew | apply Upd.alloc))) (HXbD.out.upd0 (by repeat (first | exact huy | exact hrf | apply Upd.drew | apply Upd.alloc)))).mono ?_); rintro e wz ⟨vK, rfl, hvK, hu20⟩;  have HVK := Lib.hid hvK; clear hvK; have huz : Upd [] wnD wz := Upd.trans0 (by repeat (first | exact huy | exact hrf | apply Upd.drew | apply Upd.alloc)) hu20; (try clear huy); clear hu20; have huy := huz; clear huz)
        | (go_at_call 57; (with_reducible refine (HE3.out _ _ _ (HU0.out.trans0 (HVD0.out.trans0 (by repeat (first | exact huy | exact hrf | apply Upd.drew | apply Upd.alloc)))) (by first | exact HVK.out | exact RV.upd0 HVK.out ((Upd.refl _ _).alloc _)) (HNDD.out.upd0 (by repeat (first | exact huy | exact hrf | apply Upd.drew | apply Upd.alloc)))).mono ?_); rintro e wz ⟨rfl, hu20⟩; have HVK := Lib.hid (HVK.out.upd0 (by first | exact hu20 | exact Upd.al hu20));  have huz : Upd [] wnD wz := Upd.trans0 (by repeat (first | exact huy | exact hrf | apply Upd.drew | apply Upd.alloc)) hu20; (try clear huy); clear hu20; have huy := huz; clear huz))
    all_goals
      go_wp2
      go_ret
      exact ⟨rfl, HU0.out.trans0 (HVD0.out.trans0 huy)⟩

set_option maxHeartbeats 3200000 in
theorem ratField_z (a0 : Option Addr) (l0 c0 : Nat) (L0 : List Nat) (a1 : Option Addr) (l1 c1 : Nat) (M0 : List Nat) (b0 : Bool) (a2 : Option Addr) (l2 c2 : Nat) (L1 : List Nat) (a3 : Option Addr) (l3 c3 : Nat) (M1 : List Nat) (b1 : Bool) (a4 : Option Addr) (l4 c4 : Nat) (L2 : List Nat) (a5 : Option Addr) (l5 c5 : Nat) (M2 : List Nat) (b2 : Bool) (w : World) (ht : Tab w) (hs0 : Sl w (.slice a0 l0 c0) (cu64 L0)) (hw0 : ∀ d ∈ L0, d < 18446744073709551616) (hs1 : Sl w (.slice a1 l1 c1) (cu64 M0)) (hw1 : ∀ d ∈ M0, d < 18446744073709551616) (hs2 : Sl w (.slice a2 l2 c2) (cu64 L1)) (hw2 : ∀ d ∈ L1, d < 18446744073709551616) (hs3 : Sl w (.slice a3 l3 c3) (cu64 M1)) (hw3 : ∀ d ∈ M1, d < 18446744073709551616) (hs4 : Sl w (.slice a4 l4 c4) (cu64 L2)) (hw4 : ∀ d ∈ L2, d < 18446744073709551616) (hs5 : Sl w (.slice a5 l5 c5) (cu64 M2)) (hw5 : ∀ d ∈ M2, d < 18446744073709551616) (hy0 : qval (zP b1 (wval (L1.take 2))) (zM b1 (wval (L1.take 2))) (den1 (wval (M1.take 2))) = 0) :
    Calls Tryz.prog 8 #[.agg #[.slice a0 l0 c0, .slice a1 l1 c1, .bool b0], .agg #[.slice a2 l2 c2, .slice a3 l3 c3, .bool b1], .agg #[.slice a4 l4 c4, .slice a5 l5 c5, .bool b2]] w (fun e w' => e = .returned (.bool true) ∧ Upd [] w w') := by
  have HAW : Hid (∀ W, Upd [] w W → Calls Tryz.prog 25 #[] W (fun e w' => e = .returned (.bool true) ∧ Upd [] W w')) := fun W h => awake7 W (ht.upd0 h)
  obtain ⟨P1, hP1⟩ : ∃ P, P = wval (L0.take 2) := ⟨_, rfl⟩
  obtain ⟨D1, hD1⟩ : ∃ D, D = den1 (wval (M0.take 2)) := ⟨_, rfl⟩
  have hb11 := few_bounds L0 2 hw0
  have hb21 := few_bounds M0 2 hw1
  rw [← hP1] at hb11
  have hDl1 : (wds D1).length ≤ 2 ∧ (digs D1).length ≤ 10 := by
    rw [hD1]; unfold den1; split
    · exact ⟨(by rw [wds_one 1 (by decide) (by decide)]; decide), Nat.le_trans (digs_len1 (by decide)) (by decide)⟩
    · exact hb21
  have hDp1 : 0 < D1 := by rw [hD1]; exact den1_pos _
  have hz1 : (wds (zP b0 P1)).length ≤ 2 ∧ (digs (zP b0 P1)).length ≤ 10 ∧ (wds (zM b0 P1)).length ≤ 2 ∧ (digs (zM b0 P1)).length ≤ 10 := by
    unfold zP zM
    cases b0 <;> simp [wds_zero, digs_zero] <;> omega
  have HB1 : Hid (∀ W, Upd [] w W → Calls Tryz.prog 26 #[.agg #[.slice a0 l0 c0, .slice a1 l1 c1, .bool b0]] W (RBoth b0 P1 D1 W)) := fun W h => by rw [hP1, hD1]; exact both_any _ _ _ _ _ _ _ _ b0 W (hs0.upd0 h) hw0 (hs1.upd0 h) hw1
  unfold RBoth at HB1
  generalize zP b0 P1 = p1 at *
  generalize zM b0 P1 = m1 at *
  obtain ⟨x, hx⟩ : ∃ r : Rat, r = qval p1 m1 D1 := ⟨_, rfl⟩
  have qx : QL x 2 := by rw [hx]; exact ql_qval hDp1 hz1.1 hz1.2.2.1 hDl1.1
  rw [← hx] at HB1
  obtain ⟨P2, hP2⟩ : ∃ P, P = wval (L1.take 2) := ⟨_, rfl⟩
  obtain ⟨D2, hD2⟩ : ∃ D, D = den1 (wval (M1.take 2)) := ⟨_, rfl⟩
  have hb12 := few_bounds L1 2 hw2
  have hb22 := few_bounds M1 2 hw3
  rw [← hP2] at hb12
  rw [← hP2, ← hD2] at hy0
  have hDl2 : (wds D2).length ≤ 2 ∧ (digs D2).length ≤ 10 := by
    rw [hD2]; unfold den1; split
    · exact ⟨(by rw [wds_one 1 (by decide) (by decide)]; decide), Nat.le_trans (digs_len1 (by decide)) (by decide)⟩
    · exact hb22
  have hDp2 : 0 < D2 := by rw [hD2]; exact den1_pos _
  have hz2 : (wds (zP b1 P2)).length ≤ 2 ∧ (digs (zP b1 P2)).length ≤ 10 ∧ (wds (zM b1 P2)).length ≤ 2 ∧ (digs (zM b1 P2)).length ≤ 10 := by
    unfold zP zM
    cases b1 <;> simp [wds_zero, digs_zero] <;> omega
  have HB2 : Hid (∀ W, Upd [] w W → Calls Tryz.prog 26 #[.agg #[.slice a2 l2 c2, .slice a3 l3 c3, .bool b1]] W (RBoth b1 P2 D2 W)) := fun W h => by rw [hP2, hD2]; exact both_any _ _ _ _ _ _ _ _ b1 W (hs2.upd0 h) hw2 (hs3.upd0 h) hw3
  unfold RBoth at HB2
  generalize zP b1 P2 = p2 at *
  generalize zM b1 P2 = m2 at *
  obtain ⟨y, hy⟩ : ∃ r : Rat, r = qval p2 m2 D2 := ⟨_, rfl⟩
  have qy : QL y 2 := by rw [hy]; exact ql_qval hDp2 hz2.1 hz2.2.2.1 hDl2.1
  rw [← hy] at HB2
  rw [← hy] at hy0
  obtain ⟨P3, hP3⟩ : ∃ P, P = wval (L2.take 2) := ⟨_, rfl⟩
  obtain ⟨D3, hD3⟩ : ∃ D, D = den1 (wval (M2.take 2)) := ⟨_, rfl⟩
  have hb13 := few_bounds L2 2 hw4
  have hb23 := few_bounds M2 2 hw5
  rw [← hP3] at hb13
  have hDl3 : (wds D3).length ≤ 2 ∧ (digs D3).length ≤ 10 := by
    rw [hD3]; unfold den1; split
    · exact ⟨(by rw [wds_one 1 (by decide) (by decide)]; decide), Nat.le_trans (digs_len1 (by decide)) (by decide)⟩
    · exact hb23
  have hDp3 : 0 < D3 := by rw [hD3]; exact den1_pos _
  have hz3 : (wds (zP b2 P3)).length ≤ 2 ∧ (digs (zP b2 P3)).length ≤ 10 ∧ (wds (zM b2 P3)).length ≤ 2 ∧ (digs (zM b2 P3)).length ≤ 10 := by
    unfold zP zM
    cases b2 <;> simp [wds_zero, digs_zero] <;> omega
  have HB3 : Hid (∀ W, Upd [] w W → Calls Tryz.prog 26 #[.agg #[.slice a4 l4 c4, .slice a5 l5 c5, .bool b2]] W (RBoth b2 P3 D3 W)) := fun W h => by rw [hP3, hD3]; exact both_any _ _ _ _ _ _ _ _ b2 W (hs4.upd0 h) hw4 (hs5.upd0 h) hw5
  unfold RBoth at HB3
  generalize zP b2 P3 = p3 at *
  generalize zM b2 P3 = m3 at *
  obtain ⟨z, hz⟩ : ∃ r : Rat, r = qval p3 m3 D3 := ⟨_, rfl⟩
  have qz : QL z 2 := by rw [hz]; exact ql_qval hDp3 hz3.1 hz3.2.2.1 hDl3.1
  rw [← hz] at HB3
  have HAxy : Hid (∀ W s t, RV W s x → RV W t y → Calls Tryz.prog 43 #[s, t] W (RRat (x + y) W)) := fun W s t hs ht => raddq_any _ _ _ _ W hs ht (qx.mono (by decide)) (qy.mono (by decide))
  have HSxy : Hid (∀ W s t, RV W s (x + y) → RV W t y → Calls Tryz.prog 30 #[s, t] W (RRat x W)) := fun W s t hs ht => by have := rsubq_any _ _ _ _ W hs ht ((ql_add qx qy).mono (by decide)) (qy.mono (by decide)); rw [Rat.add_sub_cancel] at this; exact this
  have HMs : Hid (∀ W s t, RV W s (x + y) → RV W t z → Calls Tryz.prog 46 #[s, t] W (RRat ((x + y) * z) W)) := fun W s t hs ht => rmulq_any _ _ _ _ W hs ht ((ql_add qx qy).mono (by decide)) (qz.mono (by decide))
  have HMxz : Hid (∀ W s t, RV W s x → RV W t z → Calls Tryz.prog 46 #[s, t] W (RRat (x * z) W)) := fun W s t hs ht => rmulq_any _ _ _ _ W hs ht (qx.mono (by decide)) (qz.mono (by decide))
  have HMyz : Hid (∀ W s t, RV W s y → RV W t z → Calls Tryz.prog 46 #[s, t] W (RRat (y * z) W)) := fun W s t hs ht => rmulq_any _ _ _ _ W hs ht (qy.mono (by decide)) (qz.mono (by decide))
  have HAm : Hid (∀ W s t, RV W s (x * z) → RV W t (y * z) → Calls Tryz.prog 43 #[s, t] W (RRat ((x + y) * z) W)) := fun W s t hs ht => by have := raddq_any _ _ _ _ W hs ht ((ql_mul qx qz).mono (by decide)) ((ql_mul qy qz).mono (by decide)); rw [← Rat.add_mul] at this; exact this
  have HAxz : Hid (∀ W s t, RV W s x → RV W t z → Calls Tryz.prog 43 #[s, t] W (RRat (x + z) W)) := fun W s t hs ht => raddq_any _ _ _ _ W hs ht (qx.mono (by decide)) (qz.mono (by decide))
  have HAyz : Hid (∀ W s t, RV W s y → RV W t z → Calls Tryz.prog 43 #[s, t] W (RRat (y + z) W)) := fun W s t hs ht => raddq_any _ _ _ _ W hs ht (qy.mono (by decide)) (qz.mono (by decide))
  have HC1 : Hid (∀ W s t, RV W s (x + z) → RV W t (y + z) → Calls Tryz.prog 39 #[s, t] W (fun e w' => e = .returned (.int .i64 (cmpR x y)) ∧ Upd [] W w')) := fun W s t hs ht => by have := rcmpq_any _ _ _ _ W hs ht ((ql_add qx qz).mono (by decide)) ((ql_add qy qz).mono (by decide)); rw [cmpR_add] at this; exact this
  have HC2 : Hid (∀ W s t, RV W s x → RV W t y → Calls Tryz.prog 39 #[s, t] W (fun e w' => e = .returned (.int .i64 (cmpR x y)) ∧ Upd [] W w')) := fun W s t hs ht => rcmpq_any _ _ _ _ W hs ht (qx.mono (by decide)) (qy.mono (by decide))
  have HMxy : Hid (∀ W s t, RV W s x → RV W t y → Calls Tryz.prog 46 #[s, t] W (RRat (x * y) W)) := fun W s t hs ht => rmulq_any _ _ _ _ W hs ht (qx.mono (by decide)) (qy.mono (by decide))
  have HE1 : Hid (∀ W s t, Upd [] w W → RV W s (x) → RV W t (x) → Calls Tryz.prog 57 #[s, t] W (fun e w' => e = .returned (.bool true) ∧ Upd [] W w')) := fun W s t h hs ht' => same_any _ _ _ W hs ht' (ht.upd0 h) (qx.mono (by decide))
  have HE2 : Hid (∀ W s t, Upd [] w W → RV W s ((x + y) * z) → RV W t ((x + y) * z) → Calls Tryz.prog 57 #[s, t] W (fun e w' => e = .returned (.bool true) ∧ Upd [] W w')) := fun W s t h hs ht' => same_any _ _ _ W hs ht' (ht.upd0 h) ((ql_mul (ql_add qx qy) qz).mono (by decide))
  have HD : Hid (∀ W s t, RV W s (x * y) → RV W t y → Calls Tryz.prog 42 #[s, t] W (RRatE 0 7 W)) := fun W s t hs ht => rdivq_zero _ _ _ _ W hs ht hy0
  have HTY : Hid (∀ W s, Upd [] w W → RV W s y → Calls Tryz.prog 28 #[s] W (fun e w' => e = .returned (.string ⟨#[48]⟩) ∧ Upd [] W w')) := fun W s h hs => by
    have := rtextq_any _ _ W hs (ht.upd0 h) (qy.mono (by decide))
    rw [hy0, txt_zero] at this
    exact this
  obtain ⟨qq, hqq⟩ : ∃ r : Rat, r = 0 := ⟨_, rfl⟩
  rw [← hqq] at HD
  have hcc : (cmpR x y == cmpR x y) = true := by simp
  clear ht hs0 hw0 hs1 hw1 hs2 hw2 hs3 hw3 hs4 hw4 hs5 hw5 hP1 hD1 hb11 hb21 hDl1 hDp1 hz1 hx qx hP2 hD2 hb12 hb22 hDl2 hDp2 hz2 hy qy hP3 hD3 hb13 hb23 hDl3 hDp3 hz3 hz qz hy0 hqq
  generalize cmpR x y = cc at *
  generalize (x + y) * z = xm at *
  generalize x + y = xa at *
  generalize x * z = xz at *
  generalize y * z = yz at *
  generalize x + z = az at *
  generalize y + z = bz at *
  generalize x * y = xy at *
  obtain ⟨w0, hw0⟩ : ∃ W, W = (((w.alloc (.cells #[.slice a0 l0 c0, .slice a1 l1 c1, .bool b0] 51)).alloc (.cells #[.slice a2 l2 c2, .slice a3 l3 c3, .bool b1] 51)).alloc (.cells #[.slice a4 l4 c4, .slice a5 l5 c5, .bool b2] 51)) := ⟨_, rfl⟩
  obtain ⟨S, hS⟩ : ∃ s, s = w.heap.size := ⟨_, rfl⟩
  obtain ⟨hu0, r0, r1, r2, hz0⟩ := rows3 w #[.slice a0 l0 c0, .slice a1 l1 c1, .bool b0] #[.slice a2 l2 c2, .slice a3 l3 c3, .bool b1] #[.slice a4 l4 c4, .slice a5 l5 c5, .bool b2] 51 51 51 w0 hw0 S hS
  have HU0 := Lib.hid hu0
  have HW0 := Lib.hid hw0
  have HS := Lib.hid hS
  have HZ0 := Lib.hid hz0
  have HR0 := Lib.hid r0
  have HR1 := Lib.hid r1
  have HR2 := Lib.hid r2
  clear hw0 hS hu0 r0 r1 r2 hz0
  go_enter Tryz.func8, Tryz.ntmps8
  go_wp2_with fail
  rw [← HW0.out]
  rw [← HS.out]
  refine (HAW.out _ HU0.out).mono ?_
  rintro e w1 ⟨rfl, hu1⟩
  have HVw1 := Lib.hid hu1
  have s0 := (HR0.out.upd0 hu1).cell 0
  have s1 := (HR0.out.upd0 hu1).cell 1
  have s2 := (HR0.out.upd0 hu1).cell 2
  clear hu1
  go_wp2_with fail
  refine (HB1.out _ (HU0.out.trans0 HVw1.out)).mono ?_
  rintro e wa1 ⟨va1, vb1, rfl, hva1, hvb1, hua1⟩
  obtain ⟨aR1, lR1, cR1, dR1, mR1, eR1, rfl, _, _⟩ := hva1.open
  obtain ⟨aQ1, lQ1, cQ1, dQ1, mQ1, eQ1, fQ1, gQ1, hQ1, rfl, _, _⟩ := hvb1.open
  generalize decide (x.num < 0) = bR1 at *
  obtain ⟨w3, hw3⟩ : ∃ W, W = (wa1.alloc (.cells #[.bool bR1, .slice aR1 lR1 cR1, .slice dR1 mR1 eR1] 53)).alloc (.cells #[.slice aQ1 lQ1 cQ1, .slice dQ1 mQ1 eQ1, .slice fQ1 gQ1 hQ1] 55) := ⟨_, rfl⟩
  obtain ⟨K1, hK1⟩ : ∃ s, s = wa1.heap.size := ⟨_, rfl⟩
  obtain ⟨hul1, rR1, rQ1, _⟩ := rows2 wa1 #[.bool bR1, .slice aR1 lR1 cR1, .slice dR1 mR1 eR1] #[.slice aQ1 lQ1 cQ1, .slice dQ1 mQ1 eQ1, .slice fQ1 gQ1 hQ1] 53 55 w3 hw3 K1 hK1
  have HVw3 := Lib.hid (HVw1.out.trans0 (hua1.trans0 hul1))
  have HX1 := Lib.hid (hva1.upd0 hul1)
  have HY1 := Lib.hid (hvb1.upd0 hul1)
  have HRR1 := Lib.hid rR1
  have HRQ1 := Lib.hid rQ1
  have t0 := (HR1.out.upd0 HVw3.out).cell 0
  have t1 := (HR1.out.upd0 HVw3.out).cell 1
  have t2 := (HR1.out.upd0 HVw3.out).cell 2
  rw [hw3] at t0 t1 t2
  have HWw3 := Lib.hid hw3
  have HKK1 := Lib.hid hK1
  have HL1 := Lib.hid (hua1.trans0 hul1)
  clear hva1 hvb1 hua1 hul1 rR1 rQ1 hw3 hK1 s0 s1 s2
  go_wp2_with fail
  rw [← HWw3.out, ← HKK1.out]
  rw [← HWw3.out] at t0 t1 t2
  have s0 := t0
  have s1 := t1
  have s2 := t2
  clear t0 t1 t2
  refine (HB2.out _ (HU0.out.trans0 HVw3.out)).mono ?_
  rintro e wa2 ⟨va2, vb2, rfl, hva2, hvb2, hua2⟩
  obtain ⟨aR2, lR2, cR2, dR2, mR2, eR2, rfl, _, _⟩ := hva2.open
  obtain ⟨aQ2, lQ2, cQ2, dQ2, mQ2, eQ2, fQ2, gQ2, hQ2, rfl, _, _⟩ := hvb2.open
  generalize decide (y.num < 0) = bR2 at *
  obtain ⟨w5, hw5⟩ : ∃ W, W = (wa2.alloc (.cells #[.bool bR2, .slice aR2 lR2 cR2, .slice dR2 mR2 eR2] 53)).alloc (.cells #[.slice aQ2 lQ2 cQ2, .slice dQ2 mQ2 eQ2, .slice fQ2 gQ2 hQ2] 55) := ⟨_, rfl⟩
  obtain ⟨K2, hK2⟩ : ∃ s, s = wa2.heap.size := ⟨_, rfl⟩
  obtain ⟨hul2, rR2, rQ2, _⟩ := rows2 wa2 #[.bool bR2, .slice aR2 lR2 cR2, .slice dR2 mR2 eR2] #[.slice aQ2 lQ2 cQ2, .slice dQ2 mQ2 eQ2, .slice fQ2 gQ2 hQ2] 53 55 w5 hw5 K2 hK2
  have HVw5 := Lib.hid (HVw3.out.trans0 (hua2.trans0 hul2))
  have HX2 := Lib.hid (hva2.upd0 hul2)
  have HY2 := Lib.hid (hvb2.upd0 hul2)
  have HRR2 := Lib.hid rR2
  have HRQ2 := Lib.hid rQ2
  have t0 := (HR2.out.upd0 HVw5.out).cell 0
  have t1 := (HR2.out.upd0 HVw5.out).cell 1
  have t2 := (HR2.out.upd0 HVw5.out).cell 2
  rw [hw5] at t0 t1 t2
  have HWw5 := Lib.hid hw5
  have HKK2 := Lib.hid hK2
  have HL2 := Lib.hid (hua2.trans0 hul2)
  clear hva2 hvb2 hua2 hul2 rR2 rQ2 hw5 hK2 s0 s1 s2
  go_wp2_with fail
  rw [← HWw5.out, ← HKK2.out]
  rw [← HWw5.out] at t0 t1 t2
  have s0 := t0
  have s1 := t1
  have s2 := t2
  clear t0 t1 t2
  refine (HB3.out _ (HU0.out.trans0 HVw5.out)).mono ?_
  rintro e wa3 ⟨va3, vb3, rfl, hva3, hvb3, hua3⟩
  obtain ⟨aR3, lR3, cR3, dR3, mR3, eR3, rfl, _, _⟩ := hva3.open
  obtain ⟨aQ3, lQ3, cQ3, dQ3, mQ3, eQ3, fQ3, gQ3, hQ3, rfl, _, _⟩ := hvb3.open
  generalize decide (z.num < 0) = bR3 at *
  obtain ⟨w7, hw7⟩ : ∃ W, W = (wa3.alloc (.cells #[.bool bR3, .slice aR3 lR3 cR3, .slice dR3 mR3 eR3] 53)).alloc (.cells #[.slice aQ3 lQ3 cQ3, .slice dQ3 mQ3 eQ3, .slice fQ3 gQ3 hQ3] 55) := ⟨_, rfl⟩
  obtain ⟨K3, hK3⟩ : ∃ s, s = wa3.heap.size := ⟨_, rfl⟩
  obtain ⟨hul3, rR3, rQ3, _⟩ := rows2 wa3 #[.bool bR3, .slice aR3 lR3 cR3, .slice dR3 mR3 eR3] #[.slice aQ3 lQ3 cQ3, .slice dQ3 mQ3 eQ3, .slice fQ3 gQ3 hQ3] 53 55 w7 hw7 K3 hK3
  have HVw7 := Lib.hid (HVw5.out.trans0 (hua3.trans0 hul3))
  have HX3 := Lib.hid (hva3.upd0 hul3)
  have HY3 := Lib.hid (hvb3.upd0 hul3)
  have HRR3 := Lib.hid rR3
  have HRQ3 := Lib.hid rQ3
  have HL3 := Lib.hid (hua3.trans0 hul3)
  have HWw7 := Lib.hid hw7
  have HKK3 := Lib.hid hK3
  have HXa := Lib.hid (HX1.out.upd0 (HL2.out.trans0 HL3.out))
  have HXb := Lib.hid (HX2.out.upd0 HL3.out)
  have HXc := Lib.hid HX3.out
  have HRa := Lib.hid (HRR1.out.upd0 (HL2.out.trans0 HL3.out))
  have HRb := Lib.hid (HRR2.out.upd0 HL3.out)
  have HRc := Lib.hid HRR3.out
  clear hva3 hvb3 hua3 hul3 rR3 rQ3 hw7 hK3 s0 s1 s2
  have hrf : Upd [] w7 w7 := Upd.refl _ _
  have hen : ∀ args W, (callFunc 57 args).run Tryz.prog W = .ok (.enter 57 args) W := enters_of Tryz.func57 (by kernel_rfl) rfl
  have HC : Hid (∀ W, Upd [] w7 W → W.cell? ⟨K1, 0, none⟩ = some (.bool bR1) ∧ W.cell? ⟨K1, 1, none⟩ = some (.slice aR1 lR1 cR1) ∧ W.cell? ⟨K1, 2, none⟩ = some (.slice dR1 mR1 eR1) ∧ W.cell? ⟨K2, 0, none⟩ = some (.bool bR2) ∧ W.cell? ⟨K2, 1, none⟩ = some (.slice aR2 lR2 cR2) ∧ W.cell? ⟨K2, 2, none⟩ = some (.slice dR2 mR2 eR2) ∧ W.cell? ⟨K3, 0, none⟩ = some (.bool bR3) ∧ W.cell? ⟨K3, 1, none⟩ = some (.slice aR3 lR3 cR3) ∧ W.cell? ⟨K3, 2, none⟩ = some (.slice dR3 mR3 eR3) ∧ Upd [] w7 W) := fun W h =>
    ⟨(HRa.out.upd h (by simp <;> omega)).cell 0, (HRa.out.upd h (by simp <;> omega)).cell 1, (HRa.out.upd h (by simp <;> omega)).cell 2, (HRb.out.upd h (by simp <;> omega)).cell 0, (HRb.out.upd h (by simp <;> omega)).cell 1, (HRb.out.upd h (by simp <;> omega)).cell 2, (HRc.out.upd h (by simp <;> omega)).cell 0, (HRc.out.upd h (by simp <;> omega)).cell 1, (HRc.out.upd h (by simp <;> omega)).cell 2, h⟩
  go_wp2_with fail
  rw [← HWw7.out, ← HKK3.out]
  go_region_held3 (fun W => W.cell? ⟨K1, 0, none⟩ = some (.bool bR1) ∧ W.cell? ⟨K1, 1, none⟩ = some (.slice aR1 lR1 cR1) ∧ W.cell? ⟨K1, 2, none⟩ = some (.slice dR1 mR1 eR1) ∧ W.cell? ⟨K2, 0, none⟩ = some (.bool bR2) ∧ W.cell? ⟨K2, 1, none⟩ = some (.slice aR2 lR2 cR2) ∧ W.cell? ⟨K2, 2, none⟩ = some (.slice dR2 mR2 eR2) ∧ W.cell? ⟨K3, 0, none⟩ = some (.bool bR3) ∧ W.cell? ⟨K3, 1, none⟩ = some (.slice aR3 lR3 cR3) ∧ W.cell? ⟨K3, 2, none⟩ = some (.slice dR3 mR3 eR3) ∧ Upd [] w7 W)
    ((refine HC.out _ ?_; repeat (first | (with_reducible exact huy) | (with_reducible exact hrf) | (with_reducible apply Upd.drew))))
    (first
      | (go_at_call 43; (fail_if_success (have hh := HVA)); (with_reducible refine (HAxy.out _ _ _ (HXa.out.upd0 (by repeat (first | exact huy | exact hrf | apply Upd.drew | apply Upd.alloc))) (HXb.out.upd0 (by repeat (first | exact huy | exact hrf | apply Upd.drew | apply Upd.alloc)))).mono ?_); rintro e wz ⟨vA, rfl, hvA, hu20⟩;  have HVA := Lib.hid hvA; clear hvA; have huz : Upd [] w7 wz := Upd.trans0 (by repeat (first | exact huy | exact hrf | apply Upd.drew | apply Upd.alloc)) hu20; (try clear huy); clear hu20; have huy := huz; clear huz)
      | (go_at_call 30; (with_reducible refine (HSxy.out _ _ _ (by first | exact HVA.out | exact RV.upd0 HVA.out ((Upd.refl _ _).alloc _)) (HXb.out.upd0 (by repeat (first | exact huy | exact hrf | apply Upd.drew | apply Upd.alloc)))).mono ?_); rintro e wz ⟨vB, rfl, hvB, hu20⟩; have HVA := Lib.hid (HVA.out.upd0 (by first | exact hu20 | exact Upd.al hu20)); have HVB := Lib.hid hvB; clear hvB; have huz : Upd [] w7 wz := Upd.trans0 (by repeat (first | exact huy | exact hrf | apply Upd.drew | apply Upd.alloc)) hu20; (try clear huy); clear hu20; have huy := huz; clear huz)
      | (go_at_call 57; (with_reducible refine (HE1.out _ _ _ (HU0.out.trans0 (HVw7.out.trans0 (by repeat (first | exact huy | exact hrf | apply Upd.drew | apply Upd.alloc)))) (by first | exact HVB.out | exact RV.upd0 HVB.out ((Upd.refl _ _).alloc _)) (HXa.out.upd0 (by repeat (first | exact huy | exact hrf | apply Upd.drew | apply Upd.alloc)))).mono ?_); rintro e wz ⟨rfl, hu20⟩; have HVA := Lib.hid (HVA.out.upd0 (by first | exact hu20 | exact Upd.al hu20)); have HVB := Lib.hid (HVB.out.upd0 (by first | exact hu20 | exact Upd.al hu20));  have huz : Upd [] w7 wz := Upd.trans0 (by repeat (first | exact huy | exact hrf | apply Upd.drew | apply Upd.alloc)) hu20; (try clear huy); clear hu20; have huy := huz; clear huz)
      | (go_at_call 43; (with_reducible refine (HAxy.out _ _ _ (HXa.out.upd0 (by repeat (first | exact huy | exact hrf | apply Upd.drew | apply Upd.alloc))) (HXb.out.upd0 (by repeat (first | exact huy | exact hrf | apply Upd.drew | apply Upd.alloc)))).mono ?_); rintro e wz ⟨vC, rfl, hvC, hu20⟩; have HVA := Lib.hid (HVA.out.upd0 (by first | exact hu20 | exact Upd.al hu20)); have HVB := Lib.hid (HVB.out.upd0 (by first | exact hu20 | exact Upd.al hu20)); have HVC := Lib.hid hvC; clear hvC; have huz : Upd [] w7 wz := Upd.trans0 (by repeat (first | exact huy | exact hrf | apply Upd.drew | apply Upd.alloc)) hu20; (try clear huy); clear hu20; have huy := huz; clear huz)
      | (go_at_call 46; (with_reducible refine (HMs.out _ _ _ (by first | exact HVC.out | exact RV.upd0 HVC.out ((Upd.refl _ _).alloc _)) (HXc.out.upd0 (by repeat (first | exact huy | exact hrf | apply Upd.drew | apply Upd.alloc)))).mono ?_); rintro e wz ⟨vD, rfl, hvD, hu20⟩; have HVA := Lib.hid (HVA.out.upd0 (by first | exact hu20 | exact Upd.al hu20)); have HVB := Lib.hid (HVB.out.upd0 (by first | exact hu20 | exact Upd.al hu20)); have HVC := Lib.hid (HVC.out.upd0 (by first | exact hu20 | exact Upd.al hu20)); have HVD := Lib.hid hvD; clear hvD; have huz : Upd [] w7 wz := Upd.trans0 (by repeat (first | exact huy | exact hrf | apply Upd.drew | apply Upd.alloc)) hu20; (try clear huy); clear hu20; have huy := huz; clear huz)
      | (go_at_call 46; (with_reducible refine (HMxz.out _ _ _ (HXa.out.upd0 (by repeat (first | exact huy | exact hrf | apply Upd.drew | apply Upd.alloc))) (HXc.out.upd0 (by repeat (first | exact huy | exact hrf | apply Upd.drew | apply Upd.alloc)))).mono ?_); rintro e wz ⟨vE, rfl, hvE, hu20⟩; have HVA := Lib.hid (HVA.out.upd0 (by first | exact hu20 | exact Upd.al hu20)); have HVB := Lib.hid (HVB.out.upd0 (by first | exact hu20 | exact Upd.al hu20)); have HVC := Lib.hid (HVC.out.upd0 (by first | exact hu20 | exact Upd.al hu20)); have HVD := Lib.hid (HVD.out.upd0 (by first | exact hu20 | exact Upd.al hu20)); have HVE := Lib.hid hvE; clear hvE; have huz : Upd [] w7 wz := Upd.trans0 (by repeat (first | exact huy | exact hrf | apply Upd.drew | apply Upd.alloc)) hu20; (try clear huy); clear hu20; have huy := huz; clear huz)
      | (go_at_call 46; (with_reducible refine (HMyz.out _ _ _ (HXb.out.upd0 (by repeat (first | exact huy | exact hrf | apply Upd.drew | apply Upd.alloc))) (HXc.out.upd0 (by repeat (first | exact huy | exact hrf | apply Upd.drew | apply Upd.alloc)))).mono ?_); rintro e wz ⟨vF, rfl, hvF, hu20⟩; have HVA := Lib.hid (HVA.out.upd0 (by first | exact hu20 | exact Upd.al hu20)); have HVB := Lib.hid (HVB.out.upd0 (by first | exact hu20 | exact Upd.al hu20)); have HVC := Lib.hid (HVC.out.upd0 (by first | exact hu20 | exact Upd.al hu20)); have HVD := Lib.hid (HVD.out.upd0 (by first | exact hu20 | exact Upd.al hu20)); have HVE := Lib.hid (HVE.out.upd0 (by first | exact hu20 | exact Upd.al hu20)); have HVF := Lib.hid hvF; clear hvF; have huz : Upd [] w7 wz := Upd.trans0 (by repeat (first | exact huy | exact hrf | apply Upd.drew | apply Upd.alloc)) hu20; (try clear huy); clear hu20; have huy := huz; clear huz)
      | (go_at_call 43; (with_reducible refine (HAm.out _ _ _ (by first | exact HVE.out | exact RV.upd0 HVE.out ((Upd.refl _ _).alloc _)) (by first | exact HVF.out | exact RV.upd0 HVF.out ((Upd.refl _ _).alloc _))).mono ?_); rintro e wz ⟨vG, rfl, hvG, hu20⟩; have HVA := Lib.hid (HVA.out.upd0 (by first | exact hu20 | exact Upd.al hu20)); have HVB := Lib.hid (HVB.out.upd0 (by first | exact hu20 | exact Upd.al hu20)); have HVC := Lib.hid (HVC.out.upd0 (by first | exact hu20 | exact Upd.al hu20)); have HVD := Lib.hid (HVD.out.upd0 (by first | exact hu20 | exact Upd.al hu20)); have HVE := Lib.hid (HVE.out.upd0 (by first | exact hu20 | exact Upd.al hu20)); have HVF := Lib.hid (HVF.out.upd0 (by first | exact hu20 | exact Upd.al hu20)); have HVG := Lib.hid hvG; clear hvG; have huz : Upd [] w7 wz := Upd.trans0 (by repeat (first | exact huy | exact hrf | apply Upd.drew | apply Upd.alloc)) hu20; (try clear huy); clear hu20; have huy := huz; clear huz)
      | (go_at_call 57; (with_reducible refine (HE2.out _ _ _ (HU0.out.trans0 (HVw7.out.trans0 (by repeat (first | exact huy | exact hrf | apply Upd.drew | apply Upd.alloc)))) (by first | exact HVD.out | exact RV.upd0 HVD.out ((Upd.refl _ _).alloc _)) (by first | exact HVG.out | exact RV.upd0 HVG.out ((Upd.refl _ _).alloc _))).mono ?_); rintro e wz ⟨rfl, hu20⟩; have HVA := Lib.hid (HVA.out.upd0 (by first | exact hu20 | exact Upd.al hu20)); have HVB := Lib.hid (HVB.out.upd0 (by first | exact hu20 | exact Upd.al hu20)); have HVC := Lib.hid (HVC.out.upd0 (by first | exact hu20 | exact Upd.al hu20)); have HVD := Lib.hid (HVD.out.upd0 (by first | exact hu20 | exact Upd.al hu20)); have HVE := Lib.hid (HVE.out.upd0 (by first | exact hu20 | exact Upd.al hu20)); have HVF := Lib.hid (HVF.out.upd0 (by first | exact hu20 | exact Upd.al hu20)); have HVG := Lib.hid (HVG.out.upd0 (by first | exact hu20 | exact Upd.al hu20));  have huz : Upd [] w7 wz := Upd.trans0 (by repeat (first | exact huy | exact hrf | apply Upd.drew | apply Upd.alloc)) hu20; (try clear huy); clear hu20; have huy := huz; clear huz)
      | (go_at_call 43; (with_reducible refine (HAxz.out _ _ _ (HXa.out.upd0 (by repeat (first | exact huy | exact hrf | apply Upd.drew | apply Upd.alloc))) (HXc.out.upd0 (by repeat (first | exact huy | exact hrf | apply Upd.drew | apply Upd.alloc)))).mono ?_); rintro e wz ⟨vH, rfl, hvH, hu20⟩; have HVA := Lib.hid (HVA.out.upd0 (by first | exact hu20 | exact Upd.al hu20)); have HVB := Lib.hid (HVB.out.upd0 (by first | exact hu20 | exact Upd.al hu20)); have HVC := Lib.hid (HVC.out.upd0 (by first | exact hu20 | exact Upd.al hu20)); have HVD := Lib.hid (HVD.out.upd0 (by first | exact hu20 | exact Upd.al hu20)); have HVE := Lib.hid (HVE.out.upd0 (by first | exact hu20 | exact Upd.al hu20)); have HVF := Lib.hid (HVF.out.upd0 (by first | exact hu20 | exact Upd.al hu20)); have HVG := Lib.hid (HVG.out.upd0 (by first | exact hu20 | exact Upd.al hu20)); have HVH := Lib.hid hvH; clear hvH; have huz : Upd [] w7 wz := Upd.trans0 (by repeat (first | exact huy | exact hrf | apply Upd.drew | apply Upd.alloc)) hu20; (try clear huy); clear hu20; have huy := huz; clear huz)
      | (go_at_call 43; (with_reducible refine (HAyz.out _ _ _ (HXb.out.upd0 (by repeat (first | exact huy | exact hrf | apply Upd.drew | apply Upd.alloc))) (HXc.out.upd0 (by repeat (first | exact huy | exact hrf | apply Upd.drew | apply Upd.alloc)))).mono ?_); rintro e wz ⟨vI, rfl, hvI, hu20⟩; have HVA := Lib.hid (HVA.out.upd0 (by first | exact hu20 | exact Upd.al hu20)); have HVB := Lib.hid (HVB.out.upd0 (by first | exact hu20 | exact Upd.al hu20)); have HVC := Lib.hid (HVC.out.upd0 (by first | exact hu20 | exact Upd.al hu20)); have HVD := Lib.hid (HVD.out.upd0 (by first | exact hu20 | exact Upd.al hu20)); have HVE := Lib.hid (HVE.out.upd0 (by first | exact hu20 | exact Upd.al hu20)); have HVF := Lib.hid (HVF.out.upd0 (by first | exact hu20 | exact Upd.al hu20)); have HVG := Lib.hid (HVG.out.upd0 (by first | exact hu20 | exact Upd.al hu20)); have HVH := Lib.hid (HVH.out.upd0 (by first | exact hu20 | exact Upd.al hu20)); have HVI := Lib.hid hvI; clear hvI; have huz : Upd [] w7 wz := Upd.trans0 (by repeat (first | exact huy | exact hrf | apply Upd.drew | apply Upd.alloc)) hu20; (try clear huy); clear hu20; have huy := huz; clear huz)
      | (go_at_call 39; (with_reducible refine (HC1.out _ _ _ (by first | exact HVH.out | exact RV.upd0 HVH.out ((Upd.refl _ _).alloc _)) (by first | exact HVI.out | exact RV.upd0 HVI.out ((Upd.refl _ _).alloc _))).mono ?_); rintro e wz ⟨rfl, hu20⟩; have HVA := Lib.hid (HVA.out.upd0 (by first | exact hu20 | exact Upd.al hu20)); have HVB := Lib.hid (HVB.out.upd0 (by first | exact hu20 | exact Upd.al hu20)); have HVC := Lib.hid (HVC.out.upd0 (by first | exact hu20 | exact Upd.al hu20)); have HVD := Lib.hid (HVD.out.upd0 (by first | exact hu20 | exact Upd.al hu20)); have HVE := Lib.hid (HVE.out.upd0 (by first | exact hu20 | exact Upd.al hu20)); have HVF := Lib.hid (HVF.out.upd0 (by first | exact hu20 | exact Upd.al hu20)); have HVG := Lib.hid (HVG.out.upd0 (by first | exact hu20 | exact Upd.al hu20)); have HVH := Lib.hid (HVH.out.upd0 (by first | exact hu20 | exact Upd.al hu20)); have HVI := Lib.hid (HVI.out.upd0 (by first | exact hu20 | exact Upd.al hu20));  have huz : Upd [] w7 wz := Upd.trans0 (by repeat (first | exact huy | exact hrf | apply Upd.drew | apply Upd.alloc)) hu20; (try clear huy); clear hu20; have huy := huz; clear huz)
      | (go_at_call 39; (with_reducible refine (HC2.out _ _ _ (HXa.out.upd0 (by repeat (first | exact huy | exact hrf | apply Upd.drew | apply Upd.alloc))) (HXb.out.upd0 (by repeat (first | exact huy | exact hrf | apply Upd.drew | apply Upd.alloc)))).mono ?_); rintro e wz ⟨rfl, hu20⟩; have HVA := Lib.hid (HVA.out.upd0 (by first | exact hu20 | exact Upd.al hu20)); have HVB := Lib.hid (HVB.out.upd0 (by first | exact hu20 | exact Upd.al hu20)); have HVC := Lib.hid (HVC.out.upd0 (by first | exact hu20 | exact Upd.al hu20)); have HVD := Lib.hid (HVD.out.upd0 (by first | exact hu20 | exact Upd.al hu20)); have HVE := Lib.hid (HVE.out.upd0 (by first | exact hu20 | exact Upd.al hu20)); have HVF := Lib.hid (HVF.out.upd0 (by first | exact hu20 | exact Upd.al hu20)); have HVG := Lib.hid (HVG.out.upd0 (by first | exact hu20 | exact Upd.al hu20)); have HVH := Lib.hid (HVH.out.upd0 (by first | exact hu20 | exact Upd.al hu20)); have HVI := Lib.hid (HVI.out.upd0 (by first | exact hu20 | exact Upd.al hu20));  have huz : Upd [] w7 wz := Upd.trans0 (by repeat (first | exact huy | exact hrf | apply Upd.drew | apply Upd.alloc)) hu20; (try clear huy); clear hu20; have huy := huz; clear huz))
  obtain ⟨w8, hw8⟩ : ∃ W, W = wz := ⟨_, rfl⟩
  rw [← hw8] at huy ⊢
  have HUz := Lib.hid huy
  have HVw8 := Lib.hid (HVw7.out.trans0 huy)
  have HXa8 := Lib.hid (HXa.out.upd0 huy)
  have HXb8 := Lib.hid (HXb.out.upd0 huy)
  have HRa8 := Lib.hid (HRa.out.upd0 huy)
  have HRb8 := Lib.hid (HRb.out.upd0 huy)
  clear huy hw8 hrf HC hcc
  go_wp2_with fail
  have hrf : Upd [] w8 w8 := Upd.refl _ _
  have HC : Hid (∀ W, Upd [] w8 W → W.cell? ⟨K1, 0, none⟩ = some (.bool bR1) ∧ W.cell? ⟨K1, 1, none⟩ = some (.slice aR1 lR1 cR1) ∧ W.cell? ⟨K1, 2, none⟩ = some (.slice dR1 mR1 eR1) ∧ W.cell? ⟨K2, 0, none⟩ = some (.bool bR2) ∧ W.cell? ⟨K2, 1, none⟩ = some (.slice aR2 lR2 cR2) ∧ W.cell? ⟨K2, 2, none⟩ = some (.slice dR2 mR2 eR2) ∧ Upd [] w8 W) := fun W h =>
    ⟨(HRa8.out.upd h (by simp <;> omega)).cell 0, (HRa8.out.upd h (by simp <;> omega)).cell 1, (HRa8.out.upd h (by simp <;> omega)).cell 2, (HRb8.out.upd h (by simp <;> omega)).cell 0, (HRb8.out.upd h (by simp <;> omega)).cell 1, (HRb8.out.upd h (by simp <;> omega)).cell 2, h⟩
  go_cut [14, 15] (fun v14 v15 wx => ∃ (kQ : Nat) (bQ : Bool) (sQ : Option Addr) (lQ cQ : Nat) (sP : Option Addr) (lP cP : Nat), v14 = .pointer (some ⟨kQ, 0, none⟩) ∧ v15 = .int .i64 7 ∧ Hid (NewR w8 (qq) wx kQ bQ sQ lQ cQ sP lP cP))
  case first =>
    go_region_held3 (fun W => W.cell? ⟨K1, 0, none⟩ = some (.bool bR1) ∧ W.cell? ⟨K1, 1, none⟩ = some (.slice aR1 lR1 cR1) ∧ W.cell? ⟨K1, 2, none⟩ = some (.slice dR1 mR1 eR1) ∧ W.cell? ⟨K2, 0, none⟩ = some (.bool bR2) ∧ W.cell? ⟨K2, 1, none⟩ = some (.slice aR2 lR2 cR2) ∧ W.cell? ⟨K2, 2, none⟩ = some (.slice dR2 mR2 eR2) ∧ Upd [] w8 W)
      ((refine HC.out _ ?_; repeat (first | (with_reducible refine Upd.setCell ?_ (.inr hrk.lo) _) | (with_reducible refine Upd.setCell ?_ (.inr huy.size) _) | (with_reducible exact huy) | (with_reducible exact hrf) | (with_reducible apply Upd.drew) | (with_reducible apply Upd.alloc))))
      (first
        | (go_at_call 46; (with_reducible refine (HMxy.out _ _ _ (HXa8.out.upd0 (by repeat (first | exact huy | exact hrf | apply Upd.drew | apply Upd.alloc))) (HXb8.out.upd0 (by repeat (first | exact huy | exact hrf | apply Upd.drew | apply Upd.alloc)))).mono ?_); rintro e wz ⟨vJ, rfl, hvJ, hu20⟩;  have HVJ := Lib.hid hvJ; clear hvJ; have huz : Upd [] w8 wz := Upd.trans0 (by repeat (first | exact huy | exact hrf | apply Upd.drew | apply Upd.alloc)) hu20; (try have hrk := NewRow.upd hrk hu20); (try have hrk := NewRow.of (by first | exact huy | exact hrf.drew | exact hrf) hu20); (try have hrk := NewRow.of0 hrf hu20); (try clear huy); clear hu20; have huy := huz; clear huz)
        | (go_at_call 42; (with_reducible refine (HD.out _ _ _ (by first | exact HVJ.out | exact RV.upd0 HVJ.out ((Upd.refl _ _).alloc _)) (HXb8.out.upd0 (by repeat (first | exact huy | exact hrf | apply Upd.drew | apply Upd.alloc)))).mono ?_); rintro e wz ⟨vG, rfl, hGv, hu20⟩; have HVJ := Lib.hid (HVJ.out.upd0 (by first | exact hu20 | exact Upd.al hu20)); obtain ⟨aG, lG, cG, dG, mG, eG, rfl, _, _⟩ := hGv.open; have HG := Lib.hid hGv; clear hGv; have huz : Upd [] w8 wz := Upd.trans0 (by repeat (first | exact huy | exact hrf | apply Upd.drew | apply Upd.alloc)) hu20; (try have hrk := NewRow.upd hrk hu20); (try have hrk := NewRow.of (by first | exact huy | exact hrf.drew | exact hrf) hu20); (try have hrk := NewRow.of0 hrf hu20); (try clear huy); clear hu20; have huy := huz; clear huz; (try have y0 := hrk.row.cell 0); (try have g0 := hrk.row.frozen 0); (try have y1 := hrk.row.cell 1); (try have g1 := hrk.row.frozen 1); (try have y2 := hrk.row.cell 2); (try have g2 := hrk.row.frozen 2)))
    all_goals
      go_wp2_with fail
      go_meet
      first
        | exact ⟨_, _, _, _, _, _, _, _, rfl, rfl, Lib.hid (NewR.set hrk huy HG.out)⟩
        | exact ⟨_, _, _, _, _, _, _, _, rfl, rfl, Lib.hid (NewR.new huy HG.out)⟩
  case rest =>
    obtain ⟨k14, p14, a14, l14, c14, d14, m14, e14, rfl, rfl, HK14⟩ := hcut
    obtain ⟨w9, hw9⟩ : ∃ W, W = wc := ⟨_, rfl⟩
    rw [← hw9] at HK14 ⊢
    have hUw9 : Upd [] w8 w9 := HK14.out.upd
    have hlo14 := HK14.out.lo
    clear hrf HC hw9
    have HVw9 := Lib.hid (HVw8.out.trans0 hUw9)
    have HXa9 := Lib.hid (HXa8.out.upd0 hUw9)
    have HXb9 := Lib.hid (HXb8.out.upd0 hUw9)
    have HRa9 := Lib.hid (HRa8.out.upd0 hUw9)
    have HRb9 := Lib.hid (HRb8.out.upd0 hUw9)
    have HQ9 := Lib.hid HK14.out.rv
    have HR14 := Lib.hid HK14.out.row
    have s0 := HRb9.out.cell 0
    have s1 := HRb9.out.cell 1
    have s2 := HRb9.out.cell 2
    go_wp2_with fail
    refine (HTY.out _ _ (HU0.out.trans0 HVw9.out) HXb9.out).mono ?_
    rintro e wA ⟨rfl, huA⟩
    have HF := Lib.hid (HU0.out.trans0 (HVw9.out.trans0 huA))
    clear huA s0 s1 s2
    go_wp2
    go_ret
    exact ⟨rfl, HF.out⟩

theorem ratField_law (a0 : Option Addr) (l0 c0 : Nat) (L0 : List Nat) (a1 : Option Addr) (l1 c1 : Nat) (M0 : List Nat) (b0 : Bool) (a2 : Option Addr) (l2 c2 : Nat) (L1 : List Nat) (a3 : Option Addr) (l3 c3 : Nat) (M1 : List Nat) (b1 : Bool) (a4 : Option Addr) (l4 c4 : Nat) (L2 : List Nat) (a5 : Option Addr) (l5 c5 : Nat) (M2 : List Nat) (b2 : Bool) (w : World) (ht : Tab w) (hs0 : Sl w (.slice a0 l0 c0) (cu64 L0)) (hw0 : ∀ d ∈ L0, d < 18446744073709551616) (hs1 : Sl w (.slice a1 l1 c1) (cu64 M0)) (hw1 : ∀ d ∈ M0, d < 18446744073709551616) (hs2 : Sl w (.slice a2 l2 c2) (cu64 L1)) (hw2 : ∀ d ∈ L1, d < 18446744073709551616) (hs3 : Sl w (.slice a3 l3 c3) (cu64 M1)) (hw3 : ∀ d ∈ M1, d < 18446744073709551616) (hs4 : Sl w (.slice a4 l4 c4) (cu64 L2)) (hw4 : ∀ d ∈ L2, d < 18446744073709551616) (hs5 : Sl w (.slice a5 l5 c5) (cu64 M2)) (hw5 : ∀ d ∈ M2, d < 18446744073709551616) : Calls Tryz.prog 8 #[.agg #[.slice a0 l0 c0, .slice a1 l1 c1, .bool b0], .agg #[.slice a2 l2 c2, .slice a3 l3 c3, .bool b1], .agg #[.slice a4 l4 c4, .slice a5 l5 c5, .bool b2]] w (fun e w' => e = .returned (.bool true) ∧ Upd [] w w') := by
  by_cases hy0 : qval (zP b1 (wval (L1.take 2))) (zM b1 (wval (L1.take 2))) (den1 (wval (M1.take 2))) = 0
  · exact ratField_z a0 l0 c0 L0 a1 l1 c1 M0 b0 a2 l2 c2 L1 a3 l3 c3 M1 b1 a4 l4 c4 L2 a5 l5 c5 M2 b2 w ht hs0 hw0 hs1 hw1 hs2 hw2 hs3 hw3 hs4 hw4 hs5 hw5 hy0
  · exact ratField_q a0 l0 c0 L0 a1 l1 c1 M0 b0 a2 l2 c2 L1 a3 l3 c3 M1 b1 a4 l4 c4 L2 a5 l5 c5 M2 b2 w ht hs0 hw0 hs1 hw1 hs2 hw2 hs3 hw3 hs4 hw4 hs5 hw5 hy0
end Go.Proofs.YtoklmfmoblkfcaaGreatDoor
