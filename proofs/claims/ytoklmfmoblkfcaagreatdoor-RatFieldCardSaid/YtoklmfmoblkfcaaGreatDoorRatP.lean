/- Fractions (layer 7): Pow, where it may be that great. -/
import Derived.Test.YtoklmfmoblkfcaaGreatDoorRatL
import Derived.Test.YtoklmfmoblkfcaaGreatDoorRatF
import Derived.Test.YtoklmfmoblkfcaaGreatDoorRatD
import Derived.Test.YtoklmfmoblkfcaaGreatDoorAc
import Derived.Deep.RegionHeld3
namespace Go.Proofs.YtoklmfmoblkfcaaGreatDoor
open Go.RowKit Go.Proofs.Tm
set_option linter.unusedVariables false
set_option linter.unusedSimpArgs false
set_option maxRecDepth 20000

/-- A power that may be that great. -/
def PowOK (m n : Nat) : Prop := n = 0 ∨ m ≤ 1 ∨ n ≤ 8192 / nbits m
theorem pow_ok (u : Value) (m n : Nat) (w : World) (hu : NV w u m) (hlen : (wds m).length ≤ 1099511627776) (hn : n ≤ 9223372036854775807) (h : PowOK m n) :
    Calls Tryz.prog 99 #[u, .int .i64 (n : Int)] w (RNatE (m ^ n) 0 w) := by
  refine (pow_any u m n w hu hlen hn).mono ?_
  intro e w' hp
  unfold PowPost at hp
  split at hp
  · next h0 => rw [h0, Nat.pow_zero]; exact hp
  · next h0 =>
    split at hp
    · next h1 =>
      have : m ^ n = m := by
        rcases Nat.lt_or_ge m 1 with h2 | h2
        · have : m = 0 := by omega
          subst this; exact Nat.zero_pow (by omega)
        · have : m = 1 := by omega
          subst this; exact Nat.one_pow n
      rw [this]; exact hp
    · next h1 =>
      rw [if_neg (by rcases h with h | h | h <;> omega)] at hp
      exact hp

set_option maxHeartbeats 3200000 in
theorem powq_pe (u : Value) (x : Rat) (n : Nat) (w : World) (hu : RV w u x) (hx : QL x 67108864) (hn : n ≤ 9223372036854775807) (h1 : PowOK x.num.natAbs n) (h2 : PowOK x.den n) (hpl : (wds (x ^ n).den).length ≤ 1099511627776) (hx0 : ¬ x.num < 0) :
    Calls Tryz.prog 49 #[u, .int .i64 (n : Int)] w (RRatE (x ^ n) 0 w) := by
  obtain ⟨a0, l0, c0, d0, m0, e0, rfl, hw0', hd0'⟩ := hu.open
  obtain ⟨p1, p2⟩ := pow_num x n
  obtain ⟨P, hP⟩ : ∃ r : Rat, r = x ^ n := ⟨_, rfl⟩
  rw [← hP] at p1 p2
  have HAX : Hid (∀ W, Upd [] w W → Calls Tryz.prog 19 #[.agg #[.bool (decide (x.num < 0)), .slice a0 l0 c0]] W (RNat x.num.natAbs W)) := fun W h => wabs_any _ _ W (hw0'.upd0 h)
  have HNX : Hid (∀ W, Upd [] w W → Calls Tryz.prog 17 #[.agg #[.bool (decide (x.num < 0)), .slice a0 l0 c0]] W (fun e w' => e = .returned (.bool (decide (x.num < 0))) ∧ Upd [] W w')) := fun W h => wneg_any _ _ W (hw0'.upd0 h)
  have HDX : Hid (∀ W, Upd [] w W → Calls Tryz.prog 36 #[.agg #[.bool (decide (x.num < 0)), .slice a0 l0 c0, .slice d0 m0 e0]] W (RNat x.den W)) := fun W h => den_any _ x W (hu.upd0 h)
  have HP1 : Hid (∀ W s, NV W s x.num.natAbs → Calls Tryz.prog 99 #[s, .int .i64 (n : Int)] W (RNatE (x.num.natAbs ^ n) 0 W)) := fun W s hs => pow_ok _ _ _ W hs (by have := hx.1; omega) hn h1
  have HP2 : Hid (∀ W s, NV W s x.den → Calls Tryz.prog 99 #[s, .int .i64 (n : Int)] W (RNatE P.den 0 W)) := fun W s hs => by rw [p2]; exact pow_ok _ _ _ W hs (by have := hx.2; omega) hn h2
  have HMK : Hid (∀ W s, NV W s (x.num.natAbs ^ n) → Calls Tryz.prog 35 #[.bool false, s] W (RWhole P.num W)) := fun W s hs => by
    have := wmake_any false _ _ W hs
    have e : (if false = true then -((x.num.natAbs ^ n : Nat) : Int) else ((x.num.natAbs ^ n : Nat) : Int)) = P.num := by
      rw [p1]; simp [hx0]
    rw [e] at this
    exact this
  have HFIT : Hid (∀ W s t, WV W s P.num → NV W t P.den → Calls Tryz.prog 83 #[s, t] W (RRat P W)) := fun W s t hs ht => by
    have := fit_q _ _ _ _ W hs ht P.den_nz P.reduced (by rw [hP]; exact hpl)
    rw [Rat.mkRat_self] at this
    exact this

  have hi2 : (n : Int) ≤ 9223372036854775807 := by omega
  have hi1 : (0 : Int) ≤ (n : Int) := by omega
  rw [decide_eq_false hx0] at HAX HNX HDX ⊢
  generalize x.num.natAbs ^ n = M at *
  rw [← hP]
  clear hu hx hn h1 h2 hpl hw0' hd0' p1 p2 hP hx0
  obtain ⟨w0, hw0⟩ : ∃ W, W = ((w.alloc (.cells #[.bool false, .slice a0 l0 c0, .slice d0 m0 e0] 53)).alloc (.cells #[.bool false, .slice none 0 0, .slice none 0 0] 53)) := ⟨_, rfl⟩
  obtain ⟨S, hS⟩ : ∃ s, s = w.heap.size := ⟨_, rfl⟩
  obtain ⟨hu0, r0, r1, hz0⟩ := rows2 w #[.bool false, .slice a0 l0 c0, .slice d0 m0 e0] #[.bool false, .slice none 0 0, .slice none 0 0] 53 53 w0 hw0 S hS
  have HU0 := Lib.hid hu0
  have HW0 := Lib.hid hw0
  have HS := Lib.hid hS
  have HZ0 := Lib.hid hz0
  have HR0 := Lib.hid r0
  have HR1 := Lib.hid r1
  have hp0 := r0.cell 0
  have hp1 := r0.cell 1
  have hp2 := r0.cell 2
  clear hw0 hS hu0 r0 r1 hz0
  go_enter Tryz.func49, Tryz.ntmps49
  go_wp2_with fail
  rw [← HW0.out]
  rw [← HS.out]
  refine (HAX.out _ HU0.out).mono ?_
  rintro e w1 ⟨v1, rfl, hn1, hu1⟩
  have HV1 := Lib.hid hu1
  have HN1 := Lib.hid hn1
  clear hu1 hn1 hp0 hp1 hp2
  go_wp2_with fail
  refine (HP1.out _ _ HN1.out).mono ?_
  rintro e w2 ⟨v2, rfl, hn2', hu2⟩
  obtain ⟨a6, l6, c6, rfl, hn2o⟩ := nvOpen hn2'
  obtain ⟨w3, hw3⟩ : ∃ W, W = w2.alloc (.cells #[.slice a6 l6 c6] 27) := ⟨_, rfl⟩
  obtain ⟨K, hK⟩ : ∃ s, s = w2.heap.size := ⟨_, rfl⟩
  obtain ⟨hu3, r6, hz3⟩ := rows1 w2 #[.slice a6 l6 c6] 27 w3 hw3 K hK
  have HV3 := Lib.hid (HV1.out.trans0 (hu2.trans0 hu3))
  have HN6 := Lib.hid (hn2o.upd0 hu3)
  have HR6 := Lib.hid r6
  have hc0 := (HR0.out.upd0 HV3.out).cell 0
  have hc1 := (HR0.out.upd0 HV3.out).cell 1
  have hc2 := (HR0.out.upd0 HV3.out).cell 2
  have HKS := Lib.hid (show S + 1 + 1 ≤ K by have h1 := HZ0.out; have h2 := HV1.out.size; have h3 := hu2.size; omega)
  rw [hw3] at hc0 hc1 hc2
  have HW3 := Lib.hid hw3
  have HK := Lib.hid hK
  clear hn2' hn2o hu2 hu3 r6 hz3 hw3 hK
  go_wp2_with fail
  rw [← HW3.out, ← HK.out]
  rw [← HW3.out] at hc0 hc1 hc2
  refine (HDX.out _ (HU0.out.trans0 HV3.out)).mono ?_
  rintro e w4 ⟨v4, rfl, hn4, hu4⟩
  have HN4 := Lib.hid hn4
  have HV4 := Lib.hid (HV3.out.trans0 hu4)
  have HN64 := Lib.hid (HN6.out.upd0 hu4)
  have HR64 := Lib.hid (HR6.out.upd0 hu4)
  clear hu4 hn4 hc0 hc1 hc2
  go_wp2_with fail
  refine (HP2.out _ _ HN4.out).mono ?_
  rintro e w5 ⟨v5, rfl, hn5, hu5⟩
  obtain ⟨a8, l8, c8, rfl, hn5o⟩ := nvOpen hn5
  obtain ⟨w6, hw6⟩ : ∃ W, W = w5.alloc (.cells #[.slice a8 l8 c8] 27) := ⟨_, rfl⟩
  obtain ⟨J, hJ⟩ : ∃ s, s = w5.heap.size := ⟨_, rfl⟩
  obtain ⟨hu6, r8, hz6⟩ := rows1 w5 #[.slice a8 l8 c8] 27 w6 hw6 J hJ
  have HVw6 := Lib.hid (HV4.out.trans0 (hu5.trans0 hu6))
  have HN8 := Lib.hid (hn5o.upd0 hu6)
  have HN66 := Lib.hid (HN64.out.upd0 (hu5.trans0 hu6))
  have HR66 := Lib.hid (HR64.out.upd0 (hu5.trans0 hu6))
  have HR8 := Lib.hid r8
  have hkk : K ≠ S + 1 ∧ J ≠ S + 1 := by have h0 := HKS.out; have h1 := HZ0.out; have h2 := HV4.out.size; have h3 := hu5.size; omega
  obtain ⟨hk1, hk2⟩ := hkk
  have HW6 := Lib.hid hw6
  have HJ := Lib.hid hJ
  have HUB := Lib.hid (HU0.out.trans0 HVw6.out)
  have HRES := Lib.hid (HR1.out.upd0 HVw6.out)
  clear hn5 hn5o hu5 hu6 r8 hz6 hw6 hJ
  go_wp2_with fail
  rw [← HW6.out, ← HJ.out]
  have hrf : Upd [] w6 w6 := Upd.refl _ _
  have HC : Hid (∀ W, Upd [S + 1] w6 W → W.cell? ⟨S, 0, none⟩ = some (.bool false) ∧ W.cell? ⟨S, 1, none⟩ = some (.slice a0 l0 c0) ∧ W.cell? ⟨S, 2, none⟩ = some (.slice d0 m0 e0) ∧ W.cell? ⟨K, 0, none⟩ = some (.slice a6 l6 c6) ∧ W.cell? ⟨J, 0, none⟩ = some (.slice a8 l8 c8) ∧ Upd [S + 1] w6 W) := fun W h =>
    ⟨((HR0.out.upd0 HVw6.out).upd h (by simp <;> omega)).cell 0, ((HR0.out.upd0 HVw6.out).upd h (by simp <;> omega)).cell 1, ((HR0.out.upd0 HVw6.out).upd h (by simp <;> omega)).cell 2, (HR66.out.upd h (by simp <;> omega)).cell 0, (HR8.out.upd h (by simp <;> omega)).cell 0, h⟩
  have hcA : ∀ W, Upd [] w6 W → W.cell? ⟨S + 1, 0, none⟩ = some (.bool false) ∧ W.cell? ⟨S + 1, 1, none⟩ = some (.slice none 0 0) ∧ W.cell? ⟨S + 1, 2, none⟩ = some (.slice none 0 0) ∧ W.frozen? ⟨S + 1, 0, none⟩ = false ∧ W.frozen? ⟨S + 1, 1, none⟩ = false ∧ W.frozen? ⟨S + 1, 2, none⟩ = false := fun W h => ⟨(HRES.out.upd0 h).cell 0, (HRES.out.upd0 h).cell 1, (HRES.out.upd0 h).cell 2, (HRES.out.upd0 h).frozen 0, (HRES.out.upd0 h).frozen 1, (HRES.out.upd0 h).frozen 2⟩
  refine wp_region_held_drew (S := (fun W => W.cell? ⟨S, 0, none⟩ = some (.bool false) ∧ W.cell? ⟨S, 1, none⟩ = some (.slice a0 l0 c0) ∧ W.cell? ⟨S, 2, none⟩ = some (.slice d0 m0 e0) ∧ W.cell? ⟨K, 0, none⟩ = some (.slice a6 l6 c6) ∧ W.cell? ⟨J, 0, none⟩ = some (.slice a8 l8 c8) ∧ Upd [S + 1] w6 W)) (by kernel_rfl) ?_ (fun hHeld => ?_)
  · exact HC.out _ (hrf.drew.mono (by simp))
  have huy := hrf.drew
  refine wpAnyH_take (i := 0) (oi := _) (v := ?_) rfl (by kernel_rfl) (by kernel_rfl) (by kernel_rfl) (fun _ _ _ h => h) (Or.inl ⟨by kernel_rfl, ?_⟩) hHeld ?_
  rotate_left
  · intro w hSw; (try dsimp only at hSw); go_simp; (try with_reducible rfl)
  try simp only [List.getElem_toArray, List.getElem_cons_succ, List.getElem_cons_zero, Act.put, List.setIfInBounds_toArray, List.set_cons_zero, List.set_cons_succ]
  refine wpAnyH_take (i := 1) (oi := _) (v := ?_) rfl (by kernel_rfl) (by kernel_rfl) (by kernel_rfl) (fun _ _ _ h => h) (Or.inl ⟨by kernel_rfl, ?_⟩) hHeld ?_
  rotate_left
  · intro w hSw; (try dsimp only at hSw); go_simp; (try with_reducible rfl)
  try simp only [List.getElem_toArray, List.getElem_cons_succ, List.getElem_cons_zero, Act.put, List.setIfInBounds_toArray, List.set_cons_zero, List.set_cons_succ]
  refine wpAnyH_take (i := 8) (oi := _) (v := ?_) rfl (by kernel_rfl) (by kernel_rfl) (by kernel_rfl) (fun _ _ _ h => h) (Or.inl ⟨by kernel_rfl, ?_⟩) hHeld ?_
  rotate_left
  · intro w hSw; (try dsimp only at hSw); go_simp; (try with_reducible rfl)
  try simp only [List.getElem_toArray, List.getElem_cons_succ, List.getElem_cons_zero, Act.put, List.setIfInBounds_toArray, List.set_cons_zero, List.set_cons_succ]
  refine wpAnyH_take (i := 10) (oi := _) (v := ?_) rfl (by kernel_rfl) (by kernel_rfl) (by kernel_rfl) (fun _ _ _ h => h) (Or.inl ⟨by kernel_rfl, ?_⟩) hHeld ?_
  rotate_left
  · intro w hSw; (try dsimp only at hSw); go_simp; (try with_reducible rfl)
  try simp only [List.getElem_toArray, List.getElem_cons_succ, List.getElem_cons_zero, Act.put, List.setIfInBounds_toArray, List.set_cons_zero, List.set_cons_succ]
  refine wpAnyH_ready (rs := [2]) (by kernel_rfl) (by simp) ?_
  refine AllReadyH.cons (o := _) rfl (fun K hK => ?_) ?_
  rotate_left
  · exact AllReadyH.nil
  go_simp
  refine (HNX.out _ (HU0.out.trans0 (HVw6.out.trans0 huy))).mono ?_
  rintro e wz ⟨rfl, hu20⟩

  have huz : Upd [] w6 wz := huy.trans0 hu20
  clear huy hu20 hHeld
  have huy := huz
  clear huz
  refine hK.out _ _ ?_ (fun hHeld => ?_)
  · exact HC.out _ (huy.mono (by simp))
  clear hK K
  try simp only [List.getElem_toArray, List.getElem_cons_succ, List.getElem_cons_zero, Act.put, List.setIfInBounds_toArray, List.set_cons_zero, List.set_cons_succ]
  refine wpAnyH_take (i := 3) (oi := _) (v := ?_) rfl (by kernel_rfl) (by kernel_rfl) (by kernel_rfl) (fun _ _ _ h => h) (Or.inl ⟨by kernel_rfl, ?_⟩) hHeld ?_
  rotate_left
  · intro w hSw; (try dsimp only at hSw); go_simp; (try with_reducible rfl)
  try simp only [List.getElem_toArray, List.getElem_cons_succ, List.getElem_cons_zero, Act.put, List.setIfInBounds_toArray, List.set_cons_zero, List.set_cons_succ]
  refine wpAnyH_take (i := 4) (oi := _) (v := undef) rfl (by kernel_rfl) (by kernel_rfl) (by kernel_rfl) (fun _ _ _ h => h) (Or.inr ⟨by kernel_rfl, rfl⟩) hHeld ?_
  try simp only [List.getElem_toArray, List.getElem_cons_succ, List.getElem_cons_zero, Act.put, List.setIfInBounds_toArray, List.set_cons_zero, List.set_cons_succ]
  refine wpAnyH_take (i := 5) (oi := _) (v := undef) rfl (by kernel_rfl) (by kernel_rfl) (by kernel_rfl) (fun _ _ _ h => h) (Or.inr ⟨by kernel_rfl, rfl⟩) hHeld ?_
  try simp only [List.getElem_toArray, List.getElem_cons_succ, List.getElem_cons_zero, Act.put, List.setIfInBounds_toArray, List.set_cons_zero, List.set_cons_succ]
  refine wpAnyH_take (i := 6) (oi := _) (v := undef) rfl (by kernel_rfl) (by kernel_rfl) (by kernel_rfl) (fun _ _ _ h => h) (Or.inr ⟨by kernel_rfl, rfl⟩) hHeld ?_
  try simp only [List.getElem_toArray, List.getElem_cons_succ, List.getElem_cons_zero, Act.put, List.setIfInBounds_toArray, List.set_cons_zero, List.set_cons_succ]
  refine wpAnyH_take (i := 7) (oi := _) (v := ?_) rfl (by kernel_rfl) (by kernel_rfl) (by kernel_rfl) (fun _ _ _ h => h) (Or.inl ⟨by kernel_rfl, ?_⟩) hHeld ?_
  rotate_left
  · intro w hSw; (try dsimp only at hSw); go_simp; (try with_reducible rfl)
  try simp only [List.getElem_toArray, List.getElem_cons_succ, List.getElem_cons_zero, Act.put, List.setIfInBounds_toArray, List.set_cons_zero, List.set_cons_succ]
  refine wpAnyH_ready (rs := [9]) (by kernel_rfl) (by simp) ?_
  refine AllReadyH.cons (o := _) rfl (fun K hK => ?_) ?_
  rotate_left
  · exact AllReadyH.nil
  go_simp
  refine (HMK.out _ _ (HN66.out.upd0 huy)).mono ?_
  rintro e wz ⟨vB, rfl, hvB, hu20⟩
  have HVB := Lib.hid hvB
  clear hvB
  have huz : Upd [] w6 wz := huy.trans0 hu20
  clear huy hu20 hHeld
  have huy := huz
  clear huz
  refine hK.out _ _ ?_ (fun hHeld => ?_)
  · exact HC.out _ (huy.mono (by simp))
  clear hK K
  try simp only [List.getElem_toArray, List.getElem_cons_succ, List.getElem_cons_zero, Act.put, List.setIfInBounds_toArray, List.set_cons_zero, List.set_cons_succ]
  refine wpAnyH_ready (rs := [11]) (by kernel_rfl) (by simp) ?_
  refine AllReadyH.cons (o := _) rfl (fun K hK => ?_) ?_
  rotate_left
  · exact AllReadyH.nil
  go_simp
  refine (HFIT.out _ _ _ HVB.out (HN8.out.upd0 huy)).mono ?_
  rintro e wz ⟨vF, rfl, hFv, hu20⟩
  have HVB := Lib.hid (HVB.out.upd0 hu20)
  obtain ⟨aF, lF, cF, dF, mF, eF, rfl, _, _⟩ := hFv.open
  have HF := Lib.hid hFv
  clear hFv
  have huz : Upd [] w6 wz := huy.trans0 hu20
  clear huy hu20 hHeld
  have huy := huz
  clear huz
  obtain ⟨x0, x1, x2, x3, x4, x5⟩ := hcA _ huy
  refine hK.out _ _ ?_ (fun hHeld => ?_)
  · exact HC.out _ (huy.mono (by simp))
  clear hK K
  try simp only [List.getElem_toArray, List.getElem_cons_succ, List.getElem_cons_zero, Act.put, List.setIfInBounds_toArray, List.set_cons_zero, List.set_cons_succ]
  refine wpAnyH_ready (rs := [12]) (by kernel_rfl) (by simp) ?_
  refine AllReadyH.cons (o := _) rfl (fun K hK => ?_) ?_
  rotate_left
  · exact AllReadyH.nil
  go_simp
  clear hHeld
  refine hK.out _ _ ?_ (fun hHeld => ?_)
  · refine HC.out _ ?_
    repeat (first | exact huy.mono (by simp) | (refine Upd.setCell ?_ (.inl (by simp)) _))
  clear hK K
  try simp only [List.getElem_toArray, List.getElem_cons_succ, List.getElem_cons_zero, Act.put, List.setIfInBounds_toArray, List.set_cons_zero, List.set_cons_succ]
  refine wpAnyH_take (i := 13) (oi := _) (v := ?_) rfl (by kernel_rfl) (by kernel_rfl) (by kernel_rfl) (fun _ _ _ h => h) (Or.inl ⟨by kernel_rfl, ?_⟩) hHeld ?_
  rotate_left
  · intro w hSw; (try dsimp only at hSw); go_simp; (try with_reducible rfl)
  try simp only [List.getElem_toArray, List.getElem_cons_succ, List.getElem_cons_zero, Act.put, List.setIfInBounds_toArray, List.set_cons_zero, List.set_cons_succ]
  refine wpAnyH_done (by kernel_rfl) ?_ _
  try simp only [List.getElem_toArray, List.getElem_cons_succ, List.getElem_cons_zero, Act.put, List.setIfInBounds_toArray, List.set_cons_zero, List.set_cons_succ]
  have HP := Lib.hid (NewR.set ⟨HRES.out.upd0 huy, by have := HS.out; omega⟩ (HUB.out.trans0 huy) HF.out)
  clear hcA huy
  generalize decide (P.num < 0) = pF at *
  have z0 := HP.out.row.cell 0
  have z1 := HP.out.row.cell 1
  have z2 := HP.out.row.cell 2
  go_wp2
  refine bodyPost_ret (v := .tuple #[.agg #[.bool pF, .slice aF lF cF, .slice dF mF eF], .int .i64 0]) (by simp [results, Tryz.results49, go_sem, z0, z1, z2]) rfl ?_
  exact ⟨_, rfl, HP.out.rv, HP.out.upd⟩

set_option maxHeartbeats 3200000 in
theorem powq_no (u : Value) (x : Rat) (n : Nat) (w : World) (hu : RV w u x) (hx : QL x 67108864) (hn : n ≤ 9223372036854775807) (h1 : PowOK x.num.natAbs n) (h2 : PowOK x.den n) (hpl : (wds (x ^ n).den).length ≤ 1099511627776) (hx0 : x.num < 0) (hn2 : n % 2 = 1) :
    Calls Tryz.prog 49 #[u, .int .i64 (n : Int)] w (RRatE (x ^ n) 0 w) := by
  obtain ⟨a0, l0, c0, d0, m0, e0, rfl, hw0', hd0'⟩ := hu.open
  obtain ⟨p1, p2⟩ := pow_num x n
  obtain ⟨P, hP⟩ : ∃ r : Rat, r = x ^ n := ⟨_, rfl⟩
  rw [← hP] at p1 p2
  have HAX : Hid (∀ W, Upd [] w W → Calls Tryz.prog 19 #[.agg #[.bool (decide (x.num < 0)), .slice a0 l0 c0]] W (RNat x.num.natAbs W)) := fun W h => wabs_any _ _ W (hw0'.upd0 h)
  have HNX : Hid (∀ W, Upd [] w W → Calls Tryz.prog 17 #[.agg #[.bool (decide (x.num < 0)), .slice a0 l0 c0]] W (fun e w' => e = .returned (.bool (decide (x.num < 0))) ∧ Upd [] W w')) := fun W h => wneg_any _ _ W (hw0'.upd0 h)
  have HDX : Hid (∀ W, Upd [] w W → Calls Tryz.prog 36 #[.agg #[.bool (decide (x.num < 0)), .slice a0 l0 c0, .slice d0 m0 e0]] W (RNat x.den W)) := fun W h => den_any _ x W (hu.upd0 h)
  have HP1 : Hid (∀ W s, NV W s x.num.natAbs → Calls Tryz.prog 99 #[s, .int .i64 (n : Int)] W (RNatE (x.num.natAbs ^ n) 0 W)) := fun W s hs => pow_ok _ _ _ W hs (by have := hx.1; omega) hn h1
  have HP2 : Hid (∀ W s, NV W s x.den → Calls Tryz.prog 99 #[s, .int .i64 (n : Int)] W (RNatE P.den 0 W)) := fun W s hs => by rw [p2]; exact pow_ok _ _ _ W hs (by have := hx.2; omega) hn h2
  have HMK : Hid (∀ W s, NV W s (x.num.natAbs ^ n) → Calls Tryz.prog 35 #[.bool true, s] W (RWhole P.num W)) := fun W s hs => by
    have := wmake_any true _ _ W hs
    have e : (if true = true then -((x.num.natAbs ^ n : Nat) : Int) else ((x.num.natAbs ^ n : Nat) : Int)) = P.num := by
      rw [p1]; simp [hx0, hn2]
    rw [e] at this
    exact this
  have HFIT : Hid (∀ W s t, WV W s P.num → NV W t P.den → Calls Tryz.prog 83 #[s, t] W (RRat P W)) := fun W s t hs ht => by
    have := fit_q _ _ _ _ W hs ht P.den_nz P.reduced (by rw [hP]; exact hpl)
    rw [Rat.mkRat_self] at this
    exact this
  have hrm : ((n : Int).tmod 2 == 1) = true := by rw [Int.tmod_eq_emod_of_nonneg (by omega)]; simp; omega
  have hi2 : (n : Int) ≤ 9223372036854775807 := by omega
  have hi1 : (0 : Int) ≤ (n : Int) := by omega
  rw [decide_eq_true hx0] at HAX HNX HDX ⊢
  generalize x.num.natAbs ^ n = M at *
  rw [← hP]
  clear hu hx hn h1 h2 hpl hw0' hd0' p1 p2 hP hx0 hn2
  obtain ⟨w0, hw0⟩ : ∃ W, W = ((w.alloc (.cells #[.bool true, .slice a0 l0 c0, .slice d0 m0 e0] 53)).alloc (.cells #[.bool false, .slice none 0 0, .slice none 0 0] 53)) := ⟨_, rfl⟩
  obtain ⟨S, hS⟩ : ∃ s, s = w.heap.size := ⟨_, rfl⟩
  obtain ⟨hu0, r0, r1, hz0⟩ := rows2 w #[.bool true, .slice a0 l0 c0, .slice d0 m0 e0] #[.bool false, .slice none 0 0, .slice none 0 0] 53 53 w0 hw0 S hS
  have HU0 := Lib.hid hu0
  have HW0 := Lib.hid hw0
  have HS := Lib.hid hS
  have HZ0 := Lib.hid hz0
  have HR0 := Lib.hid r0
  have HR1 := Lib.hid r1
  have hp0 := r0.cell 0
  have hp1 := r0.cell 1
  have hp2 := r0.cell 2
  clear hw0 hS hu0 r0 r1 hz0
  go_enter Tryz.func49, Tryz.ntmps49
  go_wp2_with fail
  rw [← HW0.out]
  rw [← HS.out]
  refine (HAX.out _ HU0.out).mono ?_
  rintro e w1 ⟨v1, rfl, hn1, hu1⟩
  have HV1 := Lib.hid hu1
  have HN1 := Lib.hid hn1
  clear hu1 hn1 hp0 hp1 hp2
  go_wp2_with fail
  refine (HP1.out _ _ HN1.out).mono ?_
  rintro e w2 ⟨v2, rfl, hn2', hu2⟩
  obtain ⟨a6, l6, c6, rfl, hn2o⟩ := nvOpen hn2'
  obtain ⟨w3, hw3⟩ : ∃ W, W = w2.alloc (.cells #[.slice a6 l6 c6] 27) := ⟨_, rfl⟩
  obtain ⟨K, hK⟩ : ∃ s, s = w2.heap.size := ⟨_, rfl⟩
  obtain ⟨hu3, r6, hz3⟩ := rows1 w2 #[.slice a6 l6 c6] 27 w3 hw3 K hK
  have HV3 := Lib.hid (HV1.out.trans0 (hu2.trans0 hu3))
  have HN6 := Lib.hid (hn2o.upd0 hu3)
  have HR6 := Lib.hid r6
  have hc0 := (HR0.out.upd0 HV3.out).cell 0
  have hc1 := (HR0.out.upd0 HV3.out).cell 1
  have hc2 := (HR0.out.upd0 HV3.out).cell 2
  have HKS := Lib.hid (show S + 1 + 1 ≤ K by have h1 := HZ0.out; have h2 := HV1.out.size; have h3 := hu2.size; omega)
  rw [hw3] at hc0 hc1 hc2
  have HW3 := Lib.hid hw3
  have HK := Lib.hid hK
  clear hn2' hn2o hu2 hu3 r6 hz3 hw3 hK
  go_wp2_with fail
  rw [← HW3.out, ← HK.out]
  rw [← HW3.out] at hc0 hc1 hc2
  refine (HDX.out _ (HU0.out.trans0 HV3.out)).mono ?_
  rintro e w4 ⟨v4, rfl, hn4, hu4⟩
  have HN4 := Lib.hid hn4
  have HV4 := Lib.hid (HV3.out.trans0 hu4)
  have HN64 := Lib.hid (HN6.out.upd0 hu4)
  have HR64 := Lib.hid (HR6.out.upd0 hu4)
  clear hu4 hn4 hc0 hc1 hc2
  go_wp2_with fail
  refine (HP2.out _ _ HN4.out).mono ?_
  rintro e w5 ⟨v5, rfl, hn5, hu5⟩
  obtain ⟨a8, l8, c8, rfl, hn5o⟩ := nvOpen hn5
  obtain ⟨w6, hw6⟩ : ∃ W, W = w5.alloc (.cells #[.slice a8 l8 c8] 27) := ⟨_, rfl⟩
  obtain ⟨J, hJ⟩ : ∃ s, s = w5.heap.size := ⟨_, rfl⟩
  obtain ⟨hu6, r8, hz6⟩ := rows1 w5 #[.slice a8 l8 c8] 27 w6 hw6 J hJ
  have HVw6 := Lib.hid (HV4.out.trans0 (hu5.trans0 hu6))
  have HN8 := Lib.hid (hn5o.upd0 hu6)
  have HN66 := Lib.hid (HN64.out.upd0 (hu5.trans0 hu6))
  have HR66 := Lib.hid (HR64.out.upd0 (hu5.trans0 hu6))
  have HR8 := Lib.hid r8
  have hkk : K ≠ S + 1 ∧ J ≠ S + 1 := by have h0 := HKS.out; have h1 := HZ0.out; have h2 := HV4.out.size; have h3 := hu5.size; omega
  obtain ⟨hk1, hk2⟩ := hkk
  have HW6 := Lib.hid hw6
  have HJ := Lib.hid hJ
  have HUB := Lib.hid (HU0.out.trans0 HVw6.out)
  have HRES := Lib.hid (HR1.out.upd0 HVw6.out)
  clear hn5 hn5o hu5 hu6 r8 hz6 hw6 hJ
  go_wp2_with fail
  rw [← HW6.out, ← HJ.out]
  have hrf : Upd [] w6 w6 := Upd.refl _ _
  have HC : Hid (∀ W, Upd [S + 1] w6 W → W.cell? ⟨S, 0, none⟩ = some (.bool true) ∧ W.cell? ⟨S, 1, none⟩ = some (.slice a0 l0 c0) ∧ W.cell? ⟨S, 2, none⟩ = some (.slice d0 m0 e0) ∧ W.cell? ⟨K, 0, none⟩ = some (.slice a6 l6 c6) ∧ W.cell? ⟨J, 0, none⟩ = some (.slice a8 l8 c8) ∧ Upd [S + 1] w6 W) := fun W h =>
    ⟨((HR0.out.upd0 HVw6.out).upd h (by simp <;> omega)).cell 0, ((HR0.out.upd0 HVw6.out).upd h (by simp <;> omega)).cell 1, ((HR0.out.upd0 HVw6.out).upd h (by simp <;> omega)).cell 2, (HR66.out.upd h (by simp <;> omega)).cell 0, (HR8.out.upd h (by simp <;> omega)).cell 0, h⟩
  have hcA : ∀ W, Upd [] w6 W → W.cell? ⟨S + 1, 0, none⟩ = some (.bool false) ∧ W.cell? ⟨S + 1, 1, none⟩ = some (.slice none 0 0) ∧ W.cell? ⟨S + 1, 2, none⟩ = some (.slice none 0 0) ∧ W.frozen? ⟨S + 1, 0, none⟩ = false ∧ W.frozen? ⟨S + 1, 1, none⟩ = false ∧ W.frozen? ⟨S + 1, 2, none⟩ = false := fun W h => ⟨(HRES.out.upd0 h).cell 0, (HRES.out.upd0 h).cell 1, (HRES.out.upd0 h).cell 2, (HRES.out.upd0 h).frozen 0, (HRES.out.upd0 h).frozen 1, (HRES.out.upd0 h).frozen 2⟩
  refine wp_region_held_drew (S := (fun W => W.cell? ⟨S, 0, none⟩ = some (.bool true) ∧ W.cell? ⟨S, 1, none⟩ = some (.slice a0 l0 c0) ∧ W.cell? ⟨S, 2, none⟩ = some (.slice d0 m0 e0) ∧ W.cell? ⟨K, 0, none⟩ = some (.slice a6 l6 c6) ∧ W.cell? ⟨J, 0, none⟩ = some (.slice a8 l8 c8) ∧ Upd [S + 1] w6 W)) (by kernel_rfl) ?_ (fun hHeld => ?_)
  · exact HC.out _ (hrf.drew.mono (by simp))
  have huy := hrf.drew
  refine wpAnyH_take (i := 0) (oi := _) (v := ?_) rfl (by kernel_rfl) (by kernel_rfl) (by kernel_rfl) (fun _ _ _ h => h) (Or.inl ⟨by kernel_rfl, ?_⟩) hHeld ?_
  rotate_left
  · intro w hSw; (try dsimp only at hSw); go_simp; (try with_reducible rfl)
  try simp only [List.getElem_toArray, List.getElem_cons_succ, List.getElem_cons_zero, Act.put, List.setIfInBounds_toArray, List.set_cons_zero, List.set_cons_succ]
  refine wpAnyH_take (i := 1) (oi := _) (v := ?_) rfl (by kernel_rfl) (by kernel_rfl) (by kernel_rfl) (fun _ _ _ h => h) (Or.inl ⟨by kernel_rfl, ?_⟩) hHeld ?_
  rotate_left
  · intro w hSw; (try dsimp only at hSw); go_simp; (try with_reducible rfl)
  try simp only [List.getElem_toArray, List.getElem_cons_succ, List.getElem_cons_zero, Act.put, List.setIfInBounds_toArray, List.set_cons_zero, List.set_cons_succ]
  refine wpAnyH_take (i := 8) (oi := _) (v := ?_) rfl (by kernel_rfl) (by kernel_rfl) (by kernel_rfl) (fun _ _ _ h => h) (Or.inl ⟨by kernel_rfl, ?_⟩) hHeld ?_
  rotate_left
  · intro w hSw; (try dsimp only at hSw); go_simp; (try with_reducible rfl)
  try simp only [List.getElem_toArray, List.getElem_cons_succ, List.getElem_cons_zero, Act.put, List.setIfInBounds_toArray, List.set_cons_zero, List.set_cons_succ]
  refine wpAnyH_take (i := 10) (oi := _) (v := ?_) rfl (by kernel_rfl) (by kernel_rfl) (by kernel_rfl) (fun _ _ _ h => h) (Or.inl ⟨by kernel_rfl, ?_⟩) hHeld ?_
  rotate_left
  · intro w hSw; (try dsimp only at hSw); go_simp; (try with_reducible rfl)
  try simp only [List.getElem_toArray, List.getElem_cons_succ, List.getElem_cons_zero, Act.put, List.setIfInBounds_toArray, List.set_cons_zero, List.set_cons_succ]
  refine wpAnyH_ready (rs := [2]) (by kernel_rfl) (by simp) ?_
  refine AllReadyH.cons (o := _) rfl (fun K hK => ?_) ?_
  rotate_left
  · exact AllReadyH.nil
  go_simp
  refine (HNX.out _ (HU0.out.trans0 (HVw6.out.trans0 huy))).mono ?_
  rintro e wz ⟨rfl, hu20⟩

  have huz : Upd [] w6 wz := huy.trans0 hu20
  clear huy hu20 hHeld
  have huy := huz
  clear huz
  refine hK.out _ _ ?_ (fun hHeld => ?_)
  · exact HC.out _ (huy.mono (by simp))
  clear hK K
  try simp only [List.getElem_toArray, List.getElem_cons_succ, List.getElem_cons_zero, Act.put, List.setIfInBounds_toArray, List.set_cons_zero, List.set_cons_succ]
  refine wpAnyH_take (i := 3) (oi := _) (v := ?_) rfl (by kernel_rfl) (by kernel_rfl) (by kernel_rfl) (fun _ _ _ h => h) (Or.inl ⟨by kernel_rfl, ?_⟩) hHeld ?_
  rotate_left
  · intro w hSw; (try dsimp only at hSw); go_simp; (try with_reducible rfl)
  try simp only [List.getElem_toArray, List.getElem_cons_succ, List.getElem_cons_zero, Act.put, List.setIfInBounds_toArray, List.set_cons_zero, List.set_cons_succ]
  refine wpAnyH_take (i := 4) (oi := _) (v := ?_) rfl (by kernel_rfl) (by kernel_rfl) (by kernel_rfl) (fun _ _ _ h => h) (Or.inl ⟨by kernel_rfl, ?_⟩) hHeld ?_
  rotate_left
  · intro w hSw; (try dsimp only at hSw); go_simp; (try with_reducible rfl)
  try simp only [List.getElem_toArray, List.getElem_cons_succ, List.getElem_cons_zero, Act.put, List.setIfInBounds_toArray, List.set_cons_zero, List.set_cons_succ]
  refine wpAnyH_take (i := 5) (oi := _) (v := ?_) rfl (by kernel_rfl) (by kernel_rfl) (by kernel_rfl) (fun _ _ _ h => h) (Or.inl ⟨by kernel_rfl, ?_⟩) hHeld ?_
  rotate_left
  · intro w hSw; (try dsimp only at hSw); go_simp; (try with_reducible rfl)
  try simp only [List.getElem_toArray, List.getElem_cons_succ, List.getElem_cons_zero, Act.put, List.setIfInBounds_toArray, List.set_cons_zero, List.set_cons_succ]
  refine wpAnyH_take (i := 6) (oi := _) (v := ?_) rfl (by kernel_rfl) (by kernel_rfl) (by kernel_rfl) (fun _ _ _ h => h) (Or.inl ⟨by kernel_rfl, ?_⟩) hHeld ?_
  rotate_left
  · intro w hSw; (try dsimp only at hSw); go_simp; (try with_reducible rfl)
  try simp only [List.getElem_toArray, List.getElem_cons_succ, List.getElem_cons_zero, Act.put, List.setIfInBounds_toArray, List.set_cons_zero, List.set_cons_succ]
  refine wpAnyH_take (i := 7) (oi := _) (v := ?_) rfl (by kernel_rfl) (by kernel_rfl) (by kernel_rfl) (fun _ _ _ h => h) (Or.inl ⟨by kernel_rfl, ?_⟩) hHeld ?_
  rotate_left
  · intro w hSw; (try dsimp only at hSw); go_simp; (try with_reducible rfl)
  try simp only [List.getElem_toArray, List.getElem_cons_succ, List.getElem_cons_zero, Act.put, List.setIfInBounds_toArray, List.set_cons_zero, List.set_cons_succ]
  refine wpAnyH_ready (rs := [9]) (by kernel_rfl) (by simp) ?_
  refine AllReadyH.cons (o := _) rfl (fun K hK => ?_) ?_
  rotate_left
  · exact AllReadyH.nil
  go_simp
  refine (HMK.out _ _ (HN66.out.upd0 huy)).mono ?_
  rintro e wz ⟨vB, rfl, hvB, hu20⟩
  have HVB := Lib.hid hvB
  clear hvB
  have huz : Upd [] w6 wz := huy.trans0 hu20
  clear huy hu20 hHeld
  have huy := huz
  clear huz
  refine hK.out _ _ ?_ (fun hHeld => ?_)
  · exact HC.out _ (huy.mono (by simp))
  clear hK K
  try simp only [List.getElem_toArray, List.getElem_cons_succ, List.getElem_cons_zero, Act.put, List.setIfInBounds_toArray, List.set_cons_zero, List.set_cons_succ]
  refine wpAnyH_ready (rs := [11]) (by kernel_rfl) (by simp) ?_
  refine AllReadyH.cons (o := _) rfl (fun K hK => ?_) ?_
  rotate_left
  · exact AllReadyH.nil
  go_simp
  refine (HFIT.out _ _ _ HVB.out (HN8.out.upd0 huy)).mono ?_
  rintro e wz ⟨vF, rfl, hFv, hu20⟩
  have HVB := Lib.hid (HVB.out.upd0 hu20)
  obtain ⟨aF, lF, cF, dF, mF, eF, rfl, _, _⟩ := hFv.open
  have HF := Lib.hid hFv
  clear hFv
  have huz : Upd [] w6 wz := huy.trans0 hu20
  clear huy hu20 hHeld
  have huy := huz
  clear huz
  obtain ⟨x0, x1, x2, x3, x4, x5⟩ := hcA _ huy
  refine hK.out _ _ ?_ (fun hHeld => ?_)
  · exact HC.out _ (huy.mono (by simp))
  clear hK K
  try simp only [List.getElem_toArray, List.getElem_cons_succ, List.getElem_cons_zero, Act.put, List.setIfInBounds_toArray, List.set_cons_zero, List.set_cons_succ]
  refine wpAnyH_ready (rs := [12]) (by kernel_rfl) (by simp) ?_
  refine AllReadyH.cons (o := _) rfl (fun K hK => ?_) ?_
  rotate_left
  · exact AllReadyH.nil
  go_simp
  clear hHeld
  refine hK.out _ _ ?_ (fun hHeld => ?_)
  · refine HC.out _ ?_
    repeat (first | exact huy.mono (by simp) | (refine Upd.setCell ?_ (.inl (by simp)) _))
  clear hK K
  try simp only [List.getElem_toArray, List.getElem_cons_succ, List.getElem_cons_zero, Act.put, List.setIfInBounds_toArray, List.set_cons_zero, List.set_cons_succ]
  refine wpAnyH_take (i := 13) (oi := _) (v := ?_) rfl (by kernel_rfl) (by kernel_rfl) (by kernel_rfl) (fun _ _ _ h => h) (Or.inl ⟨by kernel_rfl, ?_⟩) hHeld ?_
  rotate_left
  · intro w hSw; (try dsimp only at hSw); go_simp; (try with_reducible rfl)
  try simp only [List.getElem_toArray, List.getElem_cons_succ, List.getElem_cons_zero, Act.put, List.setIfInBounds_toArray, List.set_cons_zero, List.set_cons_succ]
  refine wpAnyH_done (by kernel_rfl) ?_ _
  try simp only [List.getElem_toArray, List.getElem_cons_succ, List.getElem_cons_zero, Act.put, List.setIfInBounds_toArray, List.set_cons_zero, List.set_cons_succ]
  have HP := Lib.hid (NewR.set ⟨HRES.out.upd0 huy, by have := HS.out; omega⟩ (HUB.out.trans0 huy) HF.out)
  clear hcA huy
  generalize decide (P.num < 0) = pF at *
  have z0 := HP.out.row.cell 0
  have z1 := HP.out.row.cell 1
  have z2 := HP.out.row.cell 2
  go_wp2
  refine bodyPost_ret (v := .tuple #[.agg #[.bool pF, .slice aF lF cF, .slice dF mF eF], .int .i64 0]) (by simp [results, Tryz.results49, go_sem, z0, z1, z2]) rfl ?_
  exact ⟨_, rfl, HP.out.rv, HP.out.upd⟩

set_option maxHeartbeats 3200000 in
theorem powq_ne (u : Value) (x : Rat) (n : Nat) (w : World) (hu : RV w u x) (hx : QL x 67108864) (hn : n ≤ 9223372036854775807) (h1 : PowOK x.num.natAbs n) (h2 : PowOK x.den n) (hpl : (wds (x ^ n).den).length ≤ 1099511627776) (hx0 : x.num < 0) (hn2 : ¬ n % 2 = 1) :
    Calls Tryz.prog 49 #[u, .int .i64 (n : Int)] w (RRatE (x ^ n) 0 w) := by
  obtain ⟨a0, l0, c0, d0, m0, e0, rfl, hw0', hd0'⟩ := hu.open
  obtain ⟨p1, p2⟩ := pow_num x n
  obtain ⟨P, hP⟩ : ∃ r : Rat, r = x ^ n := ⟨_, rfl⟩
  rw [← hP] at p1 p2
  have HAX : Hid (∀ W, Upd [] w W → Calls Tryz.prog 19 #[.agg #[.bool (decide (x.num < 0)), .slice a0 l0 c0]] W (RNat x.num.natAbs W)) := fun W h => wabs_any _ _ W (hw0'.upd0 h)
  have HNX : Hid (∀ W, Upd [] w W → Calls Tryz.prog 17 #[.agg #[.bool (decide (x.num < 0)), .slice a0 l0 c0]] W (fun e w' => e = .returned (.bool (decide (x.num < 0))) ∧ Upd [] W w')) := fun W h => wneg_any _ _ W (hw0'.upd0 h)
  have HDX : Hid (∀ W, Upd [] w W → Calls Tryz.prog 36 #[.agg #[.bool (decide (x.num < 0)), .slice a0 l0 c0, .slice d0 m0 e0]] W (RNat x.den W)) := fun W h => den_any _ x W (hu.upd0 h)
  have HP1 : Hid (∀ W s, NV W s x.num.natAbs → Calls Tryz.prog 99 #[s, .int .i64 (n : Int)] W (RNatE (x.num.natAbs ^ n) 0 W)) := fun W s hs => pow_ok _ _ _ W hs (by have := hx.1; omega) hn h1
  have HP2 : Hid (∀ W s, NV W s x.den → Calls Tryz.prog 99 #[s, .int .i64 (n : Int)] W (RNatE P.den 0 W)) := fun W s hs => by rw [p2]; exact pow_ok _ _ _ W hs (by have := hx.2; omega) hn h2
  have HMK : Hid (∀ W s, NV W s (x.num.natAbs ^ n) → Calls Tryz.prog 35 #[.bool false, s] W (RWhole P.num W)) := fun W s hs => by
    have := wmake_any false _ _ W hs
    have e : (if false = true then -((x.num.natAbs ^ n : Nat) : Int) else ((x.num.natAbs ^ n : Nat) : Int)) = P.num := by
      rw [p1]; simp [hx0, hn2]
    rw [e] at this
    exact this
  have HFIT : Hid (∀ W s t, WV W s P.num → NV W t P.den → Calls Tryz.prog 83 #[s, t] W (RRat P W)) := fun W s t hs ht => by
    have := fit_q _ _ _ _ W hs ht P.den_nz P.reduced (by rw [hP]; exact hpl)
    rw [Rat.mkRat_self] at this
    exact this
  have hrm : ((n : Int).tmod 2 == 1) = false := by rw [Int.tmod_eq_emod_of_nonneg (by omega)]; simp; omega
  have hi2 : (n : Int) ≤ 9223372036854775807 := by omega
  have hi1 : (0 : Int) ≤ (n : Int) := by omega
  rw [decide_eq_true hx0] at HAX HNX HDX ⊢
  generalize x.num.natAbs ^ n = M at *
  rw [← hP]
  clear hu hx hn h1 h2 hpl hw0' hd0' p1 p2 hP hx0 hn2
  obtain ⟨w0, hw0⟩ : ∃ W, W = ((w.alloc (.cells #[.bool true, .slice a0 l0 c0, .slice d0 m0 e0] 53)).alloc (.cells #[.bool false, .slice none 0 0, .slice none 0 0] 53)) := ⟨_, rfl⟩
  obtain ⟨S, hS⟩ : ∃ s, s = w.heap.size := ⟨_, rfl⟩
  obtain ⟨hu0, r0, r1, hz0⟩ := rows2 w #[.bool true, .slice a0 l0 c0, .slice d0 m0 e0] #[.bool false, .slice none 0 0, .slice none 0 0] 53 53 w0 hw0 S hS
  have HU0 := Lib.hid hu0
  have HW0 := Lib.hid hw0
  have HS := Lib.hid hS
  have HZ0 := Lib.hid hz0
  have HR0 := Lib.hid r0
  have HR1 := Lib.hid r1
  have hp0 := r0.cell 0
  have hp1 := r0.cell 1
  have hp2 := r0.cell 2
  clear hw0 hS hu0 r0 r1 hz0
  go_enter Tryz.func49, Tryz.ntmps49
  go_wp2_with fail
  rw [← HW0.out]
  rw [← HS.out]
  refine (HAX.out _ HU0.out).mono ?_
  rintro e w1 ⟨v1, rfl, hn1, hu1⟩
  have HV1 := Lib.hid hu1
  have HN1 := Lib.hid hn1
  clear hu1 hn1 hp0 hp1 hp2
  go_wp2_with fail
  refine (HP1.out _ _ HN1.out).mono ?_
  rintro e w2 ⟨v2, rfl, hn2', hu2⟩
  obtain ⟨a6, l6, c6, rfl, hn2o⟩ := nvOpen hn2'
  obtain ⟨w3, hw3⟩ : ∃ W, W = w2.alloc (.cells #[.slice a6 l6 c6] 27) := ⟨_, rfl⟩
  obtain ⟨K, hK⟩ : ∃ s, s = w2.heap.size := ⟨_, rfl⟩
  obtain ⟨hu3, r6, hz3⟩ := rows1 w2 #[.slice a6 l6 c6] 27 w3 hw3 K hK
  have HV3 := Lib.hid (HV1.out.trans0 (hu2.trans0 hu3))
  have HN6 := Lib.hid (hn2o.upd0 hu3)
  have HR6 := Lib.hid r6
  have hc0 := (HR0.out.upd0 HV3.out).cell 0
  have hc1 := (HR0.out.upd0 HV3.out).cell 1
  have hc2 := (HR0.out.upd0 HV3.out).cell 2
  have HKS := Lib.hid (show S + 1 + 1 ≤ K by have h1 := HZ0.out; have h2 := HV1.out.size; have h3 := hu2.size; omega)
  rw [hw3] at hc0 hc1 hc2
  have HW3 := Lib.hid hw3
  have HK := Lib.hid hK
  clear hn2' hn2o hu2 hu3 r6 hz3 hw3 hK
  go_wp2_with fail
  rw [← HW3.out, ← HK.out]
  rw [← HW3.out] at hc0 hc1 hc2
  refine (HDX.out _ (HU0.out.trans0 HV3.out)).mono ?_
  rintro e w4 ⟨v4, rfl, hn4, hu4⟩
  have HN4 := Lib.hid hn4
  have HV4 := Lib.hid (HV3.out.trans0 hu4)
  have HN64 := Lib.hid (HN6.out.upd0 hu4)
  have HR64 := Lib.hid (HR6.out.upd0 hu4)
  clear hu4 hn4 hc0 hc1 hc2
  go_wp2_with fail
  refine (HP2.out _ _ HN4.out).mono ?_
  rintro e w5 ⟨v5, rfl, hn5, hu5⟩
  obtain ⟨a8, l8, c8, rfl, hn5o⟩ := nvOpen hn5
  obtain ⟨w6, hw6⟩ : ∃ W, W = w5.alloc (.cells #[.slice a8 l8 c8] 27) := ⟨_, rfl⟩
  obtain ⟨J, hJ⟩ : ∃ s, s = w5.heap.size := ⟨_, rfl⟩
  obtain ⟨hu6, r8, hz6⟩ := rows1 w5 #[.slice a8 l8 c8] 27 w6 hw6 J hJ
  have HVw6 := Lib.hid (HV4.out.trans0 (hu5.trans0 hu6))
  have HN8 := Lib.hid (hn5o.upd0 hu6)
  have HN66 := Lib.hid (HN64.out.upd0 (hu5.trans0 hu6))
  have HR66 := Lib.hid (HR64.out.upd0 (hu5.trans0 hu6))
  have HR8 := Lib.hid r8
  have hkk : K ≠ S + 1 ∧ J ≠ S + 1 := by have h0 := HKS.out; have h1 := HZ0.out; have h2 := HV4.out.size; have h3 := hu5.size; omega
  obtain ⟨hk1, hk2⟩ := hkk
  have HW6 := Lib.hid hw6
  have HJ := Lib.hid hJ
  have HUB := Lib.hid (HU0.out.trans0 HVw6.out)
  have HRES := Lib.hid (HR1.out.upd0 HVw6.out)
  clear hn5 hn5o hu5 hu6 r8 hz6 hw6 hJ
  go_wp2_with fail
  rw [← HW6.out, ← HJ.out]
  have hrf : Upd [] w6 w6 := Upd.refl _ _
  have HC : Hid (∀ W, Upd [S + 1] w6 W → W.cell? ⟨S, 0, none⟩ = some (.bool true) ∧ W.cell? ⟨S, 1, none⟩ = some (.slice a0 l0 c0) ∧ W.cell? ⟨S, 2, none⟩ = some (.slice d0 m0 e0) ∧ W.cell? ⟨K, 0, none⟩ = some (.slice a6 l6 c6) ∧ W.cell? ⟨J, 0, none⟩ = some (.slice a8 l8 c8) ∧ Upd [S + 1] w6 W) := fun W h =>
    ⟨((HR0.out.upd0 HVw6.out).upd h (by simp <;> omega)).cell 0, ((HR0.out.upd0 HVw6.out).upd h (by simp <;> omega)).cell 1, ((HR0.out.upd0 HVw6.out).upd h (by simp <;> omega)).cell 2, (HR66.out.upd h (by simp <;> omega)).cell 0, (HR8.out.upd h (by simp <;> omega)).cell 0, h⟩
  have hcA : ∀ W, Upd [] w6 W → W.cell? ⟨S + 1, 0, none⟩ = some (.bool false) ∧ W.cell? ⟨S + 1, 1, none⟩ = some (.slice none 0 0) ∧ W.cell? ⟨S + 1, 2, none⟩ = some (.slice none 0 0) ∧ W.frozen? ⟨S + 1, 0, none⟩ = false ∧ W.frozen? ⟨S + 1, 1, none⟩ = false ∧ W.frozen? ⟨S + 1, 2, none⟩ = false := fun W h => ⟨(HRES.out.upd0 h).cell 0, (HRES.out.upd0 h).cell 1, (HRES.out.upd0 h).cell 2, (HRES.out.upd0 h).frozen 0, (HRES.out.upd0 h).frozen 1, (HRES.out.upd0 h).frozen 2⟩
  refine wp_region_held_drew (S := (fun W => W.cell? ⟨S, 0, none⟩ = some (.bool true) ∧ W.cell? ⟨S, 1, none⟩ = some (.slice a0 l0 c0) ∧ W.cell? ⟨S, 2, none⟩ = some (.slice d0 m0 e0) ∧ W.cell? ⟨K, 0, none⟩ = some (.slice a6 l6 c6) ∧ W.cell? ⟨J, 0, none⟩ = some (.slice a8 l8 c8) ∧ Upd [S + 1] w6 W)) (by kernel_rfl) ?_ (fun hHeld => ?_)
  · exact HC.out _ (hrf.drew.mono (by simp))
  have huy := hrf.drew
  refine wpAnyH_take (i := 0) (oi := _) (v := ?_) rfl (by kernel_rfl) (by kernel_rfl) (by kernel_rfl) (fun _ _ _ h => h) (Or.inl ⟨by kernel_rfl, ?_⟩) hHeld ?_
  rotate_left
  · intro w hSw; (try dsimp only at hSw); go_simp; (try with_reducible rfl)
  try simp only [List.getElem_toArray, List.getElem_cons_succ, List.getElem_cons_zero, Act.put, List.setIfInBounds_toArray, List.set_cons_zero, List.set_cons_succ]
  refine wpAnyH_take (i := 1) (oi := _) (v := ?_) rfl (by kernel_rfl) (by kernel_rfl) (by kernel_rfl) (fun _ _ _ h => h) (Or.inl ⟨by kernel_rfl, ?_⟩) hHeld ?_
  rotate_left
  · intro w hSw; (try dsimp only at hSw); go_simp; (try with_reducible rfl)
  try simp only [List.getElem_toArray, List.getElem_cons_succ, List.getElem_cons_zero, Act.put, List.setIfInBounds_toArray, List.set_cons_zero, List.set_cons_succ]
  refine wpAnyH_take (i := 8) (oi := _) (v := ?_) rfl (by kernel_rfl) (by kernel_rfl) (by kernel_rfl) (fun _ _ _ h => h) (Or.inl ⟨by kernel_rfl, ?_⟩) hHeld ?_
  rotate_left
  · intro w hSw; (try dsimp only at hSw); go_simp; (try with_reducible rfl)
  try simp only [List.getElem_toArray, List.getElem_cons_succ, List.getElem_cons_zero, Act.put, List.setIfInBounds_toArray, List.set_cons_zero, List.set_cons_succ]
  refine wpAnyH_take (i := 10) (oi := _) (v := ?_) rfl (by kernel_rfl) (by kernel_rfl) (by kernel_rfl) (fun _ _ _ h => h) (Or.inl ⟨by kernel_rfl, ?_⟩) hHeld ?_
  rotate_left
  · intro w hSw; (try dsimp only at hSw); go_simp; (try with_reducible rfl)
  try simp only [List.getElem_toArray, List.getElem_cons_succ, List.getElem_cons_zero, Act.put, List.setIfInBounds_toArray, List.set_cons_zero, List.set_cons_succ]
  refine wpAnyH_ready (rs := [2]) (by kernel_rfl) (by simp) ?_
  refine AllReadyH.cons (o := _) rfl (fun K hK => ?_) ?_
  rotate_left
  · exact AllReadyH.nil
  go_simp
  refine (HNX.out _ (HU0.out.trans0 (HVw6.out.trans0 huy))).mono ?_
  rintro e wz ⟨rfl, hu20⟩

  have huz : Upd [] w6 wz := huy.trans0 hu20
  clear huy hu20 hHeld
  have huy := huz
  clear huz
  refine hK.out _ _ ?_ (fun hHeld => ?_)
  · exact HC.out _ (huy.mono (by simp))
  clear hK K
  try simp only [List.getElem_toArray, List.getElem_cons_succ, List.getElem_cons_zero, Act.put, List.setIfInBounds_toArray, List.set_cons_zero, List.set_cons_succ]
  refine wpAnyH_take (i := 3) (oi := _) (v := ?_) rfl (by kernel_rfl) (by kernel_rfl) (by kernel_rfl) (fun _ _ _ h => h) (Or.inl ⟨by kernel_rfl, ?_⟩) hHeld ?_
  rotate_left
  · intro w hSw; (try dsimp only at hSw); go_simp; (try with_reducible rfl)
  try simp only [List.getElem_toArray, List.getElem_cons_succ, List.getElem_cons_zero, Act.put, List.setIfInBounds_toArray, List.set_cons_zero, List.set_cons_succ]
  refine wpAnyH_take (i := 4) (oi := _) (v := ?_) rfl (by kernel_rfl) (by kernel_rfl) (by kernel_rfl) (fun _ _ _ h => h) (Or.inl ⟨by kernel_rfl, ?_⟩) hHeld ?_
  rotate_left
  · intro w hSw; (try dsimp only at hSw); go_simp; (try with_reducible rfl)
  try simp only [List.getElem_toArray, List.getElem_cons_succ, List.getElem_cons_zero, Act.put, List.setIfInBounds_toArray, List.set_cons_zero, List.set_cons_succ]
  refine wpAnyH_take (i := 5) (oi := _) (v := ?_) rfl (by kernel_rfl) (by kernel_rfl) (by kernel_rfl) (fun _ _ _ h => h) (Or.inl ⟨by kernel_rfl, ?_⟩) hHeld ?_
  rotate_left
  · intro w hSw; (try dsimp only at hSw); go_simp; (try with_reducible rfl)
  try simp only [List.getElem_toArray, List.getElem_cons_succ, List.getElem_cons_zero, Act.put, List.setIfInBounds_toArray, List.set_cons_zero, List.set_cons_succ]
  refine wpAnyH_take (i := 6) (oi := _) (v := ?_) rfl (by kernel_rfl) (by kernel_rfl) (by kernel_rfl) (fun _ _ _ h => h) (Or.inl ⟨by kernel_rfl, ?_⟩) hHeld ?_
  rotate_left
  · intro w hSw; (try dsimp only at hSw); go_simp; (try with_reducible rfl)
  try simp only [List.getElem_toArray, List.getElem_cons_succ, List.getElem_cons_zero, Act.put, List.setIfInBounds_toArray, List.set_cons_zero, List.set_cons_succ]
  refine wpAnyH_take (i := 7) (oi := _) (v := ?_) rfl (by kernel_rfl) (by kernel_rfl) (by kernel_rfl) (fun _ _ _ h => h) (Or.inl ⟨by kernel_rfl, ?_⟩) hHeld ?_
  rotate_left
  · intro w hSw; (try dsimp only at hSw); go_simp; (try with_reducible rfl)
  try simp only [List.getElem_toArray, List.getElem_cons_succ, List.getElem_cons_zero, Act.put, List.setIfInBounds_toArray, List.set_cons_zero, List.set_cons_succ]
  refine wpAnyH_ready (rs := [9]) (by kernel_rfl) (by simp) ?_
  refine AllReadyH.cons (o := _) rfl (fun K hK => ?_) ?_
  rotate_left
  · exact AllReadyH.nil
  go_simp
  refine (HMK.out _ _ (HN66.out.upd0 huy)).mono ?_
  rintro e wz ⟨vB, rfl, hvB, hu20⟩
  have HVB := Lib.hid hvB
  clear hvB
  have huz : Upd [] w6 wz := huy.trans0 hu20
  clear huy hu20 hHeld
  have huy := huz
  clear huz
  refine hK.out _ _ ?_ (fun hHeld => ?_)
  · exact HC.out _ (huy.mono (by simp))
  clear hK K
  try simp only [List.getElem_toArray, List.getElem_cons_succ, List.getElem_cons_zero, Act.put, List.setIfInBounds_toArray, List.set_cons_zero, List.set_cons_succ]
  refine wpAnyH_ready (rs := [11]) (by kernel_rfl) (by simp) ?_
  refine AllReadyH.cons (o := _) rfl (fun K hK => ?_) ?_
  rotate_left
  · exact AllReadyH.nil
  go_simp
  refine (HFIT.out _ _ _ HVB.out (HN8.out.upd0 huy)).mono ?_
  rintro e wz ⟨vF, rfl, hFv, hu20⟩
  have HVB := Lib.hid (HVB.out.upd0 hu20)
  obtain ⟨aF, lF, cF, dF, mF, eF, rfl, _, _⟩ := hFv.open
  have HF := Lib.hid hFv
  clear hFv
  have huz : Upd [] w6 wz := huy.trans0 hu20
  clear huy hu20 hHeld
  have huy := huz
  clear huz
  obtain ⟨x0, x1, x2, x3, x4, x5⟩ := hcA _ huy
  refine hK.out _ _ ?_ (fun hHeld => ?_)
  · exact HC.out _ (huy.mono (by simp))
  clear hK K
  try simp only [List.getElem_toArray, List.getElem_cons_succ, List.getElem_cons_zero, Act.put, List.setIfInBounds_toArray, List.set_cons_zero, List.set_cons_succ]
  refine wpAnyH_ready (rs := [12]) (by kernel_rfl) (by simp) ?_
  refine AllReadyH.cons (o := _) rfl (fun K hK => ?_) ?_
  rotate_left
  · exact AllReadyH.nil
  go_simp
  clear hHeld
  refine hK.out _ _ ?_ (fun hHeld => ?_)
  · refine HC.out _ ?_
    repeat (first | exact huy.mono (by simp) | (refine Upd.setCell ?_ (.inl (by simp)) _))
  clear hK K
  try simp only [List.getElem_toArray, List.getElem_cons_succ, List.getElem_cons_zero, Act.put, List.setIfInBounds_toArray, List.set_cons_zero, List.set_cons_succ]
  refine wpAnyH_take (i := 13) (oi := _) (v := ?_) rfl (by kernel_rfl) (by kernel_rfl) (by kernel_rfl) (fun _ _ _ h => h) (Or.inl ⟨by kernel_rfl, ?_⟩) hHeld ?_
  rotate_left
  · intro w hSw; (try dsimp only at hSw); go_simp; (try with_reducible rfl)
  try simp only [List.getElem_toArray, List.getElem_cons_succ, List.getElem_cons_zero, Act.put, List.setIfInBounds_toArray, List.set_cons_zero, List.set_cons_succ]
  refine wpAnyH_done (by kernel_rfl) ?_ _
  try simp only [List.getElem_toArray, List.getElem_cons_succ, List.getElem_cons_zero, Act.put, List.setIfInBounds_toArray, List.set_cons_zero, List.set_cons_succ]
  have HP := Lib.hid (NewR.set ⟨HRES.out.upd0 huy, by have := HS.out; omega⟩ (HUB.out.trans0 huy) HF.out)
  clear hcA huy
  generalize decide (P.num < 0) = pF at *
  have z0 := HP.out.row.cell 0
  have z1 := HP.out.row.cell 1
  have z2 := HP.out.row.cell 2
  go_wp2
  refine bodyPost_ret (v := .tuple #[.agg #[.bool pF, .slice aF lF cF, .slice dF mF eF], .int .i64 0]) (by simp [results, Tryz.results49, go_sem, z0, z1, z2]) rfl ?_
  exact ⟨_, rfl, HP.out.rv, HP.out.upd⟩

theorem powq_any (u : Value) (x : Rat) (n : Nat) (w : World) (hu : RV w u x) (hx : QL x 67108864) (hn : n ≤ 9223372036854775807) (h1 : PowOK x.num.natAbs n) (h2 : PowOK x.den n) (hpl : (wds (x ^ n).den).length ≤ 1099511627776) :
    Calls Tryz.prog 49 #[u, .int .i64 (n : Int)] w (RRatE (x ^ n) 0 w) := by
  by_cases h : x.num < 0
  · by_cases h2' : n % 2 = 1
    · exact powq_no u x n w hu hx hn h1 h2 hpl h h2'
    · exact powq_ne u x n w hu hx hn h1 h2 hpl h h2'
  · exact powq_pe u x n w hu hx hn h1 h2 hpl h
end Go.Proofs.YtoklmfmoblkfcaaGreatDoor
