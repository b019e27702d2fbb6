/- The contracts of flip.Ratio, Power (layer 10). -/
import Derived.Test.YtibfdldllaopdaaFlipR
namespace Go.Proofs.Ytibfdldllaopdaa
open Go.RowKit Go.Proofs.Tm
set_option linter.unusedVariables false
set_option maxRecDepth 20000

theorem FPost.mk {F : List Bool → Came} {p g : Nat} {l : List Bool} {i : Nat} {w w' : World} {x d : Bool} {k : Nat} (hF : F (l.drop i) = (x, k, d)) (ht : Tp w' p g l (i + k) d) (hu : Upd [p] w w') :
    FPost F p g l i w (.returned (.tuple #[.bool x, .int .i64 (if d then 8 else 0)])) w' := by
  unfold FPost; rw [hF]; exact ⟨rfl, ht, hu⟩
theorem FPost.out {F : List Bool → Came} {p g : Nat} {l : List Bool} {i : Nat} {w w' : World} {e : Ending} (h : FPost F p g l i w e w') : ∃ x k d, F (l.drop i) = (x, k, d) ∧ e = .returned (.tuple #[.bool x, .int .i64 (if d then 8 else 0)]) ∧ Tp w' p g l (i + k) d ∧ Upd [p] w w' := by
  obtain ⟨h1, h2, h3⟩ := h; exact ⟨_, _, _, rfl, h1, h2, h3⟩

set_option maxHeartbeats 1600000 in
theorem ratio_any (u v : Value) (P Q : Nat) (p g : Nat) (l : List Bool) (i : Nat) (w : World) (hu : NV w u P) (hv : NV w v Q) (hl : (wds Q).length ≤ 1000000) (hq : Q ≠ 0) (hpq : P ≤ Q) (ht : Tp w p g l i false) :
    Calls Try.prog 27 #[.pointer (some ⟨p, 0, none⟩), u, v] w (FPost (ratioF P Q) p g l i w) := by
  have hlp := Nat.le_trans (wds_mono hpq) hl
  obtain ⟨a, cap, rfl, _, _⟩ := hu.open
  obtain ⟨b, cap', rfl, _, _⟩ := hv.open
  obtain ⟨w8, hw8⟩ : ∃ W, W = (w.alloc (.cells #[.slice a (wds P).length cap] 56)).alloc (.cells #[.slice b (wds Q).length cap'] 56) := ⟨_, rfl⟩
  obtain ⟨k, hk⟩ : ∃ k, k = w.heap.size := ⟨_, rfl⟩
  obtain ⟨hu8, hbx⟩ := two_boxes w _ _ _ _ w8 hw8 k hk
  have HBX := Lib.hid hbx
  have HU8 := Lib.hid hu8
  have HT := Lib.hid (fun W (h : Upd [] w8 W) => (ht.upd0 hu8).upd0 h)
  have HP := Lib.hid (fun W (h : Upd [] w8 W) => (hu.upd0 hu8).upd0 h)
  have HQ := Lib.hid (fun W (h : Upd [] w8 W) => (hv.upd0 hu8).upd0 h)
  have HW8 := Lib.hid hw8
  have HK := Lib.hid hk
  have hrf : Upd [] w8 w8 := Upd.refl _ _
  have HRF := Lib.hid hrf
  have HIC : Hid (∀ W, Upd [] w8 W → Calls Try.prog 43 #[.agg #[.slice a (wds P).length cap], .agg #[.slice b (wds Q).length cap']] W fun e w' => e = .returned (.bool true) ∧ Upd [] W w') := fun W h => isChance_any _ _ P Q W (HP.out W h) (HQ.out W h) hl hq hpq
  have HCM : Hid (∀ W, Upd [] w8 W → Calls Try.prog 45 #[.agg #[.slice a (wds P).length cap], .agg #[.slice b (wds Q).length cap']] W fun e w' => e = .returned (.int .i64 (cmpN P Q)) ∧ Upd [] W w') := fun W h => cmp_any _ _ P Q W (HP.out W h) (HQ.out W h) (by omega)
  have HDG : Hid (∀ W, Upd [] w8 W → 0 < P → P < Q → Calls Try.prog 46 #[.pointer (some ⟨p, 0, none⟩), .agg #[.slice a (wds P).length cap], .agg #[.slice b (wds Q).length cap']] W (FPost (digF Q P) p g l i W)) := fun W h h1 h2 => digits_any _ _ P Q p g l i W (HP.out W h) (HQ.out W h) hl h1 h2 (HT.out W h)
  obtain ⟨b1, b2⟩ := hbx w8 (Upd.refl _ _)
  have HPQ := Lib.hid hpq
  have HQ0 := Lib.hid hq
  generalize (wds P).length = lp at *
  generalize (wds Q).length = lq at *
  rw [hk, hw8] at b1 b2
  clear hbx hu8 hu hv ht hw8 hk hq hpq hl hlp hrf
  go_enter Try.func27, Try.ntmps27
  go_wp2_with fail
  rw [← HW8.out]
  rw [← HK.out]
  refine (HIC.out _ HRF.out).mono ?_
  rintro e w9 ⟨rfl, hu9⟩
  have HU9 := Lib.hid hu9
  clear hu9 b1 b2
  obtain ⟨b1, b2⟩ := HBX.out _ HU9.out
  go_wp2_with fail
  refine (zero_any _ _ _ (HP.out _ HU9.out)).mono ?_
  rintro e w10 ⟨rfl, hu10⟩
  have HU10 := Lib.hid (HU9.out.trans0 hu10)
  clear hu10 b1 b2
  obtain ⟨b1, b2⟩ := HBX.out _ HU10.out
  by_cases h0 : P = 0
  · rw [decide_eq_true h0]
    have H0 := Lib.hid h0
    clear h0
    go_wp2
    go_ret2
    exact FPost.of (k := 0) (d := false) (by rw [ratioF, if_pos H0.out]) rfl (HT.out _ HU10.out) ((HU8.out.trans0 HU10.out).mono (by simp))
  · rw [decide_eq_false h0]
    have H0 := Lib.hid h0
    clear h0
    go_wp2_with fail
    refine (HCM.out _ HU10.out).mono ?_
    rintro e w11 ⟨rfl, hu11⟩
    have HU11 := Lib.hid (HU10.out.trans0 hu11)
    clear hu11 b1 b2
    obtain ⟨b1, b2⟩ := HBX.out _ HU11.out
    by_cases h1 : P = Q
    · have hc : (cmpN P Q == 0) = true := by unfold cmpN; simp [h1]
      have H1 := Lib.hid h1
      clear h1
      generalize cmpN P Q = cc at *
      go_wp2
      go_ret2
      exact FPost.of (k := 0) (d := false) (by rw [ratioF, if_neg H0.out, if_pos H1.out]) rfl (HT.out _ HU11.out) ((HU8.out.trans0 HU11.out).mono (by simp))
    · have hc : (cmpN P Q == 0) = false := by unfold cmpN; simp [h1]; split <;> omega
      have H1 := Lib.hid h1
      have hlt : P < Q := by have := HPQ.out; omega
      have HDD := Lib.hid (HDG.out _ HU11.out (by have := H0.out; omega) hlt)
      clear h1 hlt
      generalize cmpN P Q = cc at *
      go_wp2_with fail
      refine HDD.out.mono ?_
      intro e w12 hpo
      obtain ⟨x, kk, d, hF, rfl, ht12, hu12⟩ := hpo.out
      have HF := Lib.hid hF
      have HT12 := Lib.hid ht12
      have HU12 := Lib.hid (((HU8.out.trans0 HU11.out).mono (by simp)).trans hu12 (fun x hx => .inl hx))
      obtain ⟨f, hf⟩ : ∃ f : Int, f = (if d then 8 else 0) := ⟨_, rfl⟩
      rw [← hf]
      have HFF := Lib.hid hf
      clear hF ht12 hu12 hpo hf
      go_wp2
      go_ret2
      refine FPost.of (k := kk) (d := d) ?_ HFF.out HT12.out HU12.out
      rw [ratioF, if_neg H0.out, if_neg H1.out]; exact HF.out

theorem powF_same {P : Nat} (h : P ≠ 0) : ∀ k m, powF P P k m = (true, 0, false) := by
  intro k
  induction k with
  | zero => intro m; rfl
  | succ k ih => intro m; rw [powF, ratioF, if_neg h, if_pos rfl, thenF]; simp [ih, Came.more]

set_option maxHeartbeats 1600000 in
theorem power_any (u v : Value) (P Q : Nat) (n : Int) (p g : Nat) (l : List Bool) (i : Nat) (w : World) (hu : NV w u P) (hv : NV w v Q) (hl : (wds Q).length ≤ 1000000) (hq : Q ≠ 0) (hpq : P ≤ Q) (hn : n ≤ 1000000) (ht : Tp w p g l i false) :
    Calls Try.prog 30 #[.pointer (some ⟨p, 0, none⟩), u, v, .int .i64 n] w (FPost (powF P Q n.toNat) p g l i w) := by
  have hlp := Nat.le_trans (wds_mono hpq) hl
  obtain ⟨a, cap, rfl, _, _⟩ := hu.open
  obtain ⟨b, cap', rfl, _, _⟩ := hv.open
  obtain ⟨w8, hw8⟩ : ∃ W, W = (w.alloc (.cells #[.slice a (wds P).length cap] 56)).alloc (.cells #[.slice b (wds Q).length cap'] 56) := ⟨_, rfl⟩
  obtain ⟨k, hk⟩ : ∃ k, k = w.heap.size := ⟨_, rfl⟩
  obtain ⟨hu8, hbx⟩ := two_boxes w _ _ _ _ w8 hw8 k hk
  have hpk : p < k := by rw [hk]; exact ht.lt
  have hs8 : w8.heap.size = k + 1 + 1 := by rw [hw8, hk]; simp
  have ht8 := ht.upd0 hu8
  have HBX : Hid (∀ W, Upd [p] w8 W → W.cell? ⟨k, 0, none⟩ = some (.slice a (wds P).length cap) ∧ W.cell? ⟨k + 1, 0, none⟩ = some (.slice b (wds Q).length cap')) := fun W h =>
    ⟨(h.cell (p := ⟨k, 0, none⟩) (by show k < _; omega) (by simp; omega)).trans (hbx w8 (Upd.refl _ _)).1, (h.cell (p := ⟨k + 1, 0, none⟩) (by show k + 1 < _; omega) (by simp; omega)).trans (hbx w8 (Upd.refl _ _)).2⟩
  have HU8 := Lib.hid hu8
  have HT8 := Lib.hid ht8
  have HP : Hid (∀ W, Upd [p] w8 W → NV W (.agg #[.slice a (wds P).length cap]) P) := fun W h => (hu.upd0 hu8).updp ht8 h
  have HQ : Hid (∀ W, Upd [p] w8 W → NV W (.agg #[.slice b (wds Q).length cap']) Q) := fun W h => (hv.upd0 hu8).updp ht8 h
  have HW8 := Lib.hid hw8
  have HK := Lib.hid hk
  have hrf : Upd [p] w8 w8 := Upd.refl _ _
  have HRF := Lib.hid hrf
  have HIC : Hid (∀ W, Upd [p] w8 W → Calls Try.prog 43 #[.agg #[.slice a (wds P).length cap], .agg #[.slice b (wds Q).length cap']] W fun e w' => e = .returned (.bool true) ∧ Upd [] W w') := fun W h => isChance_any _ _ P Q W (HP.out W h) (HQ.out W h) hl hq hpq
  have HCM : Hid (∀ W, Upd [p] w8 W → Calls Try.prog 45 #[.agg #[.slice a (wds P).length cap], .agg #[.slice b (wds Q).length cap']] W fun e w' => e = .returned (.int .i64 (cmpN P Q)) ∧ Upd [] W w') := fun W h => cmp_any _ _ P Q W (HP.out W h) (HQ.out W h) (by omega)
  have HRT : Hid (∀ W j, Upd [p] w8 W → Tp W p g l j false → Calls Try.prog 27 #[.pointer (some ⟨p, 0, none⟩), .agg #[.slice a (wds P).length cap], .agg #[.slice b (wds Q).length cap']] W (FPost (ratioF P Q) p g l j W)) := fun W j h h1 => ratio_any _ _ P Q p g l j W (HP.out W h) (HQ.out W h) hl hq hpq h1
  have b12 := hbx w8 (Upd.refl _ _)
  obtain ⟨b1, b2⟩ := b12
  have HPQ := Lib.hid hpq
  have HQ0 := Lib.hid hq
  obtain ⟨N, hN⟩ : ∃ N, N = n.toNat := ⟨_, rfl⟩
  rw [← hN]
  generalize (wds P).length = lp at *
  generalize (wds Q).length = lq at *
  rw [hk, hw8] at b1 b2
  clear hbx hu8 hu hv ht ht8 hw8 hk hq hpq hl hlp hrf hs8
  go_enter Try.func30, Try.ntmps30
  go_wp2_with fail
  rw [← HW8.out]
  rw [← HK.out]
  refine (HIC.out _ HRF.out).mono ?_
  rintro e w9 ⟨rfl, hu9⟩
  have HU9 := Lib.hid (HRF.out.trans hu9 (fun x hx => nomatch hx))
  have HT9 := Lib.hid (HT8.out.upd0 hu9)
  clear hu9 b1 b2
  obtain ⟨b1, b2⟩ := HBX.out _ HU9.out
  go_wp2_with fail
  refine (HCM.out _ HU9.out).mono ?_
  rintro e w10 ⟨rfl, hu10⟩
  have HU10 := Lib.hid (HU9.out.trans hu10 (fun x hx => nomatch hx))
  have HT10 := Lib.hid (HT9.out.upd0 hu10)
  clear hu10 b1 b2
  by_cases h1 : P = Q
  · have hc : (cmpN P Q == 0) = true := by unfold cmpN; simp [h1]
    have H1 := Lib.hid h1
    clear h1
    generalize cmpN P Q = cc at *
    go_wp2
    go_ret2
    exact FPost.of (k := 0) (d := false) (by rw [← H1.out]; exact powF_same (by rw [H1.out]; exact HQ0.out) _ _) rfl HT10.out ((HU8.out.mono (by simp)).trans HU10.out (fun x hx => .inl hx))
  · have hc : (cmpN P Q == 0) = false := by unfold cmpN; simp [h1]; split <;> omega
    clear h1
    generalize cmpN P Q = cc at *
    go_wp2
    go_loopw [21] (fun v21 wr => ∃ j t : Nat, j ≤ N ∧ v21 = .int .i64 j ∧ Hid (Tp wr p g l (i + t) false ∧ Upd [p] w8 wr ∧ powF P Q N (l.drop i) = Came.more t (powF P Q (N - j) (l.drop (i + t))))) (fun v21 _ => N - (intOf v21).toNat)
    case atStart => exact ⟨0, 0, Nat.zero_le _, rfl, HT10.out, HU10.out, by simp [Came.more]⟩
    case round =>
      obtain ⟨j, t, hj, rfl, HI⟩ := hrel
      by_cases hlt : j < N
      · have hjk : (j : Int) < n := by omega
        obtain ⟨m, hm⟩ : ∃ m, N - j = m + 1 := ⟨N - j - 1, by omega⟩
        have hm2 : N - (j + 1) = m := by omega
        have HE := HI.out.2.2
        rw [hm, powF] at HE
        have HM2 := Lib.hid hm2
        have HEE := Lib.hid HE
        clear hm hm2 HE
        obtain ⟨b1, b2⟩ := HBX.out _ HI.out.2.1
        have HR := Lib.hid (HRT.out wr (i + t) HI.out.2.1 HI.out.1)
        go_wp2_with fail
        refine HR.out.mono ?_
        intro e w12 hpo
        obtain ⟨x, kk, d, hF, rfl, ht12, hu12⟩ := hpo.out
        have HF := Lib.hid hF
        have HT12 := Lib.hid ht12
        have HU12 := Lib.hid (HI.out.2.1.trans hu12 (fun x hx => .inl hx))
        have hyes := (Pre.ratio P Q).yes (l.drop (i + t))
        rw [hF] at hyes
        cases x with
        | true =>
          have hd : d = false := hyes rfl
          subst hd
          clear hF ht12 hu12 hpo hyes b1 b2
          go_wp2
          go_roundw
          case rel =>
            refine ⟨j + 1, t + kk, by omega, by go_num, by rw [← Nat.add_assoc]; exact HT12.out, HU12.out, ?_⟩
            rw [HEE.out, HF.out, HM2.out]
            unfold thenF
            rw [if_pos rfl, more_more, List.drop_drop, Nat.add_assoc]
          case measure => simp [intOf]; omega
        | false =>
          obtain ⟨f, hf⟩ : ∃ f : Int, f = (if d then 8 else 0) := ⟨_, rfl⟩
          rw [← hf]
          have HFF := Lib.hid hf
          clear hF ht12 hu12 hpo hyes b1 b2 hf
          go_wp2
          go_ret2
          refine FPost.of (k := t + kk) (d := d) ?_ HFF.out (by rw [← Nat.add_assoc]; exact HT12.out) ((HU8.out.mono (by simp)).trans HU12.out (fun x hx => .inl hx))
          rw [HEE.out, HF.out]
          unfold thenF
          rw [if_neg (by simp)]
          rfl
      · obtain rfl : j = N := by omega
        have hjk : decide ((j : Int) < n) = false := by simp; omega
        go_wp2
        go_ret2
        refine FPost.of (k := t) (d := false) ?_ rfl HI.out.1 ((HU8.out.mono (by simp)).trans HI.out.2.1 (fun x hx => .inl hx))
        rw [HI.out.2.2, Nat.sub_self]; rfl
end Go.Proofs.Ytibfdldllaopdaa
