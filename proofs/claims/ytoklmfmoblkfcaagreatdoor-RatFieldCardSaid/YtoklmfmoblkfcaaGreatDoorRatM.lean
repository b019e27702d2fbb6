/- Fractions (layer 7): Mul. -/
import Derived.Test.YtoklmfmoblkfcaaGreatDoorRatL
import Derived.Test.YtoklmfmoblkfcaaGreatDoorAc
import Derived.Test.YtoklmfmoblkfcaaGreatDoorRatF
import Derived.Test.YtoklmfmoblkfcaaGreatDoorRatD
import Derived.Test.YtoklmfmoblkfcaaGreatDoorRatT
import Derived.Test.YtoklmfmoblkfcaaGreatDoorNatGcd
namespace Go.Proofs.YtoklmfmoblkfcaaGreatDoor
open Go.RowKit Go.Proofs.Tm
set_option linter.unusedVariables false
set_option linter.unusedSimpArgs false
set_option maxRecDepth 20000

set_option maxHeartbeats 3200000 in
theorem rmulq_any (u v : Value) (x y : Rat) (w : World) (hu : RV w u x) (hv : RV w v y) (hx : QL x 67108864) (hy : QL y 67108864) :
    Calls Tryz.prog 46 #[u, v] w (RRat (x * y) w) := by
  obtain ⟨a0, l0, c0, d0, m0, e0, rfl, hw0', hd0'⟩ := hu.open
  obtain ⟨a1, l1, c1, d1, m1, e1, rfl, hw1', hd1'⟩ := hv.open
  obtain ⟨g, hg⟩ : ∃ g, g = Nat.gcd x.num.natAbs y.den := ⟨_, rfl⟩
  obtain ⟨h, hh⟩ : ∃ h, h = Nat.gcd y.num.natAbs x.den := ⟨_, rfl⟩
  obtain ⟨m1', m2', gp, hp, q1, q2, q3, q4⟩ := mul_num x y g h hg hh
  have lx := over_len hx.1 gp q1
  have ly := over_len hy.1 hp q2
  have HAX : Hid (∀ W, Upd [] w W → Calls Tryz.prog 19 #[.agg #[.bool (decide (x.num < 0)), .slice a0 l0 c0]] W (RNat x.num.natAbs W)) := fun W h => wabs_any _ _ W (hw0'.upd0 h)
  have HAY : Hid (∀ W, Upd [] w W → Calls Tryz.prog 19 #[.agg #[.bool (decide (y.num < 0)), .slice a1 l1 c1]] W (RNat y.num.natAbs W)) := fun W h => wabs_any _ _ W (hw1'.upd0 h)
  have HDX : Hid (∀ W, Upd [] w W → Calls Tryz.prog 36 #[.agg #[.bool (decide (x.num < 0)), .slice a0 l0 c0, .slice d0 m0 e0]] W (RNat x.den W)) := fun W h => den_any _ x W (hu.upd0 h)
  have HDY : Hid (∀ W, Upd [] w W → Calls Tryz.prog 36 #[.agg #[.bool (decide (y.num < 0)), .slice a1 l1 c1, .slice d1 m1 e1]] W (RNat y.den W)) := fun W h => den_any _ y W (hv.upd0 h)
  have HG : Hid (∀ W s t, NV W s x.num.natAbs → NV W t y.den → Calls Tryz.prog 37 #[s, t] W (RNat g W)) := fun W s t hs ht => by rw [hg]; exact gcd_any _ _ _ _ W hs ht (by have := hx.1; omega) (by have := hy.2; omega)
  have HH : Hid (∀ W s t, NV W s y.num.natAbs → NV W t x.den → Calls Tryz.prog 37 #[s, t] W (RNat h W)) := fun W s t hs ht => by rw [hh]; exact gcd_any _ _ _ _ W hs ht (by have := hy.1; omega) (by have := hx.2; omega)
  have HOX : Hid (∀ W t, Upd [] w W → NV W t g → Calls Tryz.prog 91 #[.agg #[.bool (decide (x.num < 0)), .slice a0 l0 c0], t] W (RWhole (x.num / (g : Int)) W)) := fun W t hq ht => over_any _ _ _ _ W (hw0'.upd0 hq) ht gp q1 (by have := hx.1; omega)
  have HOY : Hid (∀ W t, Upd [] w W → NV W t h → Calls Tryz.prog 91 #[.agg #[.bool (decide (y.num < 0)), .slice a1 l1 c1], t] W (RWhole (y.num / (h : Int)) W)) := fun W t hq ht => over_any _ _ _ _ W (hw1'.upd0 hq) ht hp q2 (by have := hy.1; omega)
  have HWM : Hid (∀ W s t, WV W s (x.num / (g : Int)) → WV W t (y.num / (h : Int)) → Calls Tryz.prog 97 #[s, t] W (RWhole ((x * y).num) W)) := fun W s t hs ht => by rw [m1']; exact wmul_any _ _ _ _ W hs ht (by omega) (by omega)
  have HBX : Hid (∀ W s t, NV W s x.den → NV W t h → Calls Tryz.prog 82 #[s, t] W (RNat (x.den / h) W)) := fun W s t hs ht => by_any _ _ _ _ W hs ht hp (by have := hx.2; omega)
  have HBY : Hid (∀ W s t, NV W s y.den → NV W t g → Calls Tryz.prog 82 #[s, t] W (RNat (y.den / g) W)) := fun W s t hs ht => by_any _ _ _ _ W hs ht gp (by have := hy.2; omega)
  have HNM : Hid (∀ W s t, NV W s (x.den / h) → NV W t (y.den / g) → Calls Tryz.prog 92 #[s, t] W (RNat ((x * y).den) W)) := fun W s t hs ht => by
    rw [m2']
    exact mul_any _ _ _ _ W hs ht (by have := wds_length_le (Nat.div_le_self x.den h); have := hx.2; omega) (by have := wds_length_le (Nat.div_le_self y.den g); have := hy.2; omega)
  have hql := ql_mul hx hy
  have HFIT : Hid (∀ W s t, WV W s (x * y).num → NV W t (x * y).den → Calls Tryz.prog 83 #[s, t] W (RRat (x * y) W)) := fun W s t hs ht => by
    have := fit_q _ _ _ _ W hs ht (x * y).den_nz (x * y).reduced (by have := hql.2; omega)
    rw [Rat.mkRat_self] at this
    exact this
  generalize decide (x.num < 0) = b0 at *
  generalize decide (y.num < 0) = b1 at *
  generalize x.num / (g : Int) = xg at *
  generalize y.num / (h : Int) = yh at *
  clear hu hv hx hy hw0' hd0' hw1' hd1' hg hh m1' m2' gp hp q1 q2 q3 q4 lx ly hql
  obtain ⟨w0, hw0⟩ : ∃ W, W = (((w.alloc (.cells #[.bool b0, .slice a0 l0 c0, .slice d0 m0 e0] 53)).alloc (.cells #[.bool b1, .slice a1 l1 c1, .slice d1 m1 e1] 53)).alloc (.cells #[.bool false, .slice none 0 0, .slice none 0 0] 53)) := ⟨_, rfl⟩
  obtain ⟨S, hS⟩ : ∃ s, s = w.heap.size := ⟨_, rfl⟩
  obtain ⟨hu0, r0, r1, r2, hz0⟩ := rows3 w #[.bool b0, .slice a0 l0 c0, .slice d0 m0 e0] #[.bool b1, .slice a1 l1 c1, .slice d1 m1 e1] #[.bool false, .slice none 0 0, .slice none 0 0] 53 53 53 w0 hw0 S hS
  have HU0 := Lib.hid hu0
  have HW0 := Lib.hid hw0
  have HS := Lib.hid hS
  have HZ0 := Lib.hid hz0
  have HR0 := Lib.hid r0
  have HR1 := Lib.hid r1
  have HR2 := Lib.hid r2
  clear hw0 hS hu0 r0 r1 r2 hz0
  go_enter Tryz.func46, Tryz.ntmps46
  go_wp2_with fail
  rw [← HW0.out]
  rw [← HS.out]
  have hrf : Upd [] w0 w0 := Upd.refl _ _
  have HC : Hid (∀ W, Upd [] w0 W → W.cell? ⟨S, 0, none⟩ = some (.bool b0) ∧ W.cell? ⟨S, 1, none⟩ = some (.slice a0 l0 c0) ∧ W.cell? ⟨S, 2, none⟩ = some (.slice d0 m0 e0) ∧ W.cell? ⟨S + 1, 0, none⟩ = some (.bool b1) ∧ W.cell? ⟨S + 1, 1, none⟩ = some (.slice a1 l1 c1) ∧ W.cell? ⟨S + 1, 2, none⟩ = some (.slice d1 m1 e1) ∧ Upd [] w0 W) := fun W h =>
    ⟨(HR0.out.upd h (by simp <;> omega)).cell 0, (HR0.out.upd h (by simp <;> omega)).cell 1, (HR0.out.upd h (by simp <;> omega)).cell 2, (HR1.out.upd h (by simp <;> omega)).cell 0, (HR1.out.upd h (by simp <;> omega)).cell 1, (HR1.out.upd h (by simp <;> omega)).cell 2, h⟩
  go_cut [5] (fun v5 wx => ∃ (kQ : Nat) (sQ : Option Addr) (lQ cQ : Nat), v5 = .pointer (some ⟨kQ, 0, none⟩) ∧ Hid (NewN w0 (g) wx kQ sQ lQ cQ))
  case first =>
    go_region_held3 (fun W => W.cell? ⟨S, 0, none⟩ = some (.bool b0) ∧ W.cell? ⟨S, 1, none⟩ = some (.slice a0 l0 c0) ∧ W.cell? ⟨S, 2, none⟩ = some (.slice d0 m0 e0) ∧ W.cell? ⟨S + 1, 0, none⟩ = some (.bool b1) ∧ W.cell? ⟨S + 1, 1, none⟩ = some (.slice a1 l1 c1) ∧ W.cell? ⟨S + 1, 2, none⟩ = some (.slice d1 m1 e1) ∧ Upd [] w0 W)
      ((refine HC.out _ ?_; repeat (first | (with_reducible refine Upd.setCell ?_ (.inr hrk.lo) _) | (with_reducible refine Upd.setCell ?_ (.inr huy.size) _) | (with_reducible exact huy) | (with_reducible exact hrf) | (with_reducible apply Upd.drew) | (with_reducible apply Upd.alloc))))
      (first
        | (go_at_call 19; (with_reducible refine (HAX.out _ (HU0.out.trans0 (by repeat (first | exact huy | exact hrf | apply Upd.drew | apply Upd.alloc)))).mono ?_); rintro e wz ⟨vA, rfl, hnA, hu20⟩;  have HNA := Lib.hid hnA; clear hnA; have huz : Upd [] w0 wz := Upd.trans0 (by repeat (first | exact huy | exact hrf | apply Upd.drew | apply Upd.alloc)) hu20; (try have hrk := NewRow.upd hrk hu20); (try have hrk := NewRow.of (by first | exact huy | exact hrf.drew | exact hrf) hu20); (try have hrk := NewRow.of0 hrf hu20); (try clear huy); clear hu20; have huy := huz; clear huz)
        | (go_at_call 36; (with_reducible refine (HDY.out _ (HU0.out.trans0 (by repeat (first | exact huy | exact hrf | apply Upd.drew | apply Upd.alloc)))).mono ?_); rintro e wz ⟨vB, rfl, hnB, hu20⟩; have HNA := Lib.hid (HNA.out.upd0 (by first | exact hu20 | exact Upd.al hu20)); have HNB := Lib.hid hnB; clear hnB; have huz : Upd [] w0 wz := Upd.trans0 (by repeat (first | exact huy | exact hrf | apply Upd.drew | apply Upd.alloc)) hu20; (try have hrk := NewRow.upd hrk hu20); (try have hrk := NewRow.of (by first | exact huy | exact hrf.drew | exact hrf) hu20); (try have hrk := NewRow.of0 hrf hu20); (try clear huy); clear hu20; have huy := huz; clear huz)
        | (go_at_call 37; (with_reducible refine (HG.out _ _ _ (by first | exact HNA.out | exact HNA.out.upd0 ((Upd.refl _ _).alloc _)) (by first | exact HNB.out | exact HNB.out.upd0 ((Upd.refl _ _).alloc _))).mono ?_); rintro e wz ⟨vG, rfl, hGv, hu20⟩; have HNA := Lib.hid (HNA.out.upd0 (by first | exact hu20 | exact Upd.al hu20)); have HNB := Lib.hid (HNB.out.upd0 (by first | exact hu20 | exact Upd.al hu20)); obtain ⟨aG, lG, cG, rfl, hGvo⟩ := nvOpen hGv; have HG := Lib.hid hGvo; clear hGv hGvo; have huz : Upd [] w0 wz := Upd.trans0 (by repeat (first | exact huy | exact hrf | apply Upd.drew | apply Upd.alloc)) hu20; (try have hrk := NewRow.upd hrk hu20); (try have hrk := NewRow.of (by first | exact huy | exact hrf.drew | exact hrf) hu20); (try have hrk := NewRow.of0 hrf hu20); (try clear huy); clear hu20; have huy := huz; clear huz; (try have y0 := hrk.row.cell 0); (try have g0 := hrk.row.frozen 0)))
    all_goals
      go_wp2_with fail
      go_meet
      first
        | exact ⟨_, _, _, _, rfl, Lib.hid (NewN.set hrk huy HG.out)⟩
        | exact ⟨_, _, _, _, rfl, Lib.hid (NewN.new huy HG.out)⟩
  case rest =>
    obtain ⟨k5, a5, l5, c5, rfl, HK5⟩ := hcut
    obtain ⟨w1, hw1⟩ : ∃ W, W = wc := ⟨_, rfl⟩
    rw [← hw1] at HK5 ⊢
    have hUw1 : Upd [] w0 w1 := HK5.out.upd
    have hlo5 := HK5.out.lo
    clear hrf HC hw1
    have HVw1 := Lib.hid hUw1
    have HN5 := Lib.hid HK5.out.nv
    have hz0 := HZ0.out
    go_wp2_with fail
    have hrf : Upd [] w1 w1 := Upd.refl _ _
    have HC : Hid (∀ W, Upd [] w1 W → W.cell? ⟨S, 0, none⟩ = some (.bool b0) ∧ W.cell? ⟨S, 1, none⟩ = some (.slice a0 l0 c0) ∧ W.cell? ⟨S, 2, none⟩ = some (.slice d0 m0 e0) ∧ W.cell? ⟨S + 1, 0, none⟩ = some (.bool b1) ∧ W.cell? ⟨S + 1, 1, none⟩ = some (.slice a1 l1 c1) ∧ W.cell? ⟨S + 1, 2, none⟩ = some (.slice d1 m1 e1) ∧ Upd [] w1 W) := fun W h =>
      ⟨((HR0.out.upd0 HVw1.out).upd h (by simp <;> omega)).cell 0, ((HR0.out.upd0 HVw1.out).upd h (by simp <;> omega)).cell 1, ((HR0.out.upd0 HVw1.out).upd h (by simp <;> omega)).cell 2, ((HR1.out.upd0 HVw1.out).upd h (by simp <;> omega)).cell 0, ((HR1.out.upd0 HVw1.out).upd h (by simp <;> omega)).cell 1, ((HR1.out.upd0 HVw1.out).upd h (by simp <;> omega)).cell 2, h⟩
    go_cut [6] (fun v6 wx => ∃ (kQ : Nat) (sQ : Option Addr) (lQ cQ : Nat), v6 = .pointer (some ⟨kQ, 0, none⟩) ∧ Hid (NewN w1 (h) wx kQ sQ lQ cQ))
    case first =>
      go_region_held3 (fun W => W.cell? ⟨S, 0, none⟩ = some (.bool b0) ∧ W.cell? ⟨S, 1, none⟩ = some (.slice a0 l0 c0) ∧ W.cell? ⟨S, 2, none⟩ = some (.slice d0 m0 e0) ∧ W.cell? ⟨S + 1, 0, none⟩ = some (.bool b1) ∧ W.cell? ⟨S + 1, 1, none⟩ = some (.slice a1 l1 c1) ∧ W.cell? ⟨S + 1, 2, none⟩ = some (.slice d1 m1 e1) ∧ Upd [] w1 W)
        ((refine HC.out _ ?_; repeat (first | (with_reducible refine Upd.setCell ?_ (.inr hrk.lo) _) | (with_reducible refine Upd.setCell ?_ (.inr huy.size) _) | (with_reducible exact huy) | (with_reducible exact hrf) | (with_reducible apply Upd.drew) | (with_reducible apply Upd.alloc))))
        (first
          | (go_at_call 19; (with_reducible refine (HAY.out _ (HU0.out.trans0 (HVw1.out.trans0 (by repeat (first | exact huy | exact hrf | apply Upd.drew | apply Upd.alloc))))).mono ?_); rintro e wz ⟨vA, rfl, hnA, hu20⟩;  have HNA := Lib.hid hnA; clear hnA; have huz : Upd [] w1 wz := Upd.trans0 (by repeat (first | exact huy | exact hrf | apply Upd.drew | apply Upd.alloc)) hu20; (try have hrk := NewRow.upd hrk hu20); (try have hrk := NewRow.of (by first | exact huy | exact hrf.drew | exact hrf) hu20); (try have hrk := NewRow.of0 hrf hu20); (try clear huy); clear hu20; have huy := huz; clear huz)
          | (go_at_call 36; (with_reducible refine (HDX.out _ (HU0.out.trans0 (HVw1.out.trans0 (by repeat (first | exact huy | exact hrf | apply Upd.drew | apply Upd.alloc))))).mono ?_); rintro e wz ⟨vB, rfl, hnB, hu20⟩; have HNA := Lib.hid (HNA.out.upd0 (by first | exact hu20 | exact Upd.al hu20)); have HNB := Lib.hid hnB; clear hnB; have huz : Upd [] w1 wz := Upd.trans0 (by repeat (first | exact huy | exact hrf | apply Upd.drew | apply Upd.alloc)) hu20; (try have hrk := NewRow.upd hrk hu20); (try have hrk := NewRow.of (by first | exact huy | exact hrf.drew | exact hrf) hu20); (try have hrk := NewRow.of0 hrf hu20); (try clear huy); clear hu20; have huy := huz; clear huz)
          | (go_at_call 37; (with_reducible refine (HH.out _ _ _ (by first | exact HNA.out | exact HNA.out.upd0 ((Upd.refl _ _).alloc _)) (by first | exact HNB.out | exact HNB.out.upd0 ((Upd.refl _ _).alloc _))).mono ?_); rintro e wz ⟨vG, rfl, hGv, hu20⟩; have HNA := Lib.hid (HNA.out.upd0 (by first | exact hu20 | exact Upd.al hu20)); have HNB := Lib.hid (HNB.out.upd0 (by first | exact hu20 | exact Upd.al hu20)); obtain ⟨aG, lG, cG, rfl, hGvo⟩ := nvOpen hGv; have HG := Lib.hid hGvo; clear hGv hGvo; have huz : Upd [] w1 wz := Upd.trans0 (by repeat (first | exact huy | exact hrf | apply Upd.drew | apply Upd.alloc)) hu20; (try have hrk := NewRow.upd hrk hu20); (try have hrk := NewRow.of (by first | exact huy | exact hrf.drew | exact hrf) hu20); (try have hrk := NewRow.of0 hrf hu20); (try clear huy); clear hu20; have huy := huz; clear huz; (try have y0 := hrk.row.cell 0); (try have g0 := hrk.row.frozen 0)))
      all_goals
        go_wp2_with fail
        go_meet
        first
          | exact ⟨_, _, _, _, rfl, Lib.hid (NewN.set hrk huy HG.out)⟩
          | exact ⟨_, _, _, _, rfl, Lib.hid (NewN.new huy HG.out)⟩
    case rest =>
      obtain ⟨k6, a6, l6, c6, rfl, HK6⟩ := hcut
      obtain ⟨w2, hw2⟩ : ∃ W, W = wc := ⟨_, rfl⟩
      rw [← hw2] at HK6 ⊢
      have hUw2 : Upd [] w1 w2 := HK6.out.upd
      have hlo6 := HK6.out.lo
      clear hrf HC hw2
      have HVw2 := Lib.hid (hUw1.trans0 hUw2)
      have HN5' := Lib.hid (HN5.out.upd0 hUw2)
      have HN6 := Lib.hid HK6.out.nv
      go_wp2_with fail
      have hrf : Upd [] w2 w2 := Upd.refl _ _
      have HC : Hid (∀ W, Upd [] w2 W → W.cell? ⟨S, 0, none⟩ = some (.bool b0) ∧ W.cell? ⟨S, 1, none⟩ = some (.slice a0 l0 c0) ∧ W.cell? ⟨S, 2, none⟩ = some (.slice d0 m0 e0) ∧ W.cell? ⟨S + 1, 0, none⟩ = some (.bool b1) ∧ W.cell? ⟨S + 1, 1, none⟩ = some (.slice a1 l1 c1) ∧ W.cell? ⟨S + 1, 2, none⟩ = some (.slice d1 m1 e1) ∧ W.cell? ⟨k5, 0, none⟩ = some (.slice a5 l5 c5) ∧ W.cell? ⟨k6, 0, none⟩ = some (.slice a6 l6 c6) ∧ Upd [] w2 W) := fun W h =>
        ⟨((HR0.out.upd0 HVw2.out).upd h (by simp <;> omega)).cell 0, ((HR0.out.upd0 HVw2.out).upd h (by simp <;> omega)).cell 1, ((HR0.out.upd0 HVw2.out).upd h (by simp <;> omega)).cell 2, ((HR1.out.upd0 HVw2.out).upd h (by simp <;> omega)).cell 0, ((HR1.out.upd0 HVw2.out).upd h (by simp <;> omega)).cell 1, ((HR1.out.upd0 HVw2.out).upd h (by simp <;> omega)).cell 2, ((HK5.out.row.upd0 hUw2).upd h (by simp <;> omega)).cell 0, (HK6.out.row.upd h (by simp <;> omega)).cell 0, h⟩
      go_cut [7] (fun v7 wx => ∃ (kQ : Nat) (bQ : Bool) (sQ : Option Addr) (lQ cQ : Nat), v7 = .pointer (some ⟨kQ, 0, none⟩) ∧ Hid (NewW w2 ((x * y).num) wx kQ bQ sQ lQ cQ))
      case first =>
        go_region_held3 (fun W => W.cell? ⟨S, 0, none⟩ = some (.bool b0) ∧ W.cell? ⟨S, 1, none⟩ = some (.slice a0 l0 c0) ∧ W.cell? ⟨S, 2, none⟩ = some (.slice d0 m0 e0) ∧ W.cell? ⟨S + 1, 0, none⟩ = some (.bool b1) ∧ W.cell? ⟨S + 1, 1, none⟩ = some (.slice a1 l1 c1) ∧ W.cell? ⟨S + 1, 2, none⟩ = some (.slice d1 m1 e1) ∧ W.cell? ⟨k5, 0, none⟩ = some (.slice a5 l5 c5) ∧ W.cell? ⟨k6, 0, none⟩ = some (.slice a6 l6 c6) ∧ Upd [] w2 W)
          ((refine HC.out _ ?_; repeat (first | (with_reducible refine Upd.setCell ?_ (.inr hrk.lo) _) | (with_reducible refine Upd.setCell ?_ (.inr huy.size) _) | (with_reducible exact huy) | (with_reducible exact hrf) | (with_reducible apply Upd.drew) | (with_reducible apply Upd.alloc))))
          (first
            | (go_at_call 91; (with_reducible refine (HOX.out _ _ (HU0.out.trans0 (HVw2.out.trans0 (by repeat (first | exact huy | exact hrf | apply Upd.drew | apply Upd.alloc)))) (HN5'.out.upd0 (by repeat (first | exact huy | exact hrf | apply Upd.drew | apply Upd.alloc)))).mono ?_); rintro e wz ⟨vA, rfl, hvA, hu20⟩;  have HVA := Lib.hid hvA; clear hvA; have huz : Upd [] w2 wz := Upd.trans0 (by repeat (first | exact huy | exact hrf | apply Upd.drew | apply Upd.alloc)) hu20; (try have hrk := NewRow.upd hrk hu20); (try have hrk := NewRow.of (by first | exact huy | exact hrf.drew | exact hrf) hu20); (try have hrk := NewRow.of0 hrf hu20); (try clear huy); clear hu20; have huy := huz; clear huz)
            | (go_at_call 91; (with_reducible refine (HOY.out _ _ (HU0.out.trans0 (HVw2.out.trans0 (by repeat (first | exact huy | exact hrf | apply Upd.drew | apply Upd.alloc)))) (HN6.out.upd0 (by repeat (first | exact huy | exact hrf | apply Upd.drew | apply Upd.alloc)))).mono ?_); rintro e wz ⟨vB, rfl, hvB, hu20⟩; have HVA := Lib.hid (HVA.out.upd0 (by first | exact hu20 | exact Upd.al hu20)); have HVB := Lib.hid hvB; clear hvB; have huz : Upd [] w2 wz := Upd.trans0 (by repeat (first | exact huy | exact hrf | apply Upd.drew | apply Upd.alloc)) hu20; (try have hrk := NewRow.upd hrk hu20); (try have hrk := NewRow.of (by first | exact huy | exact hrf.drew | exact hrf) hu20); (try have hrk := NewRow.of0 hrf hu20); (try clear huy); clear hu20; have huy := huz; clear huz)
            | (go_at_call 97; (with_reducible refine (HWM.out _ _ _ (by first | exact HVA.out | exact HVA.out.upd0 ((Upd.refl _ _).alloc _)) (by first | exact HVB.out | exact HVB.out.upd0 ((Upd.refl _ _).alloc _))).mono ?_); rintro e wz ⟨vG, rfl, hGv, hu20⟩; have HVA := Lib.hid (HVA.out.upd0 (by first | exact hu20 | exact Upd.al hu20)); have HVB := Lib.hid (HVB.out.upd0 (by first | exact hu20 | exact Upd.al hu20)); obtain ⟨aG, lG, cG, rfl, _⟩ := hGv.open; have HG := Lib.hid hGv; clear hGv; have huz : Upd [] w2 wz := Upd.trans0 (by repeat (first | exact huy | exact hrf | apply Upd.drew | apply Upd.alloc)) hu20; (try have hrk := NewRow.upd hrk hu20); (try have hrk := NewRow.of (by first | exact huy | exact hrf.drew | exact hrf) hu20); (try have hrk := NewRow.of0 hrf hu20); (try clear huy); clear hu20; have huy := huz; clear huz; (try have y0 := hrk.row.cell 0); (try have g0 := hrk.row.frozen 0); (try have y1 := hrk.row.cell 1); (try have g1 := hrk.row.frozen 1)))
        all_goals
          go_wp2_with fail
          go_meet
          first
            | exact ⟨_, _, _, _, _, rfl, Lib.hid (NewW.set hrk huy HG.out)⟩
            | exact ⟨_, _, _, _, _, rfl, Lib.hid (NewW.new huy HG.out)⟩
      case rest =>
        obtain ⟨k7, p7, a7, l7, c7, rfl, HK7⟩ := hcut
        obtain ⟨w3, hw3⟩ : ∃ W, W = wc := ⟨_, rfl⟩
        rw [← hw3] at HK7 ⊢
        have hUw3 : Upd [] w2 w3 := HK7.out.upd
        have hlo7 := HK7.out.lo
        clear hrf HC hw3
        have HVw3 := Lib.hid (HVw2.out.trans0 hUw3)
        have HN5'' := Lib.hid (HN5'.out.upd0 hUw3)
        have HN6' := Lib.hid (HN6.out.upd0 hUw3)
        have HW7 := Lib.hid HK7.out.wv
        have HUB := Lib.hid (HU0.out.trans0 HVw3.out)
        have HRES := Lib.hid (HR2.out.upd0 HVw3.out)
        have hkk : k5 ≠ S + 1 + 1 ∧ k6 ≠ S + 1 + 1 ∧ k7 ≠ S + 1 + 1 := by have h1 := HZ0.out; have h2 := hUw1.size; have h3 := hUw2.size; omega
        obtain ⟨hk1, hk2, hk3⟩ := hkk
        have hrf : Upd [] w3 w3 := Upd.refl _ _
        have HC : Hid (∀ W, Upd [S + 1 + 1] w3 W → W.cell? ⟨S, 0, none⟩ = some (.bool b0) ∧ W.cell? ⟨S, 1, none⟩ = some (.slice a0 l0 c0) ∧ W.cell? ⟨S, 2, none⟩ = some (.slice d0 m0 e0) ∧ W.cell? ⟨S + 1, 0, none⟩ = some (.bool b1) ∧ W.cell? ⟨S + 1, 1, none⟩ = some (.slice a1 l1 c1) ∧ W.cell? ⟨S + 1, 2, none⟩ = some (.slice d1 m1 e1) ∧ W.cell? ⟨k5, 0, none⟩ = some (.slice a5 l5 c5) ∧ W.cell? ⟨k6, 0, none⟩ = some (.slice a6 l6 c6) ∧ W.cell? ⟨k7, 0, none⟩ = some (.bool p7) ∧ W.cell? ⟨k7, 1, none⟩ = some (.slice a7 l7 c7) ∧ Upd [S + 1 + 1] w3 W) := fun W h =>
          ⟨((HR0.out.upd0 HVw3.out).upd h (by simp <;> omega)).cell 0, ((HR0.out.upd0 HVw3.out).upd h (by simp <;> omega)).cell 1, ((HR0.out.upd0 HVw3.out).upd h (by simp <;> omega)).cell 2, ((HR1.out.upd0 HVw3.out).upd h (by simp <;> omega)).cell 0, ((HR1.out.upd0 HVw3.out).upd h (by simp <;> omega)).cell 1, ((HR1.out.upd0 HVw3.out).upd h (by simp <;> omega)).cell 2, ((HK5.out.row.upd0 (hUw2.trans0 hUw3)).upd h (by simp <;> omega)).cell 0, ((HK6.out.row.upd0 hUw3).upd h (by simp <;> omega)).cell 0, (HK7.out.row.upd h (by simp <;> omega)).cell 0, (HK7.out.row.upd h (by simp <;> omega)).cell 1, h⟩
        have hcA : ∀ W, Upd [] w3 W → W.cell? ⟨S + 1 + 1, 0, none⟩ = some (.bool false) ∧ W.cell? ⟨S + 1 + 1, 1, none⟩ = some (.slice none 0 0) ∧ W.cell? ⟨S + 1 + 1, 2, none⟩ = some (.slice none 0 0) ∧ W.frozen? ⟨S + 1 + 1, 0, none⟩ = false ∧ W.frozen? ⟨S + 1 + 1, 1, none⟩ = false ∧ W.frozen? ⟨S + 1 + 1, 2, none⟩ = false := fun W h => ⟨(HRES.out.upd0 h).cell 0, (HRES.out.upd0 h).cell 1, (HRES.out.upd0 h).cell 2, (HRES.out.upd0 h).frozen 0, (HRES.out.upd0 h).frozen 1, (HRES.out.upd0 h).frozen 2⟩
        go_wp2_with fail
        go_region_held3 (fun W => W.cell? ⟨S, 0, none⟩ = some (.bool b0) ∧ W.cell? ⟨S, 1, none⟩ = some (.slice a0 l0 c0) ∧ W.cell? ⟨S, 2, none⟩ = some (.slice d0 m0 e0) ∧ W.cell? ⟨S + 1, 0, none⟩ = some (.bool b1) ∧ W.cell? ⟨S + 1, 1, none⟩ = some (.slice a1 l1 c1) ∧ W.cell? ⟨S + 1, 2, none⟩ = some (.slice d1 m1 e1) ∧ W.cell? ⟨k5, 0, none⟩ = some (.slice a5 l5 c5) ∧ W.cell? ⟨k6, 0, none⟩ = some (.slice a6 l6 c6) ∧ W.cell? ⟨k7, 0, none⟩ = some (.bool p7) ∧ W.cell? ⟨k7, 1, none⟩ = some (.slice a7 l7 c7) ∧ Upd [S + 1 + 1] w3 W)
          ((refine HC.out _ ?_; repeat (first | (with_reducible refine Upd.setCell ?_ (.inl (by simp)) _) | (with_reducible exact huy.mono (by simp)) | (with_reducible exact hrf.mono (by simp)) | (with_reducible apply Upd.drew) | (with_reducible apply Upd.alloc))))
          (first
            | (go_at_call 36; (with_reducible refine (HDX.out _ (HU0.out.trans0 (HVw3.out.trans0 (by repeat (first | exact huy | exact hrf | apply Upd.drew | apply Upd.alloc))))).mono ?_); rintro e wz ⟨vA, rfl, hnA, hu20⟩;  have HNA := Lib.hid hnA; clear hnA; have huz : Upd [] w3 wz := Upd.trans0 (by repeat (first | exact huy | exact hrf | apply Upd.drew | apply Upd.alloc)) hu20; (try clear huy); clear hu20; have huy := huz; clear huz)
            | (go_at_call 82; (with_reducible refine (HBX.out _ _ _ (by first | exact HNA.out | exact HNA.out.upd0 ((Upd.refl _ _).alloc _)) (HN6'.out.upd0 (by repeat (first | exact huy | exact hrf | apply Upd.drew | apply Upd.alloc)))).mono ?_); rintro e wz ⟨vB, rfl, hnB, hu20⟩; have HNA := Lib.hid (HNA.out.upd0 (by first | exact hu20 | exact Upd.al hu20)); have HNB := Lib.hid hnB; clear hnB; have huz : Upd [] w3 wz := Upd.trans0 (by repeat (first | exact huy | exact hrf | apply Upd.drew | apply Upd.alloc)) hu20; (try clear huy); clear hu20; have huy := huz; clear huz)
            | (go_at_call 36; (with_reducible refine (HDY.out _ (HU0.out.trans0 (HVw3.out.trans0 (by repeat (first | exact huy | exact hrf | apply Upd.drew | apply Upd.alloc))))).mono ?_); rintro e wz ⟨vC, rfl, hnC, hu20⟩; have HNA := Lib.hid (HNA.out.upd0 (by first | exact hu20 | exact Upd.al hu20)); have HNB := Lib.hid (HNB.out.upd0 (by first | exact hu20 | exact Upd.al hu20)); have HNC := Lib.hid hnC; clear hnC; have huz : Upd [] w3 wz := Upd.trans0 (by repeat (first | exact huy | exact hrf | apply Upd.drew | apply Upd.alloc)) hu20; (try clear huy); clear hu20; have huy := huz; clear huz)
            | (go_at_call 82; (with_reducible refine (HBY.out _ _ _ (by first | exact HNC.out | exact HNC.out.upd0 ((Upd.refl _ _).alloc _)) (HN5''.out.upd0 (by repeat (first | exact huy | exact hrf | apply Upd.drew | apply Upd.alloc)))).mono ?_); rintro e wz ⟨vD, rfl, hnD, hu20⟩; have HNA := Lib.hid (HNA.out.upd0 (by first | exact hu20 | exact Upd.al hu20)); have HNB := Lib.hid (HNB.out.upd0 (by first | exact hu20 | exact Upd.al hu20)); have HNC := Lib.hid (HNC.out.upd0 (by first | exact hu20 | exact Upd.al hu20)); have HND := Lib.hid hnD; clear hnD; have huz : Upd [] w3 wz := Upd.trans0 (by repeat (first | exact huy | exact hrf | apply Upd.drew | apply Upd.alloc)) hu20; (try clear huy); clear hu20; have huy := huz; clear huz)
            | (go_at_call 92; (with_reducible refine (HNM.out _ _ _ (by first | exact HNB.out | exact HNB.out.upd0 ((Upd.refl _ _).alloc _)) (by first | exact HND.out | exact HND.out.upd0 ((Upd.refl _ _).alloc _))).mono ?_); rintro e wz ⟨vE, rfl, hnE, hu20⟩; have HNA := Lib.hid (HNA.out.upd0 (by first | exact hu20 | exact Upd.al hu20)); have HNB := Lib.hid (HNB.out.upd0 (by first | exact hu20 | exact Upd.al hu20)); have HNC := Lib.hid (HNC.out.upd0 (by first | exact hu20 | exact Upd.al hu20)); have HND := Lib.hid (HND.out.upd0 (by first | exact hu20 | exact Upd.al hu20)); have HNE := Lib.hid hnE; clear hnE; have huz : Upd [] w3 wz := Upd.trans0 (by repeat (first | exact huy | exact hrf | apply Upd.drew | apply Upd.alloc)) hu20; (try clear huy); clear hu20; have huy := huz; clear huz)
            | (go_at_call 83; (with_reducible refine (HFIT.out _ _ _ (HW7.out.upd0 (by repeat (first | exact huy | exact hrf | apply Upd.drew | apply Upd.alloc))) (by first | exact HNE.out | exact HNE.out.upd0 ((Upd.refl _ _).alloc _))).mono ?_); rintro e wz ⟨vF, rfl, hFv, hu20⟩; have HNA := Lib.hid (HNA.out.upd0 (by first | exact hu20 | exact Upd.al hu20)); have HNB := Lib.hid (HNB.out.upd0 (by first | exact hu20 | exact Upd.al hu20)); have HNC := Lib.hid (HNC.out.upd0 (by first | exact hu20 | exact Upd.al hu20)); have HND := Lib.hid (HND.out.upd0 (by first | exact hu20 | exact Upd.al hu20)); have HNE := Lib.hid (HNE.out.upd0 (by first | exact hu20 | exact Upd.al hu20)); obtain ⟨aF, lF, cF, dF, mF, eF, rfl, _, _⟩ := hFv.open; have HF := Lib.hid hFv; clear hFv; have huz : Upd [] w3 wz := Upd.trans0 (by repeat (first | exact huy | exact hrf | apply Upd.drew | apply Upd.alloc)) hu20; (try clear huy); clear hu20; have huy := huz; clear huz; obtain ⟨x0, x1, x2, x3, x4, x5⟩ := hcA _ huy))
        all_goals
          have HP := Lib.hid (NewR.set ⟨HRES.out.upd0 huy, by have := HS.out; omega⟩ (HUB.out.trans0 huy) HF.out)
          clear hcA huy
          generalize decide ((x * y).num < 0) = pF at *
          have z0 := HP.out.row.cell 0
          have z1 := HP.out.row.cell 1
          have z2 := HP.out.row.cell 2
          go_wp2
          refine bodyPost_ret (v := .agg #[.bool pF, .slice aF lF cF, .slice dF mF eF]) (by simp [results, Tryz.results46, go_sem, z0, z1, z2]) rfl ?_
          exact ⟨_, rfl, HP.out.rv, HP.out.upd⟩

end Go.Proofs.YtoklmfmoblkfcaaGreatDoor
