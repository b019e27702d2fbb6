/- The numbers that the statements of layer 7 draw: Both. -/
import Derived.Test.YtoklmfmoblkfcaaGreatDoorRatQ
import Derived.Test.YtoklmfmoblkfcaaGreatDoorRatN
import Derived.Test.YtoklmfmoblkfcaaGreatDoorRefQ
import Derived.Test.YtoklmfmoblkfcaaGreatDoorNatFewB
import Derived.Deep.RegionHeld3
import Derived.Deep.DeepCutAuto
namespace Go.Proofs.YtoklmfmoblkfcaaGreatDoor
open Go.RowKit Go.Proofs.Tm
set_option linter.unusedVariables false
set_option linter.unusedSimpArgs false
set_option maxRecDepth 20000

/-- What is below the line: at least 1. -/
def den1 (n : Nat) : Nat := if n = 0 then 1 else n
theorem den1_pos (n : Nat) : 0 < den1 n := by unfold den1; split <;> omega
/-- The fraction that is drawn: as the program's, and as the document's. -/
def RBoth (b : Bool) (P Q : Nat) (w : World) (e : Ending) (w' : World) : Prop := ∃ v1 v2, e = .returned (.tuple #[v1, v2]) ∧ RV w' v1 (qval (zP b P) (zM b P) Q) ∧ QV w' v2 (zP b P) (zM b P) Q ∧ Upd [] w w'
theorem few_sl {a : Option Addr} {l c : Nat} {w : World} {L : List Nat} (h : Sl w (.slice a l c) (cu64 L)) : l = L.length := by
  obtain ⟨_, _, he, _⟩ := h
  simp only [Value.slice.injEq, cu64_length] at he
  exact he.2.1
theorem sl_open {w : World} {v : Value} {xs : List Value} (h : Sl w v xs) : ∃ a l c, v = .slice a l c := by
  obtain ⟨a, c, rfl, _⟩ := h
  exact ⟨_, _, _, rfl⟩
theorem few_take (a : Option Addr) (l c : Nat) (L : List Nat) (k : Nat) (hk : k ≤ 100) (w : World) (h : Sl w (.slice a l c) (cu64 L)) :
    Calls Tryz.prog 62 #[.slice a l c, .int .i64 (k : Int)] w fun e w' => ∃ a' l' c', e = .returned (.slice a' l' c') ∧ Sl w' (.slice a' l' c') (cu64 (L.take k)) ∧ Upd [] w w' := by
  have := few_sl h
  subst this
  refine (few_any a c L k hk w h).mono ?_
  rintro e w' ⟨v, rfl, hs, rfl⟩
  obtain ⟨a', l', c', rfl⟩ := sl_open hs
  exact ⟨a', l', c', rfl, hs, Upd.refl _ _⟩
theorem divInt_sgn (b : Bool) (P Q : Nat) : Rat.divInt (if b then -(P : Int) else P) (Q : Int) = qval (zP b P) (zM b P) Q := by
  unfold qval zP zM
  rw [Rat.divInt_ofNat]
  cases b <;> simp
/-- A fraction, and the document's, are stored into two blocks of the call's own. -/
structure PutRQ (w : World) (i j : Nat) (b : Bool) (s s1 : Option Addr) (l c l1 c1 : Nat) (s2 s3 s4 : Option Addr) (l2 c2 l3 c3 l4 c4 : Nat) (q : Rat) (p m d : Nat) (W : World) : Prop where
  ri : Row W i #[.bool b, .slice s l c, .slice s1 l1 c1] 53
  rj : Row W j #[.slice s2 l2 c2, .slice s3 l3 c3, .slice s4 l4 c4] 55
  vi : RV W (.agg #[.bool b, .slice s l c, .slice s1 l1 c1]) q
  vj : QV W (.agg #[.slice s2 l2 c2, .slice s3 l3 c3, .slice s4 l4 c4]) p m d
  u : Upd [] w W
theorem putRQ {w W : World} {i j : Nat} {b : Bool} {s s1 s2 s3 s4 : Option Addr} {l c l1 c1 l2 c2 l3 c3 l4 c4 : Nat} {q : Rat} {p m d : Nat} (hij : i ≠ j) (hi : w.heap.size ≤ i) (hj : w.heap.size ≤ j) (ri : Row W i #[.bool false, .slice none 0 0, .slice none 0 0] 53) (rj : Row W j #[.slice none 0 0, .slice none 0 0, .slice none 0 0] 55) (u : Upd [] w W) (hq : RV W (.agg #[.bool b, .slice s l c, .slice s1 l1 c1]) q) (hr : QV W (.agg #[.slice s2 l2 c2, .slice s3 l3 c3, .slice s4 l4 c4]) p m d) :
    PutRQ w i j b s s1 l c l1 c1 s2 s3 s4 l2 c2 l3 c3 l4 c4 q p m d ((((((W.setCell ⟨i, 0, none⟩ (.bool b)).setCell ⟨i, 1, none⟩ (.slice s l c)).setCell ⟨i, 2, none⟩ (.slice s1 l1 c1)).setCell ⟨j, 0, none⟩ (.slice s2 l2 c2)).setCell ⟨j, 1, none⟩ (.slice s3 l3 c3)).setCell ⟨j, 2, none⟩ (.slice s4 l4 c4)) ∧
    PutRQ w i j b s s1 l c l1 c1 s2 s3 s4 l2 c2 l3 c3 l4 c4 q p m d ((((((W.setCell ⟨j, 0, none⟩ (.slice s2 l2 c2)).setCell ⟨j, 1, none⟩ (.slice s3 l3 c3)).setCell ⟨j, 2, none⟩ (.slice s4 l4 c4)).setCell ⟨i, 0, none⟩ (.bool b)).setCell ⟨i, 1, none⟩ (.slice s l c)).setCell ⟨i, 2, none⟩ (.slice s1 l1 c1)) := by
  have hji : j ≠ i := fun e => hij e.symm
  constructor
  · have e1 := ((hr.putr ri niR 0 (.bool b)).putr (ri.set 0 _) niR 1 (.slice s l c)).putr ((ri.set 0 _).set 1 _) niR 2 (.slice s1 l1 c1)
    have P := NewR.set ⟨ri, hi⟩ u hq
    have r1 := ((rj.other ⟨i, 0, none⟩ (.bool b) hij).other ⟨i, 1, none⟩ (.slice s l c) hij).other ⟨i, 2, none⟩ (.slice s1 l1 c1) hij
    have Q := NewQ.set ⟨r1, hj⟩ P.upd e1
    exact ⟨((P.row.other _ _ hji).other _ _ hji).other _ _ hji, Q.row, ((P.rv.putr r1 nwZ3 0 _).putr (r1.set 0 _) nwZ3 1 _).putr ((r1.set 0 _).set 1 _) nwZ3 2 _, Q.qv, Q.upd⟩
  · have e1 := ((hq.putr rj nwZ3 0 (.slice s2 l2 c2)).putr (rj.set 0 _) nwZ3 1 (.slice s3 l3 c3)).putr ((rj.set 0 _).set 1 _) nwZ3 2 (.slice s4 l4 c4)
    have P := NewQ.set ⟨rj, hj⟩ u hr
    have r1 := ((ri.other ⟨j, 0, none⟩ (.slice s2 l2 c2) hji).other ⟨j, 1, none⟩ (.slice s3 l3 c3) hji).other ⟨j, 2, none⟩ (.slice s4 l4 c4) hji
    have Q := NewR.set ⟨r1, hi⟩ P.upd e1
    exact ⟨Q.row, ((P.row.other _ _ hij).other _ _ hij).other _ _ hij, Q.rv, ((P.qv.putr r1 niR 0 _).putr (r1.set 0 _) niR 1 _).putr ((r1.set 0 _).set 1 _) niR 2 _, Q.upd⟩

theorem digs_length_zero {a : Nat} : (digs a).length = 0 ↔ a = 0 := by
  constructor
  · intro h
    have h1 := digs_lt_pow a
    rw [h, Nat.pow_zero] at h1
    omega
  · rintro rfl; rw [digs_zero]; rfl

set_option maxHeartbeats 3200000 in
theorem both_q (a0 : Option Addr) (l0 c0 : Nat) (L : List Nat) (a1 : Option Addr) (l1 c1 : Nat) (M : List Nat) (b0 : Bool) (w : World) (hu : Sl w (.slice a0 l0 c0) (cu64 L)) (hL : ∀ d ∈ L, d < 18446744073709551616) (hv : Sl w (.slice a1 l1 c1) (cu64 M)) (hM : ∀ d ∈ M, d < 18446744073709551616) (hz : ¬ wval (M.take 2) = 0) :
    Calls Tryz.prog 26 #[.agg #[.slice a0 l0 c0, .slice a1 l1 c1, .bool b0]] w (RBoth b0 (wval (L.take 2)) (den1 (wval (M.take 2))) w) := by
  obtain ⟨P, hP⟩ : ∃ P, P = wval (L.take 2) := ⟨_, rfl⟩
  obtain ⟨Q, hQ⟩ : ∃ Q, Q = wval (M.take 2) := ⟨_, rfl⟩
  have hb1 := few_bounds L 2 hL
  have hb2 := few_bounds M 2 hM
  rw [← hP] at hb1 ⊢
  rw [← hQ] at hb2 hz ⊢
  have hl1 : (L.take 2).length ≤ 2 := by rw [List.length_take]; omega
  have hl2 : (M.take 2).length ≤ 2 := by rw [List.length_take]; omega
  have hLt : ∀ d ∈ L.take 2, d < 18446744073709551616 := fun d hd => hL d (List.mem_of_mem_take hd)
  have hMt : ∀ d ∈ M.take 2, d < 18446744073709551616 := fun d hd => hM d (List.mem_of_mem_take hd)
  have HF1 : Hid (∀ W, Upd [] w W → Calls Tryz.prog 62 #[.slice a0 l0 c0, .int .i64 2] W (fun e w' => ∃ a' l' c', e = .returned (.slice a' l' c') ∧ Sl w' (.slice a' l' c') (cu64 (L.take 2)) ∧ Upd [] W w')) := fun W h => few_take a0 l0 c0 L 2 (by decide) W (hu.upd0 h)
  have HF2 : Hid (∀ W, Upd [] w W → Calls Tryz.prog 62 #[.slice a1 l1 c1, .int .i64 2] W (fun e w' => ∃ a' l' c', e = .returned (.slice a' l' c') ∧ Sl w' (.slice a' l' c') (cu64 (M.take 2)) ∧ Upd [] W w')) := fun W h => few_take a1 l1 c1 M 2 (by decide) W (hv.upd0 h)
  have HRO : Hid (∀ W s, Sl W s (cu64 (M.take 2)) → Calls Tryz.prog 66 #[s] W (RDig Q W)) := fun W s hs => by rw [hQ]; exact rof_any _ _ W hs hMt (by omega)
  have HOP : Hid (∀ W s, Sl W s (cu64 (L.take 2)) → Calls Tryz.prog 32 #[s] W (RNat P W)) := fun W s hs => by rw [hP]; exact of_any _ _ W hs (by omega) hLt
  have HOQ : Hid (∀ W s, Sl W s (cu64 (M.take 2)) → Calls Tryz.prog 32 #[s] W (RNat Q W)) := fun W s hs => by rw [hQ]; exact of_any _ _ W hs (by omega) hMt
  obtain ⟨zp, hzp⟩ : ∃ z : Int, z = (if b0 then -(P : Int) else P) := ⟨_, rfl⟩
  have HMP : Hid (∀ W s, NV W s P → Calls Tryz.prog 35 #[.bool b0, s] W (RWhole zp W)) := fun W s hs => by rw [hzp]; exact wmake_any b0 _ _ W hs
  have HMQ : Hid (∀ W s, NV W s Q → Calls Tryz.prog 35 #[.bool false, s] W (RWhole ((Q : Nat) : Int) W)) := fun W s hs => wmake_any false _ _ W hs
  have hzl : (wds zp.natAbs).length ≤ 1073741824 := by
    have : zp.natAbs = P := by rw [hzp]; split <;> simp
    rw [this]; omega
  obtain ⟨qv, hqv⟩ : ∃ r : Rat, r = qval (zP b0 P) (zM b0 P) Q := ⟨_, rfl⟩
  have HFR : Hid (∀ W s t, WV W s zp → WV W t ((Q : Nat) : Int) → Calls Tryz.prog 33 #[s, t] W (RRatE qv 0 W)) := fun W s t hs ht => by
    have := frac_any s t zp ((Q : Nat) : Int) W hs ht (by omega) hzl (by simpa using (by omega : (wds Q).length ≤ 1073741824))
    rw [hzp, divInt_sgn, ← hqv] at this
    exact this
  have HZM : Hid (∀ W s, Sl W s (cu64 (L.take 2)) → Calls Tryz.prog 63 #[.bool b0, s] W (RZ (zP b0 P) (zM b0 P) W)) := fun W s hs => by rw [hP]; exact zmake_any b0 _ _ W hs hLt (by omega)
  have HQF : Hid (∀ W s t, ZV W s (zP b0 P) (zM b0 P) → DV W t Q → Calls Tryz.prog 77 #[s, t] W (RQ (zP b0 P) (zM b0 P) Q W)) := fun W s t hs ht => qfrac_any _ _ _ _ _ W hs ht
  have HQL : Hid (∀ W s, DV W s Q → ∃ a l c, s = .slice a l c ∧ l = (digs Q).length) := fun W s hs => by
    obtain ⟨a, c, rfl, _⟩ := dig_open hs
    exact ⟨a, _, c, rfl, rfl⟩
  have HZQ : Hid ((((digs Q).length : Int) == 0) = false) := by
    show _ = _
    have : (digs Q).length ≠ 0 := fun h => hz (digs_length_zero.1 h)
    exact beq_false_of_ne (by omega)
  rw [show den1 Q = Q from if_neg hz]
  unfold RBoth
  rw [← hqv]
  generalize zP b0 P = zp1 at *
  generalize zM b0 P = zm1 at *
  clear hu hv hL hM hz hP hQ hb1 hb2 hl1 hl2 hLt hMt hzp hzl hqv
  generalize L.take 2 = Lp at *
  generalize M.take 2 = Lq at *
  obtain ⟨w0, hw0⟩ : ∃ W, W = (((w.alloc (.cells #[.slice a0 l0 c0, .slice a1 l1 c1, .bool b0] 51)).alloc (.cells #[.bool false, .slice none 0 0, .slice none 0 0] 53)).alloc (.cells #[.slice none 0 0, .slice none 0 0, .slice none 0 0] 55)) := ⟨_, rfl⟩
  obtain ⟨S, hS⟩ : ∃ s, s = w.heap.size := ⟨_, rfl⟩
  obtain ⟨hu0, r0, r1, r2, hz0⟩ := rows3 w #[.slice a0 l0 c0, .slice a1 l1 c1, .bool b0] #[.bool false, .slice none 0 0, .slice none 0 0] #[.slice none 0 0, .slice none 0 0, .slice none 0 0] 51 53 55 w0 hw0 S hS
  have HU0 := Lib.hid hu0
  have HW0 := Lib.hid hw0
  have HS := Lib.hid hS
  have HZ0 := Lib.hid hz0
  have HR0 := Lib.hid r0
  have HR1 := Lib.hid r1
  have HR2 := Lib.hid r2
  have hrf : Upd [] w0 w0 := Upd.refl _ _
  clear hw0 hS hu0 r0 r1 r2 hz0
  have HC : Hid (∀ W, Upd [] w0 W → W.cell? ⟨S, 0, none⟩ = some (.slice a0 l0 c0) ∧ W.cell? ⟨S, 1, none⟩ = some (.slice a1 l1 c1) ∧ W.cell? ⟨S, 2, none⟩ = some (.bool b0) ∧ Upd [] w0 W) := fun W h =>
    ⟨(HR0.out.upd h (by simp <;> omega)).cell 0, (HR0.out.upd h (by simp <;> omega)).cell 1, (HR0.out.upd h (by simp <;> omega)).cell 2, h⟩
  go_enter Tryz.func26, Tryz.ntmps26
  go_wp2_with fail
  rw [← HW0.out]
  rw [← HS.out]
  go_cut [4, 5] (fun v4 v5 wx => ∃ (aP : Option Addr) (lP cP : Nat) (aQ : Option Addr) (lQ cQ : Nat), v4 = .slice aP lP cP ∧ v5 = .slice aQ lQ cQ ∧ Hid (Sl wx (.slice aP lP cP) (cu64 Lp)) ∧ Hid (Sl wx (.slice aQ lQ cQ) (cu64 Lq)) ∧ Hid (Upd [] w0 wx))
  case first =>
    go_region_held3 (fun W => W.cell? ⟨S, 0, none⟩ = some (.slice a0 l0 c0) ∧ W.cell? ⟨S, 1, none⟩ = some (.slice a1 l1 c1) ∧ W.cell? ⟨S, 2, none⟩ = some (.bool b0) ∧ Upd [] w0 W)
      ((refine HC.out _ ?_; repeat (first | exact huy | exact hrf | apply Upd.drew)))
      (first
        | (go_at_call 62; (with_reducible refine (HF1.out _ (HU0.out.trans0 (by repeat (first | exact huy | exact hrf | apply Upd.drew | apply Upd.alloc)))).mono ?_); rintro e wz ⟨aA, lA, cA, rfl, hsA, hu20⟩;  have HSA := Lib.hid hsA; clear hsA; have huz : Upd [] w0 wz := Upd.trans0 (by repeat (first | exact huy | exact hrf | apply Upd.drew | apply Upd.alloc)) hu20; (try clear huy); clear hu20; have huy := huz; clear huz)
        | (go_at_call 62; (with_reducible refine (HF2.out _ (HU0.out.trans0 (by repeat (first | exact huy | exact hrf | apply Upd.drew | apply Upd.alloc)))).mono ?_); rintro e wz ⟨aB, lB, cB, rfl, hsB, hu20⟩; have HSA := Lib.hid (HSA.out.upd0 (by first | exact hu20 | exact Upd.al hu20)); have HSB := Lib.hid hsB; clear hsB; have huz : Upd [] w0 wz := Upd.trans0 (by repeat (first | exact huy | exact hrf | apply Upd.drew | apply Upd.alloc)) hu20; (try clear huy); clear hu20; have huy := huz; clear huz))
    all_goals
      go_wp2_with fail
      go_meet
      exact ⟨_, _, _, _, _, _, rfl, rfl, HSA, HSB, Lib.hid huy⟩
  case rest =>
    obtain ⟨aP, lP, cP, aQ, lQ, cQ, rfl, rfl, HSP0, HSQ0, HV1⟩ := hcut
    obtain ⟨w1, hw1⟩ : ∃ W, W = wc := ⟨_, rfl⟩
    rw [← hw1] at HSP0 HSQ0 HV1 ⊢
    clear hw1 hrf HC
    go_wp2_with fail
    refine (HRO.out _ _ HSQ0.out).mono ?_
    rintro e w2 ⟨v6, rfl, hd6, hu2⟩
    obtain ⟨a6, l6, c6, rfl, hl6⟩ := HQL.out _ _ (DV.of hd6)
    have hz6 := HZQ.out
    rw [← hl6] at hz6
    have HV2 := Lib.hid (HV1.out.trans0 hu2)
    have HSP := Lib.hid (HSP0.out.upd0 hu2)
    have HSQ := Lib.hid (HSQ0.out.upd0 hu2)
    have HDN := Lib.hid (DV.of hd6)
    clear hd6 hu2 hl6
    go_wp2_with fail
    have hrf : Upd [] w2 w2 := Upd.refl _ _
    have HC : Hid (∀ W, Upd [] w2 W → W.cell? ⟨S, 0, none⟩ = some (.slice a0 l0 c0) ∧ W.cell? ⟨S, 1, none⟩ = some (.slice a1 l1 c1) ∧ W.cell? ⟨S, 2, none⟩ = some (.bool b0) ∧ Upd [] w2 W) := fun W h =>
      ⟨((HR0.out.upd0 HV2.out).upd h (by simp <;> omega)).cell 0, ((HR0.out.upd0 HV2.out).upd h (by simp <;> omega)).cell 1, ((HR0.out.upd0 HV2.out).upd h (by simp <;> omega)).cell 2, h⟩
    go_cut [7, 8] (fun v7 v8 wx => ∃ (kQ : Nat) (bQ : Bool) (sQ : Option Addr) (lQ cQ : Nat) (sP : Option Addr) (lP cP : Nat), v7 = .pointer (some ⟨kQ, 0, none⟩) ∧ v8 = .int .i64 0 ∧ Hid (NewR w2 (qv) wx kQ bQ sQ lQ cQ sP lP cP))
    case first =>
      go_region_held3 (fun W => W.cell? ⟨S, 0, none⟩ = some (.slice a0 l0 c0) ∧ W.cell? ⟨S, 1, none⟩ = some (.slice a1 l1 c1) ∧ W.cell? ⟨S, 2, none⟩ = some (.bool b0) ∧ Upd [] w2 W)
        ((refine HC.out _ ?_; repeat (first | (with_reducible refine Upd.setCell ?_ (.inr hrk.lo) _) | (with_reducible refine Upd.setCell ?_ (.inr huy.size) _) | (with_reducible exact huy) | (with_reducible exact hrf) | (with_reducible apply Upd.drew) | (with_reducible apply Upd.alloc))))
        (first
          | (go_at_call 32; (with_reducible refine (HOP.out _ _ (HSP.out.upd0 (by repeat (first | exact huy | exact hrf | apply Upd.drew | apply Upd.alloc)))).mono ?_); rintro e wz ⟨vA, rfl, hnA, hu20⟩;  have HNA := Lib.hid hnA; clear hnA; have huz : Upd [] w2 wz := Upd.trans0 (by repeat (first | exact huy | exact hrf | apply Upd.drew | apply Upd.alloc)) hu20; (try have hrk := NewRow.upd hrk hu20); (try have hrk := NewRow.of (by first | exact huy | exact hrf.drew | exact hrf) hu20); (try have hrk := NewRow.of0 hrf hu20); (try clear huy); clear hu20; have huy := huz; clear huz)
          | (go_at_call 35; (with_reducible refine (HMP.out _ _ (by first | exact HNA.out | exact HNA.out.upd0 ((Upd.refl _ _).alloc _))).mono ?_); rintro e wz ⟨vB, rfl, hvB, hu20⟩; have HNA := Lib.hid (HNA.out.upd0 (by first | exact hu20 | exact Upd.al hu20)); have HVB := Lib.hid hvB; clear hvB; have huz : Upd [] w2 wz := Upd.trans0 (by repeat (first | exact huy | exact hrf | apply Upd.drew | apply Upd.alloc)) hu20; (try have hrk := NewRow.upd hrk hu20); (try have hrk := NewRow.of (by first | exact huy | exact hrf.drew | exact hrf) hu20); (try have hrk := NewRow.of0 hrf hu20); (try clear huy); clear hu20; have huy := huz; clear huz)
          | (go_at_call 32; (with_reducible refine (HOQ.out _ _ (HSQ.out.upd0 (by repeat (first | exact huy | exact hrf | apply Upd.drew | apply Upd.alloc)))).mono ?_); rintro e wz ⟨vC, rfl, hnC, hu20⟩; have HNA := Lib.hid (HNA.out.upd0 (by first | exact hu20 | exact Upd.al hu20)); have HVB := Lib.hid (HVB.out.upd0 (by first | exact hu20 | exact Upd.al hu20)); have HNC := Lib.hid hnC; clear hnC; have huz : Upd [] w2 wz := Upd.trans0 (by repeat (first | exact huy | exact hrf | apply Upd.drew | apply Upd.alloc)) hu20; (try have hrk := NewRow.upd hrk hu20); (try have hrk := NewRow.of (by first | exact huy | exact hrf.drew | exact hrf) hu20); (try have hrk := NewRow.of0 hrf hu20); (try clear huy); clear hu20; have huy := huz; clear huz)
          | (go_at_call 35; (with_reducible refine (HMQ.out _ _ (by first | exact HNC.out | exact HNC.out.upd0 ((Upd.refl _ _).alloc _))).mono ?_); rintro e wz ⟨vD, rfl, hvD, hu20⟩; have HNA := Lib.hid (HNA.out.upd0 (by first | exact hu20 | exact Upd.al hu20)); have HVB := Lib.hid (HVB.out.upd0 (by first | exact hu20 | exact Upd.al hu20)); have HNC := Lib.hid (HNC.out.upd0 (by first | exact hu20 | exact Upd.al hu20)); have HVD := Lib.hid hvD; clear hvD; have huz : Upd [] w2 wz := Upd.trans0 (by repeat (first | exact huy | exact hrf | apply Upd.drew | apply Upd.alloc)) hu20; (try have hrk := NewRow.upd hrk hu20); (try have hrk := NewRow.of (by first | exact huy | exact hrf.drew | exact hrf) hu20); (try have hrk := NewRow.of0 hrf hu20); (try clear huy); clear hu20; have huy := huz; clear huz)
          | (go_at_call 33; (with_reducible refine (HFR.out _ _ _ (by first | exact HVB.out | exact HVB.out.upd0 ((Upd.refl _ _).alloc _)) (by first | exact HVD.out | exact HVD.out.upd0 ((Upd.refl _ _).alloc _))).mono ?_); rintro e wz ⟨vF, rfl, hFv, hu20⟩; have HNA := Lib.hid (HNA.out.upd0 (by first | exact hu20 | exact Upd.al hu20)); have HVB := Lib.hid (HVB.out.upd0 (by first | exact hu20 | exact Upd.al hu20)); have HNC := Lib.hid (HNC.out.upd0 (by first | exact hu20 | exact Upd.al hu20)); have HVD := Lib.hid (HVD.out.upd0 (by first | exact hu20 | exact Upd.al hu20)); obtain ⟨aF, lF, cF, dF, mF, eF, rfl, _, _⟩ := hFv.open; have HF := Lib.hid hFv; clear hFv; have huz : Upd [] w2 wz := Upd.trans0 (by repeat (first | exact huy | exact hrf | apply Upd.drew | apply Upd.alloc)) hu20; (try have hrk := NewRow.upd hrk hu20); (try have hrk := NewRow.of (by first | exact huy | exact hrf.drew | exact hrf) hu20); (try have hrk := NewRow.of0 hrf hu20); (try clear huy); clear hu20; have huy := huz; clear huz; (try have y0 := hrk.row.cell 0); (try have g0 := hrk.row.frozen 0); (try have y1 := hrk.row.cell 1); (try have g1 := hrk.row.frozen 1); (try have y2 := hrk.row.cell 2); (try have g2 := hrk.row.frozen 2)))
      all_goals
        go_wp2_with fail
        go_meet
        first
          | exact ⟨_, _, _, _, _, _, _, _, rfl, rfl, Lib.hid (NewR.set hrk huy HF.out)⟩
          | exact ⟨_, _, _, _, _, _, _, _, rfl, rfl, Lib.hid (NewR.new huy HF.out)⟩
    case rest =>
      obtain ⟨k7, p7, a7, l7, c7, d7, m7, e7, rfl, rfl, HK7⟩ := hcut
      obtain ⟨w8, hw8⟩ : ∃ W, W = wc := ⟨_, rfl⟩
      rw [← hw8] at HK7 ⊢
      have hUw8 : Upd [] w2 w8 := HK7.out.upd
      have hlo7 := HK7.out.lo
      clear hrf HC hw8
      have HV8 := Lib.hid (HV2.out.trans0 hUw8)
      have HSP8 := Lib.hid (HSP.out.upd0 hUw8)
      have HDN8 := Lib.hid (HDN.out.upd0 hUw8)
      have HR78 := Lib.hid HK7.out.rv
      have hkk : k7 ≠ S + 1 ∧ k7 ≠ S + 1 + 1 := by have h1 := HZ0.out; have h2 := HV2.out.size; omega
      obtain ⟨hk1, hk2⟩ := hkk
      have HRQ := Lib.hid (HR1.out.upd0 HV8.out)
      have HRR := Lib.hid (HR2.out.upd0 HV8.out)
      have hrf : Upd [] w8 w8 := Upd.refl _ _
      have HC : Hid (∀ W, Upd [S + 1, S + 1 + 1] w8 W → W.cell? ⟨S, 0, none⟩ = some (.slice a0 l0 c0) ∧ W.cell? ⟨S, 1, none⟩ = some (.slice a1 l1 c1) ∧ W.cell? ⟨S, 2, none⟩ = some (.bool b0) ∧ W.cell? ⟨k7, 0, none⟩ = some (.bool p7) ∧ W.cell? ⟨k7, 1, none⟩ = some (.slice a7 l7 c7) ∧ W.cell? ⟨k7, 2, none⟩ = some (.slice d7 m7 e7) ∧ Upd [S + 1, S + 1 + 1] w8 W) := fun W h =>
        ⟨((HR0.out.upd0 HV8.out).upd h (by simp <;> omega)).cell 0, ((HR0.out.upd0 HV8.out).upd h (by simp <;> omega)).cell 1, ((HR0.out.upd0 HV8.out).upd h (by simp <;> omega)).cell 2, (HK7.out.row.upd h (by simp <;> omega)).cell 0, (HK7.out.row.upd h (by simp <;> omega)).cell 1, (HK7.out.row.upd h (by simp <;> omega)).cell 2, h⟩
      have hcA : ∀ W, Upd [] w8 W → W.cell? ⟨S + 1, 0, none⟩ = some (.bool false) ∧ W.cell? ⟨S + 1, 1, none⟩ = some (.slice none 0 0) ∧ W.cell? ⟨S + 1, 2, none⟩ = some (.slice none 0 0) ∧ W.frozen? ⟨S + 1, 0, none⟩ = false ∧ W.frozen? ⟨S + 1, 1, none⟩ = false ∧ W.frozen? ⟨S + 1, 2, none⟩ = false := fun W h => ⟨(HRQ.out.upd0 h).cell 0, (HRQ.out.upd0 h).cell 1, (HRQ.out.upd0 h).cell 2, (HRQ.out.upd0 h).frozen 0, (HRQ.out.upd0 h).frozen 1, (HRQ.out.upd0 h).frozen 2⟩
      have hcB : ∀ W, Upd [] w8 W → W.cell? ⟨S + 1 + 1, 0, none⟩ = some (.slice none 0 0) ∧ W.cell? ⟨S + 1 + 1, 1, none⟩ = some (.slice none 0 0) ∧ W.cell? ⟨S + 1 + 1, 2, none⟩ = some (.slice none 0 0) ∧ W.frozen? ⟨S + 1 + 1, 0, none⟩ = false ∧ W.frozen? ⟨S + 1 + 1, 1, none⟩ = false ∧ W.frozen? ⟨S + 1 + 1, 2, none⟩ = false := fun W h => ⟨(HRR.out.upd0 h).cell 0, (HRR.out.upd0 h).cell 1, (HRR.out.upd0 h).cell 2, (HRR.out.upd0 h).frozen 0, (HRR.out.upd0 h).frozen 1, (HRR.out.upd0 h).frozen 2⟩
      have hS1 : S + 1 ≠ S + 1 + 1 := by omega
      have hS2 : S + 1 + 1 ≠ S + 1 := by omega
      go_wp2_with fail
      go_region_held3 (fun W => W.cell? ⟨S, 0, none⟩ = some (.slice a0 l0 c0) ∧ W.cell? ⟨S, 1, none⟩ = some (.slice a1 l1 c1) ∧ W.cell? ⟨S, 2, none⟩ = some (.bool b0) ∧ W.cell? ⟨k7, 0, none⟩ = some (.bool p7) ∧ W.cell? ⟨k7, 1, none⟩ = some (.slice a7 l7 c7) ∧ W.cell? ⟨k7, 2, none⟩ = some (.slice d7 m7 e7) ∧ Upd [S + 1, S + 1 + 1] w8 W)
        ((refine HC.out _ ?_; repeat (first | (with_reducible refine Upd.setCell ?_ (.inl (by simp)) _) | (with_reducible exact huy.mono (by simp)) | (with_reducible exact hrf.mono (by simp)) | (with_reducible apply Upd.drew) | (with_reducible apply Upd.alloc))))
        (first
          | (go_at_call 63; (with_reducible refine (HZM.out _ _ (HSP8.out.upd0 (by repeat (first | exact huy | exact hrf | apply Upd.drew | apply Upd.alloc)))).mono ?_); rintro e wz ⟨vA, rfl, hzA, hu20⟩;  have HZA := Lib.hid hzA; clear hzA; have huz : Upd [] w8 wz := Upd.trans0 (by repeat (first | exact huy | exact hrf | apply Upd.drew | apply Upd.alloc)) hu20; (try clear huy); clear hu20; have huy := huz; clear huz)
          | (go_at_call 77; (with_reducible refine (HQF.out _ _ _ (by first | exact HZA.out | exact ZV.upd0 HZA.out ((Upd.refl _ _).alloc _)) (HDN8.out.upd0 (by repeat (first | exact huy | exact hrf | apply Upd.drew | apply Upd.alloc)))).mono ?_); rintro e wz ⟨vX, rfl, hqX, hu20⟩; have HZA := Lib.hid (HZA.out.upd0 (by first | exact hu20 | exact Upd.al hu20)); obtain ⟨aX, lX, cX, dX, mX, eX, fX, gX, hX, rfl, _, _⟩ := QV.open hqX; have HQX := Lib.hid hqX; clear hqX; have HR7z := Lib.hid (HR78.out.upd0 (Upd.trans0 (by repeat (first | exact huy | exact hrf | apply Upd.drew | apply Upd.alloc)) hu20)); have huz : Upd [] w8 wz := Upd.trans0 (by repeat (first | exact huy | exact hrf | apply Upd.drew | apply Upd.alloc)) hu20; (try clear huy); clear hu20; have huy := huz; clear huz; obtain ⟨x0, x1, x2, x3, x4, x5⟩ := hcA _ huy; obtain ⟨y0, y1, y2, y3, y4, y5⟩ := hcB _ huy))
      all_goals
        have HP := putRQ hS1 (by have := HS.out; omega) (by have := HS.out; omega) (HRQ.out.upd0 huy) (HRR.out.upd0 huy) (HU0.out.trans0 (HV8.out.trans0 huy)) HR7z.out HQX.out
        have HP1 := Lib.hid HP.1
        have HP2 := Lib.hid HP.2
        clear HP hcA hcB huy
        first
          | (have z0 := HP1.out.ri.cell 0
             have z1 := HP1.out.ri.cell 1
             have z2 := HP1.out.ri.cell 2
             have z3 := HP1.out.rj.cell 0
             have z4 := HP1.out.rj.cell 1
             have z5 := HP1.out.rj.cell 2
             go_wp2
             refine bodyPost_ret (v := .tuple #[.agg #[.bool p7, .slice a7 l7 c7, .slice d7 m7 e7], .agg #[.slice aX lX cX, .slice dX mX eX, .slice fX gX hX]]) (by simp [results, Tryz.results26, go_sem, z0, z1, z2, z3, z4, z5]) rfl ?_
             exact ⟨_, _, rfl, HP1.out.vi, HP1.out.vj, HP1.out.u⟩)
          | (have z0 := HP2.out.ri.cell 0
             have z1 := HP2.out.ri.cell 1
             have z2 := HP2.out.ri.cell 2
             have z3 := HP2.out.rj.cell 0
             have z4 := HP2.out.rj.cell 1
             have z5 := HP2.out.rj.cell 2
             go_wp2
             refine bodyPost_ret (v := .tuple #[.agg #[.bool p7, .slice a7 l7 c7, .slice d7 m7 e7], .agg #[.slice aX lX cX, .slice dX mX eX, .slice fX gX hX]]) (by simp [results, Tryz.results26, go_sem, z0, z1, z2, z3, z4, z5]) rfl ?_
             exact ⟨_, _, rfl, HP2.out.vi, HP2.out.vj, HP2.out.u⟩)

set_option maxHeartbeats 3200000 in
theorem both_1 (a0 : Option Addr) (l0 c0 : Nat) (L : List Nat) (a1 : Option Addr) (l1 c1 : Nat) (M : List Nat) (b0 : Bool) (w : World) (hu : Sl w (.slice a0 l0 c0) (cu64 L)) (hL : ∀ d ∈ L, d < 18446744073709551616) (hv : Sl w (.slice a1 l1 c1) (cu64 M)) (hM : ∀ d ∈ M, d < 18446744073709551616) (hz : wval (M.take 2) = 0) :
    Calls Tryz.prog 26 #[.agg #[.slice a0 l0 c0, .slice a1 l1 c1, .bool b0]] w (RBoth b0 (wval (L.take 2)) (den1 (wval (M.take 2))) w) := by
  obtain ⟨P, hP⟩ : ∃ P, P = wval (L.take 2) := ⟨_, rfl⟩
  obtain ⟨Q, hQ⟩ : ∃ Q, Q = wval (M.take 2) := ⟨_, rfl⟩
  have hb1 := few_bounds L 2 hL
  have hb2 := few_bounds M 2 hM
  rw [← hP] at hb1 ⊢
  rw [← hQ] at hb2 hz ⊢
  have hl1 : (L.take 2).length ≤ 2 := by rw [List.length_take]; omega
  have hl2 : (M.take 2).length ≤ 2 := by rw [List.length_take]; omega
  have hLt : ∀ d ∈ L.take 2, d < 18446744073709551616 := fun d hd => hL d (List.mem_of_mem_take hd)
  have hMt : ∀ d ∈ M.take 2, d < 18446744073709551616 := fun d hd => hM d (List.mem_of_mem_take hd)
  have HF1 : Hid (∀ W, Upd [] w W → Calls Tryz.prog 62 #[.slice a0 l0 c0, .int .i64 2] W (fun e w' => ∃ a' l' c', e = .returned (.slice a' l' c') ∧ Sl w' (.slice a' l' c') (cu64 (L.take 2)) ∧ Upd [] W w')) := fun W h => few_take a0 l0 c0 L 2 (by decide) W (hu.upd0 h)
  have HF2 : Hid (∀ W, Upd [] w W → Calls Tryz.prog 62 #[.slice a1 l1 c1, .int .i64 2] W (fun e w' => ∃ a' l' c', e = .returned (.slice a' l' c') ∧ Sl w' (.slice a' l' c') (cu64 (M.take 2)) ∧ Upd [] W w')) := fun W h => few_take a1 l1 c1 M 2 (by decide) W (hv.upd0 h)
  have HRO : Hid (∀ W s, Sl W s (cu64 (M.take 2)) → Calls Tryz.prog 66 #[s] W (RDig Q W)) := fun W s hs => by rw [hQ]; exact rof_any _ _ W hs hMt (by omega)
  have HOP : Hid (∀ W s, Sl W s (cu64 (L.take 2)) → Calls Tryz.prog 32 #[s] W (RNat P W)) := fun W s hs => by rw [hP]; exact of_any _ _ W hs (by omega) hLt
  have HOQ : Hid (∀ W s, Sl W s (cu64 [1]) → Calls Tryz.prog 32 #[s] W (RNat 1 W)) := fun W s hs => by have := of_any s [1] W hs (by simp) (by simp); simpa [wval] using this
  obtain ⟨zp, hzp⟩ : ∃ z : Int, z = (if b0 then -(P : Int) else P) := ⟨_, rfl⟩
  have HMP : Hid (∀ W s, NV W s P → Calls Tryz.prog 35 #[.bool b0, s] W (RWhole zp W)) := fun W s hs => by rw [hzp]; exact wmake_any b0 _ _ W hs
  have HMQ : Hid (∀ W s, NV W s 1 → Calls Tryz.prog 35 #[.bool false, s] W (RWhole ((1 : Nat) : Int) W)) := fun W s hs => wmake_any false _ _ W hs
  have hzl : (wds zp.natAbs).length ≤ 1073741824 := by
    have : zp.natAbs = P := by rw [hzp]; split <;> simp
    rw [this]; omega
  obtain ⟨qv, hqv⟩ : ∃ r : Rat, r = qval (zP b0 P) (zM b0 P) 1 := ⟨_, rfl⟩
  have HFR : Hid (∀ W s t, WV W s zp → WV W t ((1 : Nat) : Int) → Calls Tryz.prog 33 #[s, t] W (RRatE qv 0 W)) := fun W s t hs ht => by
    have := frac_any s t zp ((1 : Nat) : Int) W hs ht (by decide) hzl (by exact Nat.le_trans (nv_len 1 (by decide)) (by decide))
    rw [hzp, divInt_sgn, ← hqv] at this
    exact this
  have HZM : Hid (∀ W s, Sl W s (cu64 (L.take 2)) → Calls Tryz.prog 63 #[.bool b0, s] W (RZ (zP b0 P) (zM b0 P) W)) := fun W s hs => by rw [hP]; exact zmake_any b0 _ _ W hs hLt (by omega)
  have HQF : Hid (∀ W s t, ZV W s (zP b0 P) (zM b0 P) → DV W t 1 → Calls Tryz.prog 77 #[s, t] W (RQ (zP b0 P) (zM b0 P) 1 W)) := fun W s t hs ht => qfrac_any _ _ _ _ _ W hs ht
  have HQL : Hid (∀ W s, DV W s Q → ∃ a l c, s = .slice a l c ∧ l = (digs Q).length) := fun W s hs => by
    obtain ⟨a, c, rfl, _⟩ := dig_open hs
    exact ⟨a, _, c, rfl, rfl⟩
  have HZQ : Hid ((((digs Q).length : Int) == 0) = true) := by
    show _ = _
    rw [hz, digs_zero]; rfl
  rw [show den1 Q = 1 from if_pos hz]
  unfold RBoth
  rw [← hqv]
  generalize zP b0 P = zp1 at *
  generalize zM b0 P = zm1 at *
  clear hu hv hL hM hz hP hQ hb1 hb2 hl1 hl2 hLt hMt hzp hzl hqv
  generalize L.take 2 = Lp at *
  generalize M.take 2 = Lq at *
  obtain ⟨w0, hw0⟩ : ∃ W, W = (((w.alloc (.cells #[.slice a0 l0 c0, .slice a1 l1 c1, .bool b0] 51)).alloc (.cells #[.bool false, .slice none 0 0, .slice none 0 0] 53)).alloc (.cells #[.slice none 0 0, .slice none 0 0, .slice none 0 0] 55)) := ⟨_, rfl⟩
  obtain ⟨S, hS⟩ : ∃ s, s = w.heap.size := ⟨_, rfl⟩
  obtain ⟨hu0, r0, r1, r2, hz0⟩ := rows3 w #[.slice a0 l0 c0, .slice a1 l1 c1, .bool b0] #[.bool false, .slice none 0 0, .slice none 0 0] #[.slice none 0 0, .slice none 0 0, .slice none 0 0] 51 53 55 w0 hw0 S hS
  have HU0 := Lib.hid hu0
  have HW0 := Lib.hid hw0
  have HS := Lib.hid hS
  have HZ0 := Lib.hid hz0
  have HR0 := Lib.hid r0
  have HR1 := Lib.hid r1
  have HR2 := Lib.hid r2
  have hrf : Upd [] w0 w0 := Upd.refl _ _
  clear hw0 hS hu0 r0 r1 r2 hz0
  have HC : Hid (∀ W, Upd [] w0 W → W.cell? ⟨S, 0, none⟩ = some (.slice a0 l0 c0) ∧ W.cell? ⟨S, 1, none⟩ = some (.slice a1 l1 c1) ∧ W.cell? ⟨S, 2, none⟩ = some (.bool b0) ∧ Upd [] w0 W) := fun W h =>
    ⟨(HR0.out.upd h (by simp <;> omega)).cell 0, (HR0.out.upd h (by simp <;> omega)).cell 1, (HR0.out.upd h (by simp <;> omega)).cell 2, h⟩
  go_enter Tryz.func26, Tryz.ntmps26
  go_wp2_with fail
  rw [← HW0.out]
  rw [← HS.out]
  go_cut [4, 5] (fun v4 v5 wx => ∃ (aP : Option Addr) (lP cP : Nat) (aQ : Option Addr) (lQ cQ : Nat), v4 = .slice aP lP cP ∧ v5 = .slice aQ lQ cQ ∧ Hid (Sl wx (.slice aP lP cP) (cu64 Lp)) ∧ Hid (Sl wx (.slice aQ lQ cQ) (cu64 Lq)) ∧ Hid (Upd [] w0 wx))
  case first =>
    go_region_held3 (fun W => W.cell? ⟨S, 0, none⟩ = some (.slice a0 l0 c0) ∧ W.cell? ⟨S, 1, none⟩ = some (.slice a1 l1 c1) ∧ W.cell? ⟨S, 2, none⟩ = some (.bool b0) ∧ Upd [] w0 W)
      ((refine HC.out _ ?_; repeat (first | exact huy | exact hrf | apply Upd.drew)))
      (first
        | (go_at_call 62; (with_reducible refine (HF1.out _ (HU0.out.trans0 (by repeat (first | exact huy | exact hrf | apply Upd.drew | apply Upd.alloc)))).mono ?_); rintro e wz ⟨aA, lA, cA, rfl, hsA, hu20⟩;  have HSA := Lib.hid hsA; clear hsA; have huz : Upd [] w0 wz := Upd.trans0 (by repeat (first | exact huy | exact hrf | apply Upd.drew | apply Upd.alloc)) hu20; (try clear huy); clear hu20; have huy := huz; clear huz)
        | (go_at_call 62; (with_reducible refine (HF2.out _ (HU0.out.trans0 (by repeat (first | exact huy | exact hrf | apply Upd.drew | apply Upd.alloc)))).mono ?_); rintro e wz ⟨aB, lB, cB, rfl, hsB, hu20⟩; have HSA := Lib.hid (HSA.out.upd0 (by first | exact hu20 | exact Upd.al hu20)); have HSB := Lib.hid hsB; clear hsB; have huz : Upd [] w0 wz := Upd.trans0 (by repeat (first | exact huy | exact hrf | apply Upd.drew | apply Upd.alloc)) hu20; (try clear huy); clear hu20; have huy := huz; clear huz))
    all_goals
      go_wp2_with fail
      go_meet
      exact ⟨_, _, _, _, _, _, rfl, rfl, HSA, HSB, Lib.hid huy⟩
  case rest =>
    obtain ⟨aP, lP, cP, aQ, lQ, cQ, rfl, rfl, HSP0, HSQ0, HV1⟩ := hcut
    obtain ⟨w1, hw1⟩ : ∃ W, W = wc := ⟨_, rfl⟩
    rw [← hw1] at HSP0 HSQ0 HV1 ⊢
    clear hw1 hrf HC
    go_wp2_with fail
    refine (HRO.out _ _ HSQ0.out).mono ?_
    rintro e w2 ⟨v6, rfl, hd6, hu2⟩
    obtain ⟨a6, l6, c6, rfl, hl6⟩ := HQL.out _ _ (DV.of hd6)
    have hz6 := HZQ.out
    rw [← hl6] at hz6
    have HV2 := Lib.hid (HV1.out.trans0 hu2)
    have HSP2 := Lib.hid (HSP0.out.upd0 hu2)
    clear hd6 hu2 hl6
    go_wp2_with fail
    have h1 := Sl.lit1 w2 (.int .u64 1) 64
    have HL1 : Hid (∀ W, Upd [] (w2.alloc (.cells #[.int .u64 1] 64)) W → Sl W (.slice (some ⟨w2.heap.size, 0, none⟩) 1 1) (cu64 [1])) := fun W h => h1.upd0 h
    clear h1
    refine (small_any 1 _ (by decide)).mono ?_
    rintro e w3 ⟨v7, rfl, hd7, hu3⟩
    obtain ⟨K, hK⟩ : ∃ k, k = w2.heap.size := ⟨_, rfl⟩
    have HSQ := Lib.hid (HL1.out _ hu3)
    have HDN := Lib.hid (DV.of hd7)
    have HV3 := Lib.hid (HV2.out.trans0 (Upd.al hu3))
    have HSP := Lib.hid (HSP2.out.upd0 (Upd.al hu3))
    rw [← hK] at HSQ ⊢
    clear hd7 hu3 HL1 hz6 hK
    go_wp2_with fail
    have hrf : Upd [] w3 w3 := Upd.refl _ _
    have HC : Hid (∀ W, Upd [] w3 W → W.cell? ⟨S, 0, none⟩ = some (.slice a0 l0 c0) ∧ W.cell? ⟨S, 1, none⟩ = some (.slice a1 l1 c1) ∧ W.cell? ⟨S, 2, none⟩ = some (.bool b0) ∧ Upd [] w3 W) := fun W h =>
      ⟨((HR0.out.upd0 HV3.out).upd h (by simp <;> omega)).cell 0, ((HR0.out.upd0 HV3.out).upd h (by simp <;> omega)).cell 1, ((HR0.out.upd0 HV3.out).upd h (by simp <;> omega)).cell 2, h⟩
    go_cut [7, 8] (fun v7 v8 wx => ∃ (kQ : Nat) (bQ : Bool) (sQ : Option Addr) (lQ cQ : Nat) (sP : Option Addr) (lP cP : Nat), v7 = .pointer (some ⟨kQ, 0, none⟩) ∧ v8 = .int .i64 0 ∧ Hid (NewR w3 (qv) wx kQ bQ sQ lQ cQ sP lP cP))
    case first =>
      go_region_held3 (fun W => W.cell? ⟨S, 0, none⟩ = some (.slice a0 l0 c0) ∧ W.cell? ⟨S, 1, none⟩ = some (.slice a1 l1 c1) ∧ W.cell? ⟨S, 2, none⟩ = some (.bool b0) ∧ Upd [] w3 W)
        ((refine HC.out _ ?_; repeat (first | (with_reducible refine Upd.setCell ?_ (.inr hrk.lo) _) | (with_reducible refine Upd.setCell ?_ (.inr huy.size) _) | (with_reducible exact huy) | (with_reducible exact hrf) | (with_reducible apply Upd.drew) | (with_reducible apply Upd.alloc))))
        (first
          | (go_at_call 32; (with_reducible refine (HOP.out _ _ (HSP.out.upd0 (by repeat (first | exact huy | exact hrf | apply Upd.drew | apply Upd.alloc)))).mono ?_); rintro e wz ⟨vA, rfl, hnA, hu20⟩;  have HNA := Lib.hid hnA; clear hnA; have huz : Upd [] w3 wz := Upd.trans0 (by repeat (first | exact huy | exact hrf | apply Upd.drew | apply Upd.alloc)) hu20; (try have hrk := NewRow.upd hrk hu20); (try have hrk := NewRow.of (by first | exact huy | exact hrf.drew | exact hrf) hu20); (try have hrk := NewRow.of0 hrf hu20); (try clear huy); clear hu20; have huy := huz; clear huz)
          | (go_at_call 35; (with_reducible refine (HMP.out _ _ (by first | exact HNA.out | exact HNA.out.upd0 ((Upd.refl _ _).alloc _))).mono ?_); rintro e wz ⟨vB, rfl, hvB, hu20⟩; have HNA := Lib.hid (HNA.out.upd0 (by first | exact hu20 | exact Upd.al hu20)); have HVB := Lib.hid hvB; clear hvB; have huz : Upd [] w3 wz := Upd.trans0 (by repeat (first | exact huy | exact hrf | apply Upd.drew | apply Upd.alloc)) hu20; (try have hrk := NewRow.upd hrk hu20); (try have hrk := NewRow.of (by first | exact huy | exact hrf.drew | exact hrf) hu20); (try have hrk := NewRow.of0 hrf hu20); (try clear huy); clear hu20; have huy := huz; clear huz)
          | (go_at_call 32; (with_reducible refine (HOQ.out _ _ (HSQ.out.upd0 (by repeat (first | exact huy | exact hrf | apply Upd.drew | apply Upd.alloc)))).mono ?_); rintro e wz ⟨vC, rfl, hnC, hu20⟩; have HNA := Lib.hid (HNA.out.upd0 (by first | exact hu20 | exact Upd.al hu20)); have HVB := Lib.hid (HVB.out.upd0 (by first | exact hu20 | exact Upd.al hu20)); have HNC := Lib.hid hnC; clear hnC; have huz : Upd [] w3 wz := Upd.trans0 (by repeat (first | exact huy | exact hrf | apply Upd.drew | apply Upd.alloc)) hu20; (try have hrk := NewRow.upd hrk hu20); (try have hrk := NewRow.of (by first | exact huy | exact hrf.drew | exact hrf) hu20); (try have hrk := NewRow.of0 hrf hu20); (try clear huy); clear hu20; have huy := huz; clear huz)
          | (go_at_call 35; (with_reducible refine (HMQ.out _ _ (by first | exact HNC.out | exact HNC.out.upd0 ((Upd.refl _ _).alloc _))).mono ?_); rintro e wz ⟨vD, rfl, hvD, hu20⟩; have HNA := Lib.hid (HNA.out.upd0 (by first | exact hu20 | exact Upd.al hu20)); have HVB := Lib.hid (HVB.out.upd0 (by first | exact hu20 | exact Upd.al hu20)); have HNC := Lib.hid (HNC.out.upd0 (by first | exact hu20 | exact Upd.al hu20)); have HVD := Lib.hid hvD; clear hvD; have huz : Upd [] w3 wz := Upd.trans0 (by repeat (first | exact huy | exact hrf | apply Upd.drew | apply Upd.alloc)) hu20; (try have hrk := NewRow.upd hrk hu20); (try have hrk := NewRow.of (by first | exact huy | exact hrf.drew | exact hrf) hu20); (try have hrk := NewRow.of0 hrf hu20); (try clear huy); clear hu20; have huy := huz; clear huz)
          | (go_at_call 33; (with_reducible refine (HFR.out _ _ _ (by first | exact HVB.out | exact HVB.out.upd0 ((Upd.refl _ _).alloc _)) (by first | exact HVD.out | exact HVD.out.upd0 ((Upd.refl _ _).alloc _))).mono ?_); rintro e wz ⟨vF, rfl, hFv, hu20⟩; have HNA := Lib.hid (HNA.out.upd0 (by first | exact hu20 | exact Upd.al hu20)); have HVB := Lib.hid (HVB.out.upd0 (by first | exact hu20 | exact Upd.al hu20)); have HNC := Lib.hid (HNC.out.upd0 (by first | exact hu20 | exact Upd.al hu20)); have HVD := Lib.hid (HVD.out.upd0 (by first | exact hu20 | exact Upd.al hu20)); obtain ⟨aF, lF, cF, dF, mF, eF, rfl, _, _⟩ := hFv.open; have HF := Lib.hid hFv; clear hFv; have huz : Upd [] w3 wz := Upd.trans0 (by repeat (first | exact huy | exact hrf | apply Upd.drew | apply Upd.alloc)) hu20; (try have hrk := NewRow.upd hrk hu20); (try have hrk := NewRow.of (by first | exact huy | exact hrf.drew | exact hrf) hu20); (try have hrk := NewRow.of0 hrf hu20); (try clear huy); clear hu20; have huy := huz; clear huz; (try have y0 := hrk.row.cell 0); (try have g0 := hrk.row.frozen 0); (try have y1 := hrk.row.cell 1); (try have g1 := hrk.row.frozen 1); (try have y2 := hrk.row.cell 2); (try have g2 := hrk.row.frozen 2)))
      all_goals
        go_wp2_with fail
        go_meet
        first
          | exact ⟨_, _, _, _, _, _, _, _, rfl, rfl, Lib.hid (NewR.set hrk huy HF.out)⟩
          | exact ⟨_, _, _, _, _, _, _, _, rfl, rfl, Lib.hid (NewR.new huy HF.out)⟩
    case rest =>
      obtain ⟨k7, p7, a7, l7, c7, d7, m7, e7, rfl, rfl, HK7⟩ := hcut
      obtain ⟨w8, hw8⟩ : ∃ W, W = wc := ⟨_, rfl⟩
      rw [← hw8] at HK7 ⊢
      have hUw8 : Upd [] w3 w8 := HK7.out.upd
      have hlo7 := HK7.out.lo
      clear hrf HC hw8
      have HV8 := Lib.hid (HV3.out.trans0 hUw8)
      have HSP8 := Lib.hid (HSP.out.upd0 hUw8)
      have HDN8 := Lib.hid (HDN.out.upd0 hUw8)
      have HR78 := Lib.hid HK7.out.rv
      have hkk : k7 ≠ S + 1 ∧ k7 ≠ S + 1 + 1 := by have h1 := HZ0.out; have h2 := HV3.out.size; omega
      obtain ⟨hk1, hk2⟩ := hkk
      have HRQ := Lib.hid (HR1.out.upd0 HV8.out)
      have HRR := Lib.hid (HR2.out.upd0 HV8.out)
      have hrf : Upd [] w8 w8 := Upd.refl _ _
      have HC : Hid (∀ W, Upd [S + 1, S + 1 + 1] w8 W → W.cell? ⟨S, 0, none⟩ = some (.slice a0 l0 c0) ∧ W.cell? ⟨S, 1, none⟩ = some (.slice a1 l1 c1) ∧ W.cell? ⟨S, 2, none⟩ = some (.bool b0) ∧ W.cell? ⟨k7, 0, none⟩ = some (.bool p7) ∧ W.cell? ⟨k7, 1, none⟩ = some (.slice a7 l7 c7) ∧ W.cell? ⟨k7, 2, none⟩ = some (.slice d7 m7 e7) ∧ Upd [S + 1, S + 1 + 1] w8 W) := fun W h =>
        ⟨((HR0.out.upd0 HV8.out).upd h (by simp <;> omega)).cell 0, ((HR0.out.upd0 HV8.out).upd h (by simp <;> omega)).cell 1, ((HR0.out.upd0 HV8.out).upd h (by simp <;> omega)).cell 2, (HK7.out.row.upd h (by simp <;> omega)).cell 0, (HK7.out.row.upd h (by simp <;> omega)).cell 1, (HK7.out.row.upd h (by simp <;> omega)).cell 2, h⟩
      have hcA : ∀ W, Upd [] w8 W → W.cell? ⟨S + 1, 0, none⟩ = some (.bool false) ∧ W.cell? ⟨S + 1, 1, none⟩ = some (.slice none 0 0) ∧ W.cell? ⟨S + 1, 2, none⟩ = some (.slice none 0 0) ∧ W.frozen? ⟨S + 1, 0, none⟩ = false ∧ W.frozen? ⟨S + 1, 1, none⟩ = false ∧ W.frozen? ⟨S + 1, 2, none⟩ = false := fun W h => ⟨(HRQ.out.upd0 h).cell 0, (HRQ.out.upd0 h).cell 1, (HRQ.out.upd0 h).cell 2, (HRQ.out.upd0 h).frozen 0, (HRQ.out.upd0 h).frozen 1, (HRQ.out.upd0 h).frozen 2⟩
      have hcB : ∀ W, Upd [] w8 W → W.cell? ⟨S + 1 + 1, 0, none⟩ = some (.slice none 0 0) ∧ W.cell? ⟨S + 1 + 1, 1, none⟩ = some (.slice none 0 0) ∧ W.cell? ⟨S + 1 + 1, 2, none⟩ = some (.slice none 0 0) ∧ W.frozen? ⟨S + 1 + 1, 0, none⟩ = false ∧ W.frozen? ⟨S + 1 + 1, 1, none⟩ = false ∧ W.frozen? ⟨S + 1 + 1, 2, none⟩ = false := fun W h => ⟨(HRR.out.upd0 h).cell 0, (HRR.out.upd0 h).cell 1, (HRR.out.upd0 h).cell 2, (HRR.out.upd0 h).frozen 0, (HRR.out.upd0 h).frozen 1, (HRR.out.upd0 h).frozen 2⟩
      have hS1 : S + 1 ≠ S + 1 + 1 := by omega
      have hS2 : S + 1 + 1 ≠ S + 1 := by omega
      go_wp2_with fail
      go_region_held3 (fun W => W.cell? ⟨S, 0, none⟩ = some (.slice a0 l0 c0) ∧ W.cell? ⟨S, 1, none⟩ = some (.slice a1 l1 c1) ∧ W.cell? ⟨S, 2, none⟩ = some (.bool b0) ∧ W.cell? ⟨k7, 0, none⟩ = some (.bool p7) ∧ W.cell? ⟨k7, 1, none⟩ = some (.slice a7 l7 c7) ∧ W.cell? ⟨k7, 2, none⟩ = some (.slice d7 m7 e7) ∧ Upd [S + 1, S + 1 + 1] w8 W)
        ((refine HC.out _ ?_; repeat (first | (with_reducible refine Upd.setCell ?_ (.inl (by simp)) _) | (with_reducible exact huy.mono (by simp)) | (with_reducible exact hrf.mono (by simp)) | (with_reducible apply Upd.drew) | (with_reducible apply Upd.alloc))))
        (first
          | (go_at_call 63; (with_reducible refine (HZM.out _ _ (HSP8.out.upd0 (by repeat (first | exact huy | exact hrf | apply Upd.drew | apply Upd.alloc)))).mono ?_); rintro e wz ⟨vA, rfl, hzA, hu20⟩;  have HZA := Lib.hid hzA; clear hzA; have huz : Upd [] w8 wz := Upd.trans0 (by repeat (first | exact huy | exact hrf | apply Upd.drew | apply Upd.alloc)) hu20; (try clear huy); clear hu20; have huy := huz; clear huz)
          | (go_at_call 77; (with_reducible refine (HQF.out _ _ _ (by first | exact HZA.out | exact ZV.upd0 HZA.out ((Upd.refl _ _).alloc _)) (HDN8.out.upd0 (by repeat (first | exact huy | exact hrf | apply Upd.drew | apply Upd.alloc)))).mono ?_); rintro e wz ⟨vX, rfl, hqX, hu20⟩; have HZA := Lib.hid (HZA.out.upd0 (by first | exact hu20 | exact Upd.al hu20)); obtain ⟨aX, lX, cX, dX, mX, eX, fX, gX, hX, rfl, _, _⟩ := QV.open hqX; have HQX := Lib.hid hqX; clear hqX; have HR7z := Lib.hid (HR78.out.upd0 (Upd.trans0 (by repeat (first | exact huy | exact hrf | apply Upd.drew | apply Upd.alloc)) hu20)); have huz : Upd [] w8 wz := Upd.trans0 (by repeat (first | exact huy | exact hrf | apply Upd.drew | apply Upd.alloc)) hu20; (try clear huy); clear hu20; have huy := huz; clear huz; obtain ⟨x0, x1, x2, x3, x4, x5⟩ := hcA _ huy; obtain ⟨y0, y1, y2, y3, y4, y5⟩ := hcB _ huy))
      all_goals
        have HP := putRQ hS1 (by have := HS.out; omega) (by have := HS.out; omega) (HRQ.out.upd0 huy) (HRR.out.upd0 huy) (HU0.out.trans0 (HV8.out.trans0 huy)) HR7z.out HQX.out
        have HP1 := Lib.hid HP.1
        have HP2 := Lib.hid HP.2
        clear HP hcA hcB huy
        first
          | (have z0 := HP1.out.ri.cell 0
             have z1 := HP1.out.ri.cell 1
             have z2 := HP1.out.ri.cell 2
             have z3 := HP1.out.rj.cell 0
             have z4 := HP1.out.rj.cell 1
             have z5 := HP1.out.rj.cell 2
             go_wp2
             refine bodyPost_ret (v := .tuple #[.agg #[.bool p7, .slice a7 l7 c7, .slice d7 m7 e7], .agg #[.slice aX lX cX, .slice dX mX eX, .slice fX gX hX]]) (by simp [results, Tryz.results26, go_sem, z0, z1, z2, z3, z4, z5]) rfl ?_
             exact ⟨_, _, rfl, HP1.out.vi, HP1.out.vj, HP1.out.u⟩)
          | (have z0 := HP2.out.ri.cell 0
             have z1 := HP2.out.ri.cell 1
             have z2 := HP2.out.ri.cell 2
             have z3 := HP2.out.rj.cell 0
             have z4 := HP2.out.rj.cell 1
             have z5 := HP2.out.rj.cell 2
             go_wp2
             refine bodyPost_ret (v := .tuple #[.agg #[.bool p7, .slice a7 l7 c7, .slice d7 m7 e7], .agg #[.slice aX lX cX, .slice dX mX eX, .slice fX gX hX]]) (by simp [results, Tryz.results26, go_sem, z0, z1, z2, z3, z4, z5]) rfl ?_
             exact ⟨_, _, rfl, HP2.out.vi, HP2.out.vj, HP2.out.u⟩)

theorem both_any (a0 : Option Addr) (l0 c0 : Nat) (L : List Nat) (a1 : Option Addr) (l1 c1 : Nat) (M : List Nat) (b0 : Bool) (w : World) (hu : Sl w (.slice a0 l0 c0) (cu64 L)) (hL : ∀ d ∈ L, d < 18446744073709551616) (hv : Sl w (.slice a1 l1 c1) (cu64 M)) (hM : ∀ d ∈ M, d < 18446744073709551616) : Calls Tryz.prog 26 #[.agg #[.slice a0 l0 c0, .slice a1 l1 c1, .bool b0]] w (RBoth b0 (wval (L.take 2)) (den1 (wval (M.take 2))) w) := by
  by_cases h : wval (M.take 2) = 0
  · exact both_1 a0 l0 c0 L a1 l1 c1 M b0 w hu hL hv hM h
  · exact both_q a0 l0 c0 L a1 l1 c1 M b0 w hu hL hv hM h
end Go.Proofs.YtoklmfmoblkfcaaGreatDoor
