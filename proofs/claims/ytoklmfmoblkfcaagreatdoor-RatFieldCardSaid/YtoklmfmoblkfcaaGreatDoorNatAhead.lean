/- The contract of nat.ahead (layer 5). -/
import Derived.Test.YtoklmfmoblkfcaaGreatDoorAb
import Derived.Test.YtoklmfmoblkfcaaGreatDoorAa
import Derived.Test.YtoklmfmoblkfcaaGreatDoorAc
import Derived.Test.YtoklmfmoblkfcaaGreatDoorGcdMath2
import Derived.Deep.DeepCutAuto
import Derived.Deep.RegionHeld3
namespace Go.Proofs.YtoklmfmoblkfcaaGreatDoor
open Go.RowKit Go.Proofs.Tm
set_option linter.unusedVariables false
set_option maxRecDepth 20000

/-- Two mixes, as they stand in memory. -/
structure MixAt (w : World) (i j : Nat) (pa pb qa qb : Nat) (W : World) : Prop where
  p : W.heap[i]? = some (.cells #[.int .u64 (pa : Int), .int .u64 (pb : Int)] 152 (0, 0))
  q : W.heap[j]? = some (.cells #[.int .u64 (qa : Int), .int .u64 (qb : Int)] 152 (0, 0))
  u : Upd [] w W

theorem heap_pair {W : World} {i : Nat} {x y : Value} {t : TypeId} (h : W.heap[i]? = some (.cells #[x, y] t (0, 0))) (a b : Value) : ((W.setCell ⟨i, 0, none⟩ a).setCell ⟨i, 1, none⟩ b).heap[i]? = some (.cells #[a, b] t (0, 0)) := by
  have h1 := heap_setCell_same W i 0 _ _ a h
  rw [heap_setCell_same _ i 1 _ _ b h1]
  rfl
theorem MixAt.put {w W : World} {i j : Nat} {x y x' y' : Value} {pa pb qa qb : Nat} (hij : i ≠ j) (hi : w.heap.size ≤ i) (hj : w.heap.size ≤ j) (hp : W.heap[i]? = some (.cells #[x, y] 152 (0, 0))) (hq : W.heap[j]? = some (.cells #[x', y'] 152 (0, 0))) (u : Upd [] w W) :
    MixAt w i j pa pb qa qb ((((W.setCell ⟨i, 0, none⟩ (.int .u64 (pa : Int))).setCell ⟨i, 1, none⟩ (.int .u64 (pb : Int))).setCell ⟨j, 0, none⟩ (.int .u64 (qa : Int))).setCell ⟨j, 1, none⟩ (.int .u64 (qb : Int))) := by
  refine ⟨?_, ?_, (((u.setCell (.inr hi) _).setCell (.inr hi) _).setCell (.inr hj) _).setCell (.inr hj) _⟩
  · rw [Below.heap_setCell _ _ _ _ (by show i ≠ j; exact hij), Below.heap_setCell _ _ _ _ (by show i ≠ j; exact hij)]
    exact heap_pair hp _ _
  · refine heap_pair (x := x') (y := y') ?_ _ _
    rw [Below.heap_setCell _ _ _ _ (by show j ≠ i; exact fun e => hij e.symm), Below.heap_setCell _ _ _ _ (by show j ≠ i; exact fun e => hij e.symm)]
    exact hq
theorem MixAt.cells {w : World} {i j pa pb qa qb : Nat} {W : World} (h : MixAt w i j pa pb qa qb W) : W.cell? ⟨i, 0, none⟩ = some (.int .u64 (pa : Int)) ∧ W.cell? ⟨i, 1, none⟩ = some (.int .u64 (pb : Int)) ∧ W.cell? ⟨j, 0, none⟩ = some (.int .u64 (qa : Int)) ∧ W.cell? ⟨j, 1, none⟩ = some (.int .u64 (qb : Int)) ∧
    W.frozen? ⟨i, 0, none⟩ = false ∧ W.frozen? ⟨i, 1, none⟩ = false ∧ W.frozen? ⟨j, 0, none⟩ = false ∧ W.frozen? ⟨j, 1, none⟩ = false :=
  ⟨by rw [cell_of_row W _ 0 _ _ _ h.p]; rfl, by rw [cell_of_row W _ 1 _ _ _ h.p]; rfl, by rw [cell_of_row W _ 0 _ _ _ h.q]; rfl, by rw [cell_of_row W _ 1 _ _ _ h.q]; rfl, frozen_of_row W _ 0 _ _ h.p, frozen_of_row W _ 1 _ _ h.p, frozen_of_row W _ 0 _ _ h.q, frozen_of_row W _ 1 _ _ h.q⟩

theorem MixAt.upd0 {w W W' : World} {i j pa pb qa qb : Nat} (h : MixAt w i j pa pb qa qb W) (u : Upd [] W W') : MixAt w i j pa pb qa qb W' :=
  ⟨(u.block _ (lt_of_block h.p) (by simp)).trans h.p, (u.block _ (lt_of_block h.q) (by simp)).trans h.q, h.u.trans0 u⟩
theorem MixAt.again {w W : World} {i j pa pb qa qb pa' pb' qa' qb' : Nat} (hij : i ≠ j) (hi : w.heap.size ≤ i) (hj : w.heap.size ≤ j) (h : MixAt w i j pa pb qa qb W) :
    MixAt w i j pa' pb' qa' qb' ((((W.setCell ⟨i, 0, none⟩ (.int .u64 (pa' : Int))).setCell ⟨i, 1, none⟩ (.int .u64 (pb' : Int))).setCell ⟨j, 0, none⟩ (.int .u64 (qa' : Int))).setCell ⟨j, 1, none⟩ (.int .u64 (qb' : Int))).drew :=
  (MixAt.put hij hi hj h.p h.q h.u).upd0 (Upd.refl _ _).drew

/-- What ahead answers. -/
def AhPost (m n : Nat) (w : World) (e : Ending) (w' : World) : Prop :=
  ∃ pa pb qa qb k : Nat, e = .returned (.tuple #[.agg #[.int .u64 (pa : Int), .int .u64 (pb : Int)], .agg #[.int .u64 (qa : Int), .int .u64 (qb : Int)], .int .i64 (k : Int)]) ∧ Upd [] w w' ∧ k < 4294967297 ∧
    pa < 18446744073709551616 ∧ pb < 18446744073709551616 ∧ qa < 18446744073709551616 ∧ qb < 18446744073709551616 ∧
    (1 ≤ k → ∃ P Q : Nat, Q < P ∧ P ≤ n ∧ Nat.gcd P Q = Nat.gcd m n ∧ (k % 2 = 0 → pa * m = pb * n + P ∧ qb * n = qa * m + Q) ∧ (k % 2 = 1 → pb * n = pa * m + P ∧ qa * m = qb * n + Q))

set_option maxHeartbeats 3200000 in
theorem ahead_any (u v : Value) (m n : Nat) (w : World) (hu : NV w u m) (hv : NV w v n) (hnm : n ≤ m) (hlen : (wds m).length ≤ 1073741824) :
    Calls Tryz.prog 120 #[u, v] w (AhPost m n w) := by
  obtain ⟨a, ca, rfl, hla, hca⟩ := hu.open
  obtain ⟨b, cb, rfl, hlb, hcb⟩ := hv.open
  have HA := Lib.hid hu
  have HB := Lib.hid hv
  obtain ⟨B, hB⟩ : ∃ B, B = nbits m := ⟨_, rfl⟩
  have hB2 : B ≤ 64 * (wds m).length := by rw [hB, nbits_le_iff, Nat.pow_mul]; exact wds_lt_pow m
  obtain ⟨low, hlow⟩ : ∃ l, l = B - 64 := ⟨_, rfl⟩
  have hxb : m / 2 ^ low < 18446744073709551616 := by
    have h1 : m < 2 ^ B := by rw [hB]; exact (nbits_le_iff _ _).1 (Nat.le_refl _)
    rw [Nat.div_lt_iff_lt_mul (Nat.two_pow_pos _)]
    have h2 : 2 ^ B ≤ 2 ^ 64 * 2 ^ low := by rw [← Nat.pow_add]; exact Nat.pow_le_pow_right (by decide) (by omega)
    rw [show (18446744073709551616 : Nat) = 2 ^ 64 from rfl]
    omega
  have hyb : n / 2 ^ low < 18446744073709551616 := Nat.lt_of_le_of_lt (Nat.div_le_div_right hnm) hxb
  have HBITS : Hid (∀ W, Upd [] w W → Calls Tryz.prog 126 #[.agg #[.slice a (wds m).length ca]] W fun e w' => e = .returned (.int .i64 (B : Int)) ∧ Upd [] W w') := fun W h => by rw [hB]; exact bits_any _ m W (HA.out.upd0 h) (by omega)
  have HFA : Hid (∀ W, Upd [] w W → Calls Tryz.prog 143 #[.agg #[.slice a (wds m).length ca], .int .i64 (low : Int)] W fun e w' => e = .returned (.int .u64 ((m / 2 ^ low : Nat) : Int)) ∧ Upd [] W w') := fun W h => by
    have := from_any _ m low W (HA.out.upd0 h) (by omega)
    rw [Nat.mod_eq_of_lt hxb] at this
    exact this
  have HFB : Hid (∀ W, Upd [] w W → Calls Tryz.prog 143 #[.agg #[.slice b (wds n).length cb], .int .i64 (low : Int)] W fun e w' => e = .returned (.int .u64 ((n / 2 ^ low : Nat) : Int)) ∧ Upd [] W w') := fun W h => by
    have := from_any _ n low W (HB.out.upd0 h) (by omega)
    rw [Nat.mod_eq_of_lt hyb] at this
    exact this
  have HAH : Hid (AhN m n (2 ^ low) (m / 2 ^ low) (n / 2 ^ low) (m % 2 ^ low) (n % 2 ^ low) (m / 2 ^ low) (n / 2 ^ low) 1 0 0 1 0) := AhN.start m n (2 ^ low) (Nat.two_pow_pos _) hnm
  obtain ⟨L, hL⟩ : ∃ L, L = 2 ^ low := ⟨_, rfl⟩
  obtain ⟨X, hX⟩ : ∃ X, X = m / L := ⟨_, rfl⟩
  obtain ⟨Y, hY⟩ : ∃ Y, Y = n / L := ⟨_, rfl⟩
  obtain ⟨al, hal⟩ : ∃ X, X = m % L := ⟨_, rfl⟩
  obtain ⟨be, hbe⟩ : ∃ X, X = n % L := ⟨_, rfl⟩
  rw [← hL, ← hX, ← hY, ← hal, ← hbe] at HAH
  rw [← hL, ← hX] at HFA hxb
  rw [← hL, ← hY] at HFB hyb
  have hmax := fun ts t W => maxi_is (P := Tryz.prog) (a := 0) (b := (B : Int) - 64) (c := (low : Int)) (by omega) ts t W
  have hwB : IntKind.i64.wrap ((B : Int) - 64) = (B : Int) - 64 := IntWalk.i64_in _ (by omega)
  generalize (wds m).length = lm at *
  generalize (wds n).length = ln at *
  obtain ⟨w0, hw0⟩ : ∃ W, W = (((w.alloc (.cells #[.slice a lm ca] 27)).alloc (.cells #[.slice b ln cb] 27)).alloc (.cells #[.int .u64 0, .int .u64 0] 152)).alloc (.cells #[.int .u64 0, .int .u64 0] 152) := ⟨_, rfl⟩
  obtain ⟨S, hS⟩ : ∃ s, s = w.heap.size := ⟨_, rfl⟩
  have hu0 : Upd [] w w0 := by rw [hw0]; exact alloc4 _ _ _ _ _
  have HW0 := Lib.hid hw0
  have HS := Lib.hid hS
  have HU0 := Lib.hid hu0
  have HXB := Lib.hid hxb
  have HYB := Lib.hid hyb
  clear hu hv hB hB2 hlow hL hX hY hal hbe hxb hyb hnm hlen hw0 hS hu0
  go_enter Tryz.func120, Tryz.ntmps120
  go_wp2_with fail
  rw [← HW0.out]
  rw [← HS.out]
  refine (HBITS.out _ HU0.out).mono ?_
  rintro e w1 ⟨rfl, hu1⟩
  have hz0 : w0.heap.size = S + 1 + 1 + 1 + 1 := by rw [HW0.out, HS.out]; simp
  have hq0 : w0.heap[S]? = some (.cells #[.slice a lm ca] 27 (0, 0)) := by rw [HW0.out, HS.out, Below.heap_alloc _ _ _ (by simp <;> omega), Below.heap_alloc _ _ _ (by simp <;> omega), Below.heap_alloc _ _ _ (by simp <;> omega)]; exact heap_alloc_new w _
  have hq1 : w0.heap[S + 1]? = some (.cells #[.slice b ln cb] 27 (0, 0)) := by rw [HW0.out, HS.out, Below.heap_alloc _ _ _ (by simp <;> omega), Below.heap_alloc _ _ _ (by simp <;> omega)]; have := heap_alloc_new (w.alloc (.cells #[.slice a lm ca] 27)) (.cells #[.slice b ln cb] 27); simpa using this
  have hq2 : w0.heap[S + 1 + 1]? = some (.cells #[.int .u64 0, .int .u64 0] 152 (0, 0)) := by rw [HW0.out, HS.out, Below.heap_alloc _ _ _ (by simp <;> omega)]; have := heap_alloc_new ((w.alloc (.cells #[.slice a lm ca] 27)).alloc (.cells #[.slice b ln cb] 27)) (.cells #[.int .u64 0, .int .u64 0] 152); simpa using this
  have hq3 : w0.heap[S + 1 + 1 + 1]? = some (.cells #[.int .u64 0, .int .u64 0] 152 (0, 0)) := by rw [HW0.out, HS.out]; have := heap_alloc_new (((w.alloc (.cells #[.slice a lm ca] 27)).alloc (.cells #[.slice b ln cb] 27)).alloc (.cells #[.int .u64 0, .int .u64 0] 152)) (.cells #[.int .u64 0, .int .u64 0] 152); simpa using this
  have HC : Hid (∀ W, Upd [] w1 W → W.cell? ⟨S, 0, none⟩ = some (.slice a lm ca) ∧ W.cell? ⟨S + 1, 0, none⟩ = some (.slice b ln cb) ∧ Upd [] w1 W) := fun W h =>
    ⟨(((hu1.trans0 h).cell (p := ⟨S, 0, none⟩) (lt_of_block hq0) (by simp)).trans (by rw [cell_of_row w0 _ 0 _ _ _ hq0]; rfl)), (((hu1.trans0 h).cell (p := ⟨S + 1, 0, none⟩) (lt_of_block hq1) (by simp)).trans (by rw [cell_of_row w0 _ 0 _ _ _ hq1]; rfl)), h⟩
  have HQ2 : Hid (∀ W, Upd [] w1 W → W.heap[S + 1 + 1]? = some (.cells #[.int .u64 0, .int .u64 0] 152 (0, 0)) ∧ W.heap[S + 1 + 1 + 1]? = some (.cells #[.int .u64 0, .int .u64 0] 152 (0, 0))) := fun W h =>
    ⟨((hu1.trans0 h).block _ (lt_of_block hq2) (by simp)).trans hq2, ((hu1.trans0 h).block _ (lt_of_block hq3) (by simp)).trans hq3⟩
  have HU1 := Lib.hid (HU0.out.trans0 hu1)
  have hrf : Upd [] w1 w1 := Upd.refl _ _
  clear hu1 hz0 hq0 hq1 hq2 hq3
  go_wp2_with fail
  go_region_held3 (fun W => W.cell? ⟨S, 0, none⟩ = some (.slice a lm ca) ∧ W.cell? ⟨S + 1, 0, none⟩ = some (.slice b ln cb) ∧ Upd [] w1 W)
    (first
      | exact HC.out _ hux
      | exact HC.out _ huy
      | exact HC.out _ hrf.drew)
    (first
      | (go_at_call 143; (with_reducible refine Calls.mono (HFA.out _ ?_) ?_); (focus (refine HU1.out.trans0 ?_; (repeat (first | (with_reducible exact huy) | (with_reducible exact hrf) | (with_reducible refine Upd.drew ?_))); done)); rintro e wx ⟨rfl, hux0⟩; have hux : Upd [] w1 wx := Upd.trans0 (by (repeat (first | (with_reducible exact huy) | (with_reducible exact hrf) | (with_reducible refine Upd.drew ?_)))) hux0; clear hux0)
      | (go_at_call 143; (with_reducible refine Calls.mono (HFB.out _ ?_) ?_); (focus (refine HU1.out.trans0 ?_; (repeat (first | (with_reducible exact hux) | (with_reducible exact hrf) | (with_reducible refine Upd.drew ?_))); done)); rintro e wy ⟨rfl, huy0⟩; have huy : Upd [] w1 wy := Upd.trans0 (by (repeat (first | (with_reducible exact hux) | (with_reducible exact hrf) | (with_reducible refine Upd.drew ?_)))) huy0; clear huy0))
  obtain ⟨hp0, hp1⟩ := HQ2.out _ huy
  have cp0 : wy.cell? ⟨S + 1 + 1, 0, none⟩ = some (.int .u64 0) := by rw [cell_of_row wy _ 0 _ _ _ hp0]; rfl
  have cp1 : wy.cell? ⟨S + 1 + 1, 1, none⟩ = some (.int .u64 0) := by rw [cell_of_row wy _ 1 _ _ _ hp0]; rfl
  have cq0 : wy.cell? ⟨S + 1 + 1 + 1, 0, none⟩ = some (.int .u64 0) := by rw [cell_of_row wy _ 0 _ _ _ hp1]; rfl
  have cq1 : wy.cell? ⟨S + 1 + 1 + 1, 1, none⟩ = some (.int .u64 0) := by rw [cell_of_row wy _ 1 _ _ _ hp1]; rfl
  have fp0 : wy.frozen? ⟨S + 1 + 1, 0, none⟩ = false := frozen_of_row wy _ 0 _ _ hp0
  have fp1 : wy.frozen? ⟨S + 1 + 1, 1, none⟩ = false := frozen_of_row wy _ 1 _ _ hp0
  have fq0 : wy.frozen? ⟨S + 1 + 1 + 1, 0, none⟩ = false := frozen_of_row wy _ 0 _ _ hp1
  have fq1 : wy.frozen? ⟨S + 1 + 1 + 1, 1, none⟩ = false := frozen_of_row wy _ 1 _ _ hp1
  have HP0 := Lib.hid hp0
  have HP1 := Lib.hid hp1
  have HUY := Lib.hid (HU1.out.trans0 huy)
  clear hp0 hp1 huy hux hrf
  have HSw : Hid (w.heap.size ≤ S) := Nat.le_of_eq HS.out.symm
  have HM0 : Hid (MixAt w (S + 1 + 1) (S + 1 + 1 + 1) 1 0 0 1 ((((wy.setCell ⟨S + 1 + 1, 0, none⟩ (.int .u64 1)).setCell ⟨S + 1 + 1, 1, none⟩ (.int .u64 0)).setCell ⟨S + 1 + 1 + 1, 0, none⟩ (.int .u64 0)).setCell ⟨S + 1 + 1 + 1, 1, none⟩ (.int .u64 1))) :=
    MixAt.put (pa := 1) (pb := 0) (qa := 0) (qb := 1) (by omega) (by have := HSw.out; omega) (by have := HSw.out; omega) HP0.out HP1.out HUY.out
  go_wp2_with fail
  obtain ⟨wl, hwl⟩ : ∃ W, W = ((((wy.setCell ⟨S + 1 + 1, 0, none⟩ (.int .u64 1)).setCell ⟨S + 1 + 1, 1, none⟩ (.int .u64 0)).setCell ⟨S + 1 + 1 + 1, 0, none⟩ (.int .u64 0)).setCell ⟨S + 1 + 1 + 1, 1, none⟩ (.int .u64 1)) := ⟨_, rfl⟩
  rw [← hwl] at HM0 ⊢
  clear hwl cp0 cp1 cq0 cq1 fp0 fp1 fq0 fq1
  have hij : S + 1 + 1 ≠ S + 1 + 1 + 1 := by omega
  obtain ⟨i, hi⟩ : ∃ i, i = S + 1 + 1 := ⟨_, rfl⟩
  obtain ⟨j, hj⟩ : ∃ j, j = S + 1 + 1 + 1 := ⟨_, rfl⟩
  have HIJ : Hid (i ≠ j ∧ w.heap.size ≤ i ∧ w.heap.size ≤ j) := by show _ ∧ _ ∧ _; have := HSw.out; omega
  rw [← hj, ← hi] at HM0 ⊢
  clear hij hi hj
  go_loopw [6, 8, 9] (fun v6 v8 v9 wr => ∃ k x y pa pb qa qb : Nat, v6 = .int .i64 (k : Int) ∧ v8 = .int .u64 (x : Int) ∧ v9 = .int .u64 (y : Int) ∧ Hid (AhN m n L X Y al be x y pa pb qa qb k ∧ x < 18446744073709551616 ∧ y < 18446744073709551616 ∧ pa < 18446744073709551616 ∧ qa < 18446744073709551616 ∧ MixAt w i j pa pb qa qb wr)) (fun _ _ v9 _ => (intOf v9).toNat)
  case atStart => exact ⟨0, X, Y, 1, 0, 0, 1, rfl, rfl, rfl, HAH.out, HXB.out, HYB.out, by decide, by decide, HM0.out⟩
  case round =>
    obtain ⟨k, x, y, pa, pb, qa, qb, rfl, rfl, rfl, HI⟩ := hrel
    clear HM0 HAH
    obtain ⟨cp0, cp1, cq0, cq1, fp0, fp1, fq0, fq1⟩ := HI.out.2.2.2.2.2.cells
    have hqb : qb ≤ 4294967296 := HI.out.1.qs
    have hpb : pb ≤ qb := by have := HI.out.1.i.pq; omega
    have hkq := HI.out.1.kq
    have hij : ¬ i = j := HIJ.out.1
    have hji : ¬ j = i := fun e => HIJ.out.1 e.symm
    have hpl := HI.out.2.2.2.1
    have hql := HI.out.2.2.2.2.1
    have HOUT : Hid (∀ W', Upd [] w W' → AhPost m n w (.returned (.tuple #[.agg #[.int .u64 (pa : Int), .int .u64 (pb : Int)], .agg #[.int .u64 (qa : Int), .int .u64 (qb : Int)], .int .i64 (k : Int)])) W') := fun W' hu' => ⟨pa, pb, qa, qb, k, rfl, hu', by omega, hpl, by omega, hql, by omega, fun hk => HI.out.1.out hk⟩
    by_cases hy : y = 0
    · have hne : ((y : Int) != 0) = false := by simp; omega
      go_wp2_with fail
      go_region
      go_wp2
      have HX := Lib.hid (MixAt.again (pa' := pa) (pb' := pb) (qa' := qa) (qb' := qb) HIJ.out.1 HIJ.out.2.1 HIJ.out.2.2 HI.out.2.2.2.2.2)
      obtain ⟨z0, z1, z2, z3, _⟩ := HX.out.cells
      refine bodyPost_ret (v := .tuple #[.agg #[.int .u64 (pa : Int), .int .u64 (pb : Int)], .agg #[.int .u64 (qa : Int), .int .u64 (qb : Int)], .int .i64 (k : Int)]) (by simp [results, Tryz.results120, go_sem, z0, z1, z2, z3]) rfl ?_
      exact HOUT.out _ HX.out.u
    · have hne : ((y : Int) != 0) = true := by simp; omega
      have hne2 : ((y : Int) == 0) = false := by simp; omega
      have hyp : 0 < y := Nat.pos_of_ne_zero hy
      have hroom := HI.out.1.room hyp
      have r1 := hroom.1
      have r2 := hroom.2.1
      have r3 := hroom.2.2.1
      clear hroom
      have hXb := HXB.out
      have hsm := HI.out.1.small hyp hXb
      have hst := HI.out.1.step hyp hXb
      have hzl := Nat.mod_lt x hyp
      obtain ⟨N, hN⟩ : ∃ N, N = x / y := ⟨_, rfl⟩
      obtain ⟨z, hz⟩ : ∃ z, z = x % y := ⟨_, rfl⟩
      have hxl := HI.out.2.1
      have hyl := HI.out.2.2.1
      have d1 : (x : Int) / (y : Int) = (N : Int) := by rw [hN]; simp
      have d2 : (x : Int) % (y : Int) = (z : Int) := by rw [hz]; simp
      have hNl : N ≤ x := by rw [hN]; exact Nat.div_le_self _ _
      have d3 : IntKind.u64.wrap (N : Int) = (N : Int) := by rw [IntKind.wrap_u64]; omega
      rw [← hN] at r1 r2 r3 hsm hst
      rw [← hz] at hsm hst hzl
      obtain ⟨A1, hA1⟩ : ∃ A, A = N * qa := ⟨_, rfl⟩
      obtain ⟨A2, hA2⟩ : ∃ A, A = N * qb := ⟨_, rfl⟩
      rw [← hA1] at r1 hst
      rw [← hA2] at r1 r2 r3 hsm hst
      have w1' : IntKind.u64.wrap ((N : Int) * (qa : Int)) = (A1 : Int) := by rw [← Int.natCast_mul, ← hA1, IntKind.wrap_u64]; omega
      have w2' : IntKind.u64.wrap ((N : Int) * (qb : Int)) = (A2 : Int) := by rw [← Int.natCast_mul, ← hA2, IntKind.wrap_u64]; omega
      obtain ⟨ra, hra⟩ : ∃ A, A = pa + A1 := ⟨_, rfl⟩
      obtain ⟨rb, hrb⟩ : ∃ A, A = pb + A2 := ⟨_, rfl⟩
      rw [← hra] at r1 hst
      rw [← hrb] at r1 r2 r3 hsm hst
      have w3' : IntKind.u64.wrap ((pa : Int) + (A1 : Int)) = (ra : Int) := by rw [IntKind.wrap_u64]; omega
      have w4' : IntKind.u64.wrap ((pb : Int) + (A2 : Int)) = (rb : Int) := by rw [IntKind.wrap_u64]; omega
      have hwi : i < wr.heap.size := lt_of_block HI.out.2.2.2.2.2.p
      have hwj : j < wr.heap.size := lt_of_block HI.out.2.2.2.2.2.q
      have HST := Lib.hid hst
      have HSM := Lib.hid hsm
      have HR1 := Lib.hid r1
      clear hst hsm hN hz hA1 hA2 hra hrb hXb hxl hyl hNl hyp r1 r2 r3 hwi hwj
      clear cp0 cp1 cq0 cq1 fp0 fp1 fq0 fq1
      have HMR : Hid (MixAt w i j pa pb qa qb wr) := HI.out.2.2.2.2.2
      obtain ⟨cp0, cp1, cq0, cq1, fp0, fp1, fq0, fq1⟩ := HMR.out.cells
      by_cases c1 : z < rb
      · have t1 : decide (z < rb) = true := by simpa using c1
        clear c1
        go_wp2_with fail
        go_quiet (fail)
        obtain ⟨wq, hwq⟩ : ∃ W, W = wr.drewN nq := ⟨_, rfl⟩
        rw [← hwq]
        have HMQ : Hid (MixAt w i j pa pb qa qb wq) := by rw [hwq]; exact HI.out.2.2.2.2.2.upd0 ((Upd.refl _ _).drewN nq)
        obtain ⟨cp0, cp1, cq0, cq1, fp0, fp1, fq0, fq1⟩ := HMQ.out.cells
        have hwi : i < wq.heap.size := lt_of_block HMQ.out.p
        have hwj : j < wq.heap.size := lt_of_block HMQ.out.q
        clear hwq
        go_wp2_with fail
        obtain ⟨wa, hwa⟩ : ∃ W, W = wq.alloc (.cells #[.int .u64 (ra : Int), .int .u64 (rb : Int)] 152) := ⟨_, rfl⟩
        rw [← hwa]
        have HMA : Hid (MixAt w i j pa pb qa qb wa) := by rw [hwa]; exact HMQ.out.upd0 ((Upd.refl _ _).alloc _)
        clear cp0 cp1 cq0 cq1 fp0 fp1 fq0 fq1 hwa
        obtain ⟨cp0, cp1, cq0, cq1, fp0, fp1, fq0, fq1⟩ := HMA.out.cells
        go_region
        go_wp2
        have HX := Lib.hid (MixAt.again (pa' := pa) (pb' := pb) (qa' := qa) (qb' := qb) HIJ.out.1 HIJ.out.2.1 HIJ.out.2.2 HMA.out)
        obtain ⟨z0, z1, z2, z3, _⟩ := HX.out.cells
        refine bodyPost_ret (v := .tuple #[.agg #[.int .u64 (pa : Int), .int .u64 (pb : Int)], .agg #[.int .u64 (qa : Int), .int .u64 (qb : Int)], .int .i64 (k : Int)]) (by simp [results, Tryz.results120, go_sem, z0, z1, z2, z3]) rfl ?_
        exact HOUT.out _ HX.out.u
      · have hsm := HSM.out (by omega)
        have t1 : decide (z < rb) = false := by simpa using c1
        have hyl := HI.out.2.2.1
        obtain ⟨dd, hdd⟩ : ∃ d, d = y - z := ⟨_, rfl⟩
        obtain ⟨ss, hss⟩ : ∃ s, s = qb + rb := ⟨_, rfl⟩
        have w5 : IntKind.u64.wrap ((y : Int) - (z : Int)) = (dd : Int) := by rw [IntKind.wrap_u64]; omega
        have w6 : IntKind.u64.wrap ((qb : Int) + (rb : Int)) = (ss : Int) := by rw [IntKind.wrap_u64]; omega
        have HST2 : Hid (ss ≤ dd → AhN m n L X Y al be y z qa qb ra rb (k + 1)) := fun h => HST.out (by omega) (by omega)
        have HN : Hid (ra < 18446744073709551616 ∧ z < y) := by have := HR1.out; show _ ∧ _; omega
        clear hdd hss hsm hyl
        by_cases c2 : dd < ss
        · have t2 : decide (dd < ss) = true := by simpa using c2
          clear c1 c2
          go_wp2_with fail
          go_quiet (fail)
          obtain ⟨wq, hwq⟩ : ∃ W, W = wr.drewN nq := ⟨_, rfl⟩
          rw [← hwq]
          have HMQ : Hid (MixAt w i j pa pb qa qb wq) := by rw [hwq]; exact HI.out.2.2.2.2.2.upd0 ((Upd.refl _ _).drewN nq)
          obtain ⟨cp0, cp1, cq0, cq1, fp0, fp1, fq0, fq1⟩ := HMQ.out.cells
          have hwi : i < wq.heap.size := lt_of_block HMQ.out.p
          have hwj : j < wq.heap.size := lt_of_block HMQ.out.q
          clear hwq
          go_wp2_with fail
          obtain ⟨wa, hwa⟩ : ∃ W, W = wq.alloc (.cells #[.int .u64 (ra : Int), .int .u64 (rb : Int)] 152) := ⟨_, rfl⟩
          rw [← hwa]
          have HMA : Hid (MixAt w i j pa pb qa qb wa) := by rw [hwa]; exact HMQ.out.upd0 ((Upd.refl _ _).alloc _)
          clear cp0 cp1 cq0 cq1 fp0 fp1 fq0 fq1 hwa
          obtain ⟨cp0, cp1, cq0, cq1, fp0, fp1, fq0, fq1⟩ := HMA.out.cells
          go_region
          go_wp2
          have HX := Lib.hid (MixAt.again (pa' := pa) (pb' := pb) (qa' := qa) (qb' := qb) HIJ.out.1 HIJ.out.2.1 HIJ.out.2.2 HMA.out)
          obtain ⟨z0, z1, z2, z3, _⟩ := HX.out.cells
          refine bodyPost_ret (v := .tuple #[.agg #[.int .u64 (pa : Int), .int .u64 (pb : Int)], .agg #[.int .u64 (qa : Int), .int .u64 (qb : Int)], .int .i64 (k : Int)]) (by simp [results, Tryz.results120, go_sem, z0, z1, z2, z3]) rfl ?_
          exact HOUT.out _ HX.out.u
        · have t2 : decide (dd < ss) = false := by simpa using c2
          have HST3 := Lib.hid (HST2.out (by omega))
          clear HST2 HST HSM c1 c2
          go_wp2_with fail
          go_quiet (fail)
          obtain ⟨wq, hwq⟩ : ∃ W, W = wr.drewN nq := ⟨_, rfl⟩
          rw [← hwq]
          have HMQ : Hid (MixAt w i j pa pb qa qb wq) := by rw [hwq]; exact HI.out.2.2.2.2.2.upd0 ((Upd.refl _ _).drewN nq)
          obtain ⟨cp0, cp1, cq0, cq1, fp0, fp1, fq0, fq1⟩ := HMQ.out.cells
          have hwi : i < wq.heap.size := lt_of_block HMQ.out.p
          have hwj : j < wq.heap.size := lt_of_block HMQ.out.q
          clear hwq
          go_wp2_with fail
          obtain ⟨g, hg⟩ : ∃ g, g = wq.heap.size := ⟨_, rfl⟩
          rw [← hg] at hwi hwj ⊢
          obtain ⟨wa, hwa⟩ : ∃ W, W = wq.alloc (.cells #[.int .u64 (ra : Int), .int .u64 (rb : Int)] 152) := ⟨_, rfl⟩
          rw [← hwa]
          have HMA : Hid (MixAt w i j pa pb qa qb wa) := by rw [hwa]; exact HMQ.out.upd0 ((Upd.refl _ _).alloc _)
          have hrow : wa.heap[g]? = some (.cells #[.int .u64 (ra : Int), .int .u64 (rb : Int)] 152 (0, 0)) := by rw [hwa, hg]; exact heap_alloc_new wq _
          have cr0 : wa.cell? ⟨g, 0, none⟩ = some (.int .u64 (ra : Int)) := by rw [cell_of_row wa _ 0 _ _ _ hrow]; rfl
          have cr1 : wa.cell? ⟨g, 1, none⟩ = some (.int .u64 (rb : Int)) := by rw [cell_of_row wa _ 1 _ _ _ hrow]; rfl
          have hig : ¬ i = g := by omega
          have hjg : ¬ j = g := by omega
          have hgi : ¬ g = i := by omega
          have hgj : ¬ g = j := by omega
          have HWG : Hid (w.heap.size ≤ g) := by show _ ≤ _; have := HIJ.out.2.1; omega
          clear cp0 cp1 cq0 cq1 fp0 fp1 fq0 fq1 hwa hwi hwj hg hrow
          obtain ⟨cp0, cp1, cq0, cq1, fp0, fp1, fq0, fq1⟩ := HMA.out.cells
          go_region
          obtain ⟨wn, hwn⟩ : ∃ W, W = ((((wa.setCell ⟨i, 0, none⟩ (.int .u64 (qa : Int))).setCell ⟨i, 1, none⟩ (.int .u64 (qb : Int))).setCell ⟨j, 0, none⟩ (.int .u64 (ra : Int))).setCell ⟨j, 1, none⟩ (.int .u64 (rb : Int))).drew := ⟨_, rfl⟩
          rw [← hwn]
          have HMN : Hid (MixAt w i j qa qb ra rb wn) := by rw [hwn]; exact MixAt.again HIJ.out.1 HIJ.out.2.1 HIJ.out.2.2 HMA.out
          clear cp0 cp1 cq0 cq1 fp0 fp1 fq0 fq1 cr0 cr1 hig hjg hgi hgj hwn HMA
          have hk1 : IntKind.i64.wrap ((k : Int) + 1) = ((k + 1 : Nat) : Int) := by rw [IntWalk.i64_in _ (by omega)]; omega
          rw [d2]
          go_wp2_with fail
          have hyl := HI.out.2.2.1
          have hzy := HN.out.2
          exact ⟨⟨k + 1, y, z, qa, qb, ra, rb, by simp, rfl, rfl, HST3.out, hyl, by omega, hql, HN.out.1, HMN.out⟩, by simpa [intOf] using hzy⟩
end Go.Proofs.YtoklmfmoblkfcaaGreatDoor
