/- The law FlipWeighs (layer 10). -/
import Derived.Test.YtibfdldllaopdaaFlipAsk
import Derived.Test.YtibfdldllaopdaaAnd1
namespace Go.Proofs.Ytibfdldllaopdaa
open Go.RowKit Go.Proofs.Tm
set_option linter.unusedVariables false
set_option maxRecDepth 20000

theorem treeG_ratio (p q n : Nat) (hq : 0 < q) (hpq : p ≤ q) :
    (treeG n (ratioF p q)).1 + (treeG n (ratioF p q)).2.1 + (treeG n (ratioF p q)).2.2 = 2 ^ n ∧ (treeG n (ratioF p q)).1 * q ≤ p * 2 ^ n ∧ p * 2 ^ n ≤ ((treeG n (ratioF p q)).1 + (treeG n (ratioF p q)).2.2) * q ∧ (treeG n (ratioF p q)).2.2 ≤ 1 := by
  have e : treeG n (powF p q 1) = treeG n (ratioF p q) := treeG_same n _ _ (fun m => by
    have hy := (Pre.ratio p q).yes m
    unfold powF thenF
    cases h : (ratioF p q m).1 with
    | false => simp [h]
    | true => simp [h, powF, Came.more, hy h])
  obtain ⟨h1, h2, h3, h4⟩ := treeG_pow p q hq hpq 1 n
  rw [e] at h1 h2 h3 h4
  simp only [Nat.pow_one] at h2 h3
  exact ⟨h1, h2, h3, h4 rfl⟩

set_option maxHeartbeats 3200000 in
theorem flipWeighs_law (x y z : Int) (w : World) :
    Calls Try.prog 8 #[.agg #[.int .i64 x, .int .i64 y, .int .i64 z]] w fun e w' => e = .returned (.bool true) ∧ Upd [] w w' := by
  have hand1 := i64_and1023 y
  have hand0 := i64_and1023 x
  obtain ⟨Q, hQ⟩ : ∃ Q : Nat, (Q : Int) = 1 + y % 1024 % 60 := ⟨(1 + y % 1024 % 60).toNat, by omega⟩
  have hQ1 : 1 ≤ Q ∧ Q ≤ 60 := by omega
  obtain ⟨P, hP⟩ : ∃ P : Nat, (P : Int) = x % 1024 % ((Q : Int) + 1) := ⟨(x % 1024 % ((Q : Int) + 1)).toNat, by
    have := Int.emod_nonneg (x % 1024) (show ((Q : Int) + 1) ≠ 0 by omega)
    omega⟩
  have hPQ : P ≤ Q := by
    have := Int.emod_lt_of_pos (x % 1024) (show (0 : Int) < (Q : Int) + 1 by omega)
    omega
  have hw0 : IntKind.i64.wrap (1 + y % 1024 % 60) = (Q : Int) := by rw [IntWalk.i64_in _ (by omega)]; omega
  have hw1 : IntKind.i64.wrap ((Q : Int) + 1) = (Q : Int) + 1 := IntWalk.i64_in _ (by omega)
  have hw2 : x % 1024 % ((Q : Int) + 1) = (P : Int) := hP.symm
  have hw3 : IntKind.i64.wrap (P : Int) = (P : Int) := IntWalk.i64_in _ (by omega)
  have hne : ((Q : Int) + 1 == 0) = false := by simp; omega
  obtain ⟨K, hK⟩ : ∃ K, K = min z.toNat 8 := ⟨_, rfl⟩
  have hmin := fun ts t W => mini_is (P := Try.prog) (a := z) (b := 8) rfl ts t W
  have hmax := fun ts t W => maxi_is (P := Try.prog) (a := 0) (b := min z 8) (c := (K : Int)) (by omega) ts t W
  have hK8 : K ≤ 8 := by omega
  generalize min z 8 = zz at *
  have hmf : ∀ (fn : Fn) (first cap : Array Value) (w : World), (Instr.makeFunc fn first cap).run Try.prog w = .ok (.func fn first cap) w := fun _ _ _ _ => rfl
  have HT1 : Hid (∀ (W : World) (b : Nat), W.cell? ⟨b, 0, none⟩ = some (.int .i64 (K : Int)) → Calls Try.prog 36 #[.int .i64 8, .func (.func 37) #[] #[.pointer (some ⟨b, 0, none⟩)]] W (TreePost (treeG 8 (halfF K)) W)) := fun W b hb =>
    tree_any 8 37 _ (halfF K) W (by decide) (enters_of Try.func37 (by kernel_rfl) rfl) (ask_half W b K hb (by omega))
  have HT2 : Hid (∀ (W : World) (bp bq : Nat), W.cell? ⟨bp, 0, none⟩ = some (.int .i64 (P : Int)) → W.cell? ⟨bq, 0, none⟩ = some (.int .i64 (Q : Int)) → Calls Try.prog 36 #[.int .i64 10, .func (.func 38) #[] #[.pointer (some ⟨bp, 0, none⟩), .pointer (some ⟨bq, 0, none⟩)]] W (TreePost (treeG 10 (ratioF P Q)) W)) := fun W bp bq hb hb2 =>
    tree_any 10 38 _ (ratioF P Q) W (by decide) (enters_of Try.func38 (by kernel_rfl) rfl) (ask_ratio W bp bq P Q hb hb2 (by omega) hPQ (by omega))
  have hth := treeG_half K 8 hK8
  obtain ⟨m, hm⟩ : ∃ m, m = 8 - K := ⟨_, rfl⟩
  obtain ⟨M, hM⟩ : ∃ M, M = 2 ^ m := ⟨_, rfl⟩
  rw [← hm, ← hM] at hth
  have HTH : Hid (treeG 8 (halfF K) = (M, 256 - M, 0)) := hth
  have hMl : M ≤ 256 := by rw [hM]; exact Nat.le_trans (Nat.pow_le_pow_right (by decide) (show m ≤ 8 by omega)) (by decide)
  have hM0 : IntKind.i64.wrap ((2 : Int) ^ m) = (M : Int) := by
    have h2 : (2 : Int) ^ m = (M : Int) := by rw [hM]; simp
    rw [h2, IntWalk.i64_in _ (by omega)]
  have hm8 : m ≤ 20 := by omega
  have hmw : IntKind.i64.wrap (8 - (K : Int)) = (m : Int) := by rw [IntWalk.i64_in _ (by omega)]; omega
  have hMN : IntKind.i64.wrap (256 - (M : Int)) = ((256 - M : Nat) : Int) := by rw [IntWalk.i64_in _ (by omega)]; omega
  obtain ⟨N, hN⟩ : ∃ N, N = 256 - M := ⟨_, rfl⟩
  rw [← hN] at HTH hMN
  have htr := treeG_ratio P Q 10 (by omega) hPQ
  obtain ⟨T, hT⟩ : ∃ T, T = treeG 10 (ratioF P Q) := ⟨_, rfl⟩
  rw [← hT] at HT2 htr
  obtain ⟨t1, t2, t3⟩ := T
  obtain ⟨g1, g2, g3, g4⟩ := htr
  simp only at g1 g2 g3 g4
  rw [show 2 ^ 10 = 1024 from rfl] at g1 g2 g3
  have G2 := Lib.hid g2
  have G3 := Lib.hid g3
  obtain ⟨wa, hwa⟩ : ∃ W, W = w.alloc (.cells #[.int .i64 x, .int .i64 y, .int .i64 z] 47) := ⟨_, rfl⟩
  have hba : wa.heap[w.heap.size]? = some (.cells #[.int .i64 x, .int .i64 y, .int .i64 z] 47 (0, 0)) := by rw [hwa]; exact heap_alloc_new w _
  have hua : Upd [] w wa := by rw [hwa]; exact (Upd.refl _ _).alloc _
  have HBA := Lib.hid hba
  have HUA := Lib.hid hua
  have HWA := Lib.hid hwa
  clear hQ hP hK hba hua hwa hT hN hM hm g2 g3 hth
  go_enter Try.func8, Try.ntmps8
  go_wp2_with fail
  rw [← HWA.out]
  refine (awake10 wa).mono ?_
  rintro e w1 ⟨rfl, hu1⟩
  have HU1 := Lib.hid (HUA.out.trans0 hu1)
  have hb1 : w1.heap[w.heap.size]? = some (.cells #[.int .i64 x, .int .i64 y, .int .i64 z] 47 (0, 0)) := by rw [hu1.block _ (lt_of_block HBA.out) (by simp)]; exact HBA.out
  have HB1 := Lib.hid hb1
  have x2 : w1.cell? ⟨w.heap.size, 2, none⟩ = some (.int .i64 z) := by rw [cell_of_row w1 _ 2 _ _ _ hb1]; rfl
  clear hu1 hb1
  go_wp2_with fail
  obtain ⟨k1, hk1⟩ : ∃ k, k = w1.heap.size := ⟨_, rfl⟩
  obtain ⟨w2, hw2'⟩ : ∃ W, W = w1.alloc (.cells #[.int .i64 (K : Int)] 3) := ⟨_, rfl⟩
  have hbk : Box w2 k1 (.int .i64 (K : Int)) 3 := by rw [hw2', hk1]; exact Box.new _ _ _
  have hu2 : Upd [] w1 w2 := by rw [hw2']; exact (Upd.refl _ _).alloc _
  rw [← hw2', ← hk1]
  have HT1' := HT1.out w2 k1 hbk.cell
  rw [HTH.out] at HT1'
  refine HT1'.mono ?_
  rintro e w3 ⟨rfl, hu3⟩
  have hck : w3.cell? ⟨k1, 0, none⟩ = some (.int .i64 (K : Int)) := (hbk.upd hu3).cell
  have hb3 : w3.heap[w.heap.size]? = some (.cells #[.int .i64 x, .int .i64 y, .int .i64 z] 47 (0, 0)) := by rw [(hu2.trans0 hu3).block _ (lt_of_block HB1.out) (by simp)]; exact HB1.out
  have x0 : w3.cell? ⟨w.heap.size, 0, none⟩ = some (.int .i64 x) := by rw [cell_of_row w3 _ 0 _ _ _ hb3]; rfl
  have x1 : w3.cell? ⟨w.heap.size, 1, none⟩ = some (.int .i64 y) := by rw [cell_of_row w3 _ 1 _ _ _ hb3]; rfl
  have hxl := lt_of_block hb3
  have HU3 := Lib.hid (HU1.out.trans0 (hu2.trans0 hu3))
  have hmm : ((M : Int) != (M : Int)) = false := by simp
  have hnn : ((N : Int) != (N : Int)) = false := by simp
  clear x2 hw2' hk1 hbk hu2 hu3 hb3 HT1'
  go_wp2_with fail
  obtain ⟨k3, hk3⟩ : ∃ k, k = w3.heap.size := ⟨_, rfl⟩
  obtain ⟨w4, hw4⟩ : ∃ W, W = (w3.alloc (.cells #[.int .i64 (Q : Int)] 3)).alloc (.cells #[.int .i64 (P : Int)] 3) := ⟨_, rfl⟩
  obtain ⟨hu4, hbx⟩ := two_boxes w3 _ _ _ _ w4 hw4 k3 hk3
  rw [← hw4, ← hk3]
  obtain ⟨q4, p4⟩ := hbx w4 (Upd.refl _ _)
  refine (HT2.out w4 (k3 + 1) k3 p4 q4).mono ?_
  rintro e w5 ⟨rfl, hu5⟩
  obtain ⟨q5, p5⟩ := hbx w5 hu5
  have HF := Lib.hid (HU3.out.trans0 (hu4.trans0 hu5))
  have a1 : IntKind.i64.wrap ((t1 : Int) + (t2 : Int)) = ((t1 + t2 : Nat) : Int) := by rw [IntWalk.i64_in _ (by omega)]; omega
  obtain ⟨S, hS⟩ : ∃ S, S = t1 + t2 := ⟨_, rfl⟩
  rw [← hS] at a1
  have a2 : IntKind.i64.wrap ((S : Int) + (t3 : Int)) = 1024 := by rw [IntWalk.i64_in _ (by omega)]; omega
  have hb1 : t1 * Q ≤ 1024 * 60 := Nat.mul_le_mul (by omega) hQ1.2
  have hb2 : (t1 + t3) * Q ≤ 1024 * 60 := Nat.mul_le_mul (by omega) hQ1.2
  obtain ⟨Y, hY⟩ : ∃ Y, Y = t1 * Q := ⟨_, rfl⟩
  obtain ⟨U, hU⟩ : ∃ U, U = t1 + t3 := ⟨_, rfl⟩
  obtain ⟨V, hV⟩ : ∃ V, V = U * Q := ⟨_, rfl⟩
  obtain ⟨Z, hZ⟩ : ∃ Z, Z = P * 1024 := ⟨_, rfl⟩
  have a3 : IntKind.i64.wrap ((t1 : Int) * (Q : Int)) = (Y : Int) := by rw [← Int.natCast_mul, ← hY, IntWalk.i64_in _ (by omega)]
  have a4 : IntKind.i64.wrap ((P : Int) * 1024) = (Z : Int) := by rw [IntWalk.i64_in _ (by omega)]; omega
  have a5 : decide (Y ≤ Z) = true := by have := G2.out; simp; omega
  have a6 : IntKind.i64.wrap ((t1 : Int) + (t3 : Int)) = (U : Int) := by rw [IntWalk.i64_in _ (by omega)]; omega
  have a7 : IntKind.i64.wrap ((U : Int) * (Q : Int)) = (V : Int) := by rw [← hU] at hb2; rw [← Int.natCast_mul, ← hV, IntWalk.i64_in _ (by omega)]
  have a8 : decide (Z ≤ V) = true := by have := G3.out; rw [← hU, ← hV, ← hZ] at this; simpa using this
  have A9 : Hid (decide ((t3 : Int) ≤ 1) = true) := by show _ = _; simp; omega
  clear hbx hu4 hu5 hw4 hk3 hY hU hV hZ hS hb1 hb2 g1 g4 q4 p4 x0 x1 hxl
  go_wp2
  go_ret
  exact ⟨ret_bool A9.out, HF.out⟩
end Go.Proofs.Ytibfdldllaopdaa
