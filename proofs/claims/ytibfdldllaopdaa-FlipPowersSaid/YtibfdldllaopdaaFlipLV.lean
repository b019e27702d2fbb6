/- The law FlipPowers (layer 10). -/
import Derived.Test.YtibfdldllaopdaaFlipAsk
import Derived.Test.YtibfdldllaopdaaAnd1
import Derived.BigQuiet
namespace Go.Proofs.Ytibfdldllaopdaa
open Go.RowKit Go.Proofs.Tm
set_option linter.unusedVariables false
set_option maxRecDepth 20000

set_option maxHeartbeats 3200000 in
theorem flipPowers_law (x y z : Int) (w : World) :
    Calls Try.prog 9 #[.agg #[.int .i64 x, .int .i64 y, .int .i64 z]] w fun e w' => e = .returned (.bool true) ∧ Upd [] w w' := by
  have hand1 := i64_and3 y
  have hand0 := i64_and15 x
  have hand2 := i64_and7 z
  obtain ⟨s, hs⟩ : ∃ s : Nat, (s : Int) = y % 4 % 3 := ⟨(y % 4 % 3).toNat, by omega⟩
  have hs2 : s ≤ 2 := by omega
  obtain ⟨Q, hQ⟩ : ∃ Q : Nat, Q = 2 ^ s := ⟨_, rfl⟩
  have hQ1 : 1 ≤ Q ∧ Q ≤ 4 := by
    rw [hQ]
    rcases (by omega : s = 0 ∨ s = 1 ∨ s = 2) with rfl | rfl | rfl <;> decide
  have hs20 : s ≤ 20 := by omega
  have hq0 : IntKind.i64.wrap ((2 : Int) ^ s) = (Q : Int) := by
    have h2 : (2 : Int) ^ s = (Q : Int) := by rw [hQ]; simp
    rw [h2, IntWalk.i64_in _ (by omega)]
  obtain ⟨P, hP⟩ : ∃ P : Nat, (P : Int) = x % 16 % ((Q : Int) + 1) := ⟨(x % 16 % ((Q : Int) + 1)).toNat, by
    have := Int.emod_nonneg (x % 16) (show ((Q : Int) + 1) ≠ 0 by omega)
    omega⟩
  have hPQ : P ≤ Q := by
    have := Int.emod_lt_of_pos (x % 16) (show (0 : Int) < (Q : Int) + 1 by omega)
    omega
  have hw0 : y % 4 % 3 = (s : Int) := hs.symm
  have hw1 : IntKind.i64.wrap ((Q : Int) + 1) = (Q : Int) + 1 := IntWalk.i64_in _ (by omega)
  have hw2 : x % 16 % ((Q : Int) + 1) = (P : Int) := hP.symm
  have hw3 : IntKind.i64.wrap (P : Int) = (P : Int) := IntWalk.i64_in _ (by omega)
  have hne : ((Q : Int) + 1 == 0) = false := by simp; omega
  obtain ⟨K, hK⟩ : ∃ K : Nat, (K : Int) = z % 8 % 5 := ⟨(z % 8 % 5).toNat, by omega⟩
  have hK8 : K ≤ 4 := by omega
  have hw4 : z % 8 % 5 = (K : Int) := hK.symm
  have hmf : ∀ (fn : Fn) (first cap : Array Value) (w : World), (Instr.makeFunc fn first cap).run Try.prog w = .ok (.func fn first cap) w := fun _ _ _ _ => rfl
  have HT2 : Hid (∀ (W : World) (bp bq bk : Nat), W.cell? ⟨bp, 0, none⟩ = some (.int .i64 (P : Int)) → W.cell? ⟨bq, 0, none⟩ = some (.int .i64 (Q : Int)) → W.cell? ⟨bk, 0, none⟩ = some (.int .i64 (K : Int)) → Calls Try.prog 36 #[.int .i64 12, .func (.func 39) #[] #[.pointer (some ⟨bp, 0, none⟩), .pointer (some ⟨bq, 0, none⟩), .pointer (some ⟨bk, 0, none⟩)]] W (TreePost (treeG 12 (powF P Q K)) W)) := fun W bp bq bk hb hb2 hb3 =>
    tree_any 12 39 _ (powF P Q K) W (by decide) (enters_of Try.func39 (by kernel_rfl) rfl) (ask_power W bp bq bk P Q K hb hb2 hb3 (by omega) (by omega) hPQ (by omega))
  have htr := treeG_pow P Q (by omega) hPQ K 12
  obtain ⟨T, hT⟩ : ∃ T, T = treeG 12 (powF P Q K) := ⟨_, rfl⟩
  rw [← hT] at HT2 htr
  obtain ⟨t1, t2, t3⟩ := T
  obtain ⟨g1, g2, g3, _⟩ := htr
  simp only at g1 g2 g3
  rw [show 2 ^ 12 = 4096 from rfl] at g1 g2 g3
  have G2 := Lib.hid g2
  have G3 := Lib.hid g3
  -- powers stay small
  have HPB : Hid (∀ j, j ≤ K → P ^ j ≤ 256 ∧ Q ^ j ≤ 256) := fun j hj => by
    have h1 : Q ^ j ≤ 4 ^ 4 := Nat.le_trans (Nat.pow_le_pow_left hQ1.2 j) (Nat.pow_le_pow_right (by decide) (by omega))
    have h2 : P ^ j ≤ 4 ^ 4 := Nat.le_trans (Nat.pow_le_pow_left (by omega) j) (Nat.pow_le_pow_right (by decide) (by omega))
    exact ⟨h2, h1⟩
  obtain ⟨wa, hwa⟩ : ∃ W, W = w.alloc (.cells #[.int .i64 x, .int .i64 y, .int .i64 z] 47) := ⟨_, rfl⟩
  have hba : wa.heap[w.heap.size]? = some (.cells #[.int .i64 x, .int .i64 y, .int .i64 z] 47 (0, 0)) := by rw [hwa]; exact heap_alloc_new w _
  have hua : Upd [] w wa := by rw [hwa]; exact (Upd.refl _ _).alloc _
  have HBA := Lib.hid hba
  have HUA := Lib.hid hua
  have HWA := Lib.hid hwa
  clear hQ hP hK hba hua hwa hT g2 g3 hs
  go_enter Try.func9, Try.ntmps9
  go_wp2_with fail
  rw [← HWA.out]
  refine (awake10 wa).mono ?_
  rintro e w1 ⟨rfl, hu1⟩
  have HU1 := Lib.hid (HUA.out.trans0 hu1)
  have hb1 : w1.heap[w.heap.size]? = some (.cells #[.int .i64 x, .int .i64 y, .int .i64 z] 47 (0, 0)) := by rw [hu1.block _ (lt_of_block HBA.out) (by simp)]; exact HBA.out
  have HB1 := Lib.hid hb1
  have x0 : w1.cell? ⟨w.heap.size, 0, none⟩ = some (.int .i64 x) := by rw [cell_of_row w1 _ 0 _ _ _ hb1]; rfl
  have x1 : w1.cell? ⟨w.heap.size, 1, none⟩ = some (.int .i64 y) := by rw [cell_of_row w1 _ 1 _ _ _ hb1]; rfl
  have x2 : w1.cell? ⟨w.heap.size, 2, none⟩ = some (.int .i64 z) := by rw [cell_of_row w1 _ 2 _ _ _ hb1]; rfl
  have hxl := lt_of_block hb1
  clear hu1 hb1
  go_wp2_with fail
  obtain ⟨k3, hk3⟩ : ∃ k, k = w1.heap.size := ⟨_, rfl⟩
  obtain ⟨w4, hw4'⟩ : ∃ W, W = ((w1.alloc (.cells #[.int .i64 (Q : Int)] 3)).alloc (.cells #[.int .i64 (P : Int)] 3)).alloc (.cells #[.int .i64 (K : Int)] 3) := ⟨_, rfl⟩
  have bb := box3 (w := w1) (w1 := w4) (x := .int .i64 (Q : Int)) (y := .int .i64 (P : Int)) (z := .int .i64 (K : Int)) (t := 3) (t' := 3) (t'' := 3) (by rw [hw4']; exact Upd.refl _ _)
  rw [← hk3] at bb
  have bq : Box w4 k3 (.int .i64 (Q : Int)) 3 := bb.1
  have bp : Box w4 (k3 + 1) (.int .i64 (P : Int)) 3 := bb.2.1
  have bk : Box w4 (k3 + 1 + 1) (.int .i64 (K : Int)) 3 := bb.2.2.1
  have hu4 : Upd [] w1 w4 := bb.2.2.2.1
  rw [← hw4', ← hk3]
  refine (HT2.out w4 (k3 + 1) k3 (k3 + 1 + 1) bp.cell bq.cell bk.cell).mono ?_
  rintro e w5 ⟨rfl, hu5⟩
  have q5 := (bq.upd hu5).cell
  have p5 := (bp.upd hu5).cell
  have k5 := (bk.upd hu5).cell
  have HF := Lib.hid (HU1.out.trans0 (hu4.trans0 hu5))
  have Q5 := Lib.hid q5
  have P5 := Lib.hid p5
  clear hu4 hu5 hw4' hk3 x0 x1 x2 hxl bb bq bp bk
  go_wp2
  go_loopw [10, 11, 37] (fun v10 v11 v37 wr => ∃ j : Nat, j ≤ K ∧ v37 = .int .i64 j ∧ v10 = .int .i64 ((P ^ j : Nat) : Int) ∧ v11 = .int .i64 ((Q ^ j : Nat) : Int) ∧ ∃ n, wr = w5.drewN n) (fun _ _ v37 _ => K - (intOf v37).toNat)
  case atStart => exact ⟨0, Nat.zero_le _, rfl, rfl, rfl, 0, rfl⟩
  case round =>
    obtain ⟨j, hj, rfl, rfl, rfl, n, rfl⟩ := hrel
    have hpj := HPB.out j hj
    by_cases hlt : j < K
    · have hpj1 := HPB.out (j + 1) hlt
      have hpp : P ^ j * P = P ^ (j + 1) := (Nat.pow_succ ..).symm
      have hqq : Q ^ j * Q = Q ^ (j + 1) := (Nat.pow_succ ..).symm
      obtain ⟨A, hA⟩ : ∃ A, A = P ^ j := ⟨_, rfl⟩
      obtain ⟨B, hB⟩ : ∃ B, B = Q ^ j := ⟨_, rfl⟩
      obtain ⟨A1, hA1⟩ : ∃ A, A = P ^ (j + 1) := ⟨_, rfl⟩
      obtain ⟨B1, hB1⟩ : ∃ B, B = Q ^ (j + 1) := ⟨_, rfl⟩
      rw [← hA, ← hA1] at hpp
      rw [← hB, ← hB1] at hqq
      rw [← hA1, ← hB1] at hpj1
      rw [← hA, ← hB]
      have m1 : IntKind.i64.wrap ((A : Int) * (P : Int)) = (A1 : Int) := by rw [← Int.natCast_mul, hpp, IntWalk.i64_in _ (by omega)]
      have m2 : IntKind.i64.wrap ((B : Int) * (Q : Int)) = (B1 : Int) := by rw [← Int.natCast_mul, hqq, IntWalk.i64_in _ (by omega)]
      have HA1 := Lib.hid hA1
      have HB1 := Lib.hid hB1
      have hjK : (j : Int) < (K : Int) := by omega
      clear hA hB hA1 hB1 hpp hqq hpj hpj1
      go_wp2
      go_quiet (fail)
      go_wp2
      go_roundw
      case rel => exact ⟨j + 1, by omega, by go_num, by rw [← HA1.out], by rw [← HB1.out], _, rfl⟩
      case measure => simp [intOf]; omega
    · obtain rfl : j = K := by omega
      obtain ⟨A, hA⟩ : ∃ A, A = P ^ j := ⟨_, rfl⟩
      obtain ⟨B, hB⟩ : ∃ B, B = Q ^ j := ⟨_, rfl⟩
      rw [← hA, ← hB] at hpj ⊢
      have f2 := G2.out
      have f3 := G3.out
      rw [← hA, ← hB] at f2 f3
      have a1 : IntKind.i64.wrap ((t1 : Int) + (t2 : Int)) = ((t1 + t2 : Nat) : Int) := by rw [IntWalk.i64_in _ (by omega)]; omega
      obtain ⟨S, hS⟩ : ∃ S, S = t1 + t2 := ⟨_, rfl⟩
      rw [← hS] at a1
      have a2 : IntKind.i64.wrap ((S : Int) + (t3 : Int)) = 4096 := by rw [IntWalk.i64_in _ (by omega)]; omega
      have hb1 : t1 * B ≤ 4096 * 256 := Nat.mul_le_mul (by omega) hpj.2
      have hb2 : (t1 + t3) * B ≤ 4096 * 256 := Nat.mul_le_mul (by omega) hpj.2
      obtain ⟨Y, hY⟩ : ∃ Y, Y = t1 * B := ⟨_, rfl⟩
      obtain ⟨U, hU⟩ : ∃ U, U = t1 + t3 := ⟨_, rfl⟩
      obtain ⟨V, hV⟩ : ∃ V, V = U * B := ⟨_, rfl⟩
      obtain ⟨Z, hZ⟩ : ∃ Z, Z = A * 4096 := ⟨_, rfl⟩
      have a3 : IntKind.i64.wrap ((t1 : Int) * (B : Int)) = (Y : Int) := by rw [← Int.natCast_mul, ← hY, IntWalk.i64_in _ (by omega)]
      have a4 : IntKind.i64.wrap ((A : Int) * 4096) = (Z : Int) := by rw [IntWalk.i64_in _ (by omega)]; omega
      have a5 : decide (Y ≤ Z) = true := by simp; omega
      have a6 : IntKind.i64.wrap ((t1 : Int) + (t3 : Int)) = (U : Int) := by rw [IntWalk.i64_in _ (by omega)]; omega
      have a7 : IntKind.i64.wrap ((U : Int) * (B : Int)) = (V : Int) := by rw [← hU] at hb2; rw [← Int.natCast_mul, ← hV, IntWalk.i64_in _ (by omega)]
      have a8 : decide (Z ≤ V) = true := by rw [← hU, ← hV, ← hZ] at f3; simpa using f3
      have hjK : decide ((j : Int) < (j : Int)) = false := by simp
      clear hY hU hV hZ hS hb1 hb2 g1 f2 f3 hA hB hpj
      go_wp2
      go_ret
      exact ⟨rfl, HF.out.drewN _⟩
end Go.Proofs.Ytibfdldllaopdaa
