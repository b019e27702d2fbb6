/- The law DrawBinomial (layer 11). -/
import Derived.Test.YtcehkflkekefpaaDrawAsk
import Derived.Test.YtcehkflkekefpaaAnd1
namespace Go.Proofs.Ytcehkflkekefpaa
open Go.RowKit Go.Proofs.Tm Go.Shelf
set_option linter.unusedVariables false
set_option maxRecDepth 20000

theorem chs_step : ∀ y : Fin 8, ∀ k : Fin 8, chs y.val k.val * (y.val - k.val) / (k.val + 1) = chs y.val (k.val + 1) ∧ chs y.val k.val ≤ 70 ∧ chs y.val k.val * (y.val - k.val) ≤ 1000 := by decide
theorem chs_top : ∀ y : Fin 8, chs y.val (y.val + 1) = 0 := by decide

set_option maxHeartbeats 3200000 in
theorem drawBin_law (x : Int) (w : World) :
    Calls Try.prog 4 #[.int .i64 x] w fun e w' => e = .returned (.bool true) ∧ Upd [] w w' := by
  have hand := i64_and7 x
  obtain ⟨n, hn⟩ : ∃ n : Nat, (n : Int) = x % 8 := ⟨(x % 8).toNat, by omega⟩
  have hn1 : n < 8 := by omega
  have hw0 : x % 8 = (n : Int) := hn.symm
  have hmf : ∀ (fn : Fn) (first cap : Array Value) (w : World), (Instr.makeFunc fn first cap).run Try.prog w = .ok (.func fn first cap) w := fun _ _ _ _ => rfl
  obtain ⟨A, hA⟩ : ∃ A, A = fun i => cntN i 8 (binF n 0) := ⟨_, rfl⟩
  obtain ⟨o, ho⟩ : ∃ o, o = opnN 8 (binF n 0) := ⟨_, rfl⟩
  have HEV : Hid ((∀ k, A k = chs n k * 2 ^ (8 - n)) ∧ o = 0) := by
    rw [hA, ho]
    exact ⟨fun k => by have := (cnt_bin n 8 0 k (by omega)).1; rw [Nat.zero_add] at this; exact this, opn_bin n 8 0 (by omega)⟩
  have HT : Hid (∀ (W : World) (b : Nat), W.cell? ⟨b, 0, none⟩ = some (.int .i64 (n : Int)) → Calls Try.prog 7 #[.int .i64 8, .func (.func 10) #[] #[.pointer (some ⟨b, 0, none⟩)]] W (TreePostN A o W)) := fun W b hb => by
    rw [hA, ho]
    exact dtree_any 8 10 _ _ W (by decide) (enters_of Try.func10 (by kernel_rfl) rfl) (ask_bin W b n hb (by omega)) (fun l => by have := binF_le n 0 l; omega)
  obtain ⟨w1, hw1⟩ : ∃ W, W = w.alloc (.cells #[.int .i64 x] 3) := ⟨_, rfl⟩
  obtain ⟨S, hS⟩ : ∃ S, S = w.heap.size := ⟨_, rfl⟩
  have hb1 : Box w1 S (.int .i64 x) 3 := by rw [hw1, hS]; exact Box.new _ _ _
  have hu1 : Upd [] w w1 := by rw [hw1]; exact (Upd.refl _ _).alloc _
  have HB1 := Lib.hid hb1
  have HU1 := Lib.hid hu1
  have HW1 := Lib.hid hw1
  have HS := Lib.hid hS
  clear hn hA ho hb1 hu1 hw1 hS
  go_enter Try.func4, Try.ntmps4
  go_wp2_with fail
  rw [← HW1.out, ← HS.out]
  refine (awake11 w1).mono ?_
  rintro e w2 ⟨rfl, hu2⟩
  have hb2 := HB1.out.upd hu2
  have c2 := hb2.cell
  have fz2 : w2.frozen? ⟨S, 0, none⟩ = false := frozen_of_row w2 _ 0 _ _ hb2
  have HB2 := Lib.hid hb2
  have HU2 := Lib.hid (HU1.out.trans0 hu2)
  clear hu2 hb2
  go_wp2_with fail
  obtain ⟨w3, hw3⟩ : ∃ W, W = w2.setCell ⟨S, 0, none⟩ (.int .i64 (n : Int)) := ⟨_, rfl⟩
  have hb3 : w3.heap[S]? = some (.cells #[.int .i64 (n : Int)] 3 (0, 0)) := by rw [hw3]; exact one_setCell HB2.out
  have hu3 : Upd [] w w3 := by rw [hw3]; exact HU2.out.setCell (.inr (Nat.le_of_eq HS.out.symm)) _
  rw [← hw3]
  have hc3 : w3.cell? ⟨S, 0, none⟩ = some (.int .i64 (n : Int)) := by rw [cell_of_row w3 _ 0 _ _ _ hb3]; rfl
  have HC3 := Lib.hid hc3
  have HB3 := Lib.hid hb3
  have HU3 := Lib.hid hu3
  clear hw3 hb3 hu3 hc3 c2 fz2
  refine (HT.out w3 S HC3.out).mono ?_
  rintro e w4 ⟨rfl, hu4⟩
  have hb4 : w4.heap[S]? = some (.cells #[.int .i64 (n : Int)] 3 (0, 0)) := by rw [hu4.block _ (lt_of_block HB3.out) (by simp)]; exact HB3.out
  have HB4 := Lib.hid hb4
  have HU4 := Lib.hid (HU3.out.trans0 hu4)
  obtain ⟨cs, hcs⟩ : ∃ cs, cs = arrC A := ⟨_, rfl⟩
  rw [← hcs]
  have hsz : cs.size = 64 := by rw [hcs]; exact arrC_size A
  have hone : cs.all (·.oneCell') = true := by rw [hcs]; exact arrC_one A
  have HSZ := Lib.hid hsz
  have HONE := Lib.hid hone
  have HCS := Lib.hid hcs
  clear hu4 hb4 hcs hsz hone
  have HH4 : Hid (∀ z : Array Value, z.size = 64 → ((w4.alloc (.cells z 23)).setRow w4.heap.size cs).heap[w4.heap.size]? = some (.cells cs 23 (0, 0)) ∧ Upd [] w ((w4.alloc (.cells z 23)).setRow w4.heap.size cs)) := fun z hz =>
    ⟨setRow_heap _ _ _ _ _ _ (heap_alloc_new _ _), (HU4.out.alloc _).setRow (.inr HU4.out.size) _⟩
  go_wp2_with (first
    | (refine wpList_store_row rfl 23 _ _ rfl w4.heap.size cs rfl rfl 23 _ (heap_alloc_new _ _) (by rw [HSZ.out]; exact arr_info) (by rw [HSZ.out]; rfl) HONE.out ?_)
    | (refine wpList_load_row rfl 23 (.tmp 3) rfl w4.heap.size rfl 23 cs (0, 0) _ (setRow_heap _ _ _ _ _ _ (heap_alloc_new _ _)) Try.underlying23 rfl (by rw [HSZ.out]; exact arr_info) ?_))
  obtain ⟨zo, hzo⟩ : ∃ z : Array Value, z = #[.int .i64 0, .int .i64 0, .int .i64 0, .int .i64 0, .int .i64 0, .int .i64 0, .int .i64 0, .int .i64 0, .int .i64 0, .int .i64 0, .int .i64 0, .int .i64 0, .int .i64 0, .int .i64 0, .int .i64 0, .int .i64 0, .int .i64 0, .int .i64 0, .int .i64 0, .int .i64 0, .int .i64 0, .int .i64 0, .int .i64 0, .int .i64 0, .int .i64 0, .int .i64 0, .int .i64 0, .int .i64 0, .int .i64 0, .int .i64 0, .int .i64 0, .int .i64 0, .int .i64 0, .int .i64 0, .int .i64 0, .int .i64 0, .int .i64 0, .int .i64 0, .int .i64 0, .int .i64 0, .int .i64 0, .int .i64 0, .int .i64 0, .int .i64 0, .int .i64 0, .int .i64 0, .int .i64 0, .int .i64 0, .int .i64 0, .int .i64 0, .int .i64 0, .int .i64 0, .int .i64 0, .int .i64 0, .int .i64 0, .int .i64 0, .int .i64 0, .int .i64 0, .int .i64 0, .int .i64 0, .int .i64 0, .int .i64 0, .int .i64 0, .int .i64 0] := ⟨_, rfl⟩
  rw [← hzo]
  obtain ⟨h5, hu5⟩ := HH4.out zo (by rw [hzo]; rfl)
  have hS4 : S ≠ w4.heap.size := by have := lt_of_block HB4.out; omega
  obtain ⟨b, hb⟩ : ∃ b, b = w4.heap.size := ⟨_, rfl⟩
  have hS5 : ((w4.alloc (.cells zo 23)).setRow w4.heap.size cs).heap[S]? = some (.cells #[.int .i64 (n : Int)] 3 (0, 0)) := by
    have : Upd [w4.heap.size] w4 ((w4.alloc (.cells zo 23)).setRow w4.heap.size cs) := ((Upd.refl _ _).alloc _).setRow (.inl (by simp)) _
    exact (this.block S (lt_of_block HB4.out) (by simpa using hS4)).trans HB4.out
  rw [← hb] at h5 hu5 hS5 ⊢
  obtain ⟨w5, hw5⟩ : ∃ W, W = (w4.alloc (.cells zo 23)).setRow b cs := ⟨_, rfl⟩
  rw [← hw5] at h5 hu5 hS5 ⊢
  have HH5 := Lib.hid h5
  have HU5 := Lib.hid hu5
  have c5 : w5.cell? ⟨S, 0, none⟩ = some (.int .i64 (n : Int)) := by rw [cell_of_row w5 _ 0 _ _ _ hS5]; rfl
  have HAR : Hid (∀ W, Upd [] w5 W → ∀ i, i < 64 → W.cell? ⟨b, i, none⟩ = some (.int .i64 (A i : Int))) := fun W h i hi => by
    rw [h.cell (p := ⟨b, i, none⟩) (lt_of_block h5) (by simp), cell_of_row w5 _ i _ _ _ h5, HCS.out, arrC_at _ _ hi]
  have HCN : Hid (∀ W, Upd [] w5 W → W.cell? ⟨S, 0, none⟩ = some (.int .i64 (n : Int))) := fun W h => (h.cell (p := ⟨S, 0, none⟩) (lt_of_block hS5) (by simp)).trans c5
  have o0 : o = 0 := HEV.out.2
  obtain ⟨M, hM⟩ : ∃ M, M = 2 ^ (8 - n) := ⟨_, rfl⟩
  have hM1 : M ≤ 256 ∧ 1 ≤ M := by rw [hM]; exact ⟨Nat.le_trans (Nat.pow_le_pow_right (by decide) (show 8 - n ≤ 8 by omega)) (by decide), Nat.pow_pos (by decide)⟩
  have HM := Lib.hid hM
  clear hzo h5 hu5 hS4 hb hS5 hw5 hM
  subst o0
  go_wp2
  go_loopw [5, 6] (fun v5 v6 wr => ∃ k : Nat, k ≤ n + 1 ∧ v6 = .int .i64 k ∧ v5 = .int .i64 (chs n k : Int) ∧ Hid (Upd [] w5 wr)) (fun _ v6 _ => n + 1 - (intOf v6).toNat)
  case atStart => exact ⟨0, by omega, rfl, by cases n <;> rfl, Upd.refl _ _⟩
  case round =>
    obtain ⟨k, hk, rfl, rfl, HU⟩ := hrel
    have cn := HCN.out wr HU.out
    by_cases hlt : k ≤ n
    · have hl : decide (k ≤ n) = true := by simpa using hlt
      obtain ⟨q1, q2, q3⟩ := chs_step ⟨n, hn1⟩ ⟨k, by omega⟩
      simp only at q1 q2 q3
      have ck := HAR.out wr HU.out k (by omega)
      rw [HEV.out.1 k, ← HM.out] at ck
      obtain ⟨c, hc⟩ : ∃ c, c = chs n k := ⟨_, rfl⟩
      rw [← hc] at q1 q2 q3 ck ⊢
      obtain ⟨d, hd⟩ : ∃ d, d = c * (n - k) := ⟨_, rfl⟩
      rw [← hd] at q1 q3
      have k0 : (0 : Int) ≤ (k : Int) := by omega
      have k64 : (k : Int) < 64 := by omega
      obtain ⟨t, ht⟩ : ∃ t, t = 8 - n := ⟨_, rfl⟩
      have s1 : IntKind.i64.wrap (8 - (n : Int)) = (t : Int) := by rw [IntWalk.i64_in _ (by omega)]; omega
      have ht8 : t ≤ 8 := by omega
      have hcM : c * M ≤ 70 * 256 := Nat.mul_le_mul q2 hM1.1
      obtain ⟨V, hV⟩ : ∃ V, V = c * M := ⟨_, rfl⟩
      have s2 : IntKind.i64.wrap ((c : Int) * 2 ^ t) = (V : Int) := by
        have e : ((c : Int) * 2 ^ t) = ((c * M : Nat) : Int) := by rw [HM.out, ← ht]; simp
        rw [e, ← hV, IntWalk.i64_in _ (by omega)]
      rw [← hV] at ck
      have hne : ((V : Int) != (V : Int)) = false := by simp
      have s3 : IntKind.i64.wrap ((n : Int) - (k : Int)) = ((n - k : Nat) : Int) := by rw [IntWalk.i64_in _ (by omega)]; omega
      have s4 : IntKind.i64.wrap ((c : Int) * ((n - k : Nat) : Int)) = (d : Int) := by rw [← Int.natCast_mul, ← hd, IntWalk.i64_in _ (by omega)]
      have s5 : IntKind.i64.wrap ((d : Int) / ((k : Int) + 1)) = (chs n (k + 1) : Int) := by
        have e : ((d : Int) / ((k : Int) + 1)) = ((d / (k + 1) : Nat) : Int) := by simp
        have hb9 : d / (k + 1) ≤ d := Nat.div_le_self _ _
        rw [e, q1] at *
        rw [IntWalk.i64_in _ (by omega)]
      clear hc hd ht hcM hV
      go_wp2_with fail
      go_quiet (fail)
      go_wp2_with fail
      exact ⟨⟨k + 1, by omega, by go_num, rfl, HU.out.drewN nq⟩, by simp [intOf]; omega⟩
    · obtain rfl : k = n + 1 := by omega
      have hl : decide (n + 1 ≤ n) = false := by simp
      have ct := HAR.out wr HU.out (n + 1) (by omega)
      rw [HEV.out.1 (n + 1), chs_top ⟨n, hn1⟩, Nat.zero_mul] at ct
      have k0 : (0 : Int) ≤ (n : Int) + 1 := by omega
      have k64 : (n : Int) + 1 < 64 := by omega
      have s3 : IntKind.i64.wrap ((n : Int) + 1) = (n : Int) + 1 := IntWalk.i64_in _ (by omega)
      have HF := Lib.hid (HU5.out.trans0 HU.out)
      clear hlt
      go_wp2
      trace_state
      go_ret
      exact ⟨rfl, HF.out⟩
end Go.Proofs.Ytcehkflkekefpaa
