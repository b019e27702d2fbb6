/- The law DrawBelow (layer 11). -/
import Derived.Test.YtcehkflkekefpaaDrawAsk
import Derived.Test.YtcehkflkekefpaaAnd1
namespace Go.Proofs.Ytcehkflkekefpaa
open Go.RowKit Go.Proofs.Tm Go.Shelf
set_option linter.unusedVariables false
set_option maxRecDepth 20000

theorem run_index_arr (cs : Array Value) (i : Nat) (v : Value) (h : cs[i]? = some v) (hi : i < 64) (W : World) : (Instr.index 23 (.agg cs) (.int .i64 (i : Int))).run Try.prog W = .ok v W := by
  have hn : (0 : Int) ≤ (i : Int) ∧ (i : Int) < ((64 : Nat) : Int) := by omega
  have hsz : ∀ W : World, (sizeOf 3).run Try.prog W = .ok 1 W := fun W => by kernel_rfl
  have hag : ∀ W : World, (isAgg 3).run Try.prog W = .ok false W := fun W => by kernel_rfl
  simp [Instr.index, run_underlying Try.underlying23, asIntOf, hn, part, hsz, hag, Sem.run_bind, Sem.run_pure, h]
  intro h9; omega

set_option maxHeartbeats 3200000 in
theorem drawBelow_law (x : Int) (w : World) :
    Calls Try.prog 3 #[.int .i64 x] w fun e w' => e = .returned (.bool true) ∧ Upd [] w w' := by
  have hand := i64_and15 x
  obtain ⟨n, hn⟩ : ∃ n : Nat, (n : Int) = 1 + x % 16 := ⟨(1 + x % 16).toNat, by omega⟩
  have hn1 : 1 ≤ n ∧ n ≤ 16 := by omega
  have hw0 : IntKind.i64.wrap (1 + x % 16) = (n : Int) := by rw [IntWalk.i64_in _ (by omega)]; omega
  have hmf : ∀ (fn : Fn) (first cap : Array Value) (w : World), (Instr.makeFunc fn first cap).run Try.prog w = .ok (.func fn first cap) w := fun _ _ _ _ => rfl
  obtain ⟨wd, hwd⟩ : ∃ k, k = Lib.bitLen (n - 1) := ⟨_, rfl⟩
  obtain ⟨f1, f2, f3⟩ := wid_facts n hn1.1 (by omega)
  rw [← hwd] at f1 f2 f3
  obtain ⟨A, hA⟩ : ∃ A, A = fun i => cntN i 12 (belowF n wd) := ⟨_, rfl⟩
  obtain ⟨o, ho⟩ : ∃ o, o = opnN 12 (belowF n wd) := ⟨_, rfl⟩
  have hev := below_even n wd 12 (by omega) f1 f3
  have HEV : Hid ((∀ i, i < n → A i = A 0) ∧ (∀ i, n ≤ i → A i = 0) ∧ n * A 0 + o = 4096 ∧ (∀ i, A i ≤ 4096)) := by
    rw [hA, ho]
    exact ⟨hev.1, hev.2.1, hev.2.2, fun i => (cntN_le i 12 _).1⟩
  have HT : Hid (∀ (W : World) (b : Nat), W.cell? ⟨b, 0, none⟩ = some (.int .i64 (n : Int)) → Calls Try.prog 7 #[.int .i64 12, .func (.func 8) #[] #[.pointer (some ⟨b, 0, none⟩)]] W (TreePostN A o W)) := fun W b hb => by
    rw [hA, ho, hwd]
    exact dtree_any 12 8 _ _ W (by decide) (enters_of Try.func8 (by kernel_rfl) rfl) (ask_below W b n hb hn1.1 hn1.2) (fun l => by have := belowF_lt (by omega : 0 < n) (Lib.bitLen (n - 1)) l; omega)
  obtain ⟨w1, hw1⟩ : ∃ W, W = w.alloc (.cells #[.int .i64 x] 3) := ⟨_, rfl⟩
  obtain ⟨S, hS⟩ : ∃ S, S = w.heap.size := ⟨_, rfl⟩
  have hb1 : Box w1 S (.int .i64 x) 3 := by rw [hw1, hS]; exact Box.new _ _ _
  have hu1 : Upd [] w w1 := by rw [hw1]; exact (Upd.refl _ _).alloc _
  have HB1 := Lib.hid hb1
  have HU1 := Lib.hid hu1
  have HW1 := Lib.hid hw1
  have HS := Lib.hid hS
  clear hn hwd hA ho hev f1 f2 f3 hb1 hu1 hw1 hS
  go_enter Try.func3, Try.ntmps3
  go_wp2_with fail
  rw [← HW1.out, ← HS.out]
  refine (awake11 w1).mono ?_
  rintro e w2 ⟨rfl, hu2⟩
  have hb2 := HB1.out.upd hu2
  have c2 := hb2.cell
  have fz2 : w2.frozen? ⟨S, 0, none⟩ = false := frozen_of_row w2 _ 0 _ _ hb2
  have HB2 := Lib.hid hb2
  have HU2 := Lib.hid (HU1.out.trans0 hu2)
  clear hu2 hb2
  go_wp2_with fail
  obtain ⟨w3, hw3⟩ : ∃ W, W = w2.setCell ⟨S, 0, none⟩ (.int .i64 (n : Int)) := ⟨_, rfl⟩
  have hb3 : w3.heap[S]? = some (.cells #[.int .i64 (n : Int)] 3 (0, 0)) := by rw [hw3]; exact one_setCell HB2.out
  have hu3 : Upd [] w w3 := by rw [hw3]; exact HU2.out.setCell (.inr (Nat.le_of_eq HS.out.symm)) _
  rw [← hw3]
  have hc3 : w3.cell? ⟨S, 0, none⟩ = some (.int .i64 (n : Int)) := by rw [cell_of_row w3 _ 0 _ _ _ hb3]; rfl
  have HC3 := Lib.hid hc3
  have HB3 := Lib.hid hb3
  have HU3 := Lib.hid hu3
  clear hw3 hb3 hu3 hc3 c2 fz2
  refine (HT.out w3 S HC3.out).mono ?_
  rintro e w4 ⟨rfl, hu4⟩
  have hb4 : w4.heap[S]? = some (.cells #[.int .i64 (n : Int)] 3 (0, 0)) := by rw [hu4.block _ (lt_of_block HB3.out) (by simp)]; exact HB3.out
  have HB4 := Lib.hid hb4
  have HU4 := Lib.hid (HU3.out.trans0 hu4)
  obtain ⟨cs, hcs⟩ : ∃ cs, cs = arrC A := ⟨_, rfl⟩
  rw [← hcs]
  have hsz : cs.size = 64 := by rw [hcs]; exact arrC_size A
  have hone : cs.all (·.oneCell') = true := by rw [hcs]; exact arrC_one A
  have HSZ := Lib.hid hsz
  have HONE := Lib.hid hone
  have HCS := Lib.hid hcs
  clear hu4 hb4 hcs hsz hone
  have HH4 : Hid (∀ z : Array Value, z.size = 64 → ((w4.alloc (.cells z 23)).setRow w4.heap.size cs).heap[w4.heap.size]? = some (.cells cs 23 (0, 0)) ∧ Upd [] w ((w4.alloc (.cells z 23)).setRow w4.heap.size cs)) := fun z hz =>
    ⟨setRow_heap _ _ _ _ _ _ (heap_alloc_new _ _), (HU4.out.alloc _).setRow (.inr HU4.out.size) _⟩
  go_wp2_with (first
    | (refine wpList_store_row rfl 23 _ _ rfl w4.heap.size cs rfl rfl 23 _ (heap_alloc_new _ _) (by rw [HSZ.out]; exact arr_info) (by rw [HSZ.out]; rfl) HONE.out ?_)
    | (refine wpList_load_row rfl 23 (.tmp 3) rfl w4.heap.size rfl 23 cs (0, 0) _ (setRow_heap _ _ _ _ _ _ (heap_alloc_new _ _)) Try.underlying23 rfl (by rw [HSZ.out]; exact arr_info) ?_))
  obtain ⟨zo, hzo⟩ : ∃ z : Array Value, z = #[.int .i64 0, .int .i64 0, .int .i64 0, .int .i64 0, .int .i64 0, .int .i64 0, .int .i64 0, .int .i64 0, .int .i64 0, .int .i64 0, .int .i64 0, .int .i64 0, .int .i64 0, .int .i64 0, .int .i64 0, .int .i64 0, .int .i64 0, .int .i64 0, .int .i64 0, .int .i64 0, .int .i64 0, .int .i64 0, .int .i64 0, .int .i64 0, .int .i64 0, .int .i64 0, .int .i64 0, .int .i64 0, .int .i64 0, .int .i64 0, .int .i64 0, .int .i64 0, .int .i64 0, .int .i64 0, .int .i64 0, .int .i64 0, .int .i64 0, .int .i64 0, .int .i64 0, .int .i64 0, .int .i64 0, .int .i64 0, .int .i64 0, .int .i64 0, .int .i64 0, .int .i64 0, .int .i64 0, .int .i64 0, .int .i64 0, .int .i64 0, .int .i64 0, .int .i64 0, .int .i64 0, .int .i64 0, .int .i64 0, .int .i64 0, .int .i64 0, .int .i64 0, .int .i64 0, .int .i64 0, .int .i64 0, .int .i64 0, .int .i64 0, .int .i64 0] := ⟨_, rfl⟩
  rw [← hzo]
  obtain ⟨h5, hu5⟩ := HH4.out zo (by rw [hzo]; rfl)
  have hS4 : S ≠ w4.heap.size := by have := lt_of_block HB4.out; omega
  obtain ⟨b, hb⟩ : ∃ b, b = w4.heap.size := ⟨_, rfl⟩
  have hS5 : ((w4.alloc (.cells zo 23)).setRow w4.heap.size cs).heap[S]? = some (.cells #[.int .i64 (n : Int)] 3 (0, 0)) := by
    have : Upd [w4.heap.size] w4 ((w4.alloc (.cells zo 23)).setRow w4.heap.size cs) := ((Upd.refl _ _).alloc _).setRow (.inl (by simp)) _
    exact (this.block S (lt_of_block HB4.out) (by simpa using hS4)).trans HB4.out
  rw [← hb] at h5 hu5 hS5 ⊢
  obtain ⟨w5, hw5⟩ : ∃ W, W = (w4.alloc (.cells zo 23)).setRow b cs := ⟨_, rfl⟩
  rw [← hw5] at h5 hu5 hS5 ⊢
  have HH5 := Lib.hid h5
  have HU5 := Lib.hid hu5
  have c5 : w5.cell? ⟨S, 0, none⟩ = some (.int .i64 (n : Int)) := by rw [cell_of_row w5 _ 0 _ _ _ hS5]; rfl
  obtain ⟨a0, ha0⟩ : ∃ a, a = A 0 := ⟨_, rfl⟩
  have z5 : w5.cell? ⟨b, 0, none⟩ = some (.int .i64 (a0 : Int)) := by rw [cell_of_row w5 _ 0 _ _ _ h5, HCS.out, arrC_at _ _ (by decide), ha0]
  have HA0 := Lib.hid ha0
  clear hzo h5 hu5 hS4 hb hS5 hw5 ha0
  go_wp2
  go_loop [18] (fun v18 => ∃ i : Nat, i ≤ 64 ∧ v18 = .int .i64 i) (fun v18 => 64 - (intOf v18).toNat)
  case atStart => exact ⟨0, by omega, rfl⟩
  case round =>
    obtain ⟨i, hi, rfl⟩ := hrel
    by_cases hlt : i < 64
    · have hl : decide ((i : Int) < 64) = true := by simp; omega
      have hcs : cs[i]? = some (.int .i64 (A i : Int)) := by rw [HCS.out]; exact arrC_at _ _ hlt
      by_cases hin : i < n
      · have hl2 : decide (i < n) = true := by simpa using hin
        have hv := HEV.out.1 i hin
        rw [← HA0.out] at hv
        rw [hv] at hcs
        have hix := fun W => run_index_arr cs i _ hcs hlt W
        have hne : ((a0 : Int) != (a0 : Int)) = false := by simp
        have hge : decide (n ≤ i) = false := by simp; omega
        clear hv hcs
        go_wp2
        go_round
        case rel => exact ⟨i + 1, by omega, by go_num⟩
        case measure => simp [intOf]; omega
      · have hl2 : decide (i < n) = false := by simpa using hin
        have hv := HEV.out.2.1 i (by omega)
        rw [hv] at hcs
        have hix := fun W => run_index_arr cs i _ hcs hlt W
        have hge : decide (n ≤ i) = true := by simp; omega
        clear hv hcs
        go_wp2
        go_round
        case rel => exact ⟨i + 1, by omega, by go_num⟩
        case measure => simp [intOf]; omega
    · obtain rfl : i = 64 := by omega
      have hall := HEV.out.2.2.1
      rw [← HA0.out] at hall
      have hle := HEV.out.2.2.2 0
      rw [← HA0.out] at hle
      obtain ⟨Y, hY⟩ : ∃ Y, Y = n * a0 := ⟨_, rfl⟩
      rw [← hY] at hall
      have m1 : IntKind.i64.wrap ((n : Int) * (a0 : Int)) = (Y : Int) := by rw [← Int.natCast_mul, ← hY, IntWalk.i64_in _ (by omega)]
      have m2 : IntKind.i64.wrap ((Y : Int) + (o : Int)) = 4096 := by rw [IntWalk.i64_in _ (by omega)]; omega
      clear hY hall hle hlt
      go_wp2
      go_ret
      exact ⟨rfl, HU5.out⟩
end Go.Proofs.Ytcehkflkekefpaa
