/- The contracts of nat.Add, timesPlus, addTimes, takeTimes, Mul (layer 5), and of the library's Add64, Sub64, Mul64. -/
import Derived.Test.YthinhmncdanblaaDoorNatB
import Derived.Laws.Externs
import Derived.Shelf.Bits.Mul64
import Derived.Lib.Mul64
namespace Go.Proofs.YthinhmncdanblaaDoor
open Go.RowKit Go.Proofs.Tm
set_option linter.unusedVariables false
set_option maxRecDepth 20000

theorem run_max2 {P : Program} (a b : Int) (ts : Array TypeId) (t : TypeId) (W : World) : (Builtin.max_ ts t #[.int .i64 a, .int .i64 b]).run P W = .ok (.int .i64 (max a b)) W := by
  have e : Builtin.max_ ts t #[.int .i64 a, .int .i64 b] = pure (.int .i64 (if a < b then b else a)) := rfl
  rw [e, Sem.run_pure]
  congr 2
  split <;> omega

/-- The model's entry for math/bits.Sub64. -/
def sub64E : Array Value → Sem Value := fun args => do
  let (x, y, b) ← Extern.MathBitsCarry.three "Sub64" args
  pure (Extern.MathBitsCarry.pair ((x + Extern.MathBitsCarry.m64 - y - b) % Extern.MathBitsCarry.m64) (if x < y + b then 1 else 0))

theorem sub64E_run (x y b : Nat) (hb : b ≤ 1) (w : World) :
    (sub64E #[.int .u64 x, .int .u64 y, .int .u64 b]).run Tryd.prog w = .ok (.tuple #[.int .u64 (((x + 18446744073709551616 - y - b) % 18446744073709551616 : Nat) : Int), .int .u64 ((if x < y + b then 1 else 0 : Nat) : Int)]) w := by
  have : b = 0 ∨ b = 1 := by omega
  rcases this with rfl | rfl <;> rfl

/-- Add64, in the walk's own form. -/
theorem add64_run (x y c : Nat) (hx : x < 18446744073709551616) (hy : y < 18446744073709551616) (hc : c ≤ 1) :
    ∃ s c' : Nat, s < 18446744073709551616 ∧ c' ≤ 1 ∧ s + 18446744073709551616 * c' = x + y + c ∧
      ∀ W, (callFunc 76 #[.int .u64 (x : Int), .int .u64 (y : Int), .int .u64 (c : Int)]).run Tryd.prog W = .ok (.value (.tuple #[.int .u64 (s : Int), .int .u64 (c' : Int)])) W := by
  refine ⟨(x + y + c) % 18446744073709551616, (x + y + c) / 18446744073709551616, Nat.mod_lt _ (by decide), by omega, by omega, fun W => ?_⟩
  rw [run_callFunc_extern Tryd.func76 (by kernel_rfl) (by kernel_rfl) (by kernel_rfl) (e := add64Entry) (by kernel_rfl), run_add64 x y c (by omega) (by omega) (by omega) (by omega)]
  simp only [Result.andThen]
  congr 5 <;> omega

/-- Sub64, in the walk's own form. -/
theorem sub64_run (x y b : Nat) (hx : x < 18446744073709551616) (hy : y < 18446744073709551616) (hb : b ≤ 1) :
    ∃ d b' : Nat, d < 18446744073709551616 ∧ b' ≤ 1 ∧ x + 18446744073709551616 * b' = d + b + y ∧
      ∀ W, (callFunc 73 #[.int .u64 (x : Int), .int .u64 (y : Int), .int .u64 (b : Int)]).run Tryd.prog W = .ok (.value (.tuple #[.int .u64 (d : Int), .int .u64 (b' : Int)])) W := by
  refine ⟨(x + 18446744073709551616 - y - b) % 18446744073709551616, if x < y + b then 1 else 0, Nat.mod_lt _ (by decide), by split <;> omega, by split <;> omega, fun W => ?_⟩
  rw [run_callFunc_extern Tryd.func73 (by kernel_rfl) (by kernel_rfl) (by kernel_rfl) (e := sub64E) (by kernel_rfl), sub64E_run x y b hb]
  rfl

/-- Three blocks of a call's own. -/
theorem box3 {w w1 : World} {x y z : Value} {t t' t'' : TypeId} (u : Upd [] (((w.alloc (.cells #[x] t)).alloc (.cells #[y] t')).alloc (.cells #[z] t'')) w1) :
    w1.heap[w.heap.size]? = some (.cells #[x] t (0, 0)) ∧ w1.heap[w.heap.size + 1]? = some (.cells #[y] t' (0, 0)) ∧ w1.heap[w.heap.size + 1 + 1]? = some (.cells #[z] t'' (0, 0)) ∧ Upd [] w w1 ∧ w.heap.size + 1 + 1 + 1 ≤ w1.heap.size := by
  refine ⟨?_, ?_, ?_, ((((Upd.refl _ _).alloc _).alloc _).alloc _).trans0 u, by have := u.size; simpa using this⟩
  · rw [u.block _ (by simp; omega) (by simp), Below.heap_alloc _ _ _ (by simp; omega), Below.heap_alloc _ _ _ (by simp)]; exact heap_alloc_new w _
  · rw [u.block _ (by simp) (by simp), Below.heap_alloc _ _ _ (by simp)]; have := heap_alloc_new (w.alloc (.cells #[x] t)) (.cells #[y] t'); simpa using this
  · rw [u.block _ (by simp) (by simp)]; have := heap_alloc_new ((w.alloc (.cells #[x] t)).alloc (.cells #[y] t')) (.cells #[z] t''); simpa using this

/-- What holds at each round of a sum, a difference: the row's words. -/
structure SumInv (w w1 : World) (k g len : Nat) (L : List Nat) (wr : World) : Prop where
  own : wr.ownsRow (w.heap.size) 31 1 (.slice (some ⟨g, 0, none⟩) len len) len (cu64 L)
  len : L.length = len
  zero : ∀ j, k ≤ j → L.getD j 0 = 0
  lt : ∀ d ∈ L, d < 18446744073709551616
  upd : Upd [g] w1 wr

theorem SumInv.start {w w1 : World} {g len : Nat} (h : w1.ownsRow w.heap.size 31 1 (.slice (some ⟨g, 0, none⟩) len len) len (List.replicate len (.int .u64 0))) : SumInv w w1 0 g len (List.replicate len 0) w1 :=
  ⟨by rw [cu64_zero]; exact h, by simp, fun j _ => by simp [List.getD_eq_getElem?_getD, List.getElem?_replicate]; split <;> rfl, fun d hd => by rw [List.eq_of_mem_replicate hd]; decide, Upd.refl _ _⟩

theorem SumInv.set {w w1 wr wq : World} {i g len : Nat} {L : List Nat} (h : SumInv w w1 i g len L wr) (u : Upd [] wr wq) (s : Nat) (hs : s < 18446744073709551616) : SumInv w w1 (i + 1) g len (L.set i s) (wq.setCell ⟨g, i, none⟩ (.int .u64 (s : Int))) := by
  have ho := ownsRow_upd h.own u (by simp)
  refine ⟨by rw [cu64_set]; exact (ho.stored i _).1, by rw [List.length_set]; exact h.len, fun j hj => ?_, fun d hd => ?_, (h.upd.trans u (by simp)).setCell (.inl (by simp)) _⟩
  · have := h.zero j (by omega)
    rw [List.getD_eq_getElem?_getD, List.getElem?_set_ne (by omega), ← List.getD_eq_getElem?_getD]; exact this
  · rcases List.mem_or_eq_of_mem_set hd with hd | rfl
    · exact h.lt d hd
    · exact hs

set_option maxHeartbeats 800000 in
theorem add_any (u v : Value) (m n : Nat) (w : World) (hu : NV w u m) (hv : NV w v n) (hm : (wds m).length ≤ 1099511627776) (hn : (wds n).length ≤ 1099511627776) :
    Calls Tryd.prog 30 #[u, v] w (RNat (m + n) w) := by
  obtain ⟨a, cap, rfl, hl, hcm⟩ := hu.open
  obtain ⟨b, cap', rfl, hl', hcm'⟩ := hv.open
  have HA := Lib.hid hu
  have HB := Lib.hid hv
  unfold maxLen at hcm hcm'
  obtain ⟨lm, hlm⟩ : ∃ k, k = (wds m).length := ⟨_, rfl⟩
  obtain ⟨ln, hln⟩ : ∃ k, k = (wds n).length := ⟨_, rfl⟩
  obtain ⟨long, hlong⟩ : ∃ k, k = max lm ln := ⟨_, rfl⟩
  have hmax : ∀ ts t W, (Builtin.max_ ts t #[.int .i64 (lm : Int), .int .i64 (ln : Int)]).run Tryd.prog W = .ok (.int .i64 (long : Int)) W := fun ts t W => by
    rw [run_max2]; congr 2; omega
  rw [← hlm] at hl hm HA ⊢
  rw [← hln] at hl' hn HB ⊢
  have HLM := Lib.hid hlm
  have HLN := Lib.hid hln
  have h1 : long ≤ 1099511627776 := by omega
  have HLONG := Lib.hid hlong
  clear hu hv hlm hln hlong
  go_enter Tryd.func30, Tryd.ntmps30
  go_wp2_with (at_make; refine wpList_make_lc _ rfl (.tmp 17) (.tmp 17) 22 rfl 31 (.int .u64 0) 8 Tryd.underlying22 infoU64 rfl .i64 .i64 _ _ (long + 1) (long + 1) rfl rfl (by omega) (by omega) (by omega) (by omega) (by unfold maxLen; omega) ?_)
  intro w1 ho hu1 hw1
  obtain ⟨hb2, hb3, hb4, hu0, hs0⟩ := box3 hu1
  have hgl : w.heap.size + 1 + 1 + 1 < w1.heap.size := by simpa using hw1
  obtain ⟨g, hg⟩ : ∃ g, g = w.heap.size + 1 + 1 + 1 := ⟨_, rfl⟩
  have H0 : Hid (SumInv w w1 0 g (long + 1) (List.replicate (long + 1) 0) w1) := SumInv.start (by rw [hg]; exact ownsRow_base ho (base' := w.heap.size) (by omega))
  have HA1 := Lib.hid (HA.out.upd0 hu0)
  have HB1 := Lib.hid (HB.out.upd0 hu0)
  have HU1 := Lib.hid hu0
  have HC : Hid (∀ W, Upd [g] w1 W → W.cell? ⟨w.heap.size, 0, none⟩ = some (.slice a lm cap) ∧ W.cell? ⟨w.heap.size + 1, 0, none⟩ = some (.slice b ln cap') ∧ Upd [g] w1 W) := fun W h =>
    ⟨by rw [h.cell (p := ⟨w.heap.size, 0, none⟩) (by show w.heap.size < _; omega) (by simp; omega), cell_of_row w1 _ 0 _ _ _ hb2]; rfl, by rw [h.cell (p := ⟨w.heap.size + 1, 0, none⟩) (by show w.heap.size + 1 < _; omega) (by simp; omega), cell_of_row w1 _ 0 _ _ _ hb3]; rfl, h⟩
  have HB4 := Lib.hid hb4
  have hg' := Nat.le_of_eq hg
  have hg'' := Nat.le_of_eq hg.symm
  have HG := Lib.hid hg
  rw [← hg]
  clear hg ho hu1 hw1 hb2 hb3 hb4 hu0
  go_wp2_with fail
  go_loopw [7, 20] (fun v7 v20 wr => ∃ (i c : Nat) (L : List Nat), i ≤ long ∧ v20 = .int .i64 i ∧ v7 = .int .u64 (c : Int) ∧ c ≤ 1 ∧ Hid (wval L + 18446744073709551616 ^ i * c = wval ((wds m).take i) + wval ((wds n).take i)) ∧ SumInv w w1 i g (long + 1) L wr) (fun _ v20 _ => long - (intOf v20).toNat)
  case atStart => exact ⟨0, 0, _, Nat.zero_le _, rfl, rfl, by decide, by show _ = _; rw [wval_zeros _ (fun d hd => List.eq_of_mem_replicate hd)]; simp [wval], H0.out⟩
  case round =>
    obtain ⟨i, c, L, hi, rfl, rfl, hc, HE, hinv⟩ := hrel
    have HI := Lib.hid hinv
    clear hinv H0
    have hwr := HI.out.upd
    by_cases hlt : i < long
    · obtain ⟨s, c', hs, hc', hsum, hadd⟩ := add64_run ((wds m).getD i 0) ((wds n).getD i 0) c (by rw [wds_getD]; exact Nat.mod_lt _ (by decide)) (by rw [wds_getD]; exact Nat.mod_lt _ (by decide)) hc
      have HSUM := Lib.hid hsum
      have HWa : Hid (∀ W, Upd [] wr W → Calls Tryd.prog 72 #[.agg #[.slice a lm cap], .int .i64 (i : Int)] W fun e w' => e = .returned (.int .u64 (((wds m).getD i 0 : Nat) : Int)) ∧ Upd [] W w') := fun W h => word_any _ m i W (HA.out.upd0 ((HU1.out.trans hwr (by simp; omega)).trans0 h)) (by omega)
      have HWb : Hid (∀ W, Upd [] wr W → Calls Tryd.prog 72 #[.agg #[.slice b ln cap'], .int .i64 (i : Int)] W fun e w' => e = .returned (.int .u64 (((wds n).getD i 0 : Nat) : Int)) ∧ Upd [] W w') := fun W h => word_any _ n i W (HB.out.upd0 ((HU1.out.trans hwr (by simp; omega)).trans0 h)) (by omega)
      have HSTEP : Hid (∀ (hz : L.getD i 0 = 0), wval (L.set i s) + 18446744073709551616 ^ (i + 1) * c' = wval ((wds m).take (i + 1)) + wval ((wds n).take (i + 1))) := fun hz => wadd_step _ _ L i c s c' (by rw [HI.out.len]; omega) hz HE.out (by have := HSUM.out; omega)
      have i0 : (0 : Int) ≤ (i : Int) := by omega
      have i1 : (i : Int) < (long : Int) + 1 := by omega
      have hcell := HI.out.own.cellAt i (by omega)
      rw [cu64_getD _ _ (by rw [HI.out.len]; omega), HI.out.zero i (Nat.le_refl _)] at hcell
      have hfz := HI.out.own.frozenAt i
      have hgw := World.block_lt_of_cell? wr _ hcell
      obtain ⟨hk2, hk3, _⟩ := HC.out _ hwr
      have hcs : ∀ W, Upd [] wr W → W.cell? ⟨g, i, none⟩ = some (.int .u64 ((0 : Nat) : Int)) := fun W h => (h.cell (p := ⟨g, i, none⟩) hgw (by simp)).trans hcell
      have hfs : ∀ W, Upd [] wr W → W.frozen? ⟨g, i, none⟩ = false := fun W h => (h.frozen (p := ⟨g, i, none⟩) hgw (by simp)).trans hfz
      have hrf : Upd [] wr wr := Upd.refl _ _
      clear hsum hk2 hk3 hcell hfz
      generalize (wds m).getD i 0 = x at *
      generalize (wds n).getD i 0 = y at *
      go_wp2_with fail
      go_region_held3 (fun W => W.cell? ⟨w.heap.size, 0, none⟩ = some (.slice a lm cap) ∧ W.cell? ⟨w.heap.size + 1, 0, none⟩ = some (.slice b ln cap') ∧ Upd [g] w1 W)
        (first
          | exact HC.out _ (hwr.trans huy (by simp))
          | exact HC.out _ hwr.drew
          | exact HC.out _ hwr
          | exact HC.out _ ((hwr.trans huy (by simp)).setCell (.inl (by simp)) _)
          | exact HC.out _ (hwr.trans huy (by simp)).drew)
        (first
          | (go_at_call 72; (with_reducible refine (HWa.out _ (by first | exact huy | exact hrf.drew | exact hrf)).mono ?_); rintro e wy ⟨rfl, hz⟩; have huy : Upd [] wr wy := Upd.trans0 (by first | exact huy | exact hrf.drew | exact hrf) hz)
          | (go_at_call 72; (with_reducible refine (HWb.out _ (by first | exact huy | exact hrf.drew | exact hrf)).mono ?_); rintro e wy ⟨rfl, hz⟩; have huy : Upd [] wr wy := Upd.trans0 (by first | exact huy | exact hrf.drew | exact hrf) hz))
      have HF := Lib.hid (HI.out.set huy s hs)
      have HZ := Lib.hid (HI.out.zero i (Nat.le_refl _))
      clear hcs hfs
      go_wp2_with fail
      refine ⟨⟨i + 1, c', L.set i s, by omega, by go_num, rfl, hc', HSTEP.out HZ.out, HF.out⟩, by simp [intOf]; omega⟩
    · obtain rfl : i = long := by omega
      have hcell := HI.out.own.cellAt i (by omega)
      rw [cu64_getD _ _ (by rw [HI.out.len]; omega), HI.out.zero i (Nat.le_refl _)] at hcell
      have hfz := HI.out.own.frozenAt i
      have HF := Lib.hid (HI.out.set (Upd.refl _ _) c (by omega))
      have HV : Hid (wval (L.set i c) = m + n) := by
        have h := wval_set L i c (by rw [HI.out.len]; omega)
        rw [HI.out.zero i (Nat.le_refl _)] at h
        have h2 := HE.out
        rw [List.take_of_length_le (by have := HLM.out; have := HLONG.out; omega), List.take_of_length_le (by have := HLN.out; have := HLONG.out; omega), wval_wds, wval_wds] at h2
        show _ = _
        omega
      have i0 : (0 : Int) ≤ (i : Int) := by omega
      go_wp2_with fail
      refine (fit_any _ _ _ (Sl.own HF.out.own) HF.out.lt).mono ?_
      rintro e w5 ⟨v5, rfl, hn5, hu5⟩
      rw [HV.out] at hn5
      obtain ⟨a5, cap5, rfl, hl5, hm5⟩ := hn5.open
      have hbk : w5.heap[w.heap.size + 1 + 1]? = some (.cells #[.slice none 0 0] 26 (0, 0)) := ((HF.out.upd.trans hu5 (by simp)).block _ (by omega) (by simp; omega)).trans HB4.out
      have hc5 : w5.cell? ⟨w.heap.size + 1 + 1, 0, none⟩ = some (.slice none 0 0) := by rw [cell_of_row w5 _ 0 _ _ _ hbk]; rfl
      have hf5 : w5.frozen? ⟨w.heap.size + 1 + 1, 0, none⟩ = false := by simp [World.frozen?, hbk]
      have HN5 := Lib.hid hn5
      have HU5 := Lib.hid (((HU1.out.trans HF.out.upd (by simp; omega)).trans0 hu5))
      have HBK := Lib.hid hbk
      clear hn5 hu5 hbk
      go_wp2
      have hset := set_cell (y := .slice a5 (wds (m + n)).length cap5) hc5
      refine bodyPost_ret (v := .agg #[.slice a5 (wds (m + n)).length cap5]) (by simp [results, Tryd.results30, go_sem, hset]) rfl ?_
      exact ⟨_, rfl, HN5.out.store HBK.out no_u64 _ rfl _, HU5.out.setCell (.inr (by show w.heap.size ≤ w.heap.size + 1 + 1; omega)) _⟩
end Go.Proofs.YthinhmncdanblaaDoor
