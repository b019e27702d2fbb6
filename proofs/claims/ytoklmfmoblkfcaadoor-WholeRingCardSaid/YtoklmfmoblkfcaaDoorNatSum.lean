/- The contracts of nat.Add, timesPlus, addTimes, takeTimes, Mul (layer 5), and of the library's Add64, Sub64, Mul64. -/
import Derived.Test.YtoklmfmoblkfcaaDoorAa
import Derived.Test.YtoklmfmoblkfcaaDoorAb
import Derived.Laws.Externs
import Derived.Shelf.Bits.Mul64
import Derived.Lib.Mul64
namespace Go.Proofs.YtoklmfmoblkfcaaDoor
open Go.RowKit Go.Proofs.Tm
set_option linter.unusedVariables false
set_option maxRecDepth 20000


set_option maxHeartbeats 800000 in
theorem add_any (u v : Value) (m n : Nat) (w : World) (hu : NV w u m) (hv : NV w v n) (hm : (wds m).length ≤ 1099511627776) (hn : (wds n).length ≤ 1099511627776) :
    Calls Tryd.prog 41 #[u, v] w (RNat (m + n) w) := by
  obtain ⟨a, cap, rfl, hl, hcm⟩ := hu.open
  obtain ⟨b, cap', rfl, hl', hcm'⟩ := hv.open
  have HA := Lib.hid hu
  have HB := Lib.hid hv
  unfold maxLen at hcm hcm'
  obtain ⟨lm, hlm⟩ : ∃ k, k = (wds m).length := ⟨_, rfl⟩
  obtain ⟨ln, hln⟩ : ∃ k, k = (wds n).length := ⟨_, rfl⟩
  obtain ⟨long, hlong⟩ : ∃ k, k = max lm ln := ⟨_, rfl⟩
  have hmax : ∀ ts t W, (Builtin.max_ ts t #[.int .i64 (lm : Int), .int .i64 (ln : Int)]).run Tryd.prog W = .ok (.int .i64 (long : Int)) W := fun ts t W => by
    rw [run_max2]; congr 2; omega
  rw [← hlm] at hl hm HA ⊢
  rw [← hln] at hl' hn HB ⊢
  have HLM := Lib.hid hlm
  have HLN := Lib.hid hln
  have h1 : long ≤ 1099511627776 := by omega
  have HLONG := Lib.hid hlong
  clear hu hv hlm hln hlong
  go_enter Tryd.func41, Tryd.ntmps41
  go_wp2_with (at_make; refine wpList_make_lc _ rfl (.tmp 17) (.tmp 17) 22 rfl 65 (.int .u64 0) 8 Tryd.underlying22 infoU64 rfl .i64 .i64 _ _ (long + 1) (long + 1) rfl rfl (by omega) (by omega) (by omega) (by omega) (by unfold maxLen; omega) ?_)
  intro w1 ho hu1 hw1
  obtain ⟨hb2, hb3, hb4, hu0, hs0⟩ := box3 hu1
  have hgl : w.heap.size + 1 + 1 + 1 < w1.heap.size := by simpa using hw1
  obtain ⟨g, hg⟩ : ∃ g, g = w.heap.size + 1 + 1 + 1 := ⟨_, rfl⟩
  have H0 : Hid (SumInv w w1 0 g (long + 1) (List.replicate (long + 1) 0) w1) := SumInv.start (by rw [hg]; exact ownsRow_base ho (base' := w.heap.size) (by omega))
  have HA1 := Lib.hid (HA.out.upd0 hu0)
  have HB1 := Lib.hid (HB.out.upd0 hu0)
  have HU1 := Lib.hid hu0
  have HC : Hid (∀ W, Upd [g] w1 W → W.cell? ⟨w.heap.size, 0, none⟩ = some (.slice a lm cap) ∧ W.cell? ⟨w.heap.size + 1, 0, none⟩ = some (.slice b ln cap') ∧ Upd [g] w1 W) := fun W h =>
    ⟨by rw [h.cell (p := ⟨w.heap.size, 0, none⟩) (by show w.heap.size < _; omega) (by simp; omega), cell_of_row w1 _ 0 _ _ _ hb2]; rfl, by rw [h.cell (p := ⟨w.heap.size + 1, 0, none⟩) (by show w.heap.size + 1 < _; omega) (by simp; omega), cell_of_row w1 _ 0 _ _ _ hb3]; rfl, h⟩
  have HB4 := Lib.hid hb4
  have hg' := Nat.le_of_eq hg
  have hg'' := Nat.le_of_eq hg.symm
  have HG := Lib.hid hg
  rw [← hg]
  clear hg ho hu1 hw1 hb2 hb3 hb4 hu0
  go_wp2_with fail
  go_loopw [7, 20] (fun v7 v20 wr => ∃ (i c : Nat) (L : List Nat), i ≤ long ∧ v20 = .int .i64 i ∧ v7 = .int .u64 (c : Int) ∧ c ≤ 1 ∧ Hid (wval L + 18446744073709551616 ^ i * c = wval ((wds m).take i) + wval ((wds n).take i)) ∧ SumInv w w1 i g (long + 1) L wr) (fun _ v20 _ => long - (intOf v20).toNat)
  case atStart => exact ⟨0, 0, _, Nat.zero_le _, rfl, rfl, by decide, by show _ = _; rw [wval_zeros _ (fun d hd => List.eq_of_mem_replicate hd)]; simp [wval], H0.out⟩
  case round =>
    obtain ⟨i, c, L, hi, rfl, rfl, hc, HE, hinv⟩ := hrel
    have HI := Lib.hid hinv
    clear hinv H0
    have hwr := HI.out.upd
    by_cases hlt : i < long
    · obtain ⟨s, c', hs, hc', hsum, hadd⟩ := add64_run ((wds m).getD i 0) ((wds n).getD i 0) c (by rw [wds_getD]; exact Nat.mod_lt _ (by decide)) (by rw [wds_getD]; exact Nat.mod_lt _ (by decide)) hc
      have HSUM := Lib.hid hsum
      have HWa : Hid (∀ W, Upd [] wr W → Calls Tryd.prog 59 #[.agg #[.slice a lm cap], .int .i64 (i : Int)] W fun e w' => e = .returned (.int .u64 (((wds m).getD i 0 : Nat) : Int)) ∧ Upd [] W w') := fun W h => word_any _ m i W (HA.out.upd0 ((HU1.out.trans hwr (by simp; omega)).trans0 h)) (by omega)
      have HWb : Hid (∀ W, Upd [] wr W → Calls Tryd.prog 59 #[.agg #[.slice b ln cap'], .int .i64 (i : Int)] W fun e w' => e = .returned (.int .u64 (((wds n).getD i 0 : Nat) : Int)) ∧ Upd [] W w') := fun W h => word_any _ n i W (HB.out.upd0 ((HU1.out.trans hwr (by simp; omega)).trans0 h)) (by omega)
      have HSTEP : Hid (∀ (hz : L.getD i 0 = 0), wval (L.set i s) + 18446744073709551616 ^ (i + 1) * c' = wval ((wds m).take (i + 1)) + wval ((wds n).take (i + 1))) := fun hz => wadd_step _ _ L i c s c' (by rw [HI.out.len]; omega) hz HE.out (by have := HSUM.out; omega)
      have i0 : (0 : Int) ≤ (i : Int) := by omega
      have i1 : (i : Int) < (long : Int) + 1 := by omega
      have hcell := HI.out.own.cellAt i (by omega)
      rw [cu64_getD _ _ (by rw [HI.out.len]; omega), HI.out.zero i (Nat.le_refl _)] at hcell
      have hfz := HI.out.own.frozenAt i
      have hgw := World.block_lt_of_cell? wr _ hcell
      obtain ⟨hk2, hk3, _⟩ := HC.out _ hwr
      have hcs : ∀ W, Upd [] wr W → W.cell? ⟨g, i, none⟩ = some (.int .u64 ((0 : Nat) : Int)) := fun W h => (h.cell (p := ⟨g, i, none⟩) hgw (by simp)).trans hcell
      have hfs : ∀ W, Upd [] wr W → W.frozen? ⟨g, i, none⟩ = false := fun W h => (h.frozen (p := ⟨g, i, none⟩) hgw (by simp)).trans hfz
      have hrf : Upd [] wr wr := Upd.refl _ _
      clear hsum hk2 hk3 hcell hfz
      generalize (wds m).getD i 0 = x at *
      generalize (wds n).getD i 0 = y at *
      go_wp2_with fail
      go_region_held3 (fun W => W.cell? ⟨w.heap.size, 0, none⟩ = some (.slice a lm cap) ∧ W.cell? ⟨w.heap.size + 1, 0, none⟩ = some (.slice b ln cap') ∧ Upd [g] w1 W)
        (first
          | exact HC.out _ (hwr.trans huy (by simp))
          | exact HC.out _ hwr.drew
          | exact HC.out _ hwr
          | exact HC.out _ ((hwr.trans huy (by simp)).setCell (.inl (by simp)) _)
          | exact HC.out _ (hwr.trans huy (by simp)).drew)
        (first
          | (go_at_call 59; (with_reducible refine (HWa.out _ (by first | exact huy | exact hrf.drew | exact hrf)).mono ?_); rintro e wy ⟨rfl, hz⟩; have huy : Upd [] wr wy := Upd.trans0 (by first | exact huy | exact hrf.drew | exact hrf) hz)
          | (go_at_call 59; (with_reducible refine (HWb.out _ (by first | exact huy | exact hrf.drew | exact hrf)).mono ?_); rintro e wy ⟨rfl, hz⟩; have huy : Upd [] wr wy := Upd.trans0 (by first | exact huy | exact hrf.drew | exact hrf) hz))
      have HF := Lib.hid (HI.out.set huy s hs)
      have HZ := Lib.hid (HI.out.zero i (Nat.le_refl _))
      clear hcs hfs
      go_wp2_with fail
      refine ⟨⟨i + 1, c', L.set i s, by omega, by go_num, rfl, hc', HSTEP.out HZ.out, HF.out⟩, by simp [intOf]; omega⟩
    · obtain rfl : i = long := by omega
      have hcell := HI.out.own.cellAt i (by omega)
      rw [cu64_getD _ _ (by rw [HI.out.len]; omega), HI.out.zero i (Nat.le_refl _)] at hcell
      have hfz := HI.out.own.frozenAt i
      have HF := Lib.hid (HI.out.set (Upd.refl _ _) c (by omega))
      have HV : Hid (wval (L.set i c) = m + n) := by
        have h := wval_set L i c (by rw [HI.out.len]; omega)
        rw [HI.out.zero i (Nat.le_refl _)] at h
        have h2 := HE.out
        rw [List.take_of_length_le (by have := HLM.out; have := HLONG.out; omega), List.take_of_length_le (by have := HLN.out; have := HLONG.out; omega), wval_wds, wval_wds] at h2
        show _ = _
        omega
      have i0 : (0 : Int) ≤ (i : Int) := by omega
      go_wp2_with fail
      refine (fit_any _ _ _ (Sl.own HF.out.own) HF.out.lt).mono ?_
      rintro e w5 ⟨v5, rfl, hn5, hu5⟩
      rw [HV.out] at hn5
      obtain ⟨a5, cap5, rfl, hl5, hm5⟩ := hn5.open
      have hbk : w5.heap[w.heap.size + 1 + 1]? = some (.cells #[.slice none 0 0] 27 (0, 0)) := ((HF.out.upd.trans hu5 (by simp)).block _ (by omega) (by simp; omega)).trans HB4.out
      have hc5 : w5.cell? ⟨w.heap.size + 1 + 1, 0, none⟩ = some (.slice none 0 0) := by rw [cell_of_row w5 _ 0 _ _ _ hbk]; rfl
      have hf5 : w5.frozen? ⟨w.heap.size + 1 + 1, 0, none⟩ = false := by simp [World.frozen?, hbk]
      have HN5 := Lib.hid hn5
      have HU5 := Lib.hid (((HU1.out.trans HF.out.upd (by simp; omega)).trans0 hu5))
      have HBK := Lib.hid hbk
      clear hn5 hu5 hbk
      go_wp2
      have hset := set_cell (y := .slice a5 (wds (m + n)).length cap5) hc5
      refine bodyPost_ret (v := .agg #[.slice a5 (wds (m + n)).length cap5]) (by simp [results, Tryd.results41, go_sem, hset]) rfl ?_
      exact ⟨_, rfl, HN5.out.store HBK.out no_u64 _ rfl _, HU5.out.setCell (.inr (by show w.heap.size ≤ w.heap.size + 1 + 1; omega)) _⟩
end Go.Proofs.YtoklmfmoblkfcaaDoor
