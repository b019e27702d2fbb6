/- The contract of nat.Sub. -/
import Derived.Test.YtoklmfmoblkfcaaDoorAa
import Derived.Test.YtoklmfmoblkfcaaDoorNatS64
namespace Go.Proofs.YtoklmfmoblkfcaaDoor
open Go.RowKit Go.Proofs.Tm Go.Shelf
set_option linter.unusedVariables false
set_option maxRecDepth 20000

set_option maxHeartbeats 800000 in
theorem sub_less (u v : Value) (m n : Nat) (w : World) (hu : NV w u m) (hv : NV w v n) (hlen : (wds m).length ≤ 1099511627776) (hmn : m < n) :
    Calls Tryd.prog 42 #[u, v] w (RNatE 0 2 w) := by
  obtain ⟨a, cap, rfl, hl, hcm⟩ := hu.open
  obtain ⟨b, cap', rfl, hl', hcm'⟩ := hv.open
  have HC : Hid (∀ W, Upd [] w W → Calls Tryd.prog 24 #[.agg #[.slice a (wds m).length cap], .agg #[.slice b (wds n).length cap']] W fun e w' => e = .returned (.int .i64 (cmpN m n)) ∧ Upd [] W w') := fun W h => cmp_any _ _ _ _ _ (hu.upd0 h) (hv.upd0 h) hlen
  have HL := Lib.hid hmn
  generalize (wds m).length = lm at *
  generalize (wds n).length = ln at *
  clear hu hv hmn
  go_enter Tryd.func42, Tryd.ntmps42
  go_wp2_with fail
  refine (HC.out _ ((((Upd.refl _ _).alloc _).alloc _).alloc _)).mono ?_
  rintro e w1 ⟨rfl, hu1⟩
  rw [cmpN_lt HL.out]
  obtain ⟨hb2, hb3, hb4, hu0, hs0⟩ := box3 hu1
  have hc5 : w1.cell? ⟨w.heap.size + 1 + 1, 0, none⟩ = some (.slice none 0 0) := by rw [cell_of_row w1 _ 0 _ _ _ hb4]; rfl
  have hf5 : w1.frozen? ⟨w.heap.size + 1 + 1, 0, none⟩ = false := by simp [World.frozen?, hb4]
  have HU := Lib.hid hu0
  have HB4 := Lib.hid hb4
  clear hu1 hb2 hb3 hb4 hu0 HC
  go_wp2
  have hset := set_cell (y := .slice none 0 0) hc5
  refine bodyPost_ret (v := .tuple #[.agg #[.slice none 0 0], .int .i64 2]) (by simp [results, Tryd.results42, go_sem, hset]) rfl ?_
  exact ⟨_, rfl, NV.zero _, HU.out.setCell (.inr (by show w.heap.size ≤ w.heap.size + 1 + 1; omega)) _⟩

set_option maxHeartbeats 800000 in
theorem sub_any (u v : Value) (m n : Nat) (w : World) (hu : NV w u m) (hv : NV w v n) (hlen : (wds m).length ≤ 1099511627776) (hmn : n ≤ m) :
    Calls Tryd.prog 42 #[u, v] w (RNatE (m - n) 0 w) := by
  obtain ⟨a, cap, rfl, hl, hcm⟩ := hu.open
  obtain ⟨b, cap', rfl, hl', hcm'⟩ := hv.open
  have HC : Hid (∀ W, Upd [] w W → Calls Tryd.prog 24 #[.agg #[.slice a (wds m).length cap], .agg #[.slice b (wds n).length cap']] W fun e w' => e = .returned (.int .i64 (cmpN m n)) ∧ Upd [] W w') := fun W h => cmp_any _ _ _ _ _ (hu.upd0 h) (hv.upd0 h) hlen
  have HL := Lib.hid hmn
  have HA := Lib.hid hu
  have HB := Lib.hid hv
  unfold maxLen at hcm hcm'
  obtain ⟨lm, hlm⟩ : ∃ k, k = (wds m).length := ⟨_, rfl⟩
  obtain ⟨ln, hln⟩ : ∃ k, k = (wds n).length := ⟨_, rfl⟩
  have HLE : Hid (ln ≤ lm) := by show _ ≤ _; rw [hlm, hln]; exact wds_length_le hmn
  rw [← hlm] at hl hlen HA HC ⊢
  rw [← hln] at hl' HB HC ⊢
  have HLM := Lib.hid hlm
  have HLN := Lib.hid hln
  have hge := cmpN_ge hmn
  clear hu hv hlm hln hmn
  go_enter Tryd.func42, Tryd.ntmps42
  go_wp2_with fail
  refine (HC.out _ ((((Upd.refl _ _).alloc _).alloc _).alloc _)).mono ?_
  rintro e w0 ⟨rfl, hu1⟩
  obtain ⟨hb2, hb3, hb4, hu0, hs0⟩ := box3 hu1
  have hcb2 : w0.cell? ⟨w.heap.size, 0, none⟩ = some (.slice a lm cap) := by rw [cell_of_row w0 _ 0 _ _ _ hb2]; rfl
  have hcb3 : w0.cell? ⟨w.heap.size + 1, 0, none⟩ = some (.slice b ln cap') := by rw [cell_of_row w0 _ 0 _ _ _ hb3]; rfl
  have HB4 := Lib.hid hb4
  have HU0 := Lib.hid hu0
  have HB2 := Lib.hid hcb2
  have HB3 := Lib.hid hcb3
  clear hu1 hb2 hb3 hb4 hu0 HC hcb3
  go_wp2_with (at_make; refine wpList_make_lc _ rfl (.tmp 17) (.tmp 17) 22 rfl 65 (.int .u64 0) 8 Tryd.underlying22 infoU64 rfl .i64 .i64 _ _ lm lm rfl rfl (by omega) (by omega) (by omega) (by omega) (by unfold maxLen; omega) ?_)
  intro w1 ho hu1 hw1
  have hgl : w0.heap.size < w1.heap.size := by simpa using hw1
  obtain ⟨g, hg⟩ : ∃ g, g = w0.heap.size := ⟨_, rfl⟩
  have H0 : Hid (SumInv w w1 0 g lm (List.replicate lm 0) w1) := SumInv.start (by rw [hg]; exact ownsRow_base ho (base' := w.heap.size) (by omega))
  have HU1 : Hid (Upd [] w w1) := HU0.out.trans0 hu1
  have HA1 := Lib.hid (HA.out.upd0 HU1.out)
  have HB1 := Lib.hid (HB.out.upd0 HU1.out)
  have hgs : w.heap.size + 1 + 1 + 1 ≤ g := by omega
  have HCC : Hid (∀ W, Upd [g] w1 W → W.cell? ⟨w.heap.size, 0, none⟩ = some (.slice a lm cap) ∧ W.cell? ⟨w.heap.size + 1, 0, none⟩ = some (.slice b ln cap')) := fun W h =>
    have h' : Upd [g] w0 W := Upd.trans (hu1.mono (by simp)) h (by simp)
    ⟨(h'.cell (p := ⟨w.heap.size, 0, none⟩) (by show w.heap.size < _; omega) (by simp; omega)).trans HB2.out, (h'.cell (p := ⟨w.heap.size + 1, 0, none⟩) (by show w.heap.size + 1 < _; omega) (by simp; omega)).trans HB3.out⟩
  have HB5 : Hid (∀ W, Upd [g] w1 W → W.heap[w.heap.size + 1 + 1]? = some (.cells #[.slice none 0 0] 27 (0, 0))) := fun W h =>
    have h' : Upd [g] w0 W := Upd.trans (hu1.mono (by simp)) h (by simp)
    (h'.block _ (by omega) (by simp; omega)).trans HB4.out
  obtain ⟨hk2, hk3⟩ := HCC.out _ (Upd.refl _ _)
  rw [← hg]
  clear ho hu1 hw1 hg hcb2
  go_wp2_with fail
  go_loopw [7, 22] (fun v7 v22 wr => ∃ (i c : Nat) (L : List Nat), i ≤ lm ∧ v22 = .int .i64 i ∧ v7 = .int .u64 (c : Int) ∧ c ≤ 1 ∧ Hid (wval ((wds m).take i) + 18446744073709551616 ^ i * c = wval L + wval ((wds n).take i)) ∧ SumInv w w1 i g lm L wr) (fun _ v22 _ => lm - (intOf v22).toNat)
  case atStart => exact ⟨0, 0, _, Nat.zero_le _, rfl, rfl, by decide, by show _ = _; rw [wval_zeros _ (fun d hd => List.eq_of_mem_replicate hd)]; simp [wval], H0.out⟩
  case round =>
    obtain ⟨i, c, L, hi, rfl, rfl, hc, HE, hinv⟩ := hrel
    have HI := Lib.hid hinv
    clear hinv H0 hk2 hk3
    have hwr := HI.out.upd
    have HUR : Hid (Upd [] w wr) := HU1.out.trans hwr (by simp; omega)
    by_cases hlt : i < lm
    · obtain ⟨b0, o, rfl, hb0, hcx⟩ := (HA.out.upd0 HUR.out).at i (by have := HLM.out; omega)
      obtain ⟨s, c', hs, hc', hsum, hsub⟩ := sub64_run ((wds m).getD i 0) ((wds n).getD i 0) c (by rw [wds_getD]; exact Nat.mod_lt _ (by decide)) (by rw [wds_getD]; exact Nat.mod_lt _ (by decide)) hc
      have HSUM := Lib.hid hsum
      have HWb : Hid (∀ W, Upd [] wr W → Calls Tryd.prog 59 #[.agg #[.slice b ln cap'], .int .i64 (i : Int)] W fun e w' => e = .returned (.int .u64 (((wds n).getD i 0 : Nat) : Int)) ∧ Upd [] W w') := fun W h => word_any _ n i W (HB.out.upd0 (HUR.out.trans0 h)) (by omega)
      have HSTEP : Hid (∀ (hz : L.getD i 0 = 0), wval ((wds m).take (i + 1)) + 18446744073709551616 ^ (i + 1) * c' = wval (L.set i s) + wval ((wds n).take (i + 1))) := fun hz => wsub_step _ _ L i c s c' (by rw [HI.out.len]; omega) hz HE.out (by have := HSUM.out; omega)
      have i0 : (0 : Int) ≤ (i : Int) := by omega
      have i1 : (i : Int) < (lm : Int) := by omega
      have hcell := HI.out.own.cellAt i (by omega)
      rw [cu64_getD _ _ (by rw [HI.out.len]; omega), HI.out.zero i (Nat.le_refl _)] at hcell
      have hfz := HI.out.own.frozenAt i
      have hgw := World.block_lt_of_cell? wr _ hcell
      obtain ⟨hk2, hk3⟩ := HCC.out _ hwr
      have HCS : Hid (∀ W, Upd [] wr W → W.cell? ⟨g, i, none⟩ = some (.int .u64 ((0 : Nat) : Int)) ∧ W.frozen? ⟨g, i, none⟩ = false) := fun W h => ⟨(h.cell (p := ⟨g, i, none⟩) hgw (by simp)).trans hcell, (h.frozen (p := ⟨g, i, none⟩) hgw (by simp)).trans hfz⟩
      clear hsum hcell hfz
      generalize (wds m).getD i 0 = x at *
      generalize (wds n).getD i 0 = y at *
      go_wp2_with fail
      refine (HWb.out _ (Upd.refl _ _)).mono ?_
      rintro e wy ⟨rfl, hz⟩
      obtain ⟨hcy, hfy⟩ := HCS.out _ hz
      have HF := Lib.hid (HI.out.set hz s hs)
      have HZ := Lib.hid (HI.out.zero i (Nat.le_refl _))
      clear hz
      go_wp2_with fail
      refine ⟨⟨i + 1, c', L.set i s, by omega, by go_num, rfl, hc', HSTEP.out HZ.out, HF.out⟩, by simp [intOf]; omega⟩
    · obtain rfl : i = lm := by omega
      have HV : Hid (wval L = m - n) := by
        have h2 := HE.out
        have h3 := HL.out
        have hlt := wval_lt L HI.out.lt
        rw [List.take_of_length_le (by have := HLM.out; omega), List.take_of_length_le (by have := HLN.out; have := HLE.out; omega), wval_wds, wval_wds] at h2
        rw [HI.out.len] at hlt
        show _ = _
        have hp : c = 0 ∨ c = 1 := by omega
        rcases hp with rfl | rfl <;> omega
      go_wp2_with fail
      refine (fit_any _ _ _ (Sl.own HI.out.own) HI.out.lt).mono ?_
      rintro e w5 ⟨v5, rfl, hn5, hu5⟩
      rw [HV.out] at hn5
      obtain ⟨a5, cap5, rfl, hl5, hm5⟩ := hn5.open
      have hbk := HB5.out _ (hwr.trans hu5 (by simp))
      have hc5 : w5.cell? ⟨w.heap.size + 1 + 1, 0, none⟩ = some (.slice none 0 0) := by rw [cell_of_row w5 _ 0 _ _ _ hbk]; rfl
      have hf5 : w5.frozen? ⟨w.heap.size + 1 + 1, 0, none⟩ = false := by simp [World.frozen?, hbk]
      have HN5 := Lib.hid hn5
      have HU5 := Lib.hid (HUR.out.trans0 hu5)
      have HBK := Lib.hid hbk
      clear hn5 hu5 hbk
      go_wp2
      have hset := set_cell (y := .slice a5 (wds (m - n)).length cap5) hc5
      refine bodyPost_ret (v := .tuple #[.agg #[.slice a5 (wds (m - n)).length cap5], .int .i64 0]) (by simp [results, Tryd.results42, go_sem, hset]) rfl ?_
      exact ⟨_, rfl, HN5.out.store HBK.out no_u64 _ rfl _, HU5.out.setCell (.inr (by show w.heap.size ≤ w.heap.size + 1 + 1; omega)) _⟩
end Go.Proofs.YtoklmfmoblkfcaaDoor
