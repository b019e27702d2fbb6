/- The contract of nat.mixed (layer 5). -/
import Derived.Test.YtoklmfmoblkfcaaGreatDoorNatSub
import Derived.Test.YtoklmfmoblkfcaaGreatDoorAb
import Derived.Test.YtoklmfmoblkfcaaGreatDoorMixMath
namespace Go.Proofs.YtoklmfmoblkfcaaGreatDoor
open Go.RowKit Go.Proofs.Tm
set_option linter.unusedVariables false
set_option maxRecDepth 20000

set_option maxHeartbeats 1600000 in
theorem mixed_any (p q : Nat) (u v : Value) (m n : Nat) (w : World) (hu : NV w u m) (hv : NV w v n) (hp : p < 18446744073709551616) (hq : q < 18446744073709551616) (hlen : (wds m).length ≤ 1099511627776)
    (V : Nat) (hV : p * m = q * n + V) (hVm : V < 18446744073709551616 ^ (wds m).length) :
    Calls Tryz.prog 121 #[.int .u64 (p : Int), u, .int .u64 (q : Int), v] w (RNat V w) := by
  obtain ⟨a, cap, rfl, hl, hcm⟩ := hu.open
  obtain ⟨b, cap', rfl, hl', hcm'⟩ := hv.open
  have HA := Lib.hid hu
  have HB := Lib.hid hv
  have HVV : Hid (p * m = q * n + V ∧ V < 18446744073709551616 ^ (wds m).length) := ⟨hV, hVm⟩
  have HPQ : Hid (p < 18446744073709551616 ∧ q < 18446744073709551616) := ⟨hp, hq⟩
  unfold maxLen at hcm hcm'
  obtain ⟨lm, hlm⟩ : ∃ k, k = (wds m).length := ⟨_, rfl⟩
  obtain ⟨ln, hln⟩ : ∃ k, k = (wds n).length := ⟨_, rfl⟩
  rw [← hlm] at hl hlen HA HVV ⊢
  rw [← hln] at hl' HB ⊢
  have HLM := Lib.hid hlm
  have HLN := Lib.hid hln
  obtain ⟨w0, hw0⟩ : ∃ W, W = ((w.alloc (.cells #[.slice a lm cap] 27)).alloc (.cells #[.slice b ln cap'] 27)).alloc (.cells #[.slice none 0 0] 27) := ⟨_, rfl⟩
  obtain ⟨hb2, hb3, hb4, hu0, hs0⟩ := box3 (w := w) (w1 := w0) (x := .slice a lm cap) (y := .slice b ln cap') (z := .slice none 0 0) (t := 27) (t' := 27) (t'' := 27) (by rw [hw0]; exact Upd.refl _ _)
  obtain ⟨S, hS⟩ : ∃ s, s = w.heap.size := ⟨_, rfl⟩
  rw [← hS] at hb2 hb3 hb4 hs0
  have hcb2 : w0.cell? ⟨S, 0, none⟩ = some (.slice a lm cap) := by rw [cell_of_row w0 _ 0 _ _ _ hb2]; rfl
  have hcb3 : w0.cell? ⟨S + 1, 0, none⟩ = some (.slice b ln cap') := by rw [cell_of_row w0 _ 0 _ _ _ hb3]; rfl
  have HB4 := Lib.hid hb4
  have HU0 := Lib.hid hu0
  have HB2 := Lib.hid hcb2
  have HB3 := Lib.hid hcb3
  have HW0 := Lib.hid hw0
  have HS := Lib.hid hS
  have hSw : w.heap.size ≤ S := Nat.le_of_eq hS.symm
  have hcw : w0.cell? ⟨w.heap.size, 0, none⟩ = some (.slice a lm cap) := by rw [← hS]; exact hcb2
  clear hu hv hlm hln hV hVm hp hq hw0 hb2 hb3 hb4 hu0 hcb3 hS
  have hcb2' := hcw
  rw [HW0.out] at hcb2'
  go_enter Tryz.func121, Tryz.ntmps121
  go_wp2_with (at_make; refine wpList_make_lc _ rfl (.tmp 18) (.tmp 18) 22 rfl 64 (.int .u64 0) 8 Tryz.underlying22 infoU64 rfl .i64 .i64 _ _ lm lm rfl rfl (by omega) (by omega) (by omega) (by omega) (by unfold maxLen; omega) ?_)
  rw [← HW0.out]
  rw [← HS.out]
  intro w1 ho hu1 hw1
  have hw0s : w0.heap.size = S + 1 + 1 + 1 := by rw [HW0.out]; simp [HS.out]
  obtain ⟨g, hg⟩ : ∃ g, g = S + 1 + 1 + 1 := ⟨_, rfl⟩
  rw [← hg] at ho hw1 ⊢
  have hgl : g < w1.heap.size := hw1
  have H0 : Hid (SumInv w w1 0 g lm (List.replicate lm 0) w1) := SumInv.start (ownsRow_base ho (base' := w.heap.size) (by have := hu1.size; omega))
  have HU1 : Hid (Upd [] w w1) := HU0.out.trans0 hu1
  have HA1 := Lib.hid (HA.out.upd0 HU1.out)
  have HB1 := Lib.hid (HB.out.upd0 HU1.out)
  have HCC : Hid (∀ W, Upd [g] w1 W → W.cell? ⟨S, 0, none⟩ = some (.slice a lm cap) ∧ W.cell? ⟨S + 1, 0, none⟩ = some (.slice b ln cap')) := fun W h =>
    have h' : Upd [g] w0 W := Upd.trans (hu1.mono (by simp)) h (by simp)
    ⟨(h'.cell (p := ⟨S, 0, none⟩) (by show S < _; omega) (by simp; omega)).trans HB2.out, (h'.cell (p := ⟨S + 1, 0, none⟩) (by show S + 1 < _; omega) (by simp; omega)).trans HB3.out⟩
  have HB5 : Hid (∀ W, Upd [g] w1 W → W.heap[S + 1 + 1]? = some (.cells #[.slice none 0 0] 27 (0, 0))) := fun W h =>
    have h' : Upd [g] w0 W := Upd.trans (hu1.mono (by simp)) h (by simp)
    (h'.block _ (by omega) (by simp; omega)).trans HB4.out
  obtain ⟨hk2, hk3⟩ := HCC.out _ (Upd.refl _ _)
  have HGW : Hid (w.heap.size ≤ g) := by show _ ≤ _; omega
  clear ho hu1 hw1 hcb2 hcw hcb2' hw0s hg
  go_wp2_with fail
  go_loopw [11, 12, 13, 23] (fun v11 v12 v13 v23 wr => ∃ (i c oa ob : Nat) (L : List Nat), i ≤ lm ∧ v23 = .int .i64 i ∧ v13 = .int .u64 (c : Int) ∧ v11 = .int .u64 (oa : Int) ∧ v12 = .int .u64 (ob : Int) ∧ c ≤ 1 ∧ oa < 18446744073709551616 ∧ ob < 18446744073709551616 ∧ Hid (wval L + q * wval ((wds n).take i) + 18446744073709551616 ^ i * oa = p * wval ((wds m).take i) + 18446744073709551616 ^ i * (ob + c)) ∧ SumInv w w1 i g lm L wr) (fun _ _ _ v23 _ => lm - (intOf v23).toNat)
  case atStart => exact ⟨0, 0, 0, 0, _, Nat.zero_le _, rfl, rfl, rfl, rfl, by decide, by decide, by decide, by show _ = _; rw [wval_zeros _ (fun d hd => List.eq_of_mem_replicate hd)]; simp [wval], H0.out⟩
  case round =>
    obtain ⟨i, c, oa, ob, L, hi, rfl, rfl, rfl, rfl, hc, hoa, hob, HE, hinv⟩ := hrel
    have HI := Lib.hid hinv
    clear hinv H0 hk2 hk3
    have hwr := HI.out.upd
    have HUR : Hid (Upd [] w wr) := HU1.out.trans hwr (by simp; have := HGW.out; omega)
    by_cases hlt : i < lm
    · obtain ⟨b0, o, rfl, hb0, hcx⟩ := (HA.out.upd0 HUR.out).at i (by have := HLM.out; omega)
      obtain ⟨x, hx⟩ : ∃ x, x = (wds m).getD i 0 := ⟨_, rfl⟩
      obtain ⟨y, hy⟩ : ∃ y, y = (wds n).getD i 0 := ⟨_, rfl⟩
      have hxl : x < 18446744073709551616 := by rw [hx, wds_getD]; exact Nat.mod_lt _ (by decide)
      have hyl : y < 18446744073709551616 := by rw [hy, wds_getD]; exact Nat.mod_lt _ (by decide)
      have HT1 := Lib.hid (fun W => timesPlus_any x p oa W hxl HPQ.out.1 hoa)
      have HT2 := Lib.hid (fun W => timesPlus_any y q ob W hyl HPQ.out.2 hob)
      have l1 := tp_lt x p oa hxl HPQ.out.1 hoa
      have l2 := tp_lt y q ob hyl HPQ.out.2 hob
      obtain ⟨A1, hA1⟩ : ∃ A, A = (x * p + oa) / 18446744073709551616 := ⟨_, rfl⟩
      obtain ⟨A0, hA0⟩ : ∃ A, A = (x * p + oa) % 18446744073709551616 := ⟨_, rfl⟩
      obtain ⟨B1, hB1⟩ : ∃ A, A = (y * q + ob) / 18446744073709551616 := ⟨_, rfl⟩
      obtain ⟨B0, hB0⟩ : ∃ A, A = (y * q + ob) % 18446744073709551616 := ⟨_, rfl⟩
      rw [← hA1, ← hA0] at HT1
      rw [← hB1, ← hB0] at HT2
      rw [← hA1] at l1
      rw [← hB1] at l2
      have eA : x * p + oa = 18446744073709551616 * A1 + A0 := by rw [hA1, hA0]; exact (Nat.div_add_mod _ _).symm
      have eB : y * q + ob = 18446744073709551616 * B1 + B0 := by rw [hB1, hB0]; exact (Nat.div_add_mod _ _).symm
      obtain ⟨s, c', hs, hc', hsum, hsub⟩ := sub64_run A0 B0 c (by rw [hA0]; exact Nat.mod_lt _ (by decide)) (by rw [hB0]; exact Nat.mod_lt _ (by decide)) hc
      have HWb : Hid (∀ W, Upd [] wr W → Calls Tryz.prog 87 #[.agg #[.slice b ln cap'], .int .i64 (i : Int)] W fun e w' => e = .returned (.int .u64 (y : Int)) ∧ Upd [] W w') := fun W h => by rw [hy]; exact word_any _ n i W (HB.out.upd0 (HUR.out.trans0 h)) (by omega)
      have HSTEP : Hid (∀ (hz : L.getD i 0 = 0), wval (L.set i s) + q * wval ((wds n).take (i + 1)) + 18446744073709551616 ^ (i + 1) * A1 = p * wval ((wds m).take (i + 1)) + 18446744073709551616 ^ (i + 1) * (B1 + c')) := fun hz =>
        mix_step (wds m) (wds n) L i p q oa ob c s A1 A0 B1 B0 c' (by rw [HI.out.len]; omega) hz HE.out (by rw [← hx]; exact eA) (by rw [← hy]; exact eB) hsum
      have i0 : (0 : Int) ≤ (i : Int) := by omega
      have i1 : (i : Int) < (lm : Int) := by omega
      have hcell := HI.out.own.cellAt i (by omega)
      rw [cu64_getD _ _ (by rw [HI.out.len]; omega), HI.out.zero i (Nat.le_refl _)] at hcell
      have hfz := HI.out.own.frozenAt i
      have hgw := World.block_lt_of_cell? wr _ hcell
      obtain ⟨hk2, hk3⟩ := HCC.out _ hwr
      have HCS : Hid (∀ W, Upd [] wr W → W.cell? ⟨g, i, none⟩ = some (.int .u64 ((0 : Nat) : Int)) ∧ W.frozen? ⟨g, i, none⟩ = false) := fun W h => ⟨(h.cell (p := ⟨g, i, none⟩) hgw (by simp)).trans hcell, (h.frozen (p := ⟨g, i, none⟩) hgw (by simp)).trans hfz⟩
      rw [← hx] at hcx
      clear hsum hcell hfz hx hy hxl hyl hA1 hA0 hB1 hB0 eA eB hoa hob
      go_wp2_with fail
      refine (HT1.out _).mono ?_
      rintro e w' ⟨rfl, rfl⟩
      go_wp2_with fail
      refine (HWb.out _ (Upd.refl _ _)).mono ?_
      rintro e wy ⟨rfl, hz⟩
      obtain ⟨hcy, hfy⟩ := HCS.out _ hz
      have HF := Lib.hid (HI.out.set hz s hs)
      have HZ := Lib.hid (HI.out.zero i (Nat.le_refl _))
      clear hz
      go_wp2_with fail
      refine (HT2.out _).mono ?_
      rintro e w' ⟨rfl, rfl⟩
      go_wp2_with fail
      refine ⟨⟨i + 1, c', A1, B1, L.set i s, by omega, by go_num, rfl, rfl, rfl, hc', l1, l2, HSTEP.out HZ.out, HF.out⟩, by simp [intOf]; omega⟩
    · obtain rfl : i = lm := by omega
      have HV : Hid (wval L = V) := by
        have h2 := HE.out
        have hlt := wval_lt L HI.out.lt
        rw [List.take_of_length_le (l := wds m) (by have := HLM.out; omega), wval_wds] at h2
        rw [HI.out.len] at hlt
        obtain ⟨d, hd⟩ := wval_take_some (wds n) i
        rw [wval_wds] at hd
        exact mix_end2 hd hlt HVV.out.1 HVV.out.2 h2
      go_wp2_with fail
      refine (fit_any _ _ _ (Sl.own HI.out.own) HI.out.lt).mono ?_
      rintro e w5 ⟨v5, rfl, hn5, hu5⟩
      rw [HV.out] at hn5
      obtain ⟨a5, cap5, rfl, hl5, hm5⟩ := hn5.open
      have hbk := HB5.out _ (hwr.trans hu5 (by simp))
      have hc5 : w5.cell? ⟨S + 1 + 1, 0, none⟩ = some (.slice none 0 0) := by rw [cell_of_row w5 _ 0 _ _ _ hbk]; rfl
      have hf5 : w5.frozen? ⟨S + 1 + 1, 0, none⟩ = false := by simp [World.frozen?, hbk]
      have HN5 := Lib.hid hn5
      have HU5 := Lib.hid (HUR.out.trans0 hu5)
      have HBK := Lib.hid hbk
      clear hn5 hu5 hbk
      go_wp2
      have hset := set_cell (y := .slice a5 (wds V).length cap5) hc5
      refine bodyPost_ret (v := .agg #[.slice a5 (wds V).length cap5]) (by simp [results, Tryz.results121, go_sem, hset]) rfl ?_
      exact ⟨_, rfl, HN5.out.store HBK.out no_u64 _ rfl _, HU5.out.setCell (.inr (by show w.heap.size ≤ S + 1 + 1; omega)) _⟩
end Go.Proofs.YtoklmfmoblkfcaaGreatDoor
