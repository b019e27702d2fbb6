/- The contract of nat.Mul (layer 5). -/
import Derived.Test.YtcehkflkekefpaaDoorNatMul
namespace Go.Proofs.YtcehkflkekefpaaDoor
open Go.RowKit Go.Proofs.Tm
set_option linter.unusedVariables false
set_option maxRecDepth 20000

theorem SumInv.of_arow {w w1 wr wq wy : World} {k g len f kk : Nat} {L L' : List Nat} (h : SumInv w w1 k g len L wr) (u : Upd [] wr wq) (hA : ARow w.heap.size g len len f kk L L' wq wy) (hk : f + kk ≤ k) : SumInv w w1 k g len L' wy :=
  ⟨hA.own, hA.len, fun j hj => by rw [hA.out j (by omega)]; exact h.zero j hj, hA.lt, (h.upd.trans u (by simp)).trans hA.upd (by simp)⟩

/-- A round of a product. -/
theorem mul_round (a : List Nat) (n lb i x o : Nat) (L L' : List Nat) (hx : a.getD i 0 = x) (h : wval L = wval (a.take i) * n) (h2 : wval L' + 18446744073709551616 ^ (i + lb) * o = wval L + 18446744073709551616 ^ i * (x * n)) (hj : i + lb < L'.length) (hz : L'.getD (i + lb) 0 = 0) :
    wval (L'.set (i + lb) o) = wval (a.take (i + 1)) * n := by
  have h3 := wval_set L' (i + lb) o hj
  rw [hz] at h3
  rw [wval_take_succ, hx, Nat.add_mul, ← h, Nat.mul_assoc]
  omega

def MulCall (w w1 : World) (g long i ln x n : Nat) (L : List Nat) (e : Ending) (wy : World) : Prop :=
  ∃ (o : Nat) (L' : List Nat), e = .returned (.int .u64 (o : Int)) ∧ SumInv w w1 (i + ln) g long L' wy ∧ o ≤ x ∧ wval L' + 18446744073709551616 ^ (i + ln) * o = wval L + 18446744073709551616 ^ i * (x * n)

set_option maxHeartbeats 1600000 in
theorem mul_any (u v : Value) (m n : Nat) (w : World) (hu : NV w u m) (hv : NV w v n) (hm : (wds m).length ≤ 274877906944) (hn : (wds n).length ≤ 274877906944) :
    Calls Tryd.prog 22 #[u, v] w (RNat (m * n) w) := by
  obtain ⟨a, cap, rfl, hl, hcm⟩ := hu.open
  obtain ⟨b, cap', rfl, hl', hcm'⟩ := hv.open
  have HA := Lib.hid hu
  have HB := Lib.hid hv
  unfold maxLen at hcm hcm'
  obtain ⟨lm, hlm⟩ : ∃ k, k = (wds m).length := ⟨_, rfl⟩
  obtain ⟨ln, hln⟩ : ∃ k, k = (wds n).length := ⟨_, rfl⟩
  rw [← hlm] at hl hm HA ⊢
  rw [← hln] at hl' hn HB ⊢
  have HLM := Lib.hid hlm
  have HLN := Lib.hid hln
  obtain ⟨long, hlong⟩ : ∃ k, k = lm + ln := ⟨_, rfl⟩
  have h1 : long ≤ 549755813888 := by omega
  have hsum : (lm : Int) + (ln : Int) = (long : Int) := by omega
  have HLONG := Lib.hid hlong
  clear hu hv hlm hln hlong
  go_enter Tryd.func22, Tryd.ntmps22
  go_wp2_with (at_make; refine wpList_make_lc _ rfl (.tmp 14) (.tmp 14) 22 rfl 84 (.int .u64 0) 8 Tryd.underlying22 infoU64 rfl .i64 .i64 _ _ long long rfl rfl (by omega) (by omega) (by omega) (by omega) (by unfold maxLen; omega) ?_)
  intro w1 ho hu1 hw1
  obtain ⟨hb2, hb3, hb4, hu0, hs0⟩ := box3 hu1
  have hgl : w.heap.size + 1 + 1 + 1 < w1.heap.size := by simpa using hw1
  obtain ⟨g, hg⟩ : ∃ g, g = w.heap.size + 1 + 1 + 1 := ⟨_, rfl⟩
  have H0 : Hid (SumInv w w1 0 g long (List.replicate long 0) w1) := SumInv.start (by rw [hg]; exact ownsRow_base ho (base' := w.heap.size) (by omega))
  have HA1 := Lib.hid (HA.out.upd0 hu0)
  have HB1 := Lib.hid (HB.out.upd0 hu0)
  have HU1 := Lib.hid hu0
  have HC : Hid (∀ W, Upd [g] w1 W → W.cell? ⟨w.heap.size, 0, none⟩ = some (.slice a lm cap) ∧ W.cell? ⟨w.heap.size + 1, 0, none⟩ = some (.slice b ln cap') ∧ Upd [g] w1 W) := fun W h =>
    ⟨by rw [h.cell (p := ⟨w.heap.size, 0, none⟩) (by show w.heap.size < _; omega) (by simp; omega), cell_of_row w1 _ 0 _ _ _ hb2]; rfl, by rw [h.cell (p := ⟨w.heap.size + 1, 0, none⟩) (by show w.heap.size + 1 < _; omega) (by simp; omega), cell_of_row w1 _ 0 _ _ _ hb3]; rfl, h⟩
  have HB4 := Lib.hid hb4
  have hg' := Nat.le_of_eq hg
  have hg'' := Nat.le_of_eq hg.symm
  rw [← hg]
  obtain ⟨hk2, hk3, _⟩ := HC.out w1 (Upd.refl _ _)
  have HBLK : Hid (wds n ≠ [] → ∀ k, (Value.slice b ln cap').ownBlock = some k → k ≠ g) := fun hne k hk => by
    have := HB.out.blk hne k hk; omega
  clear hg ho hu1 hw1 hb2 hb3 hb4 hu0
  go_wp2_with fail
  go_loopw [19] (fun v19 wr => ∃ (i : Nat) (L : List Nat), i ≤ lm ∧ v19 = .int .i64 i ∧ Hid (wval L = wval ((wds m).take i) * n) ∧ SumInv w w1 (i + ln) g long L wr) (fun v19 _ => lm - (intOf v19).toNat)
  case atStart => exact ⟨0, _, Nat.zero_le _, rfl, by show _ = _; rw [wval_zeros _ (fun d hd => List.eq_of_mem_replicate hd)]; simp [wval], H0.out.own, H0.out.len, fun j _ => H0.out.zero j (Nat.zero_le _), H0.out.lt, H0.out.upd⟩
  case round =>
    obtain ⟨i, L, hi, rfl, HE, hinv⟩ := hrel
    have HI := Lib.hid hinv
    clear hinv H0 hk2 hk3
    have hwr := HI.out.upd
    obtain ⟨hk2, hk3, _⟩ := HC.out wr hwr
    by_cases hlt : i < lm
    · obtain ⟨ab, ao, rfl, hab, hca⟩ := HA.out.at i (by rw [← HLM.out]; exact hlt)
      have HUW : Hid (Upd [] w wr) := HU1.out.trans hwr (by simp; omega)
      have hcw : wr.cell? ⟨ab, ao + i, none⟩ = some (.int .u64 (((wds m).getD i 0 : Nat) : Int)) := (HUW.out.cell (p := ⟨ab, ao + i, none⟩) hab (by simp)).trans hca
      have HX : Hid ((wds m).getD i 0 = (wds m).getD i 0) := rfl
      have hx := getD_lt (wds_lt m) i
      have HAT : Hid (∀ W, Upd [] wr W → Calls Tryd.prog 69 #[.slice (some ⟨g, i, none⟩) (long - i) (long - i), .slice b ln cap', .int .u64 (((wds m).getD i 0 : Nat) : Int)] W (MulCall w w1 g long i ln ((wds m).getD i 0) n L)) := fun W h =>
        (addTimes_any w.heap.size g long long i (long - i) (long - i) ((wds m).getD i 0) (.slice b ln cap') (wds n) L W (ownsRow_upd HI.out.own h (by simp)) HI.out.len HI.out.lt ((HB.out.upd0 (HUW.out.trans0 h)).sl) (wds_lt n) HBLK.out (by have := HLN.out; have := HLONG.out; omega) (by have := HLN.out; have := HLONG.out; omega) hx (by omega)).mono fun e w' hq => by
          obtain ⟨o, L', rfl, har, hox, hval⟩ := hq
          rw [← HLN.out, wval_wds] at hval
          exact ⟨o, L', rfl, HI.out.of_arow h har (by have := HLN.out; omega), hox, hval⟩
      have i0 : (0 : Int) ≤ (i : Int) := by omega
      have i1 : (i : Int) < (lm : Int) := by omega
      have i2 : (i : Int) ≤ (long : Int) := by have := HLONG.out; omega
      have i3 : (i : Int) + (ln : Int) < (long : Int) := by have := HLONG.out; omega
      have i4 : IntKind.i64.wrap ((i : Int) + (ln : Int)) = (i : Int) + (ln : Int) := IntWalk.i64_in _ (by omega)
      have i5 : ((i : Int) + (ln : Int)).toNat = i + ln := by omega
      have i6 : (0 : Int) ≤ (i : Int) + (ln : Int) := by omega
      have hlong2 : i + ln < long := by omega
      have i7 : ¬ long = i := by omega
      obtain ⟨x, hx'⟩ : ∃ x, x = (wds m).getD i 0 := ⟨_, rfl⟩
      rw [← hx'] at hcw HAT hx
      have HXX := Lib.hid hx'
      have hrf : Upd [] wr wr := Upd.refl _ _
      clear hca HX hx'
      go_wp2_with fail
      go_region_held3 (fun W => W.cell? ⟨w.heap.size + 1, 0, none⟩ = some (.slice b ln cap') ∧ Upd [g] w1 W)
        (first
          | exact (HC.out _ huy).2
          | exact (HC.out _ hwr.drew).2
          | exact (HC.out _ hwr).2
          | exact (HC.out _ (huy.setCell (.inl (by simp)) _)).2)
        (first
          | (go_at_call 69; refine (HAT.out _ (by first | exact hrf.drew | exact hrf)).mono ?_; rintro e wy ⟨o, L', rfl, har, hon, hval⟩; have hcs := har.own.cellAt (i + ln) (by omega); rw [cu64_getD _ _ (by rw [har.len]; exact hlong2)] at hcs; have hfs := har.own.frozenAt (i + ln); have huy : Upd [g] w1 wy := har.upd))
      have ho64 : o < 18446744073709551616 := by omega
      have HF := Lib.hid (har.set (Upd.refl _ _) o ho64)
      have HR := Lib.hid (mul_round (wds m) n ln i x o L L' HXX.out.symm HE.out hval (by rw [har.len]; exact hlong2) (har.zero _ (Nat.le_refl _)))
      clear hcs hfs hval har
      go_wp2_with fail
      refine ⟨⟨i + 1, L'.set (i + ln) o, by omega, by go_num, HR.out, ?_⟩, by simp [intOf]; omega⟩
      have h := HF.out
      rw [show i + ln + 1 = i + 1 + ln by omega] at h
      exact h
    · obtain rfl : i = lm := by omega
      have HV : Hid (wval L = m * n) := by
        have h2 := HE.out
        rw [List.take_of_length_le (by have := HLM.out; omega), wval_wds] at h2
        exact h2
      go_wp2_with fail
      refine (fit_any _ _ _ (Sl.own HI.out.own) HI.out.lt).mono ?_
      rintro e w5 ⟨v5, rfl, hn5, hu5⟩
      rw [HV.out] at hn5
      obtain ⟨a5, cap5, rfl, hl5, hm5⟩ := hn5.open
      have hbk : w5.heap[w.heap.size + 1 + 1]? = some (.cells #[.slice none 0 0] 26 (0, 0)) := ((hwr.trans hu5 (by simp)).block _ (by omega) (by simp; omega)).trans HB4.out
      have hc5 : w5.cell? ⟨w.heap.size + 1 + 1, 0, none⟩ = some (.slice none 0 0) := by rw [cell_of_row w5 _ 0 _ _ _ hbk]; rfl
      have hf5 : w5.frozen? ⟨w.heap.size + 1 + 1, 0, none⟩ = false := by simp [World.frozen?, hbk]
      have HN5 := Lib.hid hn5
      have HU5 := Lib.hid (((HU1.out.trans hwr (by simp; omega)).trans0 hu5))
      have HBK := Lib.hid hbk
      clear hn5 hu5 hbk
      go_wp2
      have hset := set_cell (y := .slice a5 (wds (m * n)).length cap5) hc5
      refine bodyPost_ret (v := .agg #[.slice a5 (wds (m * n)).length cap5]) (by simp [results, Tryd.results22, go_sem, hset]) rfl ?_
      exact ⟨_, rfl, HN5.out.store HBK.out no_u64 _ rfl _, HU5.out.setCell (.inr (by show w.heap.size ≤ w.heap.size + 1 + 1; omega)) _⟩
end Go.Proofs.YtcehkflkekefpaaDoor
