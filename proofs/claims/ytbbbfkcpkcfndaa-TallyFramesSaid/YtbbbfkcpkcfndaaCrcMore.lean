/- The contracts of crc.Table, crc.More, crc.Sum and of the own sum of the document. -/
import Derived.Test.YtbbbfkcpkcfndaaCrcW
import Derived.Test.YtbbbfkcpkcfndaaBase3
import Derived.Test.YtbbbfkcpkcfndaaRefSame
namespace Go.Proofs.Ytbbbfkcpkcfndaa
open Go.RowKit Go.Proofs.Tm
set_option linter.unusedVariables false
set_option maxRecDepth 20000

/-- The table under way: of the first k bytes it tells what they are turned to. -/
def TabTo (g0 g1 : Nat) (w : World) (k : Nat) (wr : World) : Prop :=
  ∃ arr : Array Value, wr.heap[g1]? = some (.cells arr 89 (0, 0)) ∧ arr.size = 256 ∧ (∀ i, i < k → arr[i]? = some (.int .u32 ((stpN 8 i : Nat) : Int))) ∧ (∃ z : Array Value, wr.heap[g0]? = some (.cells z 89 (0, 0)) ∧ z.size = 256) ∧ Upd [] w wr

theorem zc_size : (Try.zeroCells89).size = 256 := by kernel_rfl
theorem tab_size : (Try.prog.info? 89).map (·.size) = some 256 := by kernel_rfl

set_option maxHeartbeats 400000 in
theorem table_any (w : World) :
    Calls Try.prog 68 #[] w fun e w' => ∃ arr : Array Value, e = .returned (.agg arr) ∧ arr.size = 256 ∧ (∀ i, i < 256 → arr[i]? = some (.int .u32 ((stpN 8 i : Nat) : Int))) ∧ arr.all (·.oneCell') = true ∧ Upd [] w w' := by
  have h0 : TabTo w.heap.size (w.heap.size + 1) w 0 ((w.alloc (Obj.cells Try.zeroCells89 89)).alloc (Obj.cells Try.zeroCells89 89)) :=
    ⟨_, heap_alloc2_new _ _ _, zc_size, fun i h => by omega, ⟨_, heap_alloc2_old _ _ _, zc_size⟩, ((Upd.refl _ _).alloc _).alloc _⟩
  have H0 := Lib.hid h0
  obtain ⟨g0, hg0⟩ : ∃ g, g = w.heap.size := ⟨_, rfl⟩
  obtain ⟨g1, hg1⟩ : ∃ g, g = w.heap.size + 1 := ⟨_, rfl⟩
  have hne : g0 ≠ g1 := by omega
  have HG0 := Lib.hid hg0
  have HG1 := Lib.hid hg1
  clear h0
  go_enter Try.func68, Try.ntmps68
  go_wp2
  rw [← hg1, ← hg0]
  clear hg0 hg1
  go_loopw [3] (fun s3 wr => ∃ k : Nat, k ≤ 256 ∧ s3 = .int .u32 k ∧ TabTo g0 g1 w k wr) (fun s3 _ => 256 - (intOf s3).toNat)
  case atStart => exact ⟨0, by omega, rfl, by rw [HG0.out, HG1.out]; exact H0.out⟩
  case round =>
    obtain ⟨k, hk, rfl, arr, ha, hs, hv, ⟨z, hz, hzs⟩, hu⟩ := hrel
    by_cases hlt : k < 256
    · have hc : wr.cell? ⟨g1, k, none⟩ = some arr[k] := by rw [cell_of_row wr g1 k _ _ _ ha]; simp
      have hf : wr.frozen? ⟨g1, k, none⟩ = false := frozen_of_row wr g1 k _ _ ha
      have HA := Lib.hid ha
      have HS := Lib.hid hs
      have HV := Lib.hid hv
      have HZ := Lib.hid hz
      have HU := Lib.hid hu
      clear ha hv hz hu
      go_wp2_with (go_at_call 90; refine (turn_any k _ (by omega)).mono ?_; rintro e w' ⟨rfl, rfl⟩)
      go_roundw
      case rel =>
        refine ⟨k + 1, by omega, by go_num, _, by rw [heap_setCell_same wr g1 k _ _ _ HA.out], by simp [HS.out], ?_, ⟨z, (Below.heap_setCell _ _ _ _ hne).trans HZ.out, hzs⟩, HU.out.setCell (.inr (by rw [HG1.out]; exact Nat.le_succ _)) _⟩
        intro i hi
        rw [Array.getElem?_setIfInBounds]
        by_cases he : k = i
        · subst he; simp [HS.out, hlt]
        · rw [if_neg he]; exact HV.out i (by omega)
      case measure => simp [intOf]; omega
    · obtain rfl : k = 256 := by omega
      have HA := Lib.hid ha
      have HS := Lib.hid hs
      have HV := Lib.hid hv
      have HZ := Lib.hid hz
      have HZS := Lib.hid hzs
      have HO := Lib.hid (all_one_of _ hs hv)
      have HU := Lib.hid hu
      clear ha hv hz hu hs hzs
      go_wp2_with (first
        | (refine wpList_load_row rfl 89 (.tmp 1) rfl g1 rfl 89 arr (0, 0) _ HA.out Try.underlying89 rfl (by rw [HS.out]; exact tab_size) ?_)
        | (refine wpList_store_row rfl 89 (.tmp 0) (.tmp 11) rfl g0 arr rfl rfl 89 z HZ.out (by rw [HS.out]; exact tab_size) (by rw [HS.out, HZS.out]) HO.out ?_))
      refine bodyPost_ret (v := .agg arr) (results_cell_row rfl _ _ g0 _ arr _ _ rfl (setRow_heap _ g0 _ _ _ _ HZ.out) Try.underlying89 rfl (by rw [HS.out]; exact tab_size)) rfl ⟨arr, rfl, HS.out, HV.out, HO.out, HU.out.setRow (.inr (by rw [HG0.out]; exact Nat.le_refl _)) _⟩

theorem compl32 (s : Nat) (h : s < 4294967296) : bits .xor .u32 IntKind.u32.max (s : Int) = ((4294967295 - s : Nat) : Int) := by
  rw [show IntKind.u32.max = ((4294967295 : Nat) : Int) from rfl, u32_xor_nat _ _ (by decide) h, compl_xor s h, Nat.xor_comm]

/-- More under way: behind the first k bytes. -/
def MoreTo (g : Nat) (w : World) (wr : World) : Prop :=
  ∃ arr : Array Value, wr.heap[g]? = some (.cells arr 89 (0, 0)) ∧ arr.size = 256 ∧ (∀ i, i < 256 → arr[i]? = some (.int .u32 ((stpN 8 i : Nat) : Int))) ∧ Upd [] w wr

set_option maxHeartbeats 400000 in
theorem more_any (s : Nat) (bv : Value) (bs : List Nat) (w : World) (hs : s < 4294967296) (h : Sl w bv (cu8 bs)) (hb : ∀ b ∈ bs, b < 256) :
    Calls Try.prog 67 #[.int .u32 (s : Int), bv] w fun e w' => e = .returned (.int .u32 ((4294967295 - crcL (4294967295 - s) bs : Nat) : Int)) ∧ Upd [] w w' := by
  have HS := Lib.hid h
  have HB := Lib.hid hb
  obtain ⟨a, cap, rfl, h1, h2, h3⟩ := h
  simp only [cu8_length] at *
  have hc := compl32 s hs
  have hsg : IntKind.u32.signed = false := rfl
  obtain ⟨c0, hc0⟩ : ∃ c0, c0 = 4294967295 - s := ⟨_, rfl⟩
  rw [← hc0] at hc
  rw [← hc0]
  have hc1 : c0 < 4294967296 := by omega
  have hnm : bs.length ≤ 9223372036854775807 := by unfold maxLen at h2; omega
  clear hc0 h3 hb h1 h2
  go_enter Try.func67, Try.ntmps67
  go_wp2_with fail
  refine (table_any w).mono ?_
  rintro e w1 ⟨arr, rfl, hsz, hv, hone, hu1⟩
  have HV := Lib.hid hv
  have HO := Lib.hid hone
  have HU1 := Lib.hid hu1
  clear hv hone hu1
  go_wp2_with (refine wpList_store_row rfl 89 _ _ rfl w1.heap.size arr rfl rfl 89 _ (heap_alloc_new _ _) (by rw [hsz]; exact tab_size) (by rw [hsz]; exact zc_size) HO.out ?_)
  have hM : MoreTo w1.heap.size w ((w1.alloc (Obj.cells Try.zeroCells89 89)).setRow w1.heap.size arr) :=
    ⟨arr, setRow_heap _ _ _ _ _ _ (heap_alloc_new _ _), hsz, HV.out, (HU1.out.alloc _).setRow (.inr HU1.out.size) _⟩
  obtain ⟨g, hg⟩ : ∃ g, g = w1.heap.size := ⟨_, rfl⟩
  rw [← hg] at hM ⊢
  have HM := Lib.hid hM
  have HG := Lib.hid hg
  clear hM hg
  go_loopw [0, 13] (fun s0 s13 wr => ∃ k : Nat, k ≤ bs.length ∧ s13 = .int .i64 k ∧ s0 = .int .u32 ((crcL c0 (bs.take k) : Nat) : Int) ∧ MoreTo g w wr) (fun _ s13 _ => bs.length - (intOf s13).toNat)
  case atStart => exact ⟨0, by omega, rfl, rfl, HM.out⟩
  case round =>
    obtain ⟨k, hk, rfl, rfl, arr, ha, hs, hv, hu⟩ := hrel
    by_cases hlt : k < bs.length
    · obtain ⟨b, o, cap', hvv, hcc⟩ := sl_at (HS.out.upd0 hu) (by intro h; have := congrArg List.length h; simp at this; simp_all)
      obtain ⟨rfl, rfl⟩ : a = some ⟨b, o, none⟩ ∧ cap = cap' := by simpa using hvv
      have hcell := hcc k (by simpa using hlt)
      rw [cu8_getElem?, List.getElem?_eq_getElem hlt] at hcell
      simp only [Option.map_some] at hcell
      have hx : bs[k] < 256 := HB.out _ (List.getElem_mem hlt)
      have HT : Hid (crcL c0 (bs.take (k + 1)) = crcF (crcL c0 (bs.take k)) bs[k]) := by
        show _ = _
        rw [List.take_succ_eq_append_getElem hlt, crcL_snoc]
      have hcl := crcL_lt c0 (bs.take k) hc1 (fun b hb => HB.out b (List.mem_of_mem_take hb))
      clear hcc hvv
      generalize bs[k] = x at *
      generalize crcL c0 (bs.take k) = c at *
      have HT2 := Lib.hid (crcF_table c x hx)
      have hj : c % 256 ^^^ x < 256 := Nat.xor_lt_two_pow (n := 8) (Nat.mod_lt _ (by decide)) hx
      have hw : IntKind.u8.wrap (c : Int) = ((c % 256 : Nat) : Int) := by rw [IntKind.wrap_u8']; omega
      have hxx : bits .xor .u8 ((c % 256 : Nat) : Int) (x : Int) = ((c % 256 ^^^ x : Nat) : Int) := u8_xor_nat _ _ (Nat.mod_lt _ (by decide)) hx
      generalize c % 256 ^^^ x = j at *
      generalize c % 256 = m at *
      have hcj : wr.cell? ⟨g, j, none⟩ = some (.int .u32 ((stpN 8 j : Nat) : Int)) := by rw [cell_of_row wr g j _ _ _ ha]; exact hv j hj
      have hsl := stpN_lt 8 j (by omega)
      generalize stpN 8 j = v at *
      have HX : Hid (bits .xor .u32 (v : Int) ((c / 256 : Nat) : Int) = ((v ^^^ (c / 256) : Nat) : Int)) := u32_xor_nat _ _ hsl (by omega)
      have HA := Lib.hid ha
      have HSZ := Lib.hid hs
      have HVV := Lib.hid hv
      have HU := Lib.hid hu
      clear ha hs hv hu
      go_wp2
      refine ⟨⟨k + 1, by omega, by go_num, ?_, arr, HA.out, HSZ.out, HVV.out, HU.out⟩, by simp [intOf]; omega⟩
      rw [HT.out, HT2.out, ← HX.out]
      exact congrArg _ (by simp)
    · obtain rfl : k = bs.length := by omega
      have HU := Lib.hid hu
      have hcl := crcL_lt c0 bs hc1 HB.out
      have HF := Lib.hid (compl32 (crcL c0 bs) hcl)
      rw [List.take_length]
      clear ha hs hv hu hcl
      go_wp2
      go_ret
      exact ⟨ret_int HF.out, HU.out⟩

set_option maxHeartbeats 400000 in
theorem sum_any (bv : Value) (bs : List Nat) (w : World) (h : Sl w bv (cu8 bs)) (hb : ∀ b ∈ bs, b < 256) :
    Calls Try.prog 65 #[bv] w fun e w' => e = .returned (.int .u32 ((sumL bs : Nat) : Int)) ∧ Upd [] w w' := by
  have H := Lib.hid (more_any 0 bv bs w (by decide) h hb)
  clear h hb
  go_enter Try.func65, Try.ntmps65
  go_wp2_with fail
  refine H.out.mono ?_
  rintro e w1 ⟨rfl, hu⟩
  have HU := Lib.hid hu
  clear hu
  go_wp2
  go_ret
  exact ⟨rfl, HU.out⟩

theorem shr_bit (x k : Nat) : (((x : Int) / 2 ^ k).tmod 2) = ((x / 2 ^ k % 2 : Nat) : Int) := by
  have h1 : (x : Int) / 2 ^ k = ((x / 2 ^ k : Nat) : Int) := by simp
  rw [h1, Int.tmod_eq_emod_of_nonneg (Int.natCast_nonneg _)]; simp

set_option maxHeartbeats 800000 in
theorem rsum_any (bv : Value) (bs : List Nat) (w : World) (h : Sl w bv (cu8 bs)) (hb : ∀ b ∈ bs, b < 256) :
    Calls Try.prog 66 #[bv] w fun e w' => e = .returned (.int .u32 ((sumL bs : Nat) : Int)) ∧ w = w' := by
  have HS := Lib.hid h
  have HB := Lib.hid hb
  obtain ⟨a, cap, rfl, h1, h2, h3⟩ := h
  simp only [cu8_length] at *
  have hnm : bs.length ≤ 9223372036854775807 := by unfold maxLen at h2; omega
  clear h1 h2 h3 hb
  go_enter Try.func66, Try.ntmps66
  go_wp2
  go_loop [3, 4] (fun s3 s4 => ∃ k : Nat, k ≤ bs.length ∧ s4 = .int .i64 k ∧ s3 = .int .u32 ((crcL 4294967295 (bs.take k) : Nat) : Int)) (fun _ s4 => bs.length - (intOf s4).toNat)
  case atStart => exact ⟨0, by omega, rfl, rfl⟩
  case round =>
    obtain ⟨k, hk, rfl, rfl⟩ := hrel
    by_cases hlt : k < bs.length
    · obtain ⟨b, o, cap', hvv, hcc⟩ := sl_at HS.out (by intro h; have := congrArg List.length h; simp at this; simp_all)
      obtain ⟨rfl, rfl⟩ : a = some ⟨b, o, none⟩ ∧ cap = cap' := by simpa using hvv
      have hcell := hcc k (by simpa using hlt)
      rw [cu8_getElem?, List.getElem?_eq_getElem hlt] at hcell
      simp only [Option.map_some] at hcell
      have hx : bs[k] < 256 := HB.out _ (List.getElem_mem hlt)
      have HT : Hid (crcL 4294967295 (bs.take (k + 1)) = crcF (crcL 4294967295 (bs.take k)) bs[k]) := by
        show _ = _
        rw [List.take_succ_eq_append_getElem hlt, crcL_snoc]
      have hcl := crcL_lt 4294967295 (bs.take k) (by decide) (fun b hb => HB.out b (List.mem_of_mem_take hb))
      clear hcc hvv
      generalize bs[k] = x at *
      generalize crcL 4294967295 (bs.take k) = c at *
      go_wp2
      go_loop [3, 5] (fun s3 s5 => ∃ q : Nat, q ≤ 8 ∧ s5 = .int .i64 q ∧ s3 = .int .u32 ((stpN q (c ^^^ (x % 2 ^ q)) : Nat) : Int)) (fun _ s5 => 8 - (intOf s5).toNat)
      case atStart => exact ⟨0, by omega, rfl, by simp [stpN, Nat.mod_one]⟩
      case round =>
        obtain ⟨q, hq, rfl, rfl⟩ := hrel
        by_cases hq8 : q < 8
        · have HQ := Lib.hid (crc_bits c x q)
          have hy := stpN_lt q (c ^^^ (x % 2 ^ q)) (Nat.xor_lt_two_pow (n := 32) hcl (Nat.lt_of_le_of_lt (Nat.mod_le _ _) (by omega)))
          have hsb := shr_bit x q
          have hb2 : x / 2 ^ q % 2 < 2 := Nat.mod_lt _ (by decide)
          generalize stpN q (c ^^^ (x % 2 ^ q)) = y at *
          have HR := Lib.hid (ref_step y (x / 2 ^ q % 2) hb2)
          generalize x / 2 ^ q % 2 = bit at *
          have hwq : IntKind.u64.wrap (q : Int) = (q : Int) := by rw [IntKind.wrap_u64]; omega
          have HX := Lib.hid (xor_poly y hy)
          by_cases hne : y % 2 = bit
          · have hd : ((y : Int) % 2 != (bit : Int)) = false := by rw [bne_eq_false_iff_eq]; omega
            have HN := Lib.hid hne
            clear hne
            go_wp2
            go_round
            case rel => exact ⟨q + 1, by omega, by go_num, by rw [HQ.out, HR.out, if_neg (by rw [HN.out]; simp)]; go_num⟩
            case measure => simp [intOf]; omega
          · have hd : ((y : Int) % 2 != (bit : Int)) = true := by rw [bne_iff_ne]; omega
            have HN := Lib.hid hne
            clear hne
            go_wp2
            go_round
            case rel => exact ⟨q + 1, by omega, by go_num, by rw [HQ.out, HR.out, if_pos HN.out]; exact congrArg _ HX.out⟩
            case measure => simp [intOf]; omega
        · obtain rfl : q = 8 := by omega
          have HF : Hid (stpN 8 (c ^^^ (x % 2 ^ 8)) = crcF c x) := by show _ = _; unfold crcF; rw [Nat.mod_eq_of_lt (show x < 2 ^ 8 from hx)]
          go_wp2
          go_round
          case rel => exact ⟨k + 1, by omega, by go_num, by rw [HT.out, HF.out]⟩
          case measure => simp [intOf]; omega
    · obtain rfl : k = bs.length := by omega
      have hcl := crcL_lt 4294967295 bs (by decide) HB.out
      have HE : Hid (sumL bs = 4294967295 - crcL 4294967295 bs) := rfl
      rw [List.take_length]
      generalize crcL 4294967295 bs = c at *
      go_wp2
      go_ret
      exact ⟨ret_int (by rw [HE.out]; omega), rfl⟩
end Go.Proofs.Ytbbbfkcpkcfndaa
