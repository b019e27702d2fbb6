/- The document's own numbers of layer 5: contracts of Of and Bits. -/
import Derived.Test.YtoklmfmoblkfcaaDoorAb
import Derived.Test.YtoklmfmoblkfcaaDoorRefMul
import Derived.Test.YtoklmfmoblkfcaaDoorNatBitM
namespace Go.Proofs.YtoklmfmoblkfcaaDoor
open Go.RowKit Go.Proofs.Tm
set_option linter.unusedVariables false
set_option linter.unusedSimpArgs false
set_option maxRecDepth 20000

theorem digs_wlen {n k : Nat} (h : n < 18446744073709551616 ^ k) : (digs n).length ≤ 5 * k := by
  refine digs_len _ _ (Nat.lt_of_lt_of_le h ?_)
  rw [Nat.pow_mul]
  exact Nat.pow_le_pow_left (by decide) k
theorem wval_drop_lt (ws : List Nat) (h : ∀ d ∈ ws, d < 18446744073709551616) (i k : Nat) (hk : ws.length ≤ k) : wval (ws.drop i) < 18446744073709551616 ^ k := by
  refine Nat.lt_of_lt_of_le (wval_lt _ (fun d hd => h d (List.mem_of_mem_drop hd))) (Nat.pow_le_pow_right (by decide) ?_)
  rw [List.length_drop]; omega
theorem wval_drop_step (ws : List Nat) (k : Nat) (h : k < ws.length) : wval (ws.drop k) = wval (ws.drop (k + 1)) * 18446744073709551616 + ws.getD k 0 := by
  rw [List.drop_eq_getElem_cons h]
  have : ws.getD k 0 = ws[k] := by simp [h]
  rw [this, wval]
  omega

set_option maxHeartbeats 1600000 in
theorem rof_any (u : Value) (ws : List Nat) (w : World) (hu : Sl w u (cu64 ws)) (hW : ∀ d ∈ ws, d < 18446744073709551616) (hl : ws.length ≤ 1048576) :
    Calls Tryd.prog 67 #[u] w (RDig (wval ws) w) := by
  have HA := Lib.hid hu
  have HWL := Lib.hid hW
  obtain ⟨a, cap, rfl, hlc, hcm, _⟩ := hu
  rw [cu64_length] at *
  unfold maxLen at hcm
  obtain ⟨la, hla⟩ : ∃ la, la = ws.length := ⟨_, rfl⟩
  have HLA := Lib.hid hla
  rw [← hla] at hl hlc HA ⊢
  have HL4 : Hid (∀ i, (digs (wval (ws.drop i))).length ≤ 5242880) := fun i => by
    have := digs_wlen (wval_drop_lt ws HWL.out i la (by rw [← HLA.out]; exact Nat.le_refl _))
    omega
  have HXL := Lib.hid (fun i => (show ws.getD i 0 < 18446744073709551616 by
    rcases Nat.lt_or_ge i ws.length with hi | hi
    · have : ws.getD i 0 = ws[i] := by simp [hi]
      rw [this]; exact HWL.out _ (List.getElem_mem hi)
    · have : ws.getD i 0 = 0 := by simp [hi]
      rw [this]; decide))
  have HSM : Hid (∀ W, Calls Tryd.prog 92 #[.int .i64 4294967296] W (RDig 4294967296 W)) := fun W => small_any 4294967296 W (by decide)
  have H5 : Hid ((digs 4294967296).length ≤ 5 ∧ (digs 18446744073709551616).length ≤ 5) := ⟨digs_len 5 _ (by decide), digs_len 5 _ (by decide)⟩
  clear hW hla
  go_enter Tryd.func67, Tryd.ntmps67
  go_wp2_with fail
  refine (HSM.out _).mono ?_
  rintro e w1 ⟨v1, rfl, hs1, hu1⟩
  have HS1 := Lib.hid hs1
  have HU1 := Lib.hid hu1
  clear hs1 hu1
  go_wp2_with fail
  refine (HSM.out _).mono ?_
  rintro e w2 ⟨v2, rfl, hs2, hu2⟩
  have HS2 := Lib.hid hs2
  have HS1' := Lib.hid (HS1.out.upd0 hu2)
  have HU2 := Lib.hid (HU1.out.trans0 hu2)
  clear hs2 hu2
  go_wp2_with fail
  refine (rmul_any _ _ 4294967296 4294967296 _ HS1'.out HS2.out (by have := H5.out.1; omega) (by have := H5.out.1; omega)).mono ?_
  rintro e w3 ⟨v3, rfl, hs3, hu3⟩
  have HST : Hid (Sl w3 v3 (ci64 (digs 18446744073709551616))) := hs3
  have HU3 := Lib.hid (HU2.out.trans0 hu3)
  clear hs3 hu3
  go_wp2
  go_loopw [3, 5, 6, 7] (fun v3 v5 _ _ wr => ∃ i : Nat, i ≤ la ∧ v5 = .int .i64 ((i : Int) - 1) ∧ Sl wr v3 (ci64 (digs (wval (ws.drop i)))) ∧ Upd [] w3 wr) (fun _ v5 _ _ _ => (intOf v5 + 1).toNat)
  case atStart => exact ⟨la, Nat.le_refl _, rfl, by rw [List.drop_of_length_le (by rw [← HLA.out]; exact Nat.le_refl _), wval, digs_zero]; exact Sl.nil _, Upd.refl _ _⟩
  case round =>
    obtain ⟨i, hi, rfl, hs, hu⟩ := hrel
    have HS := Lib.hid hs
    have HUW := Lib.hid hu
    clear hs hu
    by_cases h0 : i = 0
    · subst h0
      have HF : Hid (Sl wr u3 (ci64 (digs (wval ws)))) := HS.out
      have HUF := Lib.hid (HU3.out.trans0 HUW.out)
      go_wp2
      go_ret
      exact ⟨_, rfl, HF.out, HUF.out⟩
    · obtain ⟨k, hk⟩ : ∃ k, i = k + 1 := ⟨i - 1, by omega⟩
      have hik : k < la := by omega
      obtain ⟨ba, oa, cap', hv, hca⟩ := sl_at HA.out (by rw [cu64_nil]; intro e; have := HLA.out; rw [e] at this; simp at this; omega)
      obtain ⟨rfl, rfl⟩ : a = some ⟨ba, oa, none⟩ ∧ cap = cap' := by simp at hv; exact ⟨hv.1, hv.2.2⟩
      have hcell := hca k (by rw [cu64_length, ← HLA.out]; exact hik)
      rw [cu64_getD _ _ (by rw [← HLA.out]; exact hik)] at hcell
      have hlb := World.block_lt_of_cell? w _ hcell
      have HC : Hid (∀ W, Upd [] wr W → W.cell? ⟨ba, oa + k, none⟩ = some (.int .u64 ((ws.getD k 0 : Nat) : Int))) := fun W h => ((HU3.out.trans0 (HUW.out.trans0 h)).cell (p := ⟨ba, oa + k, none⟩) hlb (by simp)).trans hcell
      have hx := HXL.out k
      have HVS : Hid (wval (ws.drop k) = wval (ws.drop (k + 1)) * 18446744073709551616 + ws.getD k 0) := wval_drop_step ws k (by rw [← HLA.out]; exact hik)
      have HLK := HL4.out k
      have HLK1 := HL4.out (k + 1)
      rw [hk] at HS
      have i2 : ((i : Int) - 1) = (k : Int) := by omega
      rw [i2]
      clear hca hv hcell hlb i2
      generalize wval (ws.drop (k + 1)) = P at *
      generalize ws.getD k 0 = x at *
      obtain ⟨xh, hxh⟩ : ∃ xh, xh = x / 4294967296 := ⟨_, rfl⟩
      obtain ⟨xl, hxl⟩ : ∃ xl, xl = x % 4294967296 := ⟨_, rfl⟩
      have i0 : (0 : Int) ≤ (k : Int) := by omega
      have i1 : (k : Int) < (la : Int) := by omega
      have j1 : (x : Int) / 4294967296 = (xh : Int) := by omega
      have j2 : (x : Int) % 4294967296 = (xl : Int) := by omega
      have hxh' : xh < 4294967296 := by omega
      have hxl' : xl < 4294967296 := by omega
      have HX : Hid (xh * 4294967296 + xl = x) := by show _ = _; omega
      have hcw := HC.out wr (Upd.refl _ _)
      clear hxh hxl hx
      go_wp2_with fail
      refine (small_any xh _ (by omega)).mono ?_
      rintro e w4 ⟨v4, rfl, hs4, hu4⟩
      have HS4 := Lib.hid hs4
      have HU4 := Lib.hid hu4
      have hcw4 := HC.out _ hu4
      clear hs4 hu4 hcw
      go_wp2_with fail
      refine (small_any xl _ (by omega)).mono ?_
      rintro e w5 ⟨v5, rfl, hs5, hu5⟩
      have HS5 := Lib.hid hs5
      have HU45 := Lib.hid hu5
      have HU5 := Lib.hid (HU4.out.trans0 hu5)
      clear hs5 hu5 hcw4
      go_wp2_with fail
      refine (rmul_any _ _ P 18446744073709551616 _ (HS.out.upd0 HU5.out) (HST.out.upd0 (HUW.out.trans0 HU5.out)) (by omega) (by have := H5.out.2; omega)).mono ?_
      rintro e w6 ⟨v6, rfl, hs6, hu6⟩
      have HS6 := Lib.hid hs6
      have HU6 := Lib.hid hu6
      clear hs6 hu6
      go_wp2_with fail
      refine (HSM.out _).mono ?_
      rintro e w7 ⟨v7, rfl, hs7, hu7⟩
      have HS7 := Lib.hid hs7
      have HU7 := Lib.hid hu7
      clear hs7 hu7
      go_wp2_with fail
      refine (rmul_any _ _ xh 4294967296 _ (HS4.out.upd0 (HU45.out.trans0 (HU6.out.trans0 HU7.out))) HS7.out (by have := digs_len_small (a := xh) (by omega); omega) (by have := H5.out.1; omega)).mono ?_
      rintro e w8 ⟨v8, rfl, hs8, hu8⟩
      have HS8 := Lib.hid hs8
      have HU8 := Lib.hid hu8
      clear hs8 hu8
      go_wp2_with fail
      refine (radd_any _ _ (xh * 4294967296) xl _ HS8.out (HS5.out.upd0 (HU6.out.trans0 (HU7.out.trans0 HU8.out))) (by have := digs_mul_len xh 4294967296; have := H5.out.1; have := digs_len_small (a := xh) (by omega); omega) (by have := digs_len_small (a := xl) (by omega); omega)).mono ?_
      rintro e w9 ⟨v9, rfl, hs9, hu9⟩
      have HS9 := Lib.hid hs9
      rw [HX.out] at HS9
      have HU9 := Lib.hid hu9
      clear hs9 hu9
      go_wp2_with fail
      refine (radd_any _ _ (P * 18446744073709551616) x _ (HS6.out.upd0 (HU7.out.trans0 (HU8.out.trans0 HU9.out))) HS9.out (by have := digs_mul_len P 18446744073709551616; have := H5.out.2; omega) (by have := digs_len 5 x (by have := HX.out; omega); omega)).mono ?_
      rintro e w10 ⟨v10, rfl, hs10, hu10⟩
      have HF : Hid (Sl w10 v10 (ci64 (digs (wval (ws.drop k)))) ∧ Upd [] w3 w10) := ⟨by rw [HVS.out]; exact hs10, HUW.out.trans0 (HU5.out.trans0 (HU6.out.trans0 (HU7.out.trans0 (HU8.out.trans0 (HU9.out.trans0 hu10)))))⟩
      clear hs10 hu10
      go_wp2
      exact ⟨⟨k, by omega, rfl, HF.out⟩, by simp [intOf]⟩

end Go.Proofs.YtoklmfmoblkfcaaDoor
