/- The contracts of nat.Shl, Shr (layer 5). -/
import Derived.Test.YtoklmfmoblkfcaaDoorNatUp
import Derived.Test.YtoklmfmoblkfcaaDoorNatPow
import Derived.Test.YtoklmfmoblkfcaaDoorMinMax
namespace Go.Proofs.YtoklmfmoblkfcaaDoor
open Go.RowKit Go.Proofs.Tm
set_option linter.unusedVariables false
set_option linter.unusedSimpArgs false
set_option maxRecDepth 20000

set_option maxHeartbeats 800000 in
theorem shl_bad (u : Value) (m : Nat) (n : Int) (hn : n < 0 ∨ 8192 < n) (w : World) (hu : NV w u m) :
    Calls Tryd.prog 32 #[u, .int .i64 n] w (RNatE 0 2 w) := by
  obtain ⟨a, cap, rfl, hl, hcm⟩ := hu.open
  generalize (wds m).length = lm at *
  clear hu
  rcases Int.lt_or_le n 0 with h | h
  · clear hn
    go_enter Tryd.func32, Tryd.ntmps32
    go_wp2
    refine bodyPost_ret (v := .tuple #[.agg #[.slice none 0 0], .int .i64 2]) (by simp [results, Tryd.results32, go_sem]) rfl ?_
    exact ⟨_, rfl, NV.zero _, ((Upd.refl _ _).alloc _).alloc _⟩
  · have h2 : 8192 < n := by omega
    clear hn
    go_enter Tryd.func32, Tryd.ntmps32
    go_wp2
    refine bodyPost_ret (v := .tuple #[.agg #[.slice none 0 0], .int .i64 2]) (by simp [results, Tryd.results32, go_sem]) rfl ?_
    exact ⟨_, rfl, NV.zero _, ((Upd.refl _ _).alloc _).alloc _⟩

set_option maxHeartbeats 800000 in
theorem shl_any (u : Value) (m n : Nat) (w : World) (hu : NV w u m) (hl : (wds m).length ≤ 1099511627776) (hn : n ≤ 8192) :
    Calls Tryd.prog 32 #[u, .int .i64 (n : Int)] w (RNatE (m * 2 ^ n) 0 w) := by
  obtain ⟨a, cap, rfl, _, _⟩ := hu.open
  have hsl := hu.sl
  obtain ⟨ws, hws⟩ : ∃ ws, ws = wds m := ⟨_, rfl⟩
  rw [← hws] at hsl hl ⊢
  have hwl : ∀ d ∈ ws, d < 18446744073709551616 := by rw [hws]; exact wds_lt m
  have HV : Hid (wval ws = m) := by show _ = _; rw [hws, wval_wds]
  obtain ⟨lm, hlm⟩ : ∃ l, l = ws.length := ⟨_, rfl⟩
  have HLM := Lib.hid hlm
  rw [← hlm] at hsl ⊢
  have HUP : Hid (∀ W, Upd [] w W → Calls Tryd.prog 53 #[.slice a lm cap, .int .i64 (n : Int)] W (UpPost ws n W)) := fun W h => up_any _ ws n W (hsl.upd0 h) hwl hl (by omega)
  clear hu hsl hws hwl hlm
  go_enter Tryd.func32, Tryd.ntmps32
  go_wp2_with fail
  refine (HUP.out _ (((Upd.refl _ _).alloc _).alloc _)).mono ?_
  rintro e w1 ⟨g, L, rfl, hgw, hrow, hval, _⟩
  have hu1 := hrow.upd
  obtain ⟨hb0, hb1, hu0, hs0⟩ := box2 hu1
  have HS1 := Lib.hid (Sl.own hrow.own)
  have HLT := Lib.hid hrow.lt
  have HVL : Hid (wval L = m * 2 ^ n) := by show _ = _; rw [hval, HV.out]
  have HU0 := Lib.hid hu0
  have HB1 := Lib.hid hb1
  obtain ⟨ln, hln⟩ : ∃ l, l = ws.length + n / 64 + 1 := ⟨_, rfl⟩
  rw [← hln] at HS1 ⊢
  clear hrow hval hu1 hb0 hb1 hu0 hgw hln
  go_wp2_with fail
  refine (fit_any _ L _ HS1.out HLT.out).mono ?_
  rintro e w2 ⟨v2, rfl, hn2, hu2⟩
  rw [HVL.out] at hn2
  obtain ⟨x2, c2, rfl, _, _⟩ := hn2.open
  obtain ⟨l2, hl2⟩ : ∃ l, l = (wds (m * 2 ^ n)).length := ⟨_, rfl⟩
  rw [← hl2] at hn2 ⊢
  have hb2 := (hu2.block _ (by omega) (by simp)).trans HB1.out
  have hst := store1 (w := w) (x := .slice x2 l2 c2) (by omega) hb2 (HU0.out.trans0 hu2) hn2
  have k1 := (cell1 hst.1).1
  have kc := (cell1 hb2).1
  have kf := (cell1 hb2).2
  have HST := Lib.hid hst
  clear hl2 hn2 hu2 hb2 hst
  go_wp2
  refine bodyPost_ret (v := .tuple #[.agg #[.slice x2 l2 c2], .int .i64 0]) (by simp [results, Tryd.results32, go_sem, k1]) rfl ?_
  exact ⟨_, rfl, HST.out.2.1, HST.out.2.2⟩

theorem from_at (m N i : Nat) : m / 2 ^ (N + i * 64) % 18446744073709551616 = m / 2 ^ N / 18446744073709551616 ^ i % 18446744073709551616 := by
  rw [Nat.pow_add, ← Nat.div_div_eq_div_mul, Nat.mul_comm i 64, Nat.pow_mul, ← W_two]
theorem from_le {N i left : Nat} (h : N < 70368744177729) (hi : i < left) (hl : left ≤ 1099511627776) : N + i * 64 < 4611686018427387904 := by omega
theorem shr_len (m q la : Nat) (h : (wds m).length = la) (hq : q < la) (n : Nat) (hn : q = n / 64) : m / 2 ^ n < 18446744073709551616 ^ (la - q) := by
  have h1 := wds_lt_pow m
  rw [h] at h1
  rw [Nat.div_lt_iff_lt_mul (Nat.two_pow_pos n)]
  refine Nat.lt_of_lt_of_le h1 ?_
  rw [W_two, ← Nat.pow_mul, ← Nat.pow_mul, ← Nat.pow_add]
  exact Nat.pow_le_pow_right (by decide) (by omega)

/-- A row of words of the call's own, behind w1. -/
structure SRow (w w1 : World) (g len : Nat) (L : List Nat) (wr : World) : Prop where
  own : wr.ownsRow w.heap.size 65 1 (.slice (some ⟨g, 0, none⟩) len len) len (cu64 L)
  len : L.length = len
  lt : ∀ d ∈ L, d < 18446744073709551616
  upd : Upd [g] w1 wr
theorem SRow.set {w w1 wr : World} {g len : Nat} {L : List Nat} (h : SRow w w1 g len L wr) (j d : Nat) (hd : d < 18446744073709551616) : SRow w w1 g len (L.set j d) (wr.setCell ⟨g, j, none⟩ (.int .u64 (d : Int))) := by
  refine ⟨by rw [cu64_set]; exact (h.own.stored j _).1, by rw [List.length_set]; exact h.len, fun e he => ?_, h.upd.setCell (.inl (by simp)) _⟩
  rcases List.mem_or_eq_of_mem_set he with he | rfl
  · exact h.lt e he
  · exact hd

set_option maxHeartbeats 1600000 in
theorem shr_any (u : Value) (m : Nat) (n : Int) (w : World) (hu : NV w u m) (hl : (wds m).length ≤ 1099511627776) (hn : n ≤ 9223372036854775807) :
    Calls Tryd.prog 85 #[u, .int .i64 n] w (RNat (m / 2 ^ n.toNat) w) := by
  obtain ⟨a, cap, rfl, _, _⟩ := hu.open
  obtain ⟨N, hN⟩ : ∃ N : Nat, max n 0 = (N : Int) := ⟨(max n 0).toNat, by omega⟩
  rw [show n.toNat = N by omega]
  have hmx := fun ts t W => maxi_is (P := Tryd.prog) hN ts t W
  have hN63 : N ≤ 9223372036854775807 := by omega
  obtain ⟨la, hla⟩ : ∃ l, l = (wds m).length := ⟨_, rfl⟩
  have HLA := Lib.hid hla
  rw [← hla] at hu hl ⊢
  obtain ⟨q, hq⟩ : ∃ q, q = N / 64 := ⟨_, rfl⟩
  have HQ := Lib.hid hq
  have i1 : (N : Int) / 64 = (q : Int) := by omega
  have hq57 : q ≤ 144115188075855871 := by omega
  have HU := Lib.hid hu
  clear hu hN hla hn
  by_cases hlt : q < la
  · obtain ⟨left, hleft⟩ : ∃ left, left = la - q := ⟨_, rfl⟩
    have i2 : (la : Int) - (q : Int) = (left : Int) := by omega
    have hl1 : 0 < left := by omega
    have hl2 : left ≤ 1099511627776 := by omega
    have hNs : N < 70368744177729 := by omega
    have HBIG : Hid (m / 2 ^ N < 18446744073709551616 ^ left) := by rw [hleft]; exact shr_len m q la HLA.out.symm hlt N HQ.out
    have HFR : Hid (∀ (i : Nat) W, i < left → NV W (.agg #[.slice a la cap]) m → Calls Tryd.prog 97 #[.agg #[.slice a la cap], .int .i64 ((N + i * 64 : Nat) : Int)] W fun e w' => e = .returned (.int .u64 ((m / 2 ^ N / 18446744073709551616 ^ i % 18446744073709551616 : Nat) : Int)) ∧ Upd [] W w') := fun i W hi h => by
      have := from_any (.agg #[.slice a la cap]) m (N + i * 64) W h (from_le hNs hi hl2)
      rw [from_at] at this
      exact this
    clear hleft hq
    go_enter Tryd.func85, Tryd.ntmps85
    go_wp2_with (at_make; refine wpList_make_lc _ rfl (.tmp 19) (.tmp 19) 22 rfl 65 (.int .u64 0) 8 Tryd.underlying22 infoU64 rfl .i64 .i64 _ _ left left rfl rfl (by omega) (by omega) (by omega) (by omega) (by unfold maxLen; omega) ?_)
    intro w1 ho hu1 hw1
    obtain ⟨hb0, hb1, hu0, hs0⟩ := box2 hu1
    obtain ⟨k0, hk0⟩ : ∃ k, k = w.heap.size := ⟨_, rfl⟩
    obtain ⟨g, hg⟩ : ∃ g, g = w.heap.size + 1 + 1 := ⟨_, rfl⟩
    have hwk : w.heap.size ≤ k0 := by omega
    have hkg : k0 + 1 < g := by omega
    have hgs : g < w1.heap.size := by rw [hg]; exact hw1
    rw [← hg] at ho
    rw [← hk0] at hb0 hb1
    have H0 : Hid (SRow w w1 g left (List.replicate left 0) w1) := ⟨by rw [cu64_zero]; exact ownsRow_base ho (by omega), by simp, fun d hd => by rw [List.eq_of_mem_replicate hd]; decide, Upd.refl _ _⟩
    have HC : Hid (∀ W, Upd [g] w1 W → W.cell? ⟨k0, 0, none⟩ = some (.slice a la cap) ∧ W.heap[k0 + 1]? = some (.cells #[.slice none 0 0] 27 (0, 0))) := fun W h =>
      ⟨by rw [cell_of_row W _ 0 _ _ _ ((h.block k0 (by omega) (by simp; omega)).trans hb0)]; rfl, (h.block (k0 + 1) (by omega) (by simp; omega)).trans hb1⟩
    have HUW : Hid (∀ W, Upd [g] w1 W → Upd [] w W) := fun W h => hu0.trans h (by simp; omega)
    have HWE := Lib.hid hg
    have hke : w.heap.size = k0 := hk0.symm
    rw [← hg]
    rw [hke]
    clear ho hu1 hw1 hb0 hb1 hu0 hg hk0 hke
    go_wp2
    go_loopw [7, 23] (fun _ v23 wr => ∃ (i : Nat) (L : List Nat), i ≤ left ∧ v23 = .int .i64 (i : Int) ∧ Hid (∀ j, j < i → L.getD j 0 = m / 2 ^ N / 18446744073709551616 ^ j % 18446744073709551616) ∧ SRow w w1 g left L wr) (fun _ v23 _ => left - (intOf v23).toNat)
    case atStart => exact ⟨0, _, by omega, rfl, fun j hj => by omega, H0.out⟩
    case round =>
      obtain ⟨i, L, hi, rfl, HE, hinv⟩ := hrel
      have HI := Lib.hid hinv
      clear hinv H0
      by_cases hil : i < left
      · obtain ⟨c0, _⟩ := HC.out wr HI.out.upd
        have hcl := HI.out.own.cellAt i (by rw [Nat.mul_one]; exact hil)
        rw [cu64_getD _ _ (by rw [HI.out.len]; exact hil)] at hcl
        have hfz := HI.out.own.frozenAt i
        generalize L.getD i 0 = y at *
        obtain ⟨z, hz⟩ : ∃ z, z = m / 2 ^ N / 18446744073709551616 ^ i % 18446744073709551616 := ⟨_, rfl⟩
        have HCALL := Lib.hid (HFR.out i wr hil (HU.out.upd0 (HUW.out wr HI.out.upd)))
        rw [← hz] at HCALL
        have hzl : z < 18446744073709551616 := by rw [hz]; exact Nat.mod_lt _ (by decide)
        obtain ⟨d, hd⟩ : ∃ d, d = N + i * 64 := ⟨_, rfl⟩
        have i4 : (N : Int) + (i : Int) * 64 = (d : Int) := by omega
        rw [← hd] at HCALL
        have HD := Lib.hid i4
        clear hd i4
        have i5 : (i : Int) < (left : Int) := by omega
        have i6 : (0 : Int) ≤ (i : Int) := by omega
        have HZ := Lib.hid hz
        clear hz
        go_wp2_with fail
        rw [HD.out]
        refine HCALL.out.mono ?_
        rintro e w2 ⟨rfl, hu2⟩
        have hr2 : SRow w w1 g left L w2 := ⟨ownsRow_upd HI.out.own hu2 (by simp), HI.out.len, HI.out.lt, HI.out.upd.trans hu2 (by simp)⟩
        have hcl2 := hr2.own.cellAt i (by rw [Nat.mul_one]; exact hil)
        rw [cu64_getD _ _ (by rw [hr2.len]; exact hil)] at hcl2
        have hfz2 := hr2.own.frozenAt i
        generalize L.getD i 0 = y2 at *
        have HR := Lib.hid (hr2.set i z hzl)
        have HEN : Hid (∀ j, j < i + 1 → (L.set i z).getD j 0 = m / 2 ^ N / 18446744073709551616 ^ j % 18446744073709551616) := fun j hj => by
          rcases Nat.lt_or_ge j i with h | h
          · rw [List.getD_eq_getElem?_getD, List.getElem?_set_ne (by omega), ← List.getD_eq_getElem?_getD]; exact HE.out j h
          · obtain rfl : j = i := by omega
            rw [List.getD_eq_getElem?_getD, List.getElem?_set_self (by rw [hr2.len]; exact hil)]
            exact HZ.out
        clear hcl hfz hr2 c0 hu2
        go_wp2
        exact ⟨⟨i + 1, _, by omega, by go_num, HEN, HR.out⟩, by simp [intOf]; omega⟩
      · obtain rfl : i = left := by omega
        have hLE : L = (List.range i).map fun j => m / 2 ^ N / 18446744073709551616 ^ j % 18446744073709551616 := by
          apply List.ext_getElem
          · rw [HI.out.len]; simp
          · intro j h1 h2
            have h3 := HE.out j (by rw [← HI.out.len]; exact h1)
            have h4 : L.getD j 0 = L[j] := by simp [h1]
            rw [h4] at h3
            simp [h3]
        have HVL : Hid (wval L = m / 2 ^ N) := by
          show _ = _
          rw [hLE, wval_words, Nat.mod_eq_of_lt HBIG.out]
        have HS1 := Lib.hid (Sl.own HI.out.own)
        have HLT := Lib.hid HI.out.lt
        clear hLE
        go_wp2_with fail
        refine (fit_any _ L _ HS1.out HLT.out).mono ?_
        rintro e w2 ⟨v2, rfl, hn2, hu2⟩
        rw [HVL.out] at hn2
        obtain ⟨x2, c2, rfl, _, _⟩ := hn2.open
        obtain ⟨l2, hl2⟩ : ∃ l, l = (wds (m / 2 ^ N)).length := ⟨_, rfl⟩
        rw [← hl2] at hn2 ⊢
        have hbk := (HC.out wr HI.out.upd).2
        have hb2 := (hu2.block (k0 + 1) (Array.getElem?_eq_some_iff.1 hbk).1 (by simp)).trans hbk
        have hst := store1 (w := w) (x := .slice x2 l2 c2) (by omega) hb2 ((HUW.out wr HI.out.upd).trans0 hu2) hn2
        have k1 := (cell1 hst.1).1
        have kc := (cell1 hb2).1
        have kf := (cell1 hb2).2
        have HST := Lib.hid hst
        clear hl2 hn2 hu2 hb2 hst hbk
        go_wp2
        refine bodyPost_ret (v := .agg #[.slice x2 l2 c2]) (by simp [results, Tryd.results85, go_sem, k1]) rfl ?_
        exact ⟨_, rfl, HST.out.2.1, HST.out.2.2⟩
  · have i3 : decide ((la : Int) - (q : Int) ≤ 0) = true := by simp; omega
    have HZ : Hid (m / 2 ^ N = 0) := by
      show _ = _
      apply Nat.div_eq_of_lt
      have h1 := wds_lt_pow m
      rw [← HLA.out, W_two, ← Nat.pow_mul] at h1
      exact Nat.lt_of_lt_of_le h1 (Nat.pow_le_pow_right (by decide) (by have := HQ.out; omega))
    rw [HZ.out]
    clear hq
    go_enter Tryd.func85, Tryd.ntmps85
    go_wp2
    refine bodyPost_ret (v := .agg #[.slice none 0 0]) (by simp [results, Tryd.results85, go_sem]) rfl ?_
    exact ⟨_, rfl, NV.zero _, ((Upd.refl _ _).alloc _).alloc _⟩
end Go.Proofs.YtoklmfmoblkfcaaDoor
