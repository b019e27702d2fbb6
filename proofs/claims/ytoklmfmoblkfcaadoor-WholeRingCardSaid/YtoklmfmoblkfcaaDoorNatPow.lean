/- The contract of nat.Pow. -/
import Derived.Test.YtoklmfmoblkfcaaDoorAa
import Derived.Test.YtoklmfmoblkfcaaDoorAb
import Derived.Test.YtoklmfmoblkfcaaDoorNatBits
namespace Go.Proofs.YtoklmfmoblkfcaaDoor
open Go.RowKit Go.Proofs.Tm Go.Shelf
set_option linter.unusedVariables false
set_option maxRecDepth 20000

/-- Two blocks of a call's own. -/
theorem box2 {w w1 : World} {x y : Value} {t t' : TypeId} (u : Upd [] ((w.alloc (.cells #[x] t)).alloc (.cells #[y] t')) w1) :
    w1.heap[w.heap.size]? = some (.cells #[x] t (0, 0)) ∧ w1.heap[w.heap.size + 1]? = some (.cells #[y] t' (0, 0)) ∧ Upd [] w w1 ∧ w.heap.size + 1 + 1 ≤ w1.heap.size := by
  refine ⟨?_, ?_, (((Upd.refl _ _).alloc _).alloc _).trans0 u, by have := u.size; simpa using this⟩
  · rw [u.block _ (by simp; omega) (by simp), Below.heap_alloc _ _ _ (by simp)]; exact heap_alloc_new w _
  · rw [u.block _ (by simp) (by simp)]; have := heap_alloc_new (w.alloc (.cells #[x] t)) (.cells #[y] t'); simpa using this

/-- A number is stored into the cell of the result. -/
theorem store1 {w W : World} {i : Nat} {t : TypeId} {x : Value} {p1 : Option Addr} {l1 c1 : Nat} {m : Nat} (hi : w.heap.size ≤ i) (hbi : W.heap[i]? = some (.cells #[.slice p1 l1 c1] t (0, 0))) (hu : Upd [] w W) (hx : NV W (.agg #[x]) m) :
    (W.setCell ⟨i, 0, none⟩ x).heap[i]? = some (.cells #[x] t (0, 0)) ∧ NV (W.setCell ⟨i, 0, none⟩ x) (.agg #[x]) m ∧ Upd [] w (W.setCell ⟨i, 0, none⟩ x) :=
  ⟨one_setCell hbi, hx.store hbi no_u64 _ rfl _, hu.setCell (.inr hi) _⟩
theorem cell1 {W : World} {i : Nat} {t : TypeId} {x : Value} (h : W.heap[i]? = some (.cells #[x] t (0, 0))) : W.cell? ⟨i, 0, none⟩ = some x ∧ W.frozen? ⟨i, 0, none⟩ = false :=
  ⟨by rw [cell_of_row W _ 0 _ _ _ h]; rfl, by simp [World.frozen?, h]⟩

theorem of1 (x : Nat) (z : Int) (hz : z = (x : Int)) (hx : x < 18446744073709551616) (w : World) (k : Nat) (hk : k = w.heap.size) : Calls Tryd.prog 29 #[.slice (some ⟨k, 0, none⟩) 1 1] (w.alloc (.cells #[.int .u64 z] 65)) (RNat x (w.alloc (.cells #[.int .u64 z] 65))) := by
  subst hz hk
  have := of_any _ [x] _ (Sl.lit1 w (.int .u64 (x : Int)) 65) (by simp) (by simpa using hx)
  simpa [wval] using this

set_option maxHeartbeats 800000 in
theorem pow_neg (u : Value) (m : Nat) (n : Int) (hn : n < 0) (w : World) (hu : NV w u m) :
    Calls Tryd.prog 33 #[u, .int .i64 n] w (RNatE 0 2 w) := by
  obtain ⟨a, cap, rfl, hl, hcm⟩ := hu.open
  generalize (wds m).length = lm at *
  clear hu
  go_enter Tryd.func33, Tryd.ntmps33
  go_wp2
  refine bodyPost_ret (v := .tuple #[.agg #[.slice none 0 0], .int .i64 2]) (by simp [results, Tryd.results33, go_sem]) rfl ?_
  exact ⟨_, rfl, NV.zero _, ((Upd.refl _ _).alloc _).alloc _⟩

/-- What Pow answers. -/
def PowPost (m n : Nat) (w : World) (e : Ending) (w' : World) : Prop :=
  if n = 0 then RNatE 1 0 w e w' else if m ≤ 1 then RNatE m 0 w e w' else if 8192 / nbits m < n then RNatE 0 3 w e w' else RNatE (m ^ n) 0 w e w'

theorem pow_len {m n b q : Nat} (hb : b = nbits m) (hb1 : 1 < b) (hq : q = 8192 / b) (hqn : ¬ q < n) (j : Nat) (hj : j ≤ n) : (wds (m ^ j)).length ≤ 128 := by
  obtain ⟨E, hE⟩ : ∃ E, E = 128 := ⟨_, rfl⟩
  rw [← hE, wds_length_le_iff, W_two, ← Nat.pow_mul]
  have h1 := nbits_lt m
  have h2 : b * n ≤ 8192 := by
    have h3 := Nat.mul_le_mul_left b (show n ≤ 8192 / b by omega)
    exact Nat.le_trans h3 (Nat.mul_div_le _ _)
  have hbj : b * j ≤ 8192 := Nat.le_trans (Nat.mul_le_mul_left b hj) h2
  have h5 : b * j ≤ 64 * E := by omega
  have h6 : 64 * E ≠ 0 := by omega
  clear hE
  rcases Nat.eq_zero_or_pos j with rfl | hj0
  · rw [Nat.pow_zero]; exact Nat.one_lt_two_pow h6
  · have h4 : m ^ j < (2 ^ b) ^ j := Nat.pow_lt_pow_left (by rw [hb]; exact h1) (by omega)
    rw [← Nat.pow_mul] at h4
    exact Nat.lt_of_lt_of_le h4 (Nat.pow_le_pow_right (by decide) h5)

theorem i64_and_one (a : Nat) (h : a < 9223372036854775808) : bits .and .i64 (a : Int) 1 = ((a % 2 : Nat) : Int) := by
  show IntKind.i64.wrap ((BitVec.ofInt 64 (a : Int) &&& BitVec.ofInt 64 1).toNat : Int) = _
  rw [BitVec.toNat_and, show (BitVec.ofInt 64 (a : Int)).toNat = a by simp; omega, show (BitVec.ofInt 64 1).toNat = 1 from rfl, Nat.and_one_is_mod]
  exact IntWalk.i64_in _ (by omega)
theorem bit_of (n k : Nat) (h : n ≤ 9223372036854775807) : (bits .and .i64 ((n : Int) / 2 ^ k) 1 == 1) = decide (n / 2 ^ k % 2 = 1) := by
  rw [shr_nat, i64_and_one _ (by have := Nat.div_le_self n (2 ^ k); omega), Bool.eq_iff_iff, beq_iff_eq, decide_eq_true_eq]
  omega
theorem half_step (n k : Nat) : n / 2 ^ k = 2 * (n / 2 ^ (k + 1)) + n / 2 ^ k % 2 := by
  rw [Nat.pow_succ, ← Nat.div_div_eq_div_mul]
  omega

set_option maxHeartbeats 800000 in
theorem pow_any (u : Value) (m n : Nat) (w : World) (hu : NV w u m) (hlen : (wds m).length ≤ 1099511627776) (hn : n ≤ 9223372036854775807) :
    Calls Tryd.prog 33 #[u, .int .i64 (n : Int)] w (PowPost m n w) := by
  obtain ⟨a, cap, rfl, hl, hcm⟩ := hu.open
  have HA := Lib.hid hu
  have HLEN : Hid (∀ l, l = wds m → l.length ≤ 1099511627776) := fun l h => by rw [h]; exact hlen
  generalize (wds m).length = lm at *
  clear hu hlen
  go_enter Tryd.func33, Tryd.ntmps33
  go_wp2_with fail
  refine (of1 1 1 rfl (by decide) _ _ (by simp)).mono ?_
  rintro e w1 ⟨v1, rfl, hn1, hu1⟩
  obtain ⟨a1, c1, rfl, hl1, hm1⟩ := hn1.open
  obtain ⟨hb0, hb1, hu0, hs0⟩ := box2 (((Upd.refl _ _).alloc _).trans0 hu1)
  generalize (wds 1).length = l1 at *
  obtain ⟨r, hr⟩ : ∃ r, r = w.heap.size + 1 := ⟨_, rfl⟩
  obtain ⟨o, ho⟩ : ∃ o, o = w1.heap.size := ⟨_, rfl⟩
  rw [← hr] at hb1 ⊢
  have hN1 : NV (w1.alloc (.cells #[.slice a1 l1 c1] 27)) (.agg #[.slice a1 l1 c1]) 1 := hn1.upd0 ((Upd.refl _ _).alloc _)
  obtain ⟨w2, hw2⟩ : ∃ w2, w2 = w1.alloc (.cells #[.slice a1 l1 c1] 27) := ⟨_, rfl⟩
  have hu2 : Upd [] w1 w2 := by rw [hw2]; exact (Upd.refl _ _).alloc _
  have hbo : w2.heap[o]? = some (.cells #[.slice a1 l1 c1] 27 (0, 0)) := by rw [hw2, ho]; exact heap_alloc_new w1 _
  rw [← hw2] at hN1
  have hba := (hu2.block _ (by omega) (by simp)).trans hb0
  have hbr := (hu2.block r (by omega) (by simp)).trans hb1
  have hu02 := hu0.trans0 hu2
  have hwr : w.heap.size ≤ r := by omega
  have hwo : w.heap.size ≤ o := by omega
  have hro : r ≠ o := by omega
  have hsr : w.heap.size ≠ r := by omega
  have hso : w.heap.size ≠ o := by omega
  have hszo : o < w2.heap.size := by rw [hw2, ho]; simp
  have hszr : r < w2.heap.size := by omega
  have HW2 := Lib.hid hw2
  have HN1 := Lib.hid hN1
  have HBA := Lib.hid hba
  have HBR := Lib.hid hbr
  have HBO := Lib.hid hbo
  have HU2 := Lib.hid hu02
  have HO := Lib.hid ho
  have HR := Lib.hid hr
  obtain ⟨ca, fa⟩ := cell1 hba
  obtain ⟨cr, fr⟩ := cell1 hbr
  obtain ⟨co, fo⟩ := cell1 hbo
  rw [hw2, ho] at co fo
  rw [hw2] at ca fa cr fr
  clear hn1 hu1 hb0 hb1 hu0 hs0 hr ho hN1 hu2 hbo hba hbr hu02
  by_cases h0 : n = 0
  · have HST := Lib.hid (store1 hwr HBR.out HU2.out HN1.out)
    rw [hw2] at HST
    have k1 := (cell1 HST.out.1).1
    have H0 := Lib.hid h0
    clear hw2
    go_wp2
    refine bodyPost_ret (v := .tuple #[.agg #[.slice a1 l1 c1], .int .i64 0]) (by simp [results, Tryd.results33, go_sem, k1]) rfl ?_
    unfold PowPost
    rw [if_pos H0.out]
    exact ⟨_, rfl, HST.out.2.1, HST.out.2.2⟩
  · have hn0 : ((n : Int) == 0) = false := by simp; omega
    have HCMP : Hid (Calls Tryd.prog 24 #[.agg #[.slice a lm cap], .agg #[.slice a1 l1 c1]] w2 fun e w' => e = .returned (.int .i64 (cmpN m 1)) ∧ Upd [] w2 w') := cmp_any _ _ _ _ _ (HA.out.upd0 HU2.out) HN1.out (HLEN.out _ rfl)
    rw [hw2] at HCMP
    go_wp2_with fail
    refine HCMP.out.mono ?_
    rw [← HW2.out]
    rintro e w3 ⟨rfl, hu3⟩
    clear ca fa cr fr co fo
    rw [← HO.out]
    have hba := (hu3.block _ (by omega) (by simp)).trans HBA.out
    have hbr := (hu3.block _ (by omega) (by simp)).trans HBR.out
    have hbo := (hu3.block _ (by omega) (by simp)).trans HBO.out
    have HU3 := Lib.hid (HU2.out.trans0 hu3)
    have HN3 := Lib.hid (HN1.out.upd0 hu3)
    have hs3 : w2.heap.size ≤ w3.heap.size := hu3.size
    obtain ⟨ca, fa⟩ := cell1 hba
    obtain ⟨cr, fr⟩ := cell1 hbr
    obtain ⟨co, fo⟩ := cell1 hbo
    have HBA := Lib.hid hba
    have HBR := Lib.hid hbr
    have HBO := Lib.hid hbo
    have H0 := Lib.hid h0
    clear hu3 hba hbr hbo hw2 HCMP HW2
    by_cases hm : m ≤ 1
    · have hc : decide (cmpN m 1 ≤ 0) = true := by unfold cmpN; have : m = 0 ∨ m = 1 := by omega
                                                   rcases this with rfl | rfl <;> rfl
      have HST := Lib.hid (store1 hwr HBR.out HU3.out (HA.out.upd0 HU3.out))
      have k1 := (cell1 HST.out.1).1
      have HM := Lib.hid hm
      clear hm
      go_wp2
      refine bodyPost_ret (v := .tuple #[.agg #[.slice a lm cap], .int .i64 0]) (by simp [results, Tryd.results33, go_sem, k1]) rfl ?_
      unfold PowPost
      rw [if_neg H0.out, if_pos HM.out]
      exact ⟨_, rfl, HST.out.2.1, HST.out.2.2⟩
    · have hc : decide (cmpN m 1 ≤ 0) = false := by unfold cmpN; rw [if_neg (by omega), if_neg (by omega)]; rfl
      have HBITS : Hid (Calls Tryd.prog 54 #[.agg #[.slice a lm cap]] w3 fun e w' => e = .returned (.int .i64 (nbits m : Int)) ∧ Upd [] w3 w') := bits_any _ _ _ (HA.out.upd0 HU3.out) (HLEN.out _ rfl)
      have hb1 : 1 < nbits m := by have := nbits_le_one (n := m); omega
      have HM := Lib.hid hm
      obtain ⟨b, hb⟩ : ∃ b, b = nbits m := ⟨_, rfl⟩
      rw [← hb] at HBITS hb1
      have hbz : ((b : Int) == 0) = false := by simp; omega
      have hq : (8192 : Int).tdiv (b : Int) = ((8192 / b : Nat) : Int) := tdiv_nat 8192 b
      have HB := Lib.hid hb
      clear hm hb
      go_wp2_with fail
      refine HBITS.out.mono ?_
      rintro e w4 ⟨rfl, hu4⟩
      have hba := (hu4.block _ (by omega) (by simp)).trans HBA.out
      have hbr := (hu4.block _ (by omega) (by simp)).trans HBR.out
      have hbo := (hu4.block _ (by omega) (by simp)).trans HBO.out
      have HU4 := Lib.hid (HU3.out.trans0 hu4)
      have HN4 := Lib.hid (HN3.out.upd0 hu4)
      have hs4 : w3.heap.size ≤ w4.heap.size := hu4.size
      clear ca fa cr fr co fo HBA HBR HBO
      obtain ⟨ca, fa⟩ := cell1 hba
      obtain ⟨cr, fr⟩ := cell1 hbr
      obtain ⟨co, fo⟩ := cell1 hbo
      have HBA := Lib.hid hba
      have HBR := Lib.hid hbr
      obtain ⟨q, hq2⟩ : ∃ q, q = 8192 / b := ⟨_, rfl⟩
      rw [← hq2] at hq
      have HQ := Lib.hid hq2
      have hq8 : q ≤ 8192 := by rw [hq2]; exact Nat.div_le_self _ _
      clear hu4 hba hbr hbo HBITS hq2
      by_cases hqn : q < n
      · have HST := Lib.hid (store1 hwr HBR.out HU4.out (NV.zero _))
        have k1 := (cell1 HST.out.1).1
        have HQN := Lib.hid hqn
        have hd : decide (q < n) = true := by simpa using hqn
        go_wp2
        refine bodyPost_ret (v := .tuple #[.agg #[.slice none 0 0], .int .i64 3]) (by simp [results, Tryd.results33, go_sem, k1]) rfl ?_
        unfold PowPost
        rw [if_neg H0.out, if_neg HM.out, if_pos (by rw [← HB.out, ← HQ.out]; exact HQN.out)]
        exact ⟨_, rfl, HST.out.2.1, HST.out.2.2⟩
      · have hd : decide (q < n) = false := by simpa using hqn
        have hcv : IntKind.u64.wrap (n : Int) = (n : Int) := wrap_nat n (by omega)
        have HQN := Lib.hid hqn
        obtain ⟨L, hL⟩ : ∃ L, nbits n = L + 1 := ⟨nbits n - 1, by have := nbits_pos (n := n) h0; omega⟩
        have HL := Lib.hid hL
        have hLb : L ≤ 63 := by have := (nbits_le_iff n 64).2 (by omega); omega
        have HLEN2 : Hid (Lib.bitLen n = L + 1) := by show _ = _; rw [bitLen_nbits n h0 (by omega)]; exact hL
        obtain ⟨pb, hpb⟩ : ∃ pb, pb = w4.heap.size := ⟨_, rfl⟩
        clear hqn hL
        go_wp2_with fail
        refine (Tryd.bits_Len (n : Int) _ (by omega) (by omega)).mono ?_
        rintro e w5 ⟨rfl, rfl⟩
        rw [Int.toNat_natCast, HLEN2.out]
        go_wp2_with fail
        rw [← hpb]
        obtain ⟨w5, hw5⟩ : ∃ w5, w5 = w4.alloc (.cells #[.slice a1 l1 c1] 27) := ⟨_, rfl⟩
        rw [← hw5]
        have hu45 : Upd [] w4 w5 := by rw [hw5]; exact (Upd.refl _ _).alloc _
        have hbp : w5.heap[pb]? = some (.cells #[.slice a1 l1 c1] 27 (0, 0)) := by rw [hw5, hpb]; exact heap_alloc_new w4 _
        have hrp : r < pb := by omega
        have hsp : w.heap.size < pb := by omega
        have HBA5 := Lib.hid ((hu45.block _ (by omega) (by simp)).trans HBA.out)
        have HBR5 := Lib.hid ((hu45.block _ (by omega) (by simp)).trans HBR.out)
        have HBP5 := Lib.hid hbp
        have HU5 := Lib.hid (HU4.out.trans0 hu45)
        have HN5 := Lib.hid (HN4.out.upd0 hu45)
        have hpl : pb < w5.heap.size := (Array.getElem?_eq_some_iff.1 hbp).1
        have HP2 : Hid (n / 2 ^ (L + 1) = 0) := Nat.div_eq_of_lt (by rw [← HL.out]; exact nbits_lt n)
        have HB1 := Lib.hid hb1
        clear ca fa cr fr co fo hw5 hpb hbp hu45 hbz hq hcv hd hb1 HBA HBR
        go_loopw [8] (fun v8 wr => ∃ (i : Nat) (x : Option Addr) (l c : Nat), i ≤ L + 1 ∧ v8 = .int .i64 ((i : Int) - 1) ∧ wr.heap[pb]? = some (.cells #[.slice x l c] 27 (0, 0)) ∧ NV wr (.agg #[.slice x l c]) (m ^ (n / 2 ^ i)) ∧ Upd [pb] w5 wr) (fun v8 _ => (intOf v8 + 1).toNat)
        case atStart => exact ⟨L + 1, _, _, _, Nat.le_refl _, by go_num, HBP5.out, by rw [HP2.out, Nat.pow_zero]; exact HN5.out, Upd.refl _ _⟩
        case round =>
          obtain ⟨i, x, l, c, hi, rfl, hbp, hnp, hup⟩ := hrel
          have HNP := Lib.hid hnp
          have HBP := Lib.hid hbp
          have HUP := Lib.hid hup
          have hba := (hup.block _ (by omega) (by simp; omega)).trans HBA5.out
          have hbr := (hup.block _ (by omega) (by simp; omega)).trans HBR5.out
          have HUW : Hid (Upd [] w wr) := HU5.out.trans hup (by simp; omega)
          have HBA := Lib.hid hba
          have HBR := Lib.hid hbr
          have hsz := hup.size
          obtain ⟨ca, fa⟩ := cell1 hba
          obtain ⟨cr, fr⟩ := cell1 hbr
          obtain ⟨cp, fp⟩ := cell1 hbp
          clear hbp hnp hup hba hbr
          rcases Nat.eq_zero_or_pos i with rfl | hi0
          · have HST := Lib.hid (store1 hwr HBR.out HUW.out HNP.out)
            have k1 := (cell1 HST.out.1).1
            go_wp2
            refine bodyPost_ret (v := .tuple #[.agg #[.slice x l c], .int .i64 0]) (by simp [results, Tryd.results33, go_sem, k1]) rfl ?_
            unfold PowPost
            rw [if_neg H0.out, if_neg HM.out, if_neg (by rw [← HB.out, ← HQ.out]; exact HQN.out)]
            have h := HST.out.2.1
            rw [Nat.pow_zero, Nat.div_one] at h
            exact ⟨_, rfl, h, HST.out.2.2⟩
          · obtain ⟨k, rfl⟩ : ∃ k, i = k + 1 := ⟨i - 1, by omega⟩
            have hk1 : ((k + 1 : Nat) : Int) - 1 = (k : Int) := by omega
            rw [hk1]
            have hj2 : n / 2 ^ (k + 1) + n / 2 ^ (k + 1) ≤ n := by have := half_step n k; have := Nat.div_le_self n (2 ^ k); omega
            have HMUL : Hid (Calls Tryd.prog 34 #[.agg #[.slice x l c], .agg #[.slice x l c]] wr (RNat (m ^ (n / 2 ^ (k + 1) + n / 2 ^ (k + 1))) wr)) := by
              have h1 := pow_len HB.out HB1.out HQ.out HQN.out (n / 2 ^ (k + 1)) (by omega)
              have := mul_any _ _ _ _ _ HNP.out HNP.out (by omega) (by omega)
              rw [← Nat.pow_add] at this
              exact this
            go_wp2_with fail
            refine HMUL.out.mono ?_
            rintro e w6 ⟨v6, rfl, hn6, hu6⟩
            obtain ⟨x6, c6, rfl, hl6, hm6⟩ := hn6.open
            generalize (wds (m ^ (n / 2 ^ (k + 1) + n / 2 ^ (k + 1)))).length = l6 at *
            have hbp6 := (hu6.block pb (by omega) (by simp)).trans HBP.out
            have hba6 := (hu6.block _ (by omega) (by simp)).trans HBA.out
            have HST6 := Lib.hid (store1 (Nat.le_of_lt hsp) hbp6 (HUW.out.trans0 hu6) hn6)
            have HBA6 : Hid ((w6.setCell ⟨pb, 0, none⟩ (.slice x6 l6 c6)).heap[w.heap.size]? = some (.cells #[.slice a lm cap] 27 (0, 0))) := (Below.heap_setCell _ _ _ _ (by show w.heap.size ≠ pb; omega)).trans hba6
            have HUP6 : Hid (Upd [pb] w5 (w6.setCell ⟨pb, 0, none⟩ (.slice x6 l6 c6))) := (HUP.out.trans hu6 (by simp)).setCell (.inl (by simp)) _
            have cp6 := (cell1 hbp6).1
            have fp6 := (cell1 hbp6).2
            have cq6 := (cell1 HST6.out.1).1
            have fq6 := (cell1 HST6.out.1).2
            have ca6 := (cell1 HBA6.out).1
            have HU66 := Lib.hid hu6
            have HB66 := Lib.hid hbp6
            clear hn6 hu6 hbp6 hba6 ca fa cr fr cp fp hk1
            have hbit := bit_of n k hn
            have hhs := half_step n k
            have hle := Nat.div_le_self n (2 ^ k)
            by_cases hz : n / 2 ^ k % 2 = 1
            · have hbt : (bits .and .i64 ((n : Int) / 2 ^ k) 1 == 1) = true := by rw [hbit]; simpa using hz
              have HMUL2 : Hid (Calls Tryd.prog 34 #[.agg #[.slice x6 l6 c6], .agg #[.slice a lm cap]] (w6.setCell ⟨pb, 0, none⟩ (.slice x6 l6 c6)) (RNat (m ^ (n / 2 ^ k)) (w6.setCell ⟨pb, 0, none⟩ (.slice x6 l6 c6)))) := by
                have h1 := pow_len HB.out HB1.out HQ.out HQN.out (n / 2 ^ (k + 1) + n / 2 ^ (k + 1)) (by omega)
                have h2 := pow_len HB.out HB1.out HQ.out HQN.out 1 (by omega)
                rw [Nat.pow_one] at h2
                have := mul_any _ _ _ m _ HST6.out.2.1 ((((HA.out.upd0 HUW.out).upd0 HU66.out).store HB66.out no_u64 ⟨pb, 0, none⟩ rfl _)) (by omega) (by omega)
                rw [← Nat.pow_succ, show (n / 2 ^ (k + 1) + n / 2 ^ (k + 1)).succ = n / 2 ^ k by omega] at this
                exact this
              clear hbit hhs hz
              go_wp2_with fail
              refine HMUL2.out.mono ?_
              rintro e w7 ⟨v7, rfl, hn7, hu7⟩
              obtain ⟨x7, c7, rfl, hl7, hm7⟩ := hn7.open
              generalize (wds (m ^ (n / 2 ^ k))).length = l7 at *
              have hbp7 := (hu7.block pb (by have := (Array.getElem?_eq_some_iff.1 HST6.out.1).1; omega) (by simp)).trans HST6.out.1
              have hbw := store1 (Nat.le_of_lt hsp) hbp7 (HST6.out.2.2.trans0 hu7) hn7
              have HF : Hid (∃ (i : Nat) (x : Option Addr) (l c : Nat), i ≤ L + 1 ∧ Value.int .i64 ((k : Int) - 1) = .int .i64 ((i : Int) - 1) ∧ (w7.setCell ⟨pb, 0, none⟩ (.slice x7 l7 c7)).heap[pb]? = some (.cells #[.slice x l c] 27 (0, 0)) ∧ NV (w7.setCell ⟨pb, 0, none⟩ (.slice x7 l7 c7)) (.agg #[.slice x l c]) (m ^ (n / 2 ^ i)) ∧ Upd [pb] w5 (w7.setCell ⟨pb, 0, none⟩ (.slice x7 l7 c7))) :=
                ⟨k, _, _, _, by omega, rfl, hbw.1, hbw.2.1, (HUP6.out.trans hu7 (by simp)).setCell (.inl (by simp)) _⟩
              have cp7 := (cell1 hbp7).1
              have fp7 := (cell1 hbp7).2
              clear hn7 hu7 hbp7 hbw cq6 fq6 ca6 cp6 fp6
              go_wp2_with fail
              exact ⟨HF.out, by simp [intOf]⟩
            · have hbt : (bits .and .i64 ((n : Int) / 2 ^ k) 1 == 1) = false := by rw [hbit]; simpa using hz
              have HF : Hid (∃ (i : Nat) (x : Option Addr) (l c : Nat), i ≤ L + 1 ∧ Value.int .i64 ((k : Int) - 1) = .int .i64 ((i : Int) - 1) ∧ (w6.setCell ⟨pb, 0, none⟩ (.slice x6 l6 c6)).heap[pb]? = some (.cells #[.slice x l c] 27 (0, 0)) ∧ NV (w6.setCell ⟨pb, 0, none⟩ (.slice x6 l6 c6)) (.agg #[.slice x l c]) (m ^ (n / 2 ^ i)) ∧ Upd [pb] w5 (w6.setCell ⟨pb, 0, none⟩ (.slice x6 l6 c6))) :=
                ⟨k, _, _, _, by omega, rfl, HST6.out.1, by have h := HST6.out.2.1; rw [show n / 2 ^ (k + 1) + n / 2 ^ (k + 1) = n / 2 ^ k by omega] at h; exact h, HUP6.out⟩
              clear hbit hhs hz
              go_wp2_with fail
              exact ⟨HF.out, by simp [intOf]⟩
end Go.Proofs.YtoklmfmoblkfcaaDoor
