/- Texts that belong together, joined: NatPow MinMax NatShift ByWMath NatByWs NatDMany RatB RatO NatGrp NatGroups NatDigs NatDigs2 NatDec. -/
import Derived.Test.YtoklmfmoblkfcaaGreatDoorAb
import Derived.Test.YtoklmfmoblkfcaaGreatDoorAa
import Derived.Deep.DeepCutAuto
import Derived.Deep.RegionHeld3
import Derived.Lib.ItoaNum
/- The contract of nat.Pow. -/
namespace Go.Proofs.YtoklmfmoblkfcaaGreatDoor
open Go.RowKit Go.Proofs.Tm Go.Shelf
set_option linter.unusedVariables false
set_option maxRecDepth 20000

/-- Two blocks of a call's own. -/
theorem box2 {w w1 : World} {x y : Value} {t t' : TypeId} (u : Upd [] ((w.alloc (.cells #[x] t)).alloc (.cells #[y] t')) w1) :
    w1.heap[w.heap.size]? = some (.cells #[x] t (0, 0)) ∧ w1.heap[w.heap.size + 1]? = some (.cells #[y] t' (0, 0)) ∧ Upd [] w w1 ∧ w.heap.size + 1 + 1 ≤ w1.heap.size := by
  refine ⟨?_, ?_, (((Upd.refl _ _).alloc _).alloc _).trans0 u, by have := u.size; simpa using this⟩
  · rw [u.block _ (by simp; omega) (by simp), Below.heap_alloc _ _ _ (by simp)]; exact heap_alloc_new w _
  · rw [u.block _ (by simp) (by simp)]; have := heap_alloc_new (w.alloc (.cells #[x] t)) (.cells #[y] t'); simpa using this

/-- A number is stored into the cell of the result. -/
theorem store1 {w W : World} {i : Nat} {t : TypeId} {x : Value} {p1 : Option Addr} {l1 c1 : Nat} {m : Nat} (hi : w.heap.size ≤ i) (hbi : W.heap[i]? = some (.cells #[.slice p1 l1 c1] t (0, 0))) (hu : Upd [] w W) (hx : NV W (.agg #[x]) m) :
    (W.setCell ⟨i, 0, none⟩ x).heap[i]? = some (.cells #[x] t (0, 0)) ∧ NV (W.setCell ⟨i, 0, none⟩ x) (.agg #[x]) m ∧ Upd [] w (W.setCell ⟨i, 0, none⟩ x) :=
  ⟨one_setCell hbi, hx.store hbi no_u64 _ rfl _, hu.setCell (.inr hi) _⟩
theorem cell1 {W : World} {i : Nat} {t : TypeId} {x : Value} (h : W.heap[i]? = some (.cells #[x] t (0, 0))) : W.cell? ⟨i, 0, none⟩ = some x ∧ W.frozen? ⟨i, 0, none⟩ = false :=
  ⟨by rw [cell_of_row W _ 0 _ _ _ h]; rfl, by simp [World.frozen?, h]⟩

theorem of1 (x : Nat) (z : Int) (hz : z = (x : Int)) (hx : x < 18446744073709551616) (w : World) (k : Nat) (hk : k = w.heap.size) : Calls Tryz.prog 32 #[.slice (some ⟨k, 0, none⟩) 1 1] (w.alloc (.cells #[.int .u64 z] 64)) (RNat x (w.alloc (.cells #[.int .u64 z] 64))) := by
  subst hz hk
  have := of_any _ [x] _ (Sl.lit1 w (.int .u64 (x : Int)) 64) (by simp) (by simpa using hx)
  simpa [wval] using this

set_option maxHeartbeats 800000 in
theorem pow_neg (u : Value) (m : Nat) (n : Int) (hn : n < 0) (w : World) (hu : NV w u m) :
    Calls Tryz.prog 99 #[u, .int .i64 n] w (RNatE 0 2 w) := by
  obtain ⟨a, cap, rfl, hl, hcm⟩ := hu.open
  generalize (wds m).length = lm at *
  clear hu
  go_enter Tryz.func99, Tryz.ntmps99
  go_wp2
  refine bodyPost_ret (v := .tuple #[.agg #[.slice none 0 0], .int .i64 2]) (by simp [results, Tryz.results99, go_sem]) rfl ?_
  exact ⟨_, rfl, NV.zero _, ((Upd.refl _ _).alloc _).alloc _⟩

/-- What Pow answers. -/
def PowPost (m n : Nat) (w : World) (e : Ending) (w' : World) : Prop :=
  if n = 0 then RNatE 1 0 w e w' else if m ≤ 1 then RNatE m 0 w e w' else if 8192 / nbits m < n then RNatE 0 3 w e w' else RNatE (m ^ n) 0 w e w'

theorem pow_len {m n b q : Nat} (hb : b = nbits m) (hb1 : 1 < b) (hq : q = 8192 / b) (hqn : ¬ q < n) (j : Nat) (hj : j ≤ n) : (wds (m ^ j)).length ≤ 128 := by
  obtain ⟨E, hE⟩ : ∃ E, E = 128 := ⟨_, rfl⟩
  rw [← hE, wds_length_le_iff, W_two, ← Nat.pow_mul]
  have h1 := nbits_lt m
  have h2 : b * n ≤ 8192 := by
    have h3 := Nat.mul_le_mul_left b (show n ≤ 8192 / b by omega)
    exact Nat.le_trans h3 (Nat.mul_div_le _ _)
  have hbj : b * j ≤ 8192 := Nat.le_trans (Nat.mul_le_mul_left b hj) h2
  have h5 : b * j ≤ 64 * E := by omega
  have h6 : 64 * E ≠ 0 := by omega
  clear hE
  rcases Nat.eq_zero_or_pos j with rfl | hj0
  · rw [Nat.pow_zero]; exact Nat.one_lt_two_pow h6
  · have h4 : m ^ j < (2 ^ b) ^ j := Nat.pow_lt_pow_left (by rw [hb]; exact h1) (by omega)
    rw [← Nat.pow_mul] at h4
    exact Nat.lt_of_lt_of_le h4 (Nat.pow_le_pow_right (by decide) h5)

theorem i64_and_one (a : Nat) (h : a < 9223372036854775808) : bits .and .i64 (a : Int) 1 = ((a % 2 : Nat) : Int) := by
  show IntKind.i64.wrap ((BitVec.ofInt 64 (a : Int) &&& BitVec.ofInt 64 1).toNat : Int) = _
  rw [BitVec.toNat_and, show (BitVec.ofInt 64 (a : Int)).toNat = a by simp; omega, show (BitVec.ofInt 64 1).toNat = 1 from rfl, Nat.and_one_is_mod]
  exact IntWalk.i64_in _ (by omega)
theorem bit_of (n k : Nat) (h : n ≤ 9223372036854775807) : (bits .and .i64 ((n : Int) / 2 ^ k) 1 == 1) = decide (n / 2 ^ k % 2 = 1) := by
  rw [shr_nat, i64_and_one _ (by have := Nat.div_le_self n (2 ^ k); omega), Bool.eq_iff_iff, beq_iff_eq, decide_eq_true_eq]
  omega
theorem half_step (n k : Nat) : n / 2 ^ k = 2 * (n / 2 ^ (k + 1)) + n / 2 ^ k % 2 := by
  rw [Nat.pow_succ, ← Nat.div_div_eq_div_mul]
  omega

set_option maxHeartbeats 800000 in
theorem pow_any (u : Value) (m n : Nat) (w : World) (hu : NV w u m) (hlen : (wds m).length ≤ 1099511627776) (hn : n ≤ 9223372036854775807) :
    Calls Tryz.prog 99 #[u, .int .i64 (n : Int)] w (PowPost m n w) := by
  obtain ⟨a, cap, rfl, hl, hcm⟩ := hu.open
  have HA := Lib.hid hu
  have HLEN : Hid (∀ l, l = wds m → l.length ≤ 1099511627776) := fun l h => by rw [h]; exact hlen
  generalize (wds m).length = lm at *
  clear hu hlen
  go_enter Tryz.func99, Tryz.ntmps99
  go_wp2_with fail
  refine (of1 1 1 rfl (by decide) _ _ (by simp)).mono ?_
  rintro e w1 ⟨v1, rfl, hn1, hu1⟩
  obtain ⟨a1, c1, rfl, hl1, hm1⟩ := hn1.open
  obtain ⟨hb0, hb1, hu0, hs0⟩ := box2 (((Upd.refl _ _).alloc _).trans0 hu1)
  generalize (wds 1).length = l1 at *
  obtain ⟨r, hr⟩ : ∃ r, r = w.heap.size + 1 := ⟨_, rfl⟩
  obtain ⟨o, ho⟩ : ∃ o, o = w1.heap.size := ⟨_, rfl⟩
  rw [← hr] at hb1 ⊢
  have hN1 : NV (w1.alloc (.cells #[.slice a1 l1 c1] 27)) (.agg #[.slice a1 l1 c1]) 1 := hn1.upd0 ((Upd.refl _ _).alloc _)
  obtain ⟨w2, hw2⟩ : ∃ w2, w2 = w1.alloc (.cells #[.slice a1 l1 c1] 27) := ⟨_, rfl⟩
  have hu2 : Upd [] w1 w2 := by rw [hw2]; exact (Upd.refl _ _).alloc _
  have hbo : w2.heap[o]? = some (.cells #[.slice a1 l1 c1] 27 (0, 0)) := by rw [hw2, ho]; exact heap_alloc_new w1 _
  rw [← hw2] at hN1
  have hba := (hu2.block _ (by omega) (by simp)).trans hb0
  have hbr := (hu2.block r (by omega) (by simp)).trans hb1
  have hu02 := hu0.trans0 hu2
  have hwr : w.heap.size ≤ r := by omega
  have hwo : w.heap.size ≤ o := by omega
  have hro : r ≠ o := by omega
  have hsr : w.heap.size ≠ r := by omega
  have hso : w.heap.size ≠ o := by omega
  have hszo : o < w2.heap.size := by rw [hw2, ho]; simp
  have hszr : r < w2.heap.size := by omega
  have HW2 := Lib.hid hw2
  have HN1 := Lib.hid hN1
  have HBA := Lib.hid hba
  have HBR := Lib.hid hbr
  have HBO := Lib.hid hbo
  have HU2 := Lib.hid hu02
  have HO := Lib.hid ho
  have HR := Lib.hid hr
  obtain ⟨ca, fa⟩ := cell1 hba
  obtain ⟨cr, fr⟩ := cell1 hbr
  obtain ⟨co, fo⟩ := cell1 hbo
  rw [hw2, ho] at co fo
  rw [hw2] at ca fa cr fr
  clear hn1 hu1 hb0 hb1 hu0 hs0 hr ho hN1 hu2 hbo hba hbr hu02
  by_cases h0 : n = 0
  · have HST := Lib.hid (store1 hwr HBR.out HU2.out HN1.out)
    rw [hw2] at HST
    have k1 := (cell1 HST.out.1).1
    have H0 := Lib.hid h0
    clear hw2
    go_wp2
    refine bodyPost_ret (v := .tuple #[.agg #[.slice a1 l1 c1], .int .i64 0]) (by simp [results, Tryz.results99, go_sem, k1]) rfl ?_
    unfold PowPost
    rw [if_pos H0.out]
    exact ⟨_, rfl, HST.out.2.1, HST.out.2.2⟩
  · have hn0 : ((n : Int) == 0) = false := by simp; omega
    have HCMP : Hid (Calls Tryz.prog 52 #[.agg #[.slice a lm cap], .agg #[.slice a1 l1 c1]] w2 fun e w' => e = .returned (.int .i64 (cmpN m 1)) ∧ Upd [] w2 w') := cmp_any _ _ _ _ _ (HA.out.upd0 HU2.out) HN1.out (HLEN.out _ rfl)
    rw [hw2] at HCMP
    go_wp2_with fail
    refine HCMP.out.mono ?_
    rw [← HW2.out]
    rintro e w3 ⟨rfl, hu3⟩
    clear ca fa cr fr co fo
    rw [← HO.out]
    have hba := (hu3.block _ (by omega) (by simp)).trans HBA.out
    have hbr := (hu3.block _ (by omega) (by simp)).trans HBR.out
    have hbo := (hu3.block _ (by omega) (by simp)).trans HBO.out
    have HU3 := Lib.hid (HU2.out.trans0 hu3)
    have HN3 := Lib.hid (HN1.out.upd0 hu3)
    have hs3 : w2.heap.size ≤ w3.heap.size := hu3.size
    obtain ⟨ca, fa⟩ := cell1 hba
    obtain ⟨cr, fr⟩ := cell1 hbr
    obtain ⟨co, fo⟩ := cell1 hbo
    have HBA := Lib.hid hba
    have HBR := Lib.hid hbr
    have HBO := Lib.hid hbo
    have H0 := Lib.hid h0
    clear hu3 hba hbr hbo hw2 HCMP HW2
    by_cases hm : m ≤ 1
    · have hc : decide (cmpN m 1 ≤ 0) = true := by unfold cmpN; have : m = 0 ∨ m = 1 := by omega
                                                   rcases this with rfl | rfl <;> rfl
      have HST := Lib.hid (store1 hwr HBR.out HU3.out (HA.out.upd0 HU3.out))
      have k1 := (cell1 HST.out.1).1
      have HM := Lib.hid hm
      clear hm
      go_wp2
      refine bodyPost_ret (v := .tuple #[.agg #[.slice a lm cap], .int .i64 0]) (by simp [results, Tryz.results99, go_sem, k1]) rfl ?_
      unfold PowPost
      rw [if_neg H0.out, if_pos HM.out]
      exact ⟨_, rfl, HST.out.2.1, HST.out.2.2⟩
    · have hc : decide (cmpN m 1 ≤ 0) = false := by unfold cmpN; rw [if_neg (by omega), if_neg (by omega)]; rfl
      have HBITS : Hid (Calls Tryz.prog 126 #[.agg #[.slice a lm cap]] w3 fun e w' => e = .returned (.int .i64 (nbits m : Int)) ∧ Upd [] w3 w') := bits_any _ _ _ (HA.out.upd0 HU3.out) (HLEN.out _ rfl)
      have hb1 : 1 < nbits m := by have := nbits_le_one (n := m); omega
      have HM := Lib.hid hm
      obtain ⟨b, hb⟩ : ∃ b, b = nbits m := ⟨_, rfl⟩
      rw [← hb] at HBITS hb1
      have hbz : ((b : Int) == 0) = false := by simp; omega
      have hq : (8192 : Int).tdiv (b : Int) = ((8192 / b : Nat) : Int) := tdiv_nat 8192 b
      have HB := Lib.hid hb
      clear hm hb
      go_wp2_with fail
      refine HBITS.out.mono ?_
      rintro e w4 ⟨rfl, hu4⟩
      have hba := (hu4.block _ (by omega) (by simp)).trans HBA.out
      have hbr := (hu4.block _ (by omega) (by simp)).trans HBR.out
      have hbo := (hu4.block _ (by omega) (by simp)).trans HBO.out
      have HU4 := Lib.hid (HU3.out.trans0 hu4)
      have HN4 := Lib.hid (HN3.out.upd0 hu4)
      have hs4 : w3.heap.size ≤ w4.heap.size := hu4.size
      clear ca fa cr fr co fo HBA HBR HBO
      obtain ⟨ca, fa⟩ := cell1 hba
      obtain ⟨cr, fr⟩ := cell1 hbr
      obtain ⟨co, fo⟩ := cell1 hbo
      have HBA := Lib.hid hba
      have HBR := Lib.hid hbr
      obtain ⟨q, hq2⟩ : ∃ q, q = 8192 / b := ⟨_, rfl⟩
      rw [← hq2] at hq
      have HQ := Lib.hid hq2
      have hq8 : q ≤ 8192 := by rw [hq2]; exact Nat.div_le_self _ _
      clear hu4 hba hbr hbo HBITS hq2
      by_cases hqn : q < n
      · have HST := Lib.hid (store1 hwr HBR.out HU4.out (NV.zero _))
        have k1 := (cell1 HST.out.1).1
        have HQN := Lib.hid hqn
        have hd : decide (q < n) = true := by simpa using hqn
        go_wp2
        refine bodyPost_ret (v := .tuple #[.agg #[.slice none 0 0], .int .i64 3]) (by simp [results, Tryz.results99, go_sem, k1]) rfl ?_
        unfold PowPost
        rw [if_neg H0.out, if_neg HM.out, if_pos (by rw [← HB.out, ← HQ.out]; exact HQN.out)]
        exact ⟨_, rfl, HST.out.2.1, HST.out.2.2⟩
      · have hd : decide (q < n) = false := by simpa using hqn
        have hcv : IntKind.u64.wrap (n : Int) = (n : Int) := wrap_nat n (by omega)
        have HQN := Lib.hid hqn
        obtain ⟨L, hL⟩ : ∃ L, nbits n = L + 1 := ⟨nbits n - 1, by have := nbits_pos (n := n) h0; omega⟩
        have HL := Lib.hid hL
        have hLb : L ≤ 63 := by have := (nbits_le_iff n 64).2 (by omega); omega
        have HLEN2 : Hid (Lib.bitLen n = L + 1) := by show _ = _; rw [bitLen_nbits n h0 (by omega)]; exact hL
        obtain ⟨pb, hpb⟩ : ∃ pb, pb = w4.heap.size := ⟨_, rfl⟩
        clear hqn hL
        go_wp2_with fail
        refine (Tryz.bits_Len (n : Int) _ (by omega) (by omega)).mono ?_
        rintro e w5 ⟨rfl, rfl⟩
        rw [Int.toNat_natCast, HLEN2.out]
        go_wp2_with fail
        rw [← hpb]
        obtain ⟨w5, hw5⟩ : ∃ w5, w5 = w4.alloc (.cells #[.slice a1 l1 c1] 27) := ⟨_, rfl⟩
        rw [← hw5]
        have hu45 : Upd [] w4 w5 := by rw [hw5]; exact (Upd.refl _ _).alloc _
        have hbp : w5.heap[pb]? = some (.cells #[.slice a1 l1 c1] 27 (0, 0)) := by rw [hw5, hpb]; exact heap_alloc_new w4 _
        have hrp : r < pb := by omega
        have hsp : w.heap.size < pb := by omega
        have HBA5 := Lib.hid ((hu45.block _ (by omega) (by simp)).trans HBA.out)
        have HBR5 := Lib.hid ((hu45.block _ (by omega) (by simp)).trans HBR.out)
        have HBP5 := Lib.hid hbp
        have HU5 := Lib.hid (HU4.out.trans0 hu45)
        have HN5 := Lib.hid (HN4.out.upd0 hu45)
        have hpl : pb < w5.heap.size := (Array.getElem?_eq_some_iff.1 hbp).1
        have HP2 : Hid (n / 2 ^ (L + 1) = 0) := Nat.div_eq_of_lt (by rw [← HL.out]; exact nbits_lt n)
        have HB1 := Lib.hid hb1
        clear ca fa cr fr co fo hw5 hpb hbp hu45 hbz hq hcv hd hb1 HBA HBR
        go_loopw [8] (fun v8 wr => ∃ (i : Nat) (x : Option Addr) (l c : Nat), i ≤ L + 1 ∧ v8 = .int .i64 ((i : Int) - 1) ∧ wr.heap[pb]? = some (.cells #[.slice x l c] 27 (0, 0)) ∧ NV wr (.agg #[.slice x l c]) (m ^ (n / 2 ^ i)) ∧ Upd [pb] w5 wr) (fun v8 _ => (intOf v8 + 1).toNat)
        case atStart => exact ⟨L + 1, _, _, _, Nat.le_refl _, by go_num, HBP5.out, by rw [HP2.out, Nat.pow_zero]; exact HN5.out, Upd.refl _ _⟩
        case round =>
          obtain ⟨i, x, l, c, hi, rfl, hbp, hnp, hup⟩ := hrel
          have HNP := Lib.hid hnp
          have HBP := Lib.hid hbp
          have HUP := Lib.hid hup
          have hba := (hup.block _ (by omega) (by simp; omega)).trans HBA5.out
          have hbr := (hup.block _ (by omega) (by simp; omega)).trans HBR5.out
          have HUW : Hid (Upd [] w wr) := HU5.out.trans hup (by simp; omega)
          have HBA := Lib.hid hba
          have HBR := Lib.hid hbr
          have hsz := hup.size
          obtain ⟨ca, fa⟩ := cell1 hba
          obtain ⟨cr, fr⟩ := cell1 hbr
          obtain ⟨cp, fp⟩ := cell1 hbp
          clear hbp hnp hup hba hbr
          rcases Nat.eq_zero_or_pos i with rfl | hi0
          · have HST := Lib.hid (store1 hwr HBR.out HUW.out HNP.out)
            have k1 := (cell1 HST.out.1).1
            go_wp2
            refine bodyPost_ret (v := .tuple #[.agg #[.slice x l c], .int .i64 0]) (by simp [results, Tryz.results99, go_sem, k1]) rfl ?_
            unfold PowPost
            rw [if_neg H0.out, if_neg HM.out, if_neg (by rw [← HB.out, ← HQ.out]; exact HQN.out)]
            have h := HST.out.2.1
            rw [Nat.pow_zero, Nat.div_one] at h
            exact ⟨_, rfl, h, HST.out.2.2⟩
          · obtain ⟨k, rfl⟩ : ∃ k, i = k + 1 := ⟨i - 1, by omega⟩
            have hk1 : ((k + 1 : Nat) : Int) - 1 = (k : Int) := by omega
            rw [hk1]
            have hj2 : n / 2 ^ (k + 1) + n / 2 ^ (k + 1) ≤ n := by have := half_step n k; have := Nat.div_le_self n (2 ^ k); omega
            have HMUL : Hid (Calls Tryz.prog 92 #[.agg #[.slice x l c], .agg #[.slice x l c]] wr (RNat (m ^ (n / 2 ^ (k + 1) + n / 2 ^ (k + 1))) wr)) := by
              have h1 := pow_len HB.out HB1.out HQ.out HQN.out (n / 2 ^ (k + 1)) (by omega)
              have := mul_any _ _ _ _ _ HNP.out HNP.out (by omega) (by omega)
              rw [← Nat.pow_add] at this
              exact this
            go_wp2_with fail
            refine HMUL.out.mono ?_
            rintro e w6 ⟨v6, rfl, hn6, hu6⟩
            obtain ⟨x6, c6, rfl, hl6, hm6⟩ := hn6.open
            generalize (wds (m ^ (n / 2 ^ (k + 1) + n / 2 ^ (k + 1)))).length = l6 at *
            have hbp6 := (hu6.block pb (by omega) (by simp)).trans HBP.out
            have hba6 := (hu6.block _ (by omega) (by simp)).trans HBA.out
            have HST6 := Lib.hid (store1 (Nat.le_of_lt hsp) hbp6 (HUW.out.trans0 hu6) hn6)
            have HBA6 : Hid ((w6.setCell ⟨pb, 0, none⟩ (.slice x6 l6 c6)).heap[w.heap.size]? = some (.cells #[.slice a lm cap] 27 (0, 0))) := (Below.heap_setCell _ _ _ _ (by show w.heap.size ≠ pb; omega)).trans hba6
            have HUP6 : Hid (Upd [pb] w5 (w6.setCell ⟨pb, 0, none⟩ (.slice x6 l6 c6))) := (HUP.out.trans hu6 (by simp)).setCell (.inl (by simp)) _
            have cp6 := (cell1 hbp6).1
            have fp6 := (cell1 hbp6).2
            have cq6 := (cell1 HST6.out.1).1
            have fq6 := (cell1 HST6.out.1).2
            have ca6 := (cell1 HBA6.out).1
            have HU66 := Lib.hid hu6
            have HB66 := Lib.hid hbp6
            clear hn6 hu6 hbp6 hba6 ca fa cr fr cp fp hk1
            have hbit := bit_of n k hn
            have hhs := half_step n k
            have hle := Nat.div_le_self n (2 ^ k)
            by_cases hz : n / 2 ^ k % 2 = 1
            · have hbt : (bits .and .i64 ((n : Int) / 2 ^ k) 1 == 1) = true := by rw [hbit]; simpa using hz
              have HMUL2 : Hid (Calls Tryz.prog 92 #[.agg #[.slice x6 l6 c6], .agg #[.slice a lm cap]] (w6.setCell ⟨pb, 0, none⟩ (.slice x6 l6 c6)) (RNat (m ^ (n / 2 ^ k)) (w6.setCell ⟨pb, 0, none⟩ (.slice x6 l6 c6)))) := by
                have h1 := pow_len HB.out HB1.out HQ.out HQN.out (n / 2 ^ (k + 1) + n / 2 ^ (k + 1)) (by omega)
                have h2 := pow_len HB.out HB1.out HQ.out HQN.out 1 (by omega)
                rw [Nat.pow_one] at h2
                have := mul_any _ _ _ m _ HST6.out.2.1 ((((HA.out.upd0 HUW.out).upd0 HU66.out).store HB66.out no_u64 ⟨pb, 0, none⟩ rfl _)) (by omega) (by omega)
                rw [← Nat.pow_succ, show (n / 2 ^ (k + 1) + n / 2 ^ (k + 1)).succ = n / 2 ^ k by omega] at this
                exact this
              clear hbit hhs hz
              go_wp2_with fail
              refine HMUL2.out.mono ?_
              rintro e w7 ⟨v7, rfl, hn7, hu7⟩
              obtain ⟨x7, c7, rfl, hl7, hm7⟩ := hn7.open
              generalize (wds (m ^ (n / 2 ^ k))).length = l7 at *
              have hbp7 := (hu7.block pb (by have := (Array.getElem?_eq_some_iff.1 HST6.out.1).1; omega) (by simp)).trans HST6.out.1
              have hbw := store1 (Nat.le_of_lt hsp) hbp7 (HST6.out.2.2.trans0 hu7) hn7
              have HF : Hid (∃ (i : Nat) (x : Option Addr) (l c : Nat), i ≤ L + 1 ∧ Value.int .i64 ((k : Int) - 1) = .int .i64 ((i : Int) - 1) ∧ (w7.setCell ⟨pb, 0, none⟩ (.slice x7 l7 c7)).heap[pb]? = some (.cells #[.slice x l c] 27 (0, 0)) ∧ NV (w7.setCell ⟨pb, 0, none⟩ (.slice x7 l7 c7)) (.agg #[.slice x l c]) (m ^ (n / 2 ^ i)) ∧ Upd [pb] w5 (w7.setCell ⟨pb, 0, none⟩ (.slice x7 l7 c7))) :=
                ⟨k, _, _, _, by omega, rfl, hbw.1, hbw.2.1, (HUP6.out.trans hu7 (by simp)).setCell (.inl (by simp)) _⟩
              have cp7 := (cell1 hbp7).1
              have fp7 := (cell1 hbp7).2
              clear hn7 hu7 hbp7 hbw cq6 fq6 ca6 cp6 fp6
              go_wp2_with fail
              exact ⟨HF.out, by simp [intOf]⟩
            · have hbt : (bits .and .i64 ((n : Int) / 2 ^ k) 1 == 1) = false := by rw [hbit]; simpa using hz
              have HF : Hid (∃ (i : Nat) (x : Option Addr) (l c : Nat), i ≤ L + 1 ∧ Value.int .i64 ((k : Int) - 1) = .int .i64 ((i : Int) - 1) ∧ (w6.setCell ⟨pb, 0, none⟩ (.slice x6 l6 c6)).heap[pb]? = some (.cells #[.slice x l c] 27 (0, 0)) ∧ NV (w6.setCell ⟨pb, 0, none⟩ (.slice x6 l6 c6)) (.agg #[.slice x l c]) (m ^ (n / 2 ^ i)) ∧ Upd [pb] w5 (w6.setCell ⟨pb, 0, none⟩ (.slice x6 l6 c6))) :=
                ⟨k, _, _, _, by omega, rfl, HST6.out.1, by have h := HST6.out.2.1; rw [show n / 2 ^ (k + 1) + n / 2 ^ (k + 1) = n / 2 ^ k by omega] at h; exact h, HUP6.out⟩
              clear hbit hhs hz
              go_wp2_with fail
              exact ⟨HF.out, by simp [intOf]⟩
end Go.Proofs.YtoklmfmoblkfcaaGreatDoor

/- The builtins min and max of two ints. -/
namespace Go.Proofs.Tm
open Go.RowKit
set_option linter.unusedVariables false

theorem run_mini {P : Program} (a b : Int) (ts : Array TypeId) (t : TypeId) (W : World) : (Builtin.min_ ts t #[.int .i64 a, .int .i64 b]).run P W = .ok (.int .i64 (min a b)) W := by
  have e : Builtin.min_ ts t #[.int .i64 a, .int .i64 b] = pure (.int .i64 (if b < a then b else a)) := rfl
  rw [e, Sem.run_pure]
  congr 2
  split <;> omega
theorem run_maxi {P : Program} (a b : Int) (ts : Array TypeId) (t : TypeId) (W : World) : (Builtin.max_ ts t #[.int .i64 a, .int .i64 b]).run P W = .ok (.int .i64 (max a b)) W := by
  have e : Builtin.max_ ts t #[.int .i64 a, .int .i64 b] = pure (.int .i64 (if a < b then b else a)) := rfl
  rw [e, Sem.run_pure]
  congr 2
  split <;> omega
/-- .. with the answer named. -/
theorem mini_is {P : Program} {a b c : Int} (h : min a b = c) (ts : Array TypeId) (t : TypeId) (W : World) : (Builtin.min_ ts t #[.int .i64 a, .int .i64 b]).run P W = .ok (.int .i64 c) W := by rw [← h]; exact run_mini _ _ _ _ _
theorem maxi_is {P : Program} {a b c : Int} (h : max a b = c) (ts : Array TypeId) (t : TypeId) (W : World) : (Builtin.max_ ts t #[.int .i64 a, .int .i64 b]).run P W = .ok (.int .i64 c) W := by rw [← h]; exact run_maxi _ _ _ _ _
end Go.Proofs.Tm

/- The contracts of nat.Shl, Shr (layer 5). -/
namespace Go.Proofs.YtoklmfmoblkfcaaGreatDoor
open Go.RowKit Go.Proofs.Tm
set_option linter.unusedVariables false
set_option linter.unusedSimpArgs false
set_option maxRecDepth 20000

set_option maxHeartbeats 800000 in
theorem shl_bad (u : Value) (m : Nat) (n : Int) (hn : n < 0 ∨ 8192 < n) (w : World) (hu : NV w u m) :
    Calls Tryz.prog 51 #[u, .int .i64 n] w (RNatE 0 2 w) := by
  obtain ⟨a, cap, rfl, hl, hcm⟩ := hu.open
  generalize (wds m).length = lm at *
  clear hu
  rcases Int.lt_or_le n 0 with h | h
  · clear hn
    go_enter Tryz.func51, Tryz.ntmps51
    go_wp2
    refine bodyPost_ret (v := .tuple #[.agg #[.slice none 0 0], .int .i64 2]) (by simp [results, Tryz.results51, go_sem]) rfl ?_
    exact ⟨_, rfl, NV.zero _, ((Upd.refl _ _).alloc _).alloc _⟩
  · have h2 : 8192 < n := by omega
    clear hn
    go_enter Tryz.func51, Tryz.ntmps51
    go_wp2
    refine bodyPost_ret (v := .tuple #[.agg #[.slice none 0 0], .int .i64 2]) (by simp [results, Tryz.results51, go_sem]) rfl ?_
    exact ⟨_, rfl, NV.zero _, ((Upd.refl _ _).alloc _).alloc _⟩

set_option maxHeartbeats 800000 in
theorem shl_any (u : Value) (m n : Nat) (w : World) (hu : NV w u m) (hl : (wds m).length ≤ 1099511627776) (hn : n ≤ 8192) :
    Calls Tryz.prog 51 #[u, .int .i64 (n : Int)] w (RNatE (m * 2 ^ n) 0 w) := by
  obtain ⟨a, cap, rfl, _, _⟩ := hu.open
  have hsl := hu.sl
  obtain ⟨ws, hws⟩ : ∃ ws, ws = wds m := ⟨_, rfl⟩
  rw [← hws] at hsl hl ⊢
  have hwl : ∀ d ∈ ws, d < 18446744073709551616 := by rw [hws]; exact wds_lt m
  have HV : Hid (wval ws = m) := by show _ = _; rw [hws, wval_wds]
  obtain ⟨lm, hlm⟩ : ∃ l, l = ws.length := ⟨_, rfl⟩
  have HLM := Lib.hid hlm
  rw [← hlm] at hsl ⊢
  have HUP : Hid (∀ W, Upd [] w W → Calls Tryz.prog 100 #[.slice a lm cap, .int .i64 (n : Int)] W (UpPost ws n W)) := fun W h => up_any _ ws n W (hsl.upd0 h) hwl hl (by omega)
  clear hu hsl hws hwl hlm
  go_enter Tryz.func51, Tryz.ntmps51
  go_wp2_with fail
  refine (HUP.out _ (((Upd.refl _ _).alloc _).alloc _)).mono ?_
  rintro e w1 ⟨g, L, rfl, hgw, hrow, hval, _⟩
  have hu1 := hrow.upd
  obtain ⟨hb0, hb1, hu0, hs0⟩ := box2 hu1
  have HS1 := Lib.hid (Sl.own hrow.own)
  have HLT := Lib.hid hrow.lt
  have HVL : Hid (wval L = m * 2 ^ n) := by show _ = _; rw [hval, HV.out]
  have HU0 := Lib.hid hu0
  have HB1 := Lib.hid hb1
  obtain ⟨ln, hln⟩ : ∃ l, l = ws.length + n / 64 + 1 := ⟨_, rfl⟩
  rw [← hln] at HS1 ⊢
  clear hrow hval hu1 hb0 hb1 hu0 hgw hln
  go_wp2_with fail
  refine (fit_any _ L _ HS1.out HLT.out).mono ?_
  rintro e w2 ⟨v2, rfl, hn2, hu2⟩
  rw [HVL.out] at hn2
  obtain ⟨x2, c2, rfl, _, _⟩ := hn2.open
  obtain ⟨l2, hl2⟩ : ∃ l, l = (wds (m * 2 ^ n)).length := ⟨_, rfl⟩
  rw [← hl2] at hn2 ⊢
  have hb2 := (hu2.block _ (by omega) (by simp)).trans HB1.out
  have hst := store1 (w := w) (x := .slice x2 l2 c2) (by omega) hb2 (HU0.out.trans0 hu2) hn2
  have k1 := (cell1 hst.1).1
  have kc := (cell1 hb2).1
  have kf := (cell1 hb2).2
  have HST := Lib.hid hst
  clear hl2 hn2 hu2 hb2 hst
  go_wp2
  refine bodyPost_ret (v := .tuple #[.agg #[.slice x2 l2 c2], .int .i64 0]) (by simp [results, Tryz.results51, go_sem, k1]) rfl ?_
  exact ⟨_, rfl, HST.out.2.1, HST.out.2.2⟩

theorem from_at (m N i : Nat) : m / 2 ^ (N + i * 64) % 18446744073709551616 = m / 2 ^ N / 18446744073709551616 ^ i % 18446744073709551616 := by
  rw [Nat.pow_add, ← Nat.div_div_eq_div_mul, Nat.mul_comm i 64, Nat.pow_mul, ← W_two]
theorem from_le {N i left : Nat} (h : N < 70368744177729) (hi : i < left) (hl : left ≤ 1099511627776) : N + i * 64 < 4611686018427387904 := by omega
theorem shr_len (m q la : Nat) (h : (wds m).length = la) (hq : q < la) (n : Nat) (hn : q = n / 64) : m / 2 ^ n < 18446744073709551616 ^ (la - q) := by
  have h1 := wds_lt_pow m
  rw [h] at h1
  rw [Nat.div_lt_iff_lt_mul (Nat.two_pow_pos n)]
  refine Nat.lt_of_lt_of_le h1 ?_
  rw [W_two, ← Nat.pow_mul, ← Nat.pow_mul, ← Nat.pow_add]
  exact Nat.pow_le_pow_right (by decide) (by omega)

/-- A row of words of the call's own, behind w1. -/
structure SRow (w w1 : World) (g len : Nat) (L : List Nat) (wr : World) : Prop where
  own : wr.ownsRow w.heap.size 64 1 (.slice (some ⟨g, 0, none⟩) len len) len (cu64 L)
  len : L.length = len
  lt : ∀ d ∈ L, d < 18446744073709551616
  upd : Upd [g] w1 wr
theorem SRow.set {w w1 wr : World} {g len : Nat} {L : List Nat} (h : SRow w w1 g len L wr) (j d : Nat) (hd : d < 18446744073709551616) : SRow w w1 g len (L.set j d) (wr.setCell ⟨g, j, none⟩ (.int .u64 (d : Int))) := by
  refine ⟨by rw [cu64_set]; exact (h.own.stored j _).1, by rw [List.length_set]; exact h.len, fun e he => ?_, h.upd.setCell (.inl (by simp)) _⟩
  rcases List.mem_or_eq_of_mem_set he with he | rfl
  · exact h.lt e he
  · exact hd

set_option maxHeartbeats 1600000 in
theorem shr_any (u : Value) (m : Nat) (n : Int) (w : World) (hu : NV w u m) (hl : (wds m).length ≤ 1099511627776) (hn : n ≤ 9223372036854775807) :
    Calls Tryz.prog 147 #[u, .int .i64 n] w (RNat (m / 2 ^ n.toNat) w) := by
  obtain ⟨a, cap, rfl, _, _⟩ := hu.open
  obtain ⟨N, hN⟩ : ∃ N : Nat, max n 0 = (N : Int) := ⟨(max n 0).toNat, by omega⟩
  rw [show n.toNat = N by omega]
  have hmx := fun ts t W => maxi_is (P := Tryz.prog) hN ts t W
  have hN63 : N ≤ 9223372036854775807 := by omega
  obtain ⟨la, hla⟩ : ∃ l, l = (wds m).length := ⟨_, rfl⟩
  have HLA := Lib.hid hla
  rw [← hla] at hu hl ⊢
  obtain ⟨q, hq⟩ : ∃ q, q = N / 64 := ⟨_, rfl⟩
  have HQ := Lib.hid hq
  have i1 : (N : Int) / 64 = (q : Int) := by omega
  have hq57 : q ≤ 144115188075855871 := by omega
  have HU := Lib.hid hu
  clear hu hN hla hn
  by_cases hlt : q < la
  · obtain ⟨left, hleft⟩ : ∃ left, left = la - q := ⟨_, rfl⟩
    have i2 : (la : Int) - (q : Int) = (left : Int) := by omega
    have hl1 : 0 < left := by omega
    have hl2 : left ≤ 1099511627776 := by omega
    have hNs : N < 70368744177729 := by omega
    have HBIG : Hid (m / 2 ^ N < 18446744073709551616 ^ left) := by rw [hleft]; exact shr_len m q la HLA.out.symm hlt N HQ.out
    have HFR : Hid (∀ (i : Nat) W, i < left → NV W (.agg #[.slice a la cap]) m → Calls Tryz.prog 143 #[.agg #[.slice a la cap], .int .i64 ((N + i * 64 : Nat) : Int)] W fun e w' => e = .returned (.int .u64 ((m / 2 ^ N / 18446744073709551616 ^ i % 18446744073709551616 : Nat) : Int)) ∧ Upd [] W w') := fun i W hi h => by
      have := from_any (.agg #[.slice a la cap]) m (N + i * 64) W h (from_le hNs hi hl2)
      rw [from_at] at this
      exact this
    clear hleft hq
    go_enter Tryz.func147, Tryz.ntmps147
    go_wp2_with (at_make; refine wpList_make_lc _ rfl (.tmp 19) (.tmp 19) 22 rfl 64 (.int .u64 0) 8 Tryz.underlying22 infoU64 rfl .i64 .i64 _ _ left left rfl rfl (by omega) (by omega) (by omega) (by omega) (by unfold maxLen; omega) ?_)
    intro w1 ho hu1 hw1
    obtain ⟨hb0, hb1, hu0, hs0⟩ := box2 hu1
    obtain ⟨k0, hk0⟩ : ∃ k, k = w.heap.size := ⟨_, rfl⟩
    obtain ⟨g, hg⟩ : ∃ g, g = w.heap.size + 1 + 1 := ⟨_, rfl⟩
    have hwk : w.heap.size ≤ k0 := by omega
    have hkg : k0 + 1 < g := by omega
    have hgs : g < w1.heap.size := by rw [hg]; exact hw1
    rw [← hg] at ho
    rw [← hk0] at hb0 hb1
    have H0 : Hid (SRow w w1 g left (List.replicate left 0) w1) := ⟨by rw [cu64_zero]; exact ownsRow_base ho (by omega), by simp, fun d hd => by rw [List.eq_of_mem_replicate hd]; decide, Upd.refl _ _⟩
    have HC : Hid (∀ W, Upd [g] w1 W → W.cell? ⟨k0, 0, none⟩ = some (.slice a la cap) ∧ W.heap[k0 + 1]? = some (.cells #[.slice none 0 0] 27 (0, 0))) := fun W h =>
      ⟨by rw [cell_of_row W _ 0 _ _ _ ((h.block k0 (by omega) (by simp; omega)).trans hb0)]; rfl, (h.block (k0 + 1) (by omega) (by simp; omega)).trans hb1⟩
    have HUW : Hid (∀ W, Upd [g] w1 W → Upd [] w W) := fun W h => hu0.trans h (by simp; omega)
    have HWE := Lib.hid hg
    have hke : w.heap.size = k0 := hk0.symm
    rw [← hg]
    rw [hke]
    clear ho hu1 hw1 hb0 hb1 hu0 hg hk0 hke
    go_wp2
    go_loopw [7, 23] (fun _ v23 wr => ∃ (i : Nat) (L : List Nat), i ≤ left ∧ v23 = .int .i64 (i : Int) ∧ Hid (∀ j, j < i → L.getD j 0 = m / 2 ^ N / 18446744073709551616 ^ j % 18446744073709551616) ∧ SRow w w1 g left L wr) (fun _ v23 _ => left - (intOf v23).toNat)
    case atStart => exact ⟨0, _, by omega, rfl, fun j hj => by omega, H0.out⟩
    case round =>
      obtain ⟨i, L, hi, rfl, HE, hinv⟩ := hrel
      have HI := Lib.hid hinv
      clear hinv H0
      by_cases hil : i < left
      · obtain ⟨c0, _⟩ := HC.out wr HI.out.upd
        have hcl := HI.out.own.cellAt i (by rw [Nat.mul_one]; exact hil)
        rw [cu64_getD _ _ (by rw [HI.out.len]; exact hil)] at hcl
        have hfz := HI.out.own.frozenAt i
        generalize L.getD i 0 = y at *
        obtain ⟨z, hz⟩ : ∃ z, z = m / 2 ^ N / 18446744073709551616 ^ i % 18446744073709551616 := ⟨_, rfl⟩
        have HCALL := Lib.hid (HFR.out i wr hil (HU.out.upd0 (HUW.out wr HI.out.upd)))
        rw [← hz] at HCALL
        have hzl : z < 18446744073709551616 := by rw [hz]; exact Nat.mod_lt _ (by decide)
        obtain ⟨d, hd⟩ : ∃ d, d = N + i * 64 := ⟨_, rfl⟩
        have i4 : (N : Int) + (i : Int) * 64 = (d : Int) := by omega
        rw [← hd] at HCALL
        have HD := Lib.hid i4
        clear hd i4
        have i5 : (i : Int) < (left : Int) := by omega
        have i6 : (0 : Int) ≤ (i : Int) := by omega
        have HZ := Lib.hid hz
        clear hz
        go_wp2_with fail
        rw [HD.out]
        refine HCALL.out.mono ?_
        rintro e w2 ⟨rfl, hu2⟩
        have hr2 : SRow w w1 g left L w2 := ⟨ownsRow_upd HI.out.own hu2 (by simp), HI.out.len, HI.out.lt, HI.out.upd.trans hu2 (by simp)⟩
        have hcl2 := hr2.own.cellAt i (by rw [Nat.mul_one]; exact hil)
        rw [cu64_getD _ _ (by rw [hr2.len]; exact hil)] at hcl2
        have hfz2 := hr2.own.frozenAt i
        generalize L.getD i 0 = y2 at *
        have HR := Lib.hid (hr2.set i z hzl)
        have HEN : Hid (∀ j, j < i + 1 → (L.set i z).getD j 0 = m / 2 ^ N / 18446744073709551616 ^ j % 18446744073709551616) := fun j hj => by
          rcases Nat.lt_or_ge j i with h | h
          · rw [List.getD_eq_getElem?_getD, List.getElem?_set_ne (by omega), ← List.getD_eq_getElem?_getD]; exact HE.out j h
          · obtain rfl : j = i := by omega
            rw [List.getD_eq_getElem?_getD, List.getElem?_set_self (by rw [hr2.len]; exact hil)]
            exact HZ.out
        clear hcl hfz hr2 c0 hu2
        go_wp2
        exact ⟨⟨i + 1, _, by omega, by go_num, HEN, HR.out⟩, by simp [intOf]; omega⟩
      · obtain rfl : i = left := by omega
        have hLE : L = (List.range i).map fun j => m / 2 ^ N / 18446744073709551616 ^ j % 18446744073709551616 := by
          apply List.ext_getElem
          · rw [HI.out.len]; simp
          · intro j h1 h2
            have h3 := HE.out j (by rw [← HI.out.len]; exact h1)
            have h4 : L.getD j 0 = L[j] := by simp [h1]
            rw [h4] at h3
            simp [h3]
        have HVL : Hid (wval L = m / 2 ^ N) := by
          show _ = _
          rw [hLE, wval_words, Nat.mod_eq_of_lt HBIG.out]
        have HS1 := Lib.hid (Sl.own HI.out.own)
        have HLT := Lib.hid HI.out.lt
        clear hLE
        go_wp2_with fail
        refine (fit_any _ L _ HS1.out HLT.out).mono ?_
        rintro e w2 ⟨v2, rfl, hn2, hu2⟩
        rw [HVL.out] at hn2
        obtain ⟨x2, c2, rfl, _, _⟩ := hn2.open
        obtain ⟨l2, hl2⟩ : ∃ l, l = (wds (m / 2 ^ N)).length := ⟨_, rfl⟩
        rw [← hl2] at hn2 ⊢
        have hbk := (HC.out wr HI.out.upd).2
        have hb2 := (hu2.block (k0 + 1) (Array.getElem?_eq_some_iff.1 hbk).1 (by simp)).trans hbk
        have hst := store1 (w := w) (x := .slice x2 l2 c2) (by omega) hb2 ((HUW.out wr HI.out.upd).trans0 hu2) hn2
        have k1 := (cell1 hst.1).1
        have kc := (cell1 hb2).1
        have kf := (cell1 hb2).2
        have HST := Lib.hid hst
        clear hl2 hn2 hu2 hb2 hst hbk
        go_wp2
        refine bodyPost_ret (v := .agg #[.slice x2 l2 c2]) (by simp [results, Tryz.results147, go_sem, k1]) rfl ?_
        exact ⟨_, rfl, HST.out.2.1, HST.out.2.2⟩
  · have i3 : decide ((la : Int) - (q : Int) ≤ 0) = true := by simp; omega
    have HZ : Hid (m / 2 ^ N = 0) := by
      show _ = _
      apply Nat.div_eq_of_lt
      have h1 := wds_lt_pow m
      rw [← HLA.out, W_two, ← Nat.pow_mul] at h1
      exact Nat.lt_of_lt_of_le h1 (Nat.pow_le_pow_right (by decide) (by have := HQ.out; omega))
    rw [HZ.out]
    clear hq
    go_enter Tryz.func147, Tryz.ntmps147
    go_wp2
    refine bodyPost_ret (v := .agg #[.slice none 0 0]) (by simp [results, Tryz.results147, go_sem]) rfl ?_
    exact ⟨_, rfl, NV.zero _, ((Upd.refl _ _).alloc _).alloc _⟩
end Go.Proofs.YtoklmfmoblkfcaaGreatDoor

/- Plain mathematics of long division by many words: what holds ahead of each digit, and what the digits come to. -/
namespace Go.Proofs.Tm
set_option linter.unusedVariables false
set_option maxRecDepth 20000

theorem seg_cons (L : List Nat) (f k : Nat) : seg L f (k + 1) = L.getD f 0 + 18446744073709551616 * seg L (f + 1) k := by
  unfold seg
  rcases Nat.lt_or_ge f L.length with h | h
  · rw [List.drop_eq_getElem_cons h, List.take_succ_cons]
    simp [wval, h]
  · rw [List.drop_eq_nil_of_le h, List.drop_eq_nil_of_le (by omega)]
    simp [wval, h]

theorem seg_split (L : List Nat) (f k : Nat) (h : f ≤ L.length) : seg L 0 (f + k) = seg L 0 f + 18446744073709551616 ^ f * seg L f k := by
  unfold seg
  rw [List.drop_zero, List.take_add, wval_append, List.length_take, Nat.min_eq_left h]

theorem seg_whole (L : List Nat) (k : Nat) (h : L.length ≤ k) : seg L 0 k = wval L := by
  unfold seg
  rw [List.drop_zero, List.take_of_length_le h]

/-- The next digit's number is small enough. -/
theorem bw_room {L : List Nat} {f n VB : Nat} (hL : ∀ d ∈ L, d < 18446744073709551616) (h : seg L (f + 1) n < VB) : seg L f (n + 1) < VB * 18446744073709551616 := by
  rw [seg_cons]
  have : L.getD f 0 < 18446744073709551616 := by
    rcases Nat.lt_or_ge f L.length with h1 | h1
    · rw [List.getD_eq_getElem?_getD, List.getElem?_eq_getElem h1]; exact hL _ (List.getElem_mem h1)
    · rw [List.getD_eq_getElem?_getD, List.getElem?_eq_none h1]; decide
  omega

/-- One digit more. -/
theorem bw_step {L L' M : List Nat} {n f VB A d : Nat} (hf : f < M.length) (hfl : f + 1 ≤ L.length) (hl : L'.length = L.length)
    (h : A = wval (M.drop (f + 1)) * VB * 18446744073709551616 ^ (f + 1) + seg L 0 (f + 1 + n)) (hd : d = seg L f (n + 1) / VB) (hs : seg L' f n = seg L f (n + 1) % VB) (hlow : L'.take f = L.take f) :
    A = wval ((M.set f d).drop f) * VB * 18446744073709551616 ^ f + seg L' 0 (f + n) := by
  have e1 : (M.set f d).drop f = d :: M.drop (f + 1) := by
    rw [List.drop_eq_getElem_cons (by simpa using hf), List.drop_set_of_lt (by omega)]
    simp
  have e2 : seg L' 0 f = seg L 0 f := by unfold seg; rw [List.drop_zero, List.drop_zero, hlow]
  rw [e1, seg_split L' f n (by omega), e2, hs, h, show f + 1 + n = f + (n + 1) by omega, seg_split L f (n + 1) (by omega)]
  have e3 := Nat.div_add_mod (seg L f (n + 1)) VB
  rw [← hd] at e3
  have e4 : wval (d :: M.drop (f + 1)) = d + 18446744073709551616 * wval (M.drop (f + 1)) := by simp [wval]
  rw [e4, Nat.pow_succ]
  generalize seg L f (n + 1) % VB = R at *
  generalize seg L f (n + 1) = X at *
  generalize wval (M.drop (f + 1)) = Q at *
  generalize 18446744073709551616 ^ f = Y at *
  rw [← e3]
  have a1 : Y * (VB * d + R) = Y * (VB * d) + Y * R := Nat.mul_add ..
  have a2 : (d + 18446744073709551616 * Q) * VB * Y = d * VB * Y + 18446744073709551616 * Q * VB * Y := by rw [Nat.add_mul, Nat.add_mul]
  have a3 : d * VB * Y = Y * (VB * d) := by rw [Nat.mul_comm (d * VB) Y, Nat.mul_comm d VB]
  have a4 : Q * VB * (Y * 18446744073709551616) = 18446744073709551616 * Q * VB * Y := by
    rw [← Nat.mul_assoc, Nat.mul_comm (Q * VB * Y), ← Nat.mul_assoc, ← Nat.mul_assoc]
  omega

/-- At the first digit the words above are less than the divisor. -/
theorem bw_first {L : List Nat} {a s la c n VB : Nat} (hl : c ≤ L.length) (hw : wval L = a * 2 ^ s) (ha : a < 18446744073709551616 ^ la) (hc : c + n = la + 1) (hn : 1 ≤ n) (hlen : L.length = la + 1) (hs : s ≤ 63)
    (hV : 2 ^ 63 * 18446744073709551616 ^ (n - 1) ≤ VB) : seg L c n < VB := by
  have h1 := seg_split L c n hl
  rw [seg_whole L (c + n) (by omega), hw] at h1
  have h2 : 18446744073709551616 ^ la = 18446744073709551616 ^ c * 18446744073709551616 ^ (n - 1) := by rw [← Nat.pow_add]; congr 1; omega
  have h3 : (2 : Nat) ^ s ≤ 2 ^ 63 := Nat.pow_le_pow_right (by decide) hs
  have h4 : a * 2 ^ s < 18446744073709551616 ^ c * (18446744073709551616 ^ (n - 1) * 2 ^ 63) := by
    rw [← Nat.mul_assoc, ← h2]
    exact Nat.lt_of_le_of_lt (Nat.mul_le_mul_left _ h3) (Nat.mul_lt_mul_of_pos_right ha (by decide))
  have h5 : 18446744073709551616 ^ c * seg L c n < 18446744073709551616 ^ c * (18446744073709551616 ^ (n - 1) * 2 ^ 63) := Nat.lt_of_le_of_lt (by omega) h4
  have h6 := Nat.lt_of_mul_lt_mul_left h5
  rw [Nat.mul_comm] at hV
  omega

/-- The divisor, raised till its highest bit is set: it has as many words as before. -/
theorem bw_by {b n t s : Nat} (hn : 1 ≤ n) (ht : t = b / 18446744073709551616 ^ (n - 1)) (h1 : 2 ^ 63 ≤ t * 2 ^ s) (h2 : t * 2 ^ s < 18446744073709551616) (hs : s ≤ 63) :
    2 ^ 63 * 18446744073709551616 ^ (n - 1) ≤ b * 2 ^ s ∧ b * 2 ^ s < 18446744073709551616 ^ n := by
  have hp := Nat.pow_pos (n := n - 1) (show 0 < 18446744073709551616 by decide)
  have e : 18446744073709551616 ^ n = 18446744073709551616 ^ (n - 1) * 18446744073709551616 := by rw [← Nat.pow_succ]; congr 1; omega
  have h3 := Nat.div_add_mod b (18446744073709551616 ^ (n - 1))
  have h4 := Nat.mod_lt b hp
  rw [← ht] at h3
  rw [e]
  generalize 18446744073709551616 ^ (n - 1) = Y at *
  generalize b % Y = R at *
  obtain ⟨S, hS⟩ : ∃ S, S = 2 ^ s := ⟨_, rfl⟩
  have hdv : 18446744073709551616 = 2 ^ (64 - s) * S := by rw [hS, ← Nat.pow_add, show 64 - s + s = 64 by omega]
  rw [← hS] at h1 h2 ⊢
  have hS0 : 0 < S := by rw [hS]; exact Nat.pow_pos (by decide)
  have ht2 : t + 1 ≤ 2 ^ (64 - s) := by
    rw [hdv] at h2
    exact Nat.lt_of_mul_lt_mul_right h2
  constructor
  · calc 2 ^ 63 * Y ≤ t * S * Y := Nat.mul_le_mul_right _ h1
      _ = Y * t * S := by rw [Nat.mul_comm (t * S) Y, Nat.mul_assoc]
      _ ≤ b * S := Nat.mul_le_mul_right _ (by omega)
  · have h5 : b < Y * (t + 1) := by rw [Nat.mul_add, Nat.mul_one]; omega
    calc b * S < Y * (t + 1) * S := Nat.mul_lt_mul_of_pos_right h5 hS0
      _ ≤ Y * 2 ^ (64 - s) * S := Nat.mul_le_mul_right _ (Nat.mul_le_mul_left _ ht2)
      _ = Y * 18446744073709551616 := by rw [Nat.mul_assoc, ← hdv]

/-- What all the digits come to. -/
theorem bw_end {a b s Q R : Nat} (hb : 0 < b) (h : a * 2 ^ s = Q * (b * 2 ^ s) + R) (hR : R < b * 2 ^ s) : Q = a / b ∧ R / 2 ^ s = a % b := by
  have hp : 0 < 2 ^ s := Nat.pow_pos (by decide)
  generalize 2 ^ s = S at *
  have e1 : R % S = 0 := by
    have h1 : (Q * (b * S) + R) % S = 0 := by rw [← h]; exact Nat.mul_mod_left _ _
    rw [← Nat.mul_assoc, Nat.add_comm, Nat.add_mul_mod_self_right] at h1
    exact h1
  obtain ⟨r, hr⟩ : ∃ r, R = r * S := ⟨R / S, by have := Nat.div_add_mod R S; rw [e1, Nat.mul_comm] at this; omega⟩
  subst hr
  rw [Nat.mul_div_cancel _ hp]
  have e2 : a = Q * b + r := by
    rw [← Nat.mul_assoc, ← Nat.add_mul] at h
    exact Nat.eq_of_mul_eq_mul_right hp h
  have e3 : r < b := Nat.lt_of_mul_lt_mul_right hR
  subst e2
  constructor
  · rw [Nat.mul_comm, Nat.mul_add_div hb, Nat.div_eq_of_lt e3, Nat.add_zero]
  · rw [Nat.mul_comm, Nat.mul_add_mod, Nat.mod_eq_of_lt e3]
end Go.Proofs.Tm

/- The contract of nat.byWords (layer 5). -/
namespace Go.Proofs.YtoklmfmoblkfcaaGreatDoor
open Go.RowKit Go.Proofs.Tm Go.Shelf
set_option linter.unusedVariables false
set_option linter.unusedSimpArgs false
set_option maxRecDepth 20000
attribute [local go_sem] Oper.semAt_some

/-- Both numbers, raised; the places where their slices stand. -/
structure ByA (w5 W : World) (p8 p9 gA gB la n1 x y : Nat) (LA LB : List Nat) : Prop where
  c8 : W.cell? ⟨p8, 0, none⟩ = some (.slice (some ⟨gA, 0, none⟩) (la + 1) (la + 1))
  c9 : W.cell? ⟨p9, 0, none⟩ = some (.slice (some ⟨gB, 0, none⟩) (n1 + 1) (n1 + 1 + 1))
  lo : w5.heap.size ≤ p8 ∧ w5.heap.size ≤ p9 ∧ w5.heap.size ≤ gA ∧ w5.heap.size ≤ gB
  ne : p8 ≠ p9 ∧ p8 ≠ gA ∧ p8 ≠ gB ∧ p9 ≠ gA ∧ p9 ≠ gB ∧ gA ≠ gB
  own : W.ownsRow w5.heap.size 64 1 (.slice (some ⟨gA, 0, none⟩) (la + 1) (la + 1)) (la + 1) (cu64 LA)
  rb : W.ownsRow w5.heap.size 64 1 (.slice (some ⟨gB, 0, none⟩) (n1 + 1 + 1) (n1 + 1 + 1)) (n1 + 1 + 1) (cu64 LB)
  words : LA.length = la + 1 ∧ (∀ d ∈ LA, d < 18446744073709551616) ∧ wval LA = x ∧ LB.length = n1 + 1 + 1 ∧ (∀ d ∈ LB, d < 18446744073709551616) ∧ wval LB = y
  upd : Upd [] w5 W

theorem ownsRow_low {w : World} {base base' : Nat} {e : TypeId} {size : Nat} {v : Value} {n : Nat} {xs : List Value} (h : w.ownsRow base e size v n xs) (hb : base' ≤ base) : w.ownsRow base' e size v n xs := by
  refine ⟨h.1, ?_⟩
  rcases h.2 with h2 | ⟨g, cap, cur, rfl, hg, rest⟩
  · exact .inl h2
  · exact .inr ⟨g, cap, cur, rfl, Nat.le_trans hb hg, rest⟩

theorem ByA.of {w5 W wA wB vA vB : World} {p8 p9 gA gB la n1 x y : Nat} {LA LB : List Nat} (rA : WRow vA gA (la + 1) LA wA) (rB : WRow vB gB (n1 + 1 + 1) LB wB) (hA : wval LA = x) (hB : wval LB = y) (sA : w5.heap.size ≤ vA.heap.size) (sB : w5.heap.size ≤ vB.heap.size)
    (c8 : W.cell? ⟨p8, 0, none⟩ = some (.slice (some ⟨gA, 0, none⟩) (la + 1) (la + 1))) (c9 : W.cell? ⟨p9, 0, none⟩ = some (.slice (some ⟨gB, 0, none⟩) (n1 + 1) (n1 + 1 + 1)))
    (lo : w5.heap.size ≤ p8 ∧ w5.heap.size ≤ p9 ∧ w5.heap.size ≤ gA ∧ w5.heap.size ≤ gB) (ne : p8 ≠ p9 ∧ p8 ≠ gA ∧ p8 ≠ gB ∧ p9 ≠ gA ∧ p9 ≠ gB ∧ gA ≠ gB)
    (uA : Upd [p8, p9] wA W) (uB : Upd [p8, p9] wB W) (u : Upd [] w5 W) : ByA w5 W p8 p9 gA gB la n1 x y LA LB := by
  obtain ⟨n1', n2, n3, n4, n5, n6⟩ := ne
  refine ⟨c8, c9, lo, ⟨n1', n2, n3, n4, n5, n6⟩, ownsRow_upd (ownsRow_low rA.own sA) uA (fun k hk => ?_), ownsRow_upd (ownsRow_low rB.own sB) uB (fun k hk => ?_), ⟨rA.len, rA.lt, hA, rB.len, rB.lt, hB⟩, u⟩
  · simp [Value.ownBlock] at hk
    subst hk
    simp only [List.mem_cons, List.not_mem_nil, or_false, not_or]
    omega
  · simp [Value.ownBlock] at hk
    subst hk
    simp only [List.mem_cons, List.not_mem_nil, or_false, not_or]
    omega

/-- Between two rounds of byWords. -/
structure BsI (w5 w0 : World) (q gA c la n1 VB A k : Nat) (gd' : Prop) (L M : List Nat) (W : World) : Prop where
  ownA : W.ownsRow w5.heap.size 64 1 (.slice (some ⟨gA, 0, none⟩) (la + 1) (la + 1)) (la + 1) (cu64 L)
  lenA : L.length = la + 1
  ltA : ∀ d ∈ L, d < 18446744073709551616
  ownM : W.ownsRow w5.heap.size 64 1 (.slice (some ⟨q, 0, none⟩) c c) c (cu64 M)
  lenM : M.length = c
  ltM : ∀ d ∈ M, d < 18446744073709551616
  upd : Upd [gA, q] w0 W
  good : gd' → A = wval (M.drop (c - k)) * VB * 18446744073709551616 ^ (c - k) + seg L 0 (c - k + (n1 + 1)) ∧ seg L (c - k) (n1 + 1) < VB

def BsIn (w5 w0 : World) (q gA c la n1 VB A : Nat) (pre : List (Fin c × Int)) (W : World) : Prop :=
  ∃ L M, BsI w5 w0 q gA c la n1 VB A pre.length (Good (pre.map Prod.fst)) L M W

theorem BsIn.from (w5 w0 : World) (q gA c la n1 VB A : Nat) (hq : q < w0.heap.size) (hg : gA < w0.heap.size) : OwnFrom w0.heap.size (BsIn w5 w0 q gA c la n1 VB A) := fun s X Y row hs hgr hr => by
  obtain ⟨L, M, h⟩ := hs
  have hk : ∀ k, k < w0.heap.size → Y.heap[k]? = X.heap[k]? := fun k hk => hgr.block k (Nat.lt_of_lt_of_le hk h.upd.size) (fun e => by have := (hr k e.symm).1; omega)
  refine ⟨L, M, ownsRow_kept h.ownA (fun k e => ?_), h.lenA, h.ltA, ownsRow_kept h.ownM (fun k e => ?_), h.lenM, h.ltM, h.upd.grown hgr (fun k e => .inr (hr k e).1), h.good⟩
  · simp [Value.ownBlock] at e
    subst e
    exact hk _ hg
  · simp [Value.ownBlock] at e
    subst e
    exact hk _ hq

/-- What is no cells is as it was. -/
theorem keeps_updS {S : List Nat} {X Y : World} (u : Upd S X Y) (h : ∀ k ∈ S, ∃ cs t f, X.heap[k]? = some (.cells cs t f)) : KeepsOthers X Y :=
  ⟨u.size, fun k o hk ho => by
    by_cases hS : k ∈ S
    · obtain ⟨cs, t, f, hc⟩ := h k hS
      rw [hc] at hk
      cases hk
      cases ho
    · exact (u.block k (Array.getElem?_eq_some_iff.1 hk).1 hS).trans hk⟩
theorem own_cells {w : World} {base : Nat} {e : TypeId} {g len cap n : Nat} {xs : List Value} (h : w.ownsRow base e 1 (.slice (some ⟨g, 0, none⟩) len cap) n xs) : ∃ cs t f, w.heap[g]? = some (.cells cs t f) := by
  rcases h.2 with h2 | ⟨g', cap', cur, hv, hb, hg, _⟩
  · exact absurd h2.1 (by simp)
  · cases hv
    exact ⟨_, _, _, hg⟩

theorem slice_mid_run (g j m la k : Nat) (hj : j ≤ m) (hm : m ≤ la) (hk : k = m - j) (h1 : j < la) (W : World) : (Instr.slice 22 (.slice (some ⟨g, 0, none⟩) la la) (some (.int .i64 (j : Int))) (some (.int .i64 (m : Int))) none).run Tryz.prog W = .ok (.slice (some ⟨g, j, none⟩) k (la - j)) W := by
  subst hk
  rw [run_slice_lh (P := Tryz.prog) W 22 (some ⟨g, 0, none⟩) la la Tryz.underlying22 .i64 .i64 (j : Int) (m : Int) (by omega) (by omega) (by omega)]
  have hsz : ∀ W : World, (sizeOf (Tryz.prog.elem 22)).run Tryz.prog W = .ok 1 W := fun W => by kernel_rfl
  have hne : ¬ la = j := by omega
  simp [sliced, Result.andThen, hsz, Addr.add, hne]
  try (intro h9; exact h9.symm)

theorem facts_of_upd {X A : World} (u : Upd [] X A) : (∀ k, k < X.heap.size → A.cell? ⟨k, 0, none⟩ = X.cell? ⟨k, 0, none⟩) ∧ (∀ k, k < X.heap.size → A.frozen? ⟨k, 0, none⟩ = X.frozen? ⟨k, 0, none⟩) ∧ X.heap.size ≤ A.heap.size :=
  ⟨fun k hk => u.cell (p := ⟨k, 0, none⟩) hk (by simp), fun k hk => u.frozen (p := ⟨k, 0, none⟩) hk (by simp), u.size⟩

theorem wds_le {m n : Nat} (h : m ≤ n) : (wds m).length ≤ (wds n).length := by
  rw [wds_length_le_iff]
  exact Nat.lt_of_le_of_lt h ((wds_length_le_iff _ _).1 (Nat.le_refl _))

set_option maxRecDepth 100000 in
set_option maxHeartbeats 3200000 in
theorem byWords_fresh (u v : Value) (a b : Nat) (w : World) (hu : NV w u a) (hv : NV w v b) (hn : 2 ≤ (wds b).length) (hab : b ≤ a) (hlen : (wds a).length ≤ 1073741824) :
    Calls Tryz.prog 122 #[u, v] w (RNat2F (a / b) (a % b) w) := by
  obtain ⟨aa, ca, rfl, hla, hca⟩ := hu.open
  obtain ⟨ab, cb, rfl, hlb, hcb⟩ := hv.open
  unfold maxLen at hca hcb
  have HA := Lib.hid hu
  have HB := Lib.hid hv
  obtain ⟨la, hla'⟩ : ∃ l, l = (wds a).length := ⟨_, rfl⟩
  obtain ⟨n, hn'⟩ : ∃ l, l = (wds b).length := ⟨_, rfl⟩
  have hnla : n ≤ la := by rw [hn', hla']; exact wds_le hab
  rw [← hla'] at hlen hla HA ⊢
  rw [← hn'] at hn hlb HB ⊢
  have HLA := Lib.hid hla'
  have HN := Lib.hid hn'
  clear hu hv hla' hn'
  refine (callsIn_wide (n := 3)).1 ?_
  refine callsIn_of_wp_marks Tryz.func122 rfl trivial ?_ rfl
  simp only [Tryz.ntmps122, List.size_toArray, List.length_cons, List.length_nil, Nat.reduceAdd, Nat.reduceSub, Array.replicate_succ, Array.replicate_zero, List.push_toArray, List.append_toArray, List.nil_append, List.cons_append]
  obtain ⟨n1, rfl⟩ : ∃ k, n = k + 1 := ⟨n - 1, by omega⟩
  obtain ⟨x, o, cb', hv, hc⟩ := sl_at (w := w) HB.out.sl (by intro h; have := congrArg List.length h; rw [cu64_length, ← HN.out] at this; simp at this)
  obtain ⟨rfl, rfl⟩ : ab = some ⟨x, o, none⟩ ∧ cb = cb' := by simp at hv; exact ⟨hv.1, hv.2.2⟩
  have ky := hc n1 (by rw [cu64_length, ← HN.out]; omega)
  rw [cu64_getD _ _ (by rw [← HN.out]; omega)] at ky
  obtain ⟨t, ht⟩ : ∃ t, t = (wds b).getD n1 0 := ⟨_, rfl⟩
  rw [← ht] at ky
  have hxw := World.block_lt_of_cell? w _ ky
  have k5 : (((((w.alloc (.cells #[.slice aa la ca] 27)).alloc (.cells #[.slice (some ⟨x, o, none⟩) (n1 + 1) cb] 27)).alloc (.cells #[.slice none 0 0] 27)).alloc (.cells #[.slice none 0 0] 27)).alloc (.cells #[.int .i64 ((n1 : Int) + 1)] 3)).cell? ⟨x, o + n1, none⟩ = some (.int .u64 (t : Int)) :=
    ((((((Upd.refl [] w).alloc _).alloc _).alloc _).alloc _).alloc _ |>.cell (p := ⟨x, o + n1, none⟩) hxw (by simp)).trans ky
  have i1 : (0 : Int) ≤ (n1 : Int) := by omega
  have i2 : (n1 : Int) < ((n1 + 1 : Nat) : Int) := by omega
  have HT := Lib.hid ht
  have htd : t = b / 18446744073709551616 ^ n1 := by
    rw [ht, wds_getD, Nat.mod_eq_of_lt]
    rw [Nat.div_lt_iff_lt_mul (Nat.pow_pos (by decide)), ← Nat.pow_succ']
    exact (wds_length_le_iff b (n1 + 1)).1 (by rw [← HN.out]; exact Nat.le_refl _)
  have ht0 : t ≠ 0 := by
    rw [htd]
    intro h0
    have h1 : b < 18446744073709551616 ^ n1 := by
      rcases Nat.lt_or_ge b (18446744073709551616 ^ n1) with h | h
      · exact h
      · have := (Nat.le_div_iff_mul_le (Nat.pow_pos (show 0 < 18446744073709551616 by decide))).2 (show 1 * 18446744073709551616 ^ n1 ≤ b by omega); omega
    have := (wds_length_le_iff b n1).2 h1
    rw [← HN.out] at this; omega
  have ht1 : t < 18446744073709551616 := by rw [ht]; exact getD_lt (wds_lt b) n1
  obtain ⟨s, hs63, hsb, hs1, hs2⟩ := lz_spec t ht0 ht1
  obtain ⟨HV1, HV2⟩ := bw_by (b := b) (n := n1 + 1) (s := s) (by omega) htd hs1 hs2 hs63
  have HV1 := Lib.hid HV1
  have HV2 := Lib.hid HV2
  have HSB := Lib.hid hsb
  clear hc hv ky ht htd hsb hs1 hs2
  gi_wp2_with (refine ⟨trivial, ?_⟩; gi_at_call 145; refine (callsIn_wide.2 (Tryz.bits_LeadingZeros64 (t : Int) _ (by omega) (by omega))).mono ?_; rintro e w' ⟨rfl, rfl⟩; rw [Int.toNat_natCast, HSB.out])
  obtain ⟨S, hS⟩ : ∃ S, S = w.heap.size := ⟨_, rfl⟩
  have HS0 := Lib.hid hS
  obtain ⟨w5, hw5⟩ : ∃ W, W = (((((w.alloc (.cells #[.slice aa la ca] 27)).alloc (.cells #[.slice (some ⟨x, o, none⟩) (n1 + 1) cb] 27)).alloc (.cells #[.slice none 0 0] 27)).alloc (.cells #[.slice none 0 0] 27)).alloc (.cells #[.int .i64 ((n1 : Int) + 1)] 3)) := ⟨_, rfl⟩
  rw [← hw5, ← hS]
  have hz : w5.heap.size = S + 1 + 1 + 1 + 1 + 1 := by rw [hw5]; simp [hS]
  have hb0 : w5.heap[S]? = some (.cells #[.slice aa la ca] 27 (0, 0)) := by rw [hw5, hS, Below.heap_alloc _ _ _ (by simp <;> omega), Below.heap_alloc _ _ _ (by simp <;> omega), Below.heap_alloc _ _ _ (by simp <;> omega), Below.heap_alloc _ _ _ (by simp <;> omega), alloc_nth _ _ _ _ (by simp)]
  have hb1 : w5.heap[S + 1]? = some (.cells #[.slice (some ⟨x, o, none⟩) (n1 + 1) cb] 27 (0, 0)) := by rw [hw5, hS, Below.heap_alloc _ _ _ (by simp <;> omega), Below.heap_alloc _ _ _ (by simp <;> omega), Below.heap_alloc _ _ _ (by simp <;> omega), alloc_nth _ _ _ _ (by simp)]
  have hb2 : w5.heap[S + 1 + 1]? = some (.cells #[.slice none 0 0] 27 (0, 0)) := by rw [hw5, hS, Below.heap_alloc _ _ _ (by simp <;> omega), Below.heap_alloc _ _ _ (by simp <;> omega), alloc_nth _ _ _ _ (by simp)]
  have hb3 : w5.heap[S + 1 + 1 + 1]? = some (.cells #[.slice none 0 0] 27 (0, 0)) := by rw [hw5, hS, Below.heap_alloc _ _ _ (by simp <;> omega), alloc_nth _ _ _ _ (by simp)]
  have hb4 : w5.heap[S + 1 + 1 + 1 + 1]? = some (.cells #[.int .i64 ((n1 : Int) + 1)] 3 (0, 0)) := by rw [hw5, hS, alloc_nth _ _ _ _ (by simp)]
  have hU5 : Upd [] w w5 := by rw [hw5]; exact (((((Upd.refl _ _).alloc _).alloc _).alloc _).alloc _).alloc _
  have HC5 : Hid (∀ W, Upd [] w5 W → W.cell? ⟨S, 0, none⟩ = some (.slice aa la ca) ∧ W.cell? ⟨S + 1, 0, none⟩ = some (.slice (some ⟨x, o, none⟩) (n1 + 1) cb) ∧ W.cell? ⟨S + 1 + 1 + 1 + 1, 0, none⟩ = some (.int .i64 ((n1 : Int) + 1)) ∧ Upd [] w5 W) := fun W h =>
    ⟨(h.cell (p := ⟨S, 0, none⟩) (by show S < _; omega) (by simp)).trans (by rw [cell_of_row w5 _ 0 _ _ _ hb0]; rfl), (h.cell (p := ⟨S + 1, 0, none⟩) (by show S + 1 < _; omega) (by simp)).trans (by rw [cell_of_row w5 _ 0 _ _ _ hb1]; rfl), (h.cell (p := ⟨S + 1 + 1 + 1 + 1, 0, none⟩) (by show S + 1 + 1 + 1 + 1 < _; omega) (by simp)).trans (by rw [cell_of_row w5 _ 0 _ _ _ hb4]; rfl), h⟩
  have HU5 := Lib.hid hU5
  have HB2 := Lib.hid hb2
  have HB3 := Lib.hid hb3
  have HZ := Lib.hid hz
  have HUPA : Hid (∀ W, Upd [] w5 W → Calls Tryz.prog 100 #[.slice aa la ca, .int .i64 (s : Int)] W fun e w' => ∃ g L, e = .returned (.slice (some ⟨g, 0, none⟩) (la + 1) (la + 1)) ∧ W.heap.size ≤ g ∧ WRow W g (la + 1) L w' ∧ wval L = a * 2 ^ s) := fun W h => by
    have h1 := up_any _ (wds a) s W ((HA.out.upd0 (HU5.out.trans0 h)).sl) (wds_lt a) (by rw [← HLA.out]; omega) (by omega)
    unfold UpPost at h1
    rw [← HLA.out, show s / 64 = 0 by omega, wval_wds] at h1
    exact h1.mono fun e w' ⟨g, L, h2, h3, h4, h5, _⟩ => ⟨g, L, h2, h3, h4, h5⟩
  have HUPB : Hid (∀ W, Upd [] w5 W → Calls Tryz.prog 100 #[.slice (some ⟨x, o, none⟩) (n1 + 1) cb, .int .i64 (s : Int)] W fun e w' => ∃ g L, e = .returned (.slice (some ⟨g, 0, none⟩) (n1 + 1 + 1) (n1 + 1 + 1)) ∧ W.heap.size ≤ g ∧ WRow W g (n1 + 1 + 1) L w' ∧ wval L = b * 2 ^ s) := fun W h => by
    have h1 := up_any _ (wds b) s W ((HB.out.upd0 (HU5.out.trans0 h)).sl) (wds_lt b) (by rw [← HN.out]; omega) (by omega)
    unfold UpPost at h1
    rw [← HN.out, show s / 64 = 0 by omega, wval_wds] at h1
    exact h1.mono fun e w' ⟨g, L, h2, h3, h4, h5, _⟩ => ⟨g, L, h2, h3, h4, h5⟩
  have hrf : Upd [] w5 w5 := Upd.refl _ _
  obtain ⟨hc0, hc1, hc4, _⟩ := HC5.out w5 hrf
  clear hw5 hS hz hb0 hb1 hb2 hb3 hb4 hU5 k5 hxw
  have hns : ∀ (g : Nat) (W : World), (Instr.slice 22 (.slice (some ⟨g, 0, none⟩) (n1 + 1 + 1) (n1 + 1 + 1)) none (some (.int .i64 ((n1 : Int) + 1))) none).run Tryz.prog W = .ok (.slice (some ⟨g, 0, none⟩) (n1 + 1) (n1 + 1 + 1)) W := fun g W => by
    rw [run_slice_h (P := Tryz.prog) W 22 (some ⟨g, 0, none⟩) (n1 + 1 + 1) (n1 + 1 + 1) Tryz.underlying22 .i64 ((n1 : Int) + 1) (by omega) (by omega)]
    have hsz : ∀ W : World, (sizeOf (Tryz.prog.elem 22)).run Tryz.prog W = .ok 1 W := fun W => by kernel_rfl
    simp [sliced, Result.andThen, show ((n1 : Int) + 1).toNat = n1 + 1 by omega, hsz, Addr.add]
  have hal : ∀ (W : World) (o : Obj) (k : Nat), k < W.heap.size → (W.alloc o).cell? ⟨k, 0, none⟩ = W.cell? ⟨k, 0, none⟩ := fun W o k hk => World.cell?_of_block (w := W) (Below.heap_alloc _ _ _ hk)
  have haf : ∀ (W : World) (o : Obj) (k : Nat), k < W.heap.size → (W.alloc o).frozen? ⟨k, 0, none⟩ = W.frozen? ⟨k, 0, none⟩ := fun W o k hk => World.frozen?_of_block (w := W) (Below.heap_alloc _ _ _ hk)
  refine wpIn_wide.2 ?_
  go_cut [8, 9] from 12 to 60 (fun v8 v9 wx => ∃ (p8 p9 gA gB : Nat) (LA LB : List Nat), v8 = .pointer (some ⟨p8, 0, none⟩) ∧ v9 = .pointer (some ⟨p9, 0, none⟩) ∧ Hid (ByA w5 wx p8 p9 gA gB la n1 (a * 2 ^ s) (b * 2 ^ s) LA LB))
  case first =>
    go_region_held3 (fun A => A.cell? ⟨S, 0, none⟩ = some (.slice aa la ca) ∧ A.cell? ⟨S + 1, 0, none⟩ = some (.slice (some ⟨x, o, none⟩) (n1 + 1) cb) ∧ A.cell? ⟨S + 1 + 1 + 1 + 1, 0, none⟩ = some (.int .i64 ((n1 : Int) + 1)) ∧ Upd [] w5 A)
      ((refine HC5.out _ ?_; (repeat' (first | (with_reducible exact huB) | (with_reducible exact huA) | (with_reducible exact hrf) | (with_reducible refine Upd.drew ?_) | (with_reducible refine Upd.alloc ?_ _) | (with_reducible refine Upd.setCell ?_ (.inr ?_) _) | exact huA.size | exact huB.size | exact (huA.alloc _).size | exact (huB.alloc _).size | exact Nat.le_succ_of_le huA.size | exact Nat.le_succ_of_le huB.size | exact Nat.le_refl _ | exact Nat.le_succ _))))
      (first
        | (go_at_call 100; (with_reducible refine Calls.mono (HUPA.out _ ?_) ?_); (focus ((repeat (first | (with_reducible exact huB) | (with_reducible exact hrf) | (with_reducible refine Upd.drew ?_) | (with_reducible refine Upd.alloc ?_ _))); done)); rintro e wA ⟨gA, LA, rfl, hgA, hrA, hvA⟩; obtain ⟨hcA, hfA, hszA⟩ := facts_of_upd hrA.upd; (try simp only [World.size_alloc, World.size_drew] at hszA); (try have hlA : wB.heap.size < wA.heap.size := by omega); (try have hl2A : wB.heap.size + 1 < wA.heap.size := by omega); (try have hl3A : w5.heap.size < wA.heap.size := by omega); (try have hl4A : w5.heap.size + 1 < wA.heap.size := by omega); have HGA := Lib.hid hgA; have HRA := Lib.hid hrA; have HVA := Lib.hid hvA; have huA : Upd [] w5 wA := Upd.trans0 (by (repeat (first | (with_reducible exact huB) | (with_reducible exact hrf) | (with_reducible refine Upd.drew ?_) | (with_reducible refine Upd.alloc ?_ _)))) hrA.upd; clear hgA hrA hvA)
        | (go_at_call 100; (with_reducible refine Calls.mono (HUPB.out _ ?_) ?_); (focus ((repeat (first | (with_reducible exact huA) | (with_reducible exact hrf) | (with_reducible refine Upd.drew ?_) | (with_reducible refine Upd.alloc ?_ _))); done)); rintro e wB ⟨gB, LB, rfl, hgB, hrB, hvB⟩; obtain ⟨hcB, hfB, hszB⟩ := facts_of_upd hrB.upd; (try simp only [World.size_alloc, World.size_drew] at hszB); (try have hlB : wA.heap.size < wB.heap.size := by omega); (try have hl2B : wA.heap.size + 1 < wB.heap.size := by omega); (try have hl3B : w5.heap.size < wB.heap.size := by omega); (try have hl4B : w5.heap.size + 1 < wB.heap.size := by omega); have HGB := Lib.hid hgB; have HRB := Lib.hid hrB; have HVB := Lib.hid hvB; have huB : Upd [] w5 wB := Upd.trans0 (by (repeat (first | (with_reducible exact huA) | (with_reducible exact hrf) | (with_reducible refine Upd.drew ?_) | (with_reducible refine Upd.alloc ?_ _)))) hrB.upd; clear hgB hrB hvB))
    all_goals
      go_wp2_with fail
      go_meet
      have rA := HRA.out
      have rB := HRB.out
      have gAl := HGA.out
      have gBl := HGB.out
      have lA := (rA.own.lt gA rfl).2
      have lB := (rB.own.lt gB rfl).2
      simp only [World.size_alloc, World.size_drew] at gAl gBl
      have uA := huA.size
      have uB := huB.size
      refine ⟨_, _, gA, gB, LA, LB, rfl, rfl, Lib.hid (ByA.of rA rB HVA.out HVB.out (by first | exact Nat.le_refl _ | omega | (simp <;> omega)) (by first | exact Nat.le_refl _ | omega | (simp <;> omega)) ?_ ?_ ⟨by (first | omega | (simp <;> omega)), by (first | omega | (simp <;> omega)), by omega, by omega⟩ ⟨by (first | omega | (simp <;> omega)), by (first | omega | (simp <;> omega)), by (first | omega | (simp <;> omega)), by (first | omega | (simp <;> omega)), by (first | omega | (simp <;> omega)), by omega⟩ ?_ ?_ ?_)⟩
      · (try go_simp) <;> first
          | exact set_cell (show _ = some (Value.slice none 0 0) by go_simp)
          | (rw [World.cell?_setCell_far _ _ _ _ (by show _ ≠ _; omega)]; exact set_cell (show _ = some (Value.slice none 0 0) by go_simp))
      · (try go_simp) <;> first
          | exact set_cell (show _ = some (Value.slice none 0 0) by go_simp)
          | (rw [World.cell?_setCell_far _ _ _ _ (by show _ ≠ _; omega)]; exact set_cell (show _ = some (Value.slice none 0 0) by go_simp))
      · (repeat' (first | (with_reducible exact Upd.refl _ _) | (with_reducible refine Upd.drew ?_) | (with_reducible refine Upd.alloc ?_ _) | (with_reducible refine Upd.setCell ?_ (.inl (by simp)) _) | (with_reducible refine Upd.mono (Upd.trans0 ?_ rB.upd) (by simp)) | (with_reducible refine Upd.mono (Upd.trans0 ?_ rA.upd) (by simp))))
      · (repeat' (first | (with_reducible exact Upd.refl _ _) | (with_reducible refine Upd.drew ?_) | (with_reducible refine Upd.alloc ?_ _) | (with_reducible refine Upd.setCell ?_ (.inl (by simp)) _) | (with_reducible refine Upd.mono (Upd.trans0 ?_ rB.upd) (by simp)) | (with_reducible refine Upd.mono (Upd.trans0 ?_ rA.upd) (by simp))))
      · (repeat' (first | (with_reducible exact huB) | (with_reducible exact huA) | (with_reducible exact hrf) | (with_reducible refine Upd.drew ?_) | (with_reducible refine Upd.alloc ?_ _) | (with_reducible refine Upd.setCell ?_ (.inr ?_) _) | exact huA.size | exact huB.size | exact (huA.alloc _).size | exact (huB.alloc _).size | exact Nat.le_succ_of_le huA.size | exact Nat.le_succ_of_le huB.size | exact Nat.le_refl _ | exact Nat.le_succ _))
  case rest =>
    obtain ⟨p8, p9, gA, gB, LA, LB, rfl, rfl, HBY⟩ := hcut
    obtain ⟨hc0, hc1, hc4, hu5⟩ := HC5.out wc HBY.out.upd
    have hc8 := HBY.out.c8
    have hc9 := HBY.out.c9
    obtain ⟨c, hcd⟩ : ∃ c, c = la - n1 := ⟨_, rfl⟩
    have hsc : ((la : Int) + 1) - ((n1 : Int) + 1) = (c : Int) := by omega
    have hsc2 : (((la + 1 : Nat) : Int)) - ((n1 : Int) + 1) = (c : Int) := by omega
    have hc1c : 1 ≤ c := by omega
    have hcl : c + n1 ≤ la := by omega
    have hcl2 : la ≤ c + n1 := by omega
    have hmk := make_run c (by omega)
    clear hcd hu5
    gi_wp2_with (refine ⟨trivial, ?_⟩; gi_at_call 71; refine (callsIn_wide.2 (backward_any _ _ _ _)).mono ?_; rintro e w' ⟨rfl, rfl⟩)
    obtain ⟨q, hq⟩ : ∃ q, q = wc.heap.size := ⟨_, rfl⟩
    obtain ⟨w0, hw0⟩ : ∃ W, W = ((wc.alloc (.cells (madeCells #[.int .u64 0] c) 64)).alloc (.cells #[.slice (some ⟨q, 0, none⟩) c c] 22)).alloc (.cells #[.slice (some ⟨q, 0, none⟩) c c] 22) := ⟨_, rfl⟩
    rw [← hq, ← hw0]
    have hz : w0.heap.size = q + 1 + 1 + 1 := by rw [hw0]; simp [hq]
    have hb0 : w0.heap[q]? = some (.cells (madeCells #[.int .u64 0] c) 64 (0, 0)) := by rw [hw0, hq, Below.heap_alloc _ _ _ (by simp <;> omega), Below.heap_alloc _ _ _ (by simp <;> omega), alloc_nth _ _ _ _ (by simp)]
    have hb1 : w0.heap[q + 1]? = some (.cells #[.slice (some ⟨q, 0, none⟩) c c] 22 (0, 0)) := by rw [hw0, hq, Below.heap_alloc _ _ _ (by simp <;> omega), alloc_nth _ _ _ _ (by simp)]
    have hb2 : w0.heap[q + 1 + 1]? = some (.cells #[.slice (some ⟨q, 0, none⟩) c c] 22 (0, 0)) := by rw [hw0, hq, alloc_nth _ _ _ _ (by simp)]
    have hU0 : Upd [] wc w0 := by rw [hw0]; exact (((Upd.refl _ _).alloc _).alloc _).alloc _
    have hown : w0.ownsRow w5.heap.size 64 1 (.slice (some ⟨q, 0, none⟩) c c) c (cu64 (List.replicate c 0)) := by
      refine ⟨by simp, .inr ⟨q, c, _, rfl, by rw [hq]; exact HBY.out.upd.size, hb0, Nat.le_refl _, by unfold maxLen; omega, by have := size_madeCells #[Value.int .u64 0] c; simpa using this, ?_⟩⟩
      have := madeCells_one (.int .u64 0) rfl c
      rw [show (Value.int IntKind.u64 0).cells = #[Value.int .u64 0] from rfl] at this
      rw [this, List.take_replicate, cu64_zero]
      congr 1
      omega
    have hownA : w0.ownsRow w5.heap.size 64 1 (.slice (some ⟨gA, 0, none⟩) (la + 1) (la + 1)) (la + 1) (cu64 LA) := ownsRow_upd HBY.out.own hU0 (by simp)
    have hownB : w0.ownsRow w5.heap.size 64 1 (.slice (some ⟨gB, 0, none⟩) (n1 + 1 + 1) (n1 + 1 + 1)) (n1 + 1 + 1) (cu64 LB) := ownsRow_upd HBY.out.rb hU0 (by simp)
    have hgAq : gA < q := by rw [hq]; exact (HBY.out.own.lt gA rfl).2
    have hgBq : gB < q := by rw [hq]; exact (HBY.out.rb.lt gB rfl).2
    have hp8q : p8 < q := by rw [hq]; exact World.block_lt_of_cell? wc _ HBY.out.c8
    have hp9q : p9 < q := by rw [hq]; exact World.block_lt_of_cell? wc _ HBY.out.c9
    have hVB : wval (LB.take (n1 + 1)) = b * 2 ^ s := by
      have h1 := wval_take_succ LB (n1 + 1)
      rw [List.take_of_length_le (by rw [HBY.out.words.2.2.2.1]; exact Nat.le_refl _), HBY.out.words.2.2.2.2.2] at h1
      rcases Nat.eq_zero_or_pos (LB.getD (n1 + 1) 0) with h | h
      · rw [h, Nat.mul_zero, Nat.add_zero] at h1; exact h1.symm
      · exfalso
        have h2 := HV2.out
        have h3 := Nat.le_mul_of_pos_right (18446744073709551616 ^ (n1 + 1)) h
        omega
    have hfirst : seg LA c (n1 + 1) < b * 2 ^ s := bw_first (la := la) (a := a) (s := s) (by rw [HBY.out.words.1]; omega) HBY.out.words.2.2.1 ((wds_length_le_iff a la).1 (by rw [← HLA.out]; exact Nat.le_refl _)) (by omega) (by omega) HBY.out.words.1 hs63 HV1.out
    have c10 : w0.cell? ⟨q + 1, 0, none⟩ = some (.slice (some ⟨q, 0, none⟩) c c) := by rw [cell_of_row w0 _ 0 _ _ _ hb1]; rfl
    have c11 : w0.cell? ⟨q + 1 + 1, 0, none⟩ = some (.slice (some ⟨q, 0, none⟩) c c) := by rw [cell_of_row w0 _ 0 _ _ _ hb2]; rfl
    have hwcq : wc.heap.size = q := hq.symm
    have hlo := HBY.out.lo
    have hne8 := HBY.out.ne
    have hzz := HZ.out
    have c8' : w0.cell? ⟨p8, 0, none⟩ = some (.slice (some ⟨gA, 0, none⟩) (la + 1) (la + 1)) := (hU0.cell (p := ⟨p8, 0, none⟩) (by show p8 < _; omega) (by simp)).trans HBY.out.c8
    have c9' : w0.cell? ⟨p9, 0, none⟩ = some (.slice (some ⟨gB, 0, none⟩) (n1 + 1) (n1 + 1 + 1)) := (hU0.cell (p := ⟨p9, 0, none⟩) (by show p9 < _; omega) (by simp)).trans HBY.out.c9
    have c4' : w0.cell? ⟨S + 1 + 1 + 1 + 1, 0, none⟩ = some (.int .i64 ((n1 : Int) + 1)) := (hU0.cell (p := ⟨S + 1 + 1 + 1 + 1, 0, none⟩) (by show S + 1 + 1 + 1 + 1 < _; omega) (by simp)).trans hc4
    have HCF : Hid (∀ W, Upd [gA, q] w0 W → W.cell? ⟨q + 1, 0, none⟩ = some (.slice (some ⟨q, 0, none⟩) c c) ∧ W.cell? ⟨p8, 0, none⟩ = some (.slice (some ⟨gA, 0, none⟩) (la + 1) (la + 1)) ∧ W.cell? ⟨S + 1 + 1 + 1 + 1, 0, none⟩ = some (.int .i64 ((n1 : Int) + 1)) ∧ W.cell? ⟨p9, 0, none⟩ = some (.slice (some ⟨gB, 0, none⟩) (n1 + 1) (n1 + 1 + 1))) := fun W h =>
      ⟨(h.cell (p := ⟨q + 1, 0, none⟩) (by show q + 1 < _; omega) (by simp; omega)).trans c10, (h.cell (p := ⟨p8, 0, none⟩) (by show p8 < _; omega) (by simp; omega)).trans c8',
        (h.cell (p := ⟨S + 1 + 1 + 1 + 1, 0, none⟩) (by show S + 1 + 1 + 1 + 1 < _; omega) (by simp; omega)).trans c4', (h.cell (p := ⟨p9, 0, none⟩) (by show p9 < _; omega) (by simp; omega)).trans c9'⟩
    have hVBp : 0 < b * 2 ^ s := by omega
    have hLAl := HBY.out.words.1
    have HBI : Hid (BsIn w5 w0 q gA c la n1 (b * 2 ^ s) (a * 2 ^ s) [] w0) := ⟨LA, List.replicate c 0, hownA, HBY.out.words.1, HBY.out.words.2.1, hown, by simp, fun d hd => by rw [List.eq_of_mem_replicate hd]; decide, Upd.refl _ _, fun _ => by
      simp only [List.length_nil, Nat.sub_zero]
      refine ⟨?_, hfirst⟩
      rw [List.drop_eq_nil_of_le (by simp), seg_whole LA (c + (n1 + 1)) (by omega), HBY.out.words.2.2.1]
      simp [wval]⟩
    have HDG : Hid (∀ (W : World) (L : List Nat) (j : Nat), W.ownsRow w5.heap.size 64 1 (.slice (some ⟨gA, 0, none⟩) (la + 1) (la + 1)) (la + 1) (cu64 L) → L.length = la + 1 → (∀ d ∈ L, d < 18446744073709551616) → Upd [gA, q] w0 W → j < c →
        Calls Tryz.prog 146 #[.slice (some ⟨gA, j, none⟩) (n1 + 1 + 1) (la + 1 - j), .slice (some ⟨gB, 0, none⟩) (n1 + 1) (n1 + 1 + 1)] W (DigFPost w5.heap.size gA (la + 1) (la + 1) j (LB.take (n1 + 1)) L W)) := fun W L j h1 h2 h3 h4 h5 => by
      have hBl : (LB.take (n1 + 1)).length = n1 + 1 := by rw [List.length_take, HBY.out.words.2.2.2.1]; omega
      have hsB : Sl W (.slice (some ⟨gB, 0, none⟩) (n1 + 1) (n1 + 1 + 1)) (cu64 (LB.take (n1 + 1))) := by
        rw [cu64_take]
        exact Sl.take (Sl.upd (Sl.own hownB) h4 (fun _ k hk => by simp [Value.ownBlock] at hk; subst hk; simp; omega)) (n1 + 1) (by omega)
      have := digit_free w5.heap.size gA (la + 1) (la + 1) j (la + 1 - j) _ (LB.take (n1 + 1)) L W h1 h2 h3 hsB (fun d hd => HBY.out.words.2.2.2.2.1 d (List.mem_of_mem_take hd)) (fun k hk => by simp [Value.ownBlock] at hk; omega) (by rw [hBl]; omega) (by rw [hBl]; omega) (by rw [hBl]; omega) (by omega) (by rw [hVB]; exact hVBp)
      rw [hBl] at this
      exact this
    have HVB := Lib.hid hVB
    have HHOWN := Lib.hid hown
    have HU0 := Lib.hid hU0
    have hgAl : gA < w0.heap.size := by omega
    have hql : q < w0.heap.size := by omega
    have h0q : ∀ j, j < c → ∃ z : Int, w0.cell? ⟨q, 0 + j, none⟩ = some (.int .u64 z) := fun j hj => by
      rw [Nat.zero_add]
      have := hown.cellAt j (by omega)
      rw [cu64_getD _ _ (by simpa using hj)] at this
      exact ⟨_, this⟩
    have hqc : c ≤ 1099511627776 := by omega
    have HZ0 := Lib.hid hz
    have HW0 := Lib.hid hw0
    have HQ0 : Hid (wc.heap.size = q) := hq.symm
    have HLO := Lib.hid hlo
    have HNE := Lib.hid hne8
    have HLAL := Lib.hid hLAl
    clear hz hw0 hq hb0 hb1 hb2 hU0 hown hownA hownB hVB hfirst c10 c8' c9' c4' hlo hne8 hwcq hc8 hc9 hc0 hc1 hc4 hmk hsc hsc2 hVBp hLAl hzz
    refine wpIn_rangeFunc_ownF rfl (by decide) (gf := 113) (lb := #[.pointer (some ⟨q + 1 + 1, 0, none⟩)]) rfl trivial (enters_of Tryz.func113 (by kernel_rfl) rfl)
      (backi_stops (Ks [gA, q]) 2 (by decide) (q + 1 + 1) w0.heap.size q 0 c c hqc w0 (by have := HZ0.out; omega) (by simp [Ks]; omega) (Nat.le_refl _) c11 hql h0q) Ki.trans (Ki.put hql) (Below.refl _ _) (fun _ => rfl)
      (BsIn w5 w0 q gA c la n1 (b * 2 ^ s) (a * 2 ^ s)) (fun _ _ _ => False) (BsIn.from w5 w0 q gA c la n1 _ _ hql hgAl) (fun _ _ _ _ _ hs _ _ => hs) HBI.out
      ?a1 ?assign ?body ?done ?stop
    case assign =>
      intro l x W K hK
      simp only [encI]
      gi_wp2
      exact hK
    case body =>
      rintro l pre x W ⟨L, M, hI⟩ hlt
      obtain ⟨j, hj⟩ : ∃ j, j = c - 1 - x.1.val := ⟨_, rfl⟩
      have hjc : j < c := by have := x.1.isLt; omega
      rw [← hj]
      have HI := Lib.hid hI
      have HJ := Lib.hid hj
      obtain ⟨hc10, hc8, hc4, hc9⟩ := HCF.out W hI.upd
      obtain ⟨m, hm⟩ : ∃ m, m = j + (n1 + 1) + 1 := ⟨_, rfl⟩
      have e1 : IntKind.i64.wrap ((j : Int) + ((n1 : Int) + 1)) = (j : Int) + ((n1 : Int) + 1) := IntWalk.i64_in _ (by omega)
      have e2 : IntKind.i64.wrap ((j : Int) + ((n1 : Int) + 1) + 1) = (m : Int) := by rw [IntWalk.i64_in _ (by omega)]; omega
      have hsl := slice_mid_run gA j m (la + 1) (n1 + 1 + 1) (by omega) (by omega) (by omega) (by omega)
      have HDIG : Hid (∀ X, Upd [] W X → Calls Tryz.prog 146 #[.slice (some ⟨gA, j, none⟩) (n1 + 1 + 1) (la + 1 - j), .slice (some ⟨gB, 0, none⟩) (n1 + 1) (n1 + 1 + 1)] X (DigFPost w5.heap.size gA (la + 1) (la + 1) j (LB.take (n1 + 1)) L X)) := fun X h =>
        HDG.out X L j (ownsRow_upd hI.ownA h (by simp)) hI.lenA hI.ltA (hI.upd.trans h (by simp)) hjc
      have hrow := hI.ownM.cellAt j (by omega)
      rw [cu64_getD _ _ (by rw [hI.lenM]; exact hjc)] at hrow
      have hfr := hI.ownM.frozenAt j
      have hqW := World.block_lt_of_cell? W _ hrow
      have i0 : (0 : Int) ≤ (j : Int) := by omega
      have i1 : (j : Int) < (c : Int) := by omega
      obtain ⟨y, hy⟩ : ∃ y, y = M.getD j 0 := ⟨_, rfl⟩
      rw [← hy] at hrow
      clear hy hm hj hI
      gi_wp2
      refine region_round (fun A => A.cell? ⟨q + 1, 0, none⟩ = some (.slice (some ⟨q, 0, none⟩) c c) ∧ A.cell? ⟨p8, 0, none⟩ = some (.slice (some ⟨gA, 0, none⟩) (la + 1) (la + 1)) ∧ A.cell? ⟨S + 1 + 1 + 1 + 1, 0, none⟩ = some (.int .i64 ((n1 : Int) + 1)) ∧ A.cell? ⟨p9, 0, none⟩ = some (.slice (some ⟨gB, 0, none⟩) (n1 + 1) (n1 + 1 + 1))) l _ (by kernel_rfl) (by kernel_rfl) (fun ⟨_, _, h⟩ => h) ⟨hc10, hc8, hc4, hc9⟩ (fun hHeld => ?_)
      refine wpAnyH_take (i := 0) (v := ?_) rfl (by kernel_rfl) (by kernel_rfl) (by kernel_rfl) (fun _ _ _ h => h) (Or.inl ⟨by rfl, ?_⟩) (by assumption) ?_
      rotate_left
      · (intro w hSw; (try dsimp only at hSw); go_simp; (try with_reducible rfl))
      try simp only [Act.put, List.getElem_toArray, List.getElem_cons_succ, List.getElem_cons_zero, List.setIfInBounds_toArray, List.set_cons_zero, List.set_cons_succ]
      refine wpAnyH_take (i := 1) (v := ?_) rfl (by kernel_rfl) (by kernel_rfl) (by kernel_rfl) (fun _ _ _ h => h) (Or.inl ⟨by rfl, ?_⟩) (by assumption) ?_
      rotate_left
      · (intro w hSw; (try dsimp only at hSw); go_simp; (try with_reducible rfl))
      try simp only [Act.put, List.getElem_toArray, List.getElem_cons_succ, List.getElem_cons_zero, List.setIfInBounds_toArray, List.set_cons_zero, List.set_cons_succ]
      refine wpAnyH_take (i := 2) (v := ?_) rfl (by kernel_rfl) (by kernel_rfl) (by kernel_rfl) (fun _ _ _ h => h) (Or.inl ⟨by rfl, ?_⟩) (by assumption) ?_
      rotate_left
      · (intro w hSw; (try dsimp only at hSw); go_simp; (try with_reducible rfl))
      try simp only [Act.put, List.getElem_toArray, List.getElem_cons_succ, List.getElem_cons_zero, List.setIfInBounds_toArray, List.set_cons_zero, List.set_cons_succ]
      refine wpAnyH_take (i := 3) (v := ?_) rfl (by kernel_rfl) (by kernel_rfl) (by kernel_rfl) (fun _ _ _ h => h) (Or.inl ⟨by rfl, ?_⟩) (by assumption) ?_
      rotate_left
      · (intro w hSw; (try dsimp only at hSw); go_simp; (try with_reducible rfl))
      try simp only [Act.put, List.getElem_toArray, List.getElem_cons_succ, List.getElem_cons_zero, List.setIfInBounds_toArray, List.set_cons_zero, List.set_cons_succ]
      refine wpAnyH_take (i := 4) (v := ?_) rfl (by kernel_rfl) (by kernel_rfl) (by kernel_rfl) (fun _ _ _ h => h) (Or.inl ⟨by rfl, ?_⟩) (by assumption) ?_
      rotate_left
      · (intro w hSw; (try dsimp only at hSw); go_simp; (try with_reducible rfl))
      try simp only [Act.put, List.getElem_toArray, List.getElem_cons_succ, List.getElem_cons_zero, List.setIfInBounds_toArray, List.set_cons_zero, List.set_cons_succ]
      refine wpAnyH_take (i := 5) (v := ?_) rfl (by kernel_rfl) (by kernel_rfl) (by kernel_rfl) (fun _ _ _ h => h) (Or.inl ⟨by rfl, ?_⟩) (by assumption) ?_
      rotate_left
      · (intro w hSw; (try dsimp only at hSw); go_simp; (try with_reducible rfl))
      try simp only [Act.put, List.getElem_toArray, List.getElem_cons_succ, List.getElem_cons_zero, List.setIfInBounds_toArray, List.set_cons_zero, List.set_cons_succ]
      refine wpAnyH_take (i := 6) (v := ?_) rfl (by kernel_rfl) (by kernel_rfl) (by kernel_rfl) (fun _ _ _ h => h) (Or.inl ⟨by rfl, ?_⟩) (by assumption) ?_
      rotate_left
      · (intro w hSw; (try dsimp only at hSw); go_simp; (try with_reducible rfl))
      try simp only [Act.put, List.getElem_toArray, List.getElem_cons_succ, List.getElem_cons_zero, List.setIfInBounds_toArray, List.set_cons_zero, List.set_cons_succ]
      refine wpAnyH_take (i := 7) (v := ?_) rfl (by kernel_rfl) (by kernel_rfl) (by kernel_rfl) (fun _ _ _ h => h) (Or.inl ⟨by rfl, ?_⟩) (by assumption) ?_
      rotate_left
      · (intro w hSw; (try dsimp only at hSw); go_simp; (try with_reducible rfl))
      try simp only [Act.put, List.getElem_toArray, List.getElem_cons_succ, List.getElem_cons_zero, List.setIfInBounds_toArray, List.set_cons_zero, List.set_cons_succ]
      refine wpAnyH_take (i := 8) (v := ?_) rfl (by kernel_rfl) (by kernel_rfl) (by kernel_rfl) (fun _ _ _ h => h) (Or.inl ⟨by rfl, ?_⟩) (by assumption) ?_
      rotate_left
      · (intro w hSw; (try dsimp only at hSw); go_simp; (try with_reducible rfl))
      try simp only [Act.put, List.getElem_toArray, List.getElem_cons_succ, List.getElem_cons_zero, List.setIfInBounds_toArray, List.set_cons_zero, List.set_cons_succ]
      refine wpAnyH_take (i := 9) (v := ?_) rfl (by kernel_rfl) (by kernel_rfl) (by kernel_rfl) (fun _ _ _ h => h) (Or.inl ⟨by rfl, ?_⟩) (by assumption) ?_
      rotate_left
      · (intro w hSw; (try dsimp only at hSw); go_simp; (try with_reducible rfl))
      try simp only [Act.put, List.getElem_toArray, List.getElem_cons_succ, List.getElem_cons_zero, List.setIfInBounds_toArray, List.set_cons_zero, List.set_cons_succ]
      refine wpAnyH_ready (rs := [10]) (by kernel_rfl) (by simp) ?_
      refine AllReadyH.cons rfl (fun K hK => ?_) AllReadyH.nil
      go_simp
      refine (HDIG.out _ (Upd.refl _ _).drew).mono ?_
      rintro e wy ⟨d, L', rfl, hd64, hA, hval⟩
      have HA := Lib.hid hA
      have HVAL := Lib.hid hval
      have huy : Upd [gA] W wy := ((Upd.refl _ _).drew).trans hA.upd (fun x hx => .inl hx)
      dsimp only
      refine hK.out _ _ ?_ (fun hHeld => ?_)
      · exact HCF.out _ (HI.out.upd.trans huy (by simp))
      clear hK K
      try simp only [Act.put, List.getElem_toArray, List.getElem_cons_succ, List.getElem_cons_zero, List.setIfInBounds_toArray, List.set_cons_zero, List.set_cons_succ]
      refine wpAnyH_take (i := 11) (v := ?_) rfl (by kernel_rfl) (by kernel_rfl) (by kernel_rfl) (fun _ _ _ h => h) (Or.inl ⟨by rfl, ?_⟩) (by assumption) ?_
      rotate_left
      · (intro w hSw; (try dsimp only at hSw); go_simp; (try with_reducible rfl))
      try simp only [Act.put, List.getElem_toArray, List.getElem_cons_succ, List.getElem_cons_zero, List.setIfInBounds_toArray, List.set_cons_zero, List.set_cons_succ]
      have hqg : q ≠ gA := by have := HLO.out; omega
      have hsr : wy.cell? ⟨q, j, none⟩ = some (.int .u64 (y : Int)) := (huy.cell (p := ⟨q, j, none⟩) hqW (by simpa using hqg)).trans hrow
      have hsf : wy.frozen? ⟨q, j, none⟩ = false := (huy.frozen (p := ⟨q, j, none⟩) hqW (by simpa using hqg)).trans hfr
      have huA : Upd [gA, q] W (wy.setCell ⟨q, j, none⟩ (.int .u64 (d : Int))) := (huy.mono (by simp)).setCell (.inl (by simp)) _
      have huB : Upd [gA, q] w0 (wy.setCell ⟨q, j, none⟩ (.int .u64 (d : Int))) := HI.out.upd.trans huA (fun x hx => .inl hx)
      refine wpAnyH_ready (rs := [12]) (by kernel_rfl) (by simp) ?_
      refine AllReadyH.cons rfl (fun K hK => ?_) AllReadyH.nil
      go_simp
      refine hK.out _ _ ?_ (fun hHeld => ?_)
      · exact HCF.out _ huB
      clear hK K
      try simp only [Act.put, List.getElem_toArray, List.getElem_cons_succ, List.getElem_cons_zero, List.setIfInBounds_toArray, List.set_cons_zero, List.set_cons_succ]
      refine wpAnyH_done (by kernel_rfl) ?_ _
      have hownM := ((ownsRow_upd HI.out.ownM huy (by simp [Value.ownBlock]; exact hqg)).stored j (.int .u64 (d : Int))).1
      rw [← cu64_set] at hownM
      have hownA : (wy.setCell ⟨q, j, none⟩ (.int .u64 (d : Int))).ownsRow w5.heap.size 64 1 (.slice (some ⟨gA, 0, none⟩) (la + 1) (la + 1)) (la + 1) (cu64 L') := ownsRow_kept HA.out.own (fun k hk => by
        simp [Value.ownBlock] at hk
        subst hk
        exact Below.heap_setCell _ _ _ _ (by show gA ≠ q; exact fun e => hqg e.symm))
      have hBl : (LB.take (n1 + 1)).length = n1 + 1 := by rw [List.length_take, HBY.out.words.2.2.2.1]; omega
      refine (show _ ∧ _ ∧ BsIn w5 w0 q gA c la n1 (b * 2 ^ s) (a * 2 ^ s) (pre ++ [x]) _ from ⟨keeps_updS huA (fun k hk => ?_), ⟨huA.size, fun k h1 h2 => huA.block k (Nat.lt_of_lt_of_le h1 HI.out.upd.size) h2, fun _ i hi => ?_⟩,
        L', M.set j d, hownA, HA.out.len, HA.out.lt, hownM, by rw [List.length_set]; exact HI.out.lenM, fun e he => ?_, huB, fun hg => ?_⟩)
      · simp at hk
        rcases hk with rfl | rfl
        · exact own_cells HI.out.ownA
        · exact own_cells HI.out.ownM
      · have := hownM.cellAt i (by omega)
        rw [cu64_getD _ _ (by rw [List.length_set, HI.out.lenM]; exact hi)] at this
        rw [Nat.zero_add]
        exact ⟨_, this⟩
      · rcases List.mem_or_eq_of_mem_set he with he | rfl
        · exact HI.out.ltM e he
        · exact hd64
      · rw [List.map_append] at hg
        obtain ⟨hg1, hx⟩ := good_snoc hg
        rw [List.length_map] at hx
        obtain ⟨h1, h2⟩ := HI.out.good hg1
        have hjx : j = c - 1 - pre.length := by rw [HJ.out, hx]
        have e3 : c - pre.length = j + 1 := by omega
        have e4 : c - (pre ++ [x]).length = j := by simp; omega
        rw [e3] at h1 h2
        rw [e4]
        have hval := HVAL.out
        rw [hBl, HVB.out] at hval
        obtain ⟨v1, v2⟩ := hval (bw_room HI.out.ltA h2)
        have hout := HA.out.out
        rw [hBl] at hout
        refine ⟨bw_step (by rw [HI.out.lenM]; exact hjc) (by rw [HI.out.lenA]; omega) (by rw [HA.out.len, HI.out.lenA]) h1 v1 v2 ?_, by rw [v2]; exact Nat.mod_lt _ (by omega)⟩
        refine getD_ext (by rw [List.length_take, List.length_take, HA.out.len, HI.out.lenA]) (fun i hi => ?_)
        simp only [List.length_take] at hi
        have := hout i (.inl (by omega))
        rw [List.getD_eq_getElem?_getD, List.getD_eq_getElem?_getD, List.getElem?_take, List.getElem?_take, if_pos (by omega), if_pos (by omega), ← List.getD_eq_getElem?_getD, ← List.getD_eq_getElem?_getD]
        exact this
    case done =>
      rintro D ys W hD hys ⟨L, M, hI⟩ hK
      have hyl : ys.length = c := by have := congrArg List.length hys; rw [upto_length (Nat.le_refl _)] at this; simpa using this
      rw [hyl, hys] at hI
      obtain ⟨h1, h2⟩ := hI.good (good_upto (Nat.le_refl _))
      rw [Nat.sub_self, List.drop_zero, Nat.pow_zero, Nat.mul_one, Nat.zero_add] at h1
      rw [Nat.sub_self] at h2
      have hb0 : 0 < b := by
        rcases Nat.eq_zero_or_pos b with h | h
        · subst h; simp at h2
        · exact h
      obtain ⟨e1, e2⟩ := bw_end hb0 h1 h2
      have hsegt : wval (L.take (n1 + 1)) = seg L 0 (n1 + 1) := by unfold seg; rw [List.drop_zero]
      have HQ : Hid (wval M = a / b ∧ wval (L.take (n1 + 1)) / 2 ^ s = a % b) := ⟨e1, by rw [hsegt]; exact e2⟩
      have HR64 : Hid (wval (L.take (n1 + 1)) < 18446744073709551616 ^ (n1 + 1)) := by show _ < _; rw [hsegt]; exact seg_lt 0 (n1 + 1) hI.ltA
      have HI := Lib.hid hI
      have HK := Lib.hid hK
      obtain ⟨hc10, hc8, hc4, hc9⟩ := HCF.out W hI.upd
      have hzW : w0.heap.size ≤ W.heap.size := hI.upd.size
      have hSw5 : S + 1 + 1 + 1 + 1 + 1 = w5.heap.size := HZ.out.symm
      have hw5w0 : w5.heap.size ≤ w0.heap.size := by have := HBY.out.upd.size; have := HU0.out.size; omega
      have hlo5 := HLO.out
      have hqwc : wc.heap.size = q := HQ0.out
      have hb2W : W.heap[S + 1 + 1]? = some (.cells #[.slice none 0 0] 27 (0, 0)) := by
        rw [HI.out.upd.block _ (by omega) (by simp; have := HBY.out.upd.size; omega), HU0.out.block _ (by have := HBY.out.upd.size; omega) (by simp), HBY.out.upd.block _ (by omega) (by simp)]; exact HB2.out
      have hb3W : W.heap[S + 1 + 1 + 1]? = some (.cells #[.slice none 0 0] 27 (0, 0)) := by
        rw [HI.out.upd.block _ (by omega) (by simp; have := HBY.out.upd.size; omega), HU0.out.block _ (by have := HBY.out.upd.size; omega) (by simp), HBY.out.upd.block _ (by omega) (by simp)]; exact HB3.out
      have HUW : Hid (Upd [] w W) := (HU5.out.trans0 (HBY.out.upd.trans0 HU0.out)).trans HI.out.upd (fun x hx => by
        simp at hx
        have := HU5.out.size
        have := HBY.out.upd.size
        rcases hx with rfl | rfl <;> exact .inr (by omega))
      have HFM : Hid (∀ X, Upd [] W X → Calls Tryz.prog 80 #[.slice (some ⟨q, 0, none⟩) c c] X (fun e w' => ∃ v, e = .returned v ∧ NV w' v (wval M) ∧ Upd [] X w' ∧ ∀ k, nblk v = some k → (Value.slice (some ⟨q, 0, none⟩) c c).ownBlock = some k)) := fun X h => fit_own _ M X (Sl.own (ownsRow_upd HI.out.ownM h (by simp))) HI.out.ltM
      have HFL : Hid (∀ X, Upd [] W X → Calls Tryz.prog 80 #[.slice (some ⟨gA, 0, none⟩) (n1 + 1) (la + 1)] X (RNat (wval (L.take (n1 + 1))) X)) := fun X h => by
        refine fit_any _ (L.take (n1 + 1)) X ?_ (fun d hd => HI.out.ltA d (List.mem_of_mem_take hd))
        rw [cu64_take]
        exact Sl.take (Sl.own (ownsRow_upd HI.out.ownA h (by simp))) (n1 + 1) (by omega)
      have HSH : Hid (∀ X v, NV X v (wval (L.take (n1 + 1))) → Calls Tryz.prog 147 #[v, .int .i64 (s : Int)] X (RNat (wval (L.take (n1 + 1)) / 2 ^ s) X)) := fun X v h => by
        have := shr_any v (wval (L.take (n1 + 1))) (s : Int) X h (Nat.le_trans ((wds_length_le_iff _ (n1 + 1)).2 HR64.out) (by omega)) (by omega)
        rw [Int.toNat_natCast] at this
        exact this
      have hsl2 : ∀ W : World, (Instr.slice 22 (.slice (some ⟨gA, 0, none⟩) (la + 1) (la + 1)) none (some (.int .i64 ((n1 : Int) + 1))) none).run Tryz.prog W = .ok (.slice (some ⟨gA, 0, none⟩) (n1 + 1) (la + 1)) W := fun W => by
        rw [run_slice_h (P := Tryz.prog) W 22 (some ⟨gA, 0, none⟩) (la + 1) (la + 1) Tryz.underlying22 .i64 ((n1 : Int) + 1) (by omega) (by omega)]
        have hsz : ∀ W : World, (sizeOf (Tryz.prog.elem 22)).run Tryz.prog W = .ok 1 W := fun W => by kernel_rfl
        simp [sliced, Result.andThen, show ((n1 : Int) + 1).toNat = n1 + 1 by omega, hsz, Addr.add]
      have hcA : ∀ A, Upd [] W A → A.cell? ⟨S + 1 + 1, 0, none⟩ = some (.slice none 0 0) := fun A h => by rw [h.cell (p := ⟨S + 1 + 1, 0, none⟩) (by show S + 1 + 1 < _; omega) (by simp), cell_of_row W _ 0 _ _ _ hb2W]; rfl
      have hcB : ∀ A, Upd [] W A → A.cell? ⟨S + 1 + 1 + 1, 0, none⟩ = some (.slice none 0 0) := fun A h => by rw [h.cell (p := ⟨S + 1 + 1 + 1, 0, none⟩) (by show S + 1 + 1 + 1 < _; omega) (by simp), cell_of_row W _ 0 _ _ _ hb3W]; rfl
      have hfA : ∀ A, Upd [] W A → A.frozen? ⟨S + 1 + 1, 0, none⟩ = false := fun A h => by rw [h.frozen (p := ⟨S + 1 + 1, 0, none⟩) (by show S + 1 + 1 < _; omega) (by simp)]; simp [World.frozen?, hb2W]
      have hfB : ∀ A, Upd [] W A → A.frozen? ⟨S + 1 + 1 + 1, 0, none⟩ = false := fun A h => by rw [h.frozen (p := ⟨S + 1 + 1 + 1, 0, none⟩) (by show S + 1 + 1 + 1 < _; omega) (by simp)]; simp [World.frozen?, hb3W]
      have HCQ : Hid (∀ A, Upd [S + 1 + 1, S + 1 + 1 + 1] W A → A.cell? ⟨q + 1, 0, none⟩ = some (.slice (some ⟨q, 0, none⟩) c c) ∧ A.cell? ⟨p8, 0, none⟩ = some (.slice (some ⟨gA, 0, none⟩) (la + 1) (la + 1)) ∧ A.cell? ⟨S + 1 + 1 + 1 + 1, 0, none⟩ = some (.int .i64 ((n1 : Int) + 1)) ∧ Upd [S + 1 + 1, S + 1 + 1 + 1] W A) := fun A h =>
        ⟨(h.cell (p := ⟨q + 1, 0, none⟩) (by show q + 1 < _; have := HZ0.out; omega) (by simp; have := HBY.out.upd.size; omega)).trans hc10, (h.cell (p := ⟨p8, 0, none⟩) (by show p8 < _; omega) (by simp; omega)).trans hc8, (h.cell (p := ⟨S + 1 + 1 + 1 + 1, 0, none⟩) (by show S + 1 + 1 + 1 + 1 < _; omega) (by show S + 1 + 1 + 1 + 1 ∉ [S + 1 + 1, S + 1 + 1 + 1]; simp only [List.mem_cons, List.not_mem_nil, or_false, not_or]; omega)).trans hc4, h⟩
      have HB2W := Lib.hid hb2W
      have HB3W := Lib.hid hb3W
      have HSW5 := Lib.hid hSw5
      have HW5W0 := Lib.hid hw5w0
      have hrf : Upd [] W W := Upd.refl _ _
      have hSW : S + 1 + 1 + 1 + 1 < W.heap.size := by omega
      have hSs : w.heap.size ≤ S + 1 + 1 := by have := HS0.out; omega
      have hDW := hD
      clear hI hK h1 h2 hb2W hb3W hys hyl hsegt e1 e2 hb0 hc9 hSw5 hw5w0 hlo5 hqwc hzW hD
      obtain ⟨R, hR⟩ : ∃ R, R = wval (L.take (n1 + 1)) / 2 ^ s := ⟨_, rfl⟩
      rw [← hR] at HQ HSH
      have HFIN : Hid (∀ (wz : World) (x1 x2 : Option Addr) (l1 c1 l2 c2 : Nat), Upd [] W wz → NV wz (.agg #[.slice x1 l1 c1]) (wval M) → NV wz (.agg #[.slice x2 l2 c2]) R → ∃ X, X = (wz.setCell ⟨S + 1 + 1, 0, none⟩ (.slice x1 l1 c1)).setCell ⟨S + 1 + 1 + 1, 0, none⟩ (.slice x2 l2 c2) ∧
          NV X (.agg #[.slice x1 l1 c1]) (wval M) ∧ NV X (.agg #[.slice x2 l2 c2]) R ∧ Upd [] w X ∧ X.heap[D]? = some (.deferred (some [])) ∧ X.cell? ⟨S + 1 + 1, 0, none⟩ = some (.slice x1 l1 c1) ∧ X.cell? ⟨S + 1 + 1 + 1, 0, none⟩ = some (.slice x2 l2 c2)) := fun wz x1 x2 l1 c1 l2 c2 huz h1 h2 => by
        have hkz : wz.heap[D]? = some (.deferred (some [])) := (huz.block D (Array.getElem?_eq_some_iff.1 HK.out).1 (by simp)).trans HK.out
        have hbA : wz.heap[S + 1 + 1]? = some (.cells #[.slice none 0 0] 27 (0, 0)) := (huz.block _ (lt_of_block HB2W.out) (by simp)).trans HB2W.out
        have hbB : wz.heap[S + 1 + 1 + 1]? = some (.cells #[.slice none 0 0] 27 (0, 0)) := (huz.block _ (lt_of_block HB3W.out) (by simp)).trans HB3W.out
        have hbB2 : (wz.setCell ⟨S + 1 + 1, 0, none⟩ (.slice x1 l1 c1)).heap[S + 1 + 1 + 1]? = some (.cells #[.slice none 0 0] 27 (0, 0)) := (Below.heap_setCell _ _ _ _ (by show S + 1 + 1 + 1 ≠ S + 1 + 1; omega)).trans hbB
        refine ⟨_, rfl, (h1.store hbA no_u64 ⟨S + 1 + 1, 0, none⟩ rfl _).store hbB2 no_u64 ⟨S + 1 + 1 + 1, 0, none⟩ rfl _, (h2.store hbA no_u64 ⟨S + 1 + 1, 0, none⟩ rfl _).store hbB2 no_u64 ⟨S + 1 + 1 + 1, 0, none⟩ rfl _,
          ((HUW.out.trans0 huz).setCell (.inr (by show w.heap.size ≤ S + 1 + 1; omega)) _).setCell (.inr (by show w.heap.size ≤ S + 1 + 1 + 1; omega)) _, ?_, ?_, ?_⟩
        · exact (KeepsOthers.setCell (wz.setCell ⟨S + 1 + 1, 0, none⟩ (.slice x1 l1 c1)) ⟨S + 1 + 1 + 1, 0, none⟩ (.slice x2 l2 c2)).same D _ ((KeepsOthers.setCell wz ⟨S + 1 + 1, 0, none⟩ (.slice x1 l1 c1)).same D _ hkz rfl) rfl
        · rw [World.cell?_setCell_far _ _ _ _ (by show S + 1 + 1 + 1 ≠ S + 1 + 1; omega)]; exact set_cell (show _ = some (Value.slice none 0 0) by rw [cell_of_row wz _ 0 _ _ _ hbA]; rfl)
        · exact set_cell (show _ = some (Value.slice none 0 0) by rw [World.cell?_setCell_far _ _ _ _ (by show S + 1 + 1 ≠ S + 1 + 1 + 1; omega), cell_of_row wz _ 0 _ _ _ hbB]; rfl)
      have HSS := Lib.hid hSs
      have HDS : Hid (w.heap.size ≤ D) := by show _ ≤ _; have := HS0.out; have := HZ.out; have := HBY.out.upd.size; have := HU0.out.size; omega
      have hQb : w.heap.size ≤ q := by have := HS0.out; have := HZ.out; have := HBY.out.upd.size; have := HQ0.out; omega
      have HQB := Lib.hid hQb
      clear hR hSs hSW hDW hQb
      gi_wp2
      refine wpIn_wide.2 ?_
      go_region_held3 (fun A => A.cell? ⟨q + 1, 0, none⟩ = some (.slice (some ⟨q, 0, none⟩) c c) ∧ A.cell? ⟨p8, 0, none⟩ = some (.slice (some ⟨gA, 0, none⟩) (la + 1) (la + 1)) ∧ A.cell? ⟨S + 1 + 1 + 1 + 1, 0, none⟩ = some (.int .i64 ((n1 : Int) + 1)) ∧ Upd [S + 1 + 1, S + 1 + 1 + 1] W A)
        (first
          | (refine HCQ.out _ (Upd.mono (S := []) ?_ (by simp)); (repeat (first | (with_reducible exact huR) | (with_reducible exact huL) | (with_reducible exact huM) | (with_reducible exact hrf) | (with_reducible refine Upd.drew ?_))); done)
          | (refine HCQ.out _ (Upd.setCell (Upd.mono (S := []) ?_ (by simp)) (.inl (by simp)) _); (repeat (first | (with_reducible exact huR) | (with_reducible exact huM) | (with_reducible refine Upd.drew ?_))); done)
          | (refine HCQ.out _ (Upd.setCell (Upd.setCell (Upd.mono (S := []) ?_ (by simp)) (.inl (by simp)) _) (.inl (by simp)) _); (repeat (first | (with_reducible exact huR) | (with_reducible exact huM) | (with_reducible refine Upd.drew ?_))); done))
        (first
          | (go_at_call 80; (with_reducible refine Calls.mono (HFM.out _ ?_) ?_); (focus ((repeat (first | (with_reducible exact huR) | (with_reducible exact huL) | (with_reducible exact hrf) | (with_reducible refine Upd.drew ?_))); done)); rintro e wM ⟨vM, rfl, hnM, huM0, hkM⟩; obtain ⟨aM, capM, rfl, hlM, hmM⟩ := hnM.open; have HNM := Lib.hid hnM; have HKM := Lib.hid hkM; have HUM := Lib.hid huM0; have huM : Upd [] W wM := Upd.trans0 (by (repeat (first | (with_reducible exact huR) | (with_reducible exact huL) | (with_reducible exact hrf) | (with_reducible refine Upd.drew ?_)))) huM0; clear hnM hkM huM0)
          | (go_at_call 80; (with_reducible refine Calls.mono (HFL.out _ ?_) ?_); (focus ((repeat (first | (with_reducible exact huM) | (with_reducible exact hrf) | (with_reducible refine Upd.drew ?_))); done)); rintro e wL ⟨vL, rfl, hnL, huL0⟩; have HNL := Lib.hid hnL; have HUL := Lib.hid huL0; have huL : Upd [] W wL := Upd.trans0 (by (repeat (first | (with_reducible exact huM) | (with_reducible exact hrf) | (with_reducible refine Upd.drew ?_)))) huL0; clear hnL huL0)
          | (go_at_call 147; (with_reducible refine Calls.mono (HSH.out _ _ ?_) ?_); (focus (first | exact HNL.out | exact HNL.out.upd0 (Upd.refl _ _).drew | exact HNL.out.upd0 HUM.out | exact (HNL.out.upd0 (Upd.refl _ _).drew).upd0 HUM.out)); rintro e wR ⟨vR, rfl, hnR, huR0⟩; obtain ⟨aR, capR, rfl, hlR, hmR⟩ := hnR.open; have HNR := Lib.hid hnR; have HUR := Lib.hid huR0; have huR : Upd [] W wR := Upd.trans0 (by (repeat (first | (with_reducible exact huM) | (with_reducible exact huL) | (with_reducible refine Upd.drew ?_)))) huR0; clear hnR huR0))
      all_goals
        have hfin := by first
          | exact HFIN.out wR aM aR (wds (wval M)).length capM (wds R).length capR huR (HNM.out.upd0 (HUL.out.trans0 HUR.out)) HNR.out
          | exact HFIN.out wR aM aR (wds (wval M)).length capM (wds R).length capR huR (HNM.out.upd0 HUR.out) HNR.out
          | exact HFIN.out wM aM aR (wds (wval M)).length capM (wds R).length capR huM HNM.out (HNR.out.upd0 HUM.out)
        obtain ⟨X, hX, q1, q2, q3, q4, q5, q6⟩ := hfin
        rw [← hX]
        have Q1 := Lib.hid q1
        have Q2 := Lib.hid q2
        have Q3 := Lib.hid q3
        have Q4 := Lib.hid q4
        have Q5 := Lib.hid q5
        have Q6 := Lib.hid q6
        clear hX q1 q2 q3 q4 q5 q6 hcA hcB hfA hfB
        gi_wp2
        refine ⟨by simp, .inl ⟨_, _, rfl, run_takeDeferred Q4.out, ?_⟩⟩
        have k1 := cell_kept Q5.out (grownBy_putObj' _ D (.deferred none)) (fun r e => by cases e; exact ⟨_, Q4.out, rfl⟩)
        have k2 := cell_kept Q6.out (grownBy_putObj' _ D (.deferred none)) (fun r e => by cases e; exact ⟨_, Q4.out, rfl⟩)
        refine ⟨.tuple #[.agg #[.slice aM (wds (wval M)).length capM], .agg #[.slice aR (wds R).length capR]], by simp [results, Tryz.f122, go_sem, k1, k2], ?_⟩
        refine ⟨_, _, rfl, ?_, ?_, Q3.out.grown (grownBy_putObj' _ D (.deferred none)) (fun k e => by cases e; exact .inr HDS.out), fun k hk => ?_⟩
        · rw [← HQ.out.1]; exact Q1.out.put Q4.out rfl _
        · rw [← HQ.out.2]; exact Q2.out.put Q4.out rfl _
        · have := HKM.out k hk
          simp [Value.ownBlock] at this
          subst this
          exact HQB.out
    case stop =>
      rintro D c pre W _ _ h _
      exact h.elim
end Go.Proofs.YtoklmfmoblkfcaaGreatDoor

/- The contract of nat.DivMod (layer 5): by many words; whole. -/
namespace Go.Proofs.YtoklmfmoblkfcaaGreatDoor
open Go.RowKit Go.Proofs.Tm
set_option linter.unusedVariables false
set_option maxRecDepth 20000

set_option maxHeartbeats 1600000 in
theorem divmod_many (u v : Value) (m n : Nat) (w : World) (hu : NV w u m) (hv : NV w v n) (hmn : n ≤ m) (hn : 2 ≤ (wds n).length) (hlen : (wds m).length ≤ 1073741824) :
    Calls Tryz.prog 85 #[u, v] w (RNat2E (m / n) (m % n) 0 w) := by
  obtain ⟨a, cap, rfl, hl, hcm⟩ := hu.open
  obtain ⟨b, cap', rfl, hl', hcm'⟩ := hv.open
  have HZ := Lib.hid (zero_any _ _ _ (hv.upd0 (alloc4 w (.cells #[.slice a (wds m).length cap] 27) (.cells #[.slice b (wds n).length cap'] 27) (.cells #[.slice none 0 0] 27) (.cells #[.slice none 0 0] 27))))
  have HC : Hid (∀ W, Upd [] w W → Calls Tryz.prog 52 #[.agg #[.slice a (wds m).length cap], .agg #[.slice b (wds n).length cap']] W fun e w' => e = .returned (.int .i64 (cmpN m n)) ∧ Upd [] W w') := fun W h => cmp_any _ _ _ _ _ (hu.upd0 h) (hv.upd0 h) (by omega)
  have HD : Hid (∀ W, Upd [] w W → Calls Tryz.prog 122 #[.agg #[.slice a (wds m).length cap], .agg #[.slice b (wds n).length cap']] W (RNat2F (m / n) (m % n) W)) := fun W h => byWords_fresh _ _ _ _ _ (hu.upd0 h) (hv.upd0 h) hn hmn hlen
  have hge := cmpN_ge hmn
  have hn0 : n ≠ 0 := by rintro rfl; rw [wds_zero] at hn; simp at hn
  have hd : decide (n = 0) = false := by simpa using hn0
  rw [hd] at HZ
  obtain ⟨ln, hln⟩ : ∃ k, k = (wds n).length := ⟨_, rfl⟩
  rw [← hln] at HZ HC HD hn hl' ⊢
  have hl1 : ((ln : Int) == 1) = false := by simp; omega
  generalize (wds m).length = lm at *
  clear hu hv hmn hn0 hd hln
  go_enter Tryz.func85, Tryz.ntmps85
  go_wp2_with fail
  refine HZ.out.mono ?_
  rintro e w1 ⟨rfl, hu1⟩
  obtain ⟨hb0, hb1, hb2, hb3, hu0, hs0⟩ := box4 hu1
  have h0 : w1.cell? ⟨w.heap.size, 0, none⟩ = some (.slice a lm cap) := by rw [cell_of_row w1 _ 0 _ _ _ hb0]; rfl
  have h1 : w1.cell? ⟨w.heap.size + 1, 0, none⟩ = some (.slice b ln cap') := by rw [cell_of_row w1 _ 0 _ _ _ hb1]; rfl
  clear hu1
  go_wp2_with fail
  refine (HC.out _ hu0).mono ?_
  rintro e w2 ⟨rfl, hu2⟩
  have hb0' := (hu2.block _ (Array.getElem?_eq_some_iff.1 hb0).1 (by simp)).trans hb0
  have hb1' := (hu2.block _ (Array.getElem?_eq_some_iff.1 hb1).1 (by simp)).trans hb1
  have hb2' := (hu2.block _ (Array.getElem?_eq_some_iff.1 hb2).1 (by simp)).trans hb2
  have hb3' := (hu2.block _ (Array.getElem?_eq_some_iff.1 hb3).1 (by simp)).trans hb3
  have h0' : w2.cell? ⟨w.heap.size, 0, none⟩ = some (.slice a lm cap) := by rw [cell_of_row w2 _ 0 _ _ _ hb0']; rfl
  have h1' : w2.cell? ⟨w.heap.size + 1, 0, none⟩ = some (.slice b ln cap') := by rw [cell_of_row w2 _ 0 _ _ _ hb1']; rfl
  have hu02 := hu0.trans0 hu2
  have hsz : w.heap.size + 1 + 1 + 1 + 1 ≤ w2.heap.size := Nat.le_trans hs0 hu2.size
  have HB2 := Lib.hid hb2'
  have HB3 := Lib.hid hb3'
  have hcA : ∀ A, Upd [] w2 A → A.cell? ⟨w.heap.size + 1 + 1, 0, none⟩ = some (.slice none 0 0) := fun A h => by rw [h.cell (p := ⟨w.heap.size + 1 + 1, 0, none⟩) (by show w.heap.size + 1 + 1 < _; omega) (by simp), cell_of_row w2 _ 0 _ _ _ hb2']; rfl
  have hcB : ∀ A, Upd [] w2 A → A.cell? ⟨w.heap.size + 1 + 1 + 1, 0, none⟩ = some (.slice none 0 0) := fun A h => by rw [h.cell (p := ⟨w.heap.size + 1 + 1 + 1, 0, none⟩) (by show w.heap.size + 1 + 1 + 1 < _; omega) (by simp), cell_of_row w2 _ 0 _ _ _ hb3']; rfl
  have hfA : ∀ A, Upd [] w2 A → A.frozen? ⟨w.heap.size + 1 + 1, 0, none⟩ = false := fun A h => by rw [h.frozen (p := ⟨w.heap.size + 1 + 1, 0, none⟩) (by show w.heap.size + 1 + 1 < _; omega) (by simp)]; simp [World.frozen?, hb2']
  have hfB : ∀ A, Upd [] w2 A → A.frozen? ⟨w.heap.size + 1 + 1 + 1, 0, none⟩ = false := fun A h => by rw [h.frozen (p := ⟨w.heap.size + 1 + 1 + 1, 0, none⟩) (by show w.heap.size + 1 + 1 + 1 < _; omega) (by simp)]; simp [World.frozen?, hb3']
  have HKP : Hid (∀ A, Upd [w.heap.size + 1 + 1, w.heap.size + 1 + 1 + 1] w2 A → A.cell? ⟨w.heap.size, 0, none⟩ = some (.slice a lm cap) ∧ A.cell? ⟨w.heap.size + 1, 0, none⟩ = some (.slice b ln cap') ∧ Upd [w.heap.size + 1 + 1, w.heap.size + 1 + 1 + 1] w2 A) := fun A h =>
    ⟨(h.cell (p := ⟨w.heap.size, 0, none⟩) (by show w.heap.size < _; omega) (by simp; omega)).trans h0', (h.cell (p := ⟨w.heap.size + 1, 0, none⟩) (by show w.heap.size + 1 < _; omega) (by simp)).trans h1', h⟩
  have HST : Hid (∀ A, Upd [] w2 A → ∀ x y p q, NV A (.agg #[x]) p → NV A (.agg #[y]) q → Stored w (w.heap.size + 1 + 1) (w.heap.size + 1 + 1 + 1) 27 27 x y p q ((A.setCell ⟨w.heap.size + 1 + 1, 0, none⟩ x).setCell ⟨w.heap.size + 1 + 1 + 1, 0, none⟩ y)) := fun A h x y p q hx hy =>
    store2 (by omega) (by omega) (by omega) ((h.block _ (by omega) (by simp)).trans HB2.out) ((h.block _ (by omega) (by simp)).trans HB3.out) (hu02.trans0 h) hx hy
  have HD2 : Hid (∀ W, Upd [] w2 W → Calls Tryz.prog 122 #[.agg #[.slice a lm cap], .agg #[.slice b ln cap']] W (RNat2F (m / n) (m % n) W)) := fun W h => HD.out W (hu02.trans0 h)
  have hrf : Upd [] w2 w2 := Upd.refl _ _
  clear hb0 hb1 hb2 hb3 hu0 hu2 hb0' hb1' hb2' hb3' h0 h1 h0' h1' HB2 HB3 HC HD HZ
  have h0' := (HKP.out _ (hrf.mono (by simp))).1
  have h1' := (HKP.out _ (hrf.mono (by simp))).2.1
  go_wp2_with fail
  refine (HD2.out _ hrf).mono ?_
  rintro e wy ⟨v1, v2, rfl, hn1, hn2, huy, _⟩
  obtain ⟨a1, cap1, rfl, hl1', hm1⟩ := hn1.open
  obtain ⟨a2, cap2, rfl, hl2', hm2⟩ := hn2.open
  obtain ⟨q1, hq1⟩ : ∃ k, k = (wds (m / n)).length := ⟨_, rfl⟩
  obtain ⟨q2, hq2⟩ : ∃ k, k = (wds (m % n)).length := ⟨_, rfl⟩
  rw [← hq1] at hn1 ⊢
  rw [← hq2] at hn2 ⊢
  have hst := HST.out _ huy _ _ _ _ hn1 hn2
  have HST2 := Lib.hid hst
  clear hn1 hn2 hst hq1 hq2 hl1' hl2' hm1 hm2
  go_wp2_with fail
  obtain ⟨wf, hwf⟩ : ∃ wf, wf = (wy.setCell ⟨w.heap.size + 1 + 1, 0, none⟩ (.slice a1 q1 cap1)).setCell ⟨w.heap.size + 1 + 1 + 1, 0, none⟩ (.slice a2 q2 cap2) := ⟨_, rfl⟩
  rw [← hwf] at HST2 ⊢
  have k1 := HST2.out.c1
  have k2 := HST2.out.c2
  have f1 := HST2.out.f1
  have f2 := HST2.out.f2
  have HS2 := Lib.hid (store2 (by omega) (by omega) (by omega) HST2.out.b1 HST2.out.b2 HST2.out.u HST2.out.n1 HST2.out.n2)
  clear hwf hcA hcB hfA hfB huy
  go_region
  all_goals
    go_wp2
    have z1 := HS2.out.drew.c1
    have z2 := HS2.out.drew.c2
    refine bodyPost_ret (v := .tuple #[.agg #[.slice a1 q1 cap1], .agg #[.slice a2 q2 cap2], .int .i64 0]) (by simp [results, Tryz.results85, go_sem, z1, z2]) rfl ?_
    exact ⟨_, _, rfl, HS2.out.drew.n1, HS2.out.drew.n2, HS2.out.drew.u⟩

theorem divmod_any (u v : Value) (m n : Nat) (w : World) (hu : NV w u m) (hv : NV w v n) (h0 : 0 < n) (hlen : (wds m).length ≤ 1073741824) :
    Calls Tryz.prog 85 #[u, v] w (RNat2E (m / n) (m % n) 0 w) := by
  rcases Nat.lt_or_ge m n with h | h
  · have := divmod_less u v m n w hu hv h (by omega)
    rw [Nat.div_eq_of_lt h, Nat.mod_eq_of_lt h]
    exact this
  · rcases Nat.lt_or_ge n 18446744073709551616 with h1 | h1
    · exact divmod_word u v m n w hu hv h (by omega) h1 (by omega)
    · refine divmod_many u v m n w hu hv h ?_ hlen
      rcases Nat.lt_or_ge (wds n).length 2 with h2 | h2
      · have := (wds_length_le_iff n 1).1 (by omega)
        rw [Nat.pow_one] at this
        omega
      · exact h2
end Go.Proofs.YtoklmfmoblkfcaaGreatDoor

/- Fractions (layer 7): by. -/
namespace Go.Proofs.YtoklmfmoblkfcaaGreatDoor
open Go.RowKit Go.Proofs.Tm
set_option linter.unusedVariables false
set_option linter.unusedSimpArgs false
set_option maxRecDepth 20000

set_option maxHeartbeats 1600000 in
theorem by_any (u v : Value) (m n : Nat) (w : World) (hu : NV w u m) (hv : NV w v n) (hn : 0 < n) (hl : (wds m).length ≤ 1073741824) :
    Calls Tryz.prog 82 #[u, v] w (RNat (m / n) w) := by
  obtain ⟨a0, l0, c0, rfl, h0⟩ := nvOpen hu
  obtain ⟨a1, l1, c1, rfl, h1⟩ := nvOpen hv
  have HD : Hid (∀ W, Upd [] w W → Calls Tryz.prog 85 #[.agg #[.slice a0 l0 c0], .agg #[.slice a1 l1 c1]] W (RNat2E (m / n) (m % n) 0 W)) := fun W h => divmod_any _ _ m n W (h0.upd0 h) (h1.upd0 h) hn hl
  clear hu hv h0 h1 hn hl
  obtain ⟨w0, hw0⟩ : ∃ W, W = (((w.alloc (.cells #[.slice a0 l0 c0] 27)).alloc (.cells #[.slice a1 l1 c1] 27)).alloc (.cells #[.slice none 0 0] 27)) := ⟨_, rfl⟩
  obtain ⟨S, hS⟩ : ∃ s, s = w.heap.size := ⟨_, rfl⟩
  obtain ⟨hu0, r0, r1, r2, hz0⟩ := rows3 w #[.slice a0 l0 c0] #[.slice a1 l1 c1] #[.slice none 0 0] 27 27 27 w0 hw0 S hS
  have HU0 := Lib.hid hu0
  have HW0 := Lib.hid hw0
  have HS := Lib.hid hS
  have HZ0 := Lib.hid hz0
  have hp0 := r0.cell 0
  have hp1 := r1.cell 0
  have HR2 := Lib.hid r2
  clear hw0 hS hu0 r0 r1 r2 hz0
  go_enter Tryz.func82, Tryz.ntmps82
  go_wp2_with fail
  rw [← HW0.out]
  rw [← HS.out]
  refine (HD.out _ HU0.out).mono ?_
  rintro e w1 ⟨v1, v2, rfl, hn1, hn2, hu1⟩
  obtain ⟨a2, l2, c2, rfl, hn1'⟩ := nvOpen hn1
  obtain ⟨a3, l3, c3, rfl, _⟩ := nvOpen hn2
  have HN1 := Lib.hid hn1'
  obtain ⟨w2, hw2⟩ : ∃ W, W = (w1.alloc (.cells #[.slice a2 l2 c2] 27)).alloc (.cells #[.slice a3 l3 c3] 27) := ⟨_, rfl⟩
  have hu2 : Upd [] w1 w2 := by rw [hw2]; exact ((Upd.refl _ _).alloc _).alloc _
  have HR := Lib.hid (HR2.out.upd0 (hu1.trans0 hu2))
  have HN := Lib.hid (HN1.out.upd0 hu2)
  have HU1 := Lib.hid (HU0.out.trans0 (hu1.trans0 hu2))
  have f0 := HR.out.cell 0
  have f1 := HR.out.frozen 0
  rw [hw2] at f0 f1
  have HW2 := Lib.hid hw2
  clear hn1 hn2 hu1 hn1' hp0 hp1 hu2 hw2
  go_wp2
  rw [← HW2.out]
  have z0 := (HR.out.set 0 (.slice a2 l2 c2)).cell 0
  refine bodyPost_ret (v := .agg #[.slice a2 l2 c2]) (by simp [results, Tryz.results82, go_sem, z0]) rfl ?_
  exact ⟨_, rfl, HN.out.putr HR.out nw1 _ _, HU1.out.setCell (.inr (by have := HS.out; show _ ≤ S + 1 + 1; omega)) _⟩

end Go.Proofs.YtoklmfmoblkfcaaGreatDoor

/- Fractions (layer 7): over. -/
namespace Go.Proofs.YtoklmfmoblkfcaaGreatDoor
open Go.RowKit Go.Proofs.Tm
set_option linter.unusedVariables false
set_option linter.unusedSimpArgs false
set_option maxRecDepth 20000

set_option maxHeartbeats 1600000 in
theorem over_any (u v : Value) (z : Int) (d : Nat) (w : World) (hu : WV w u z) (hv : NV w v d) (hd : 0 < d) (hdv : d ∣ z.natAbs) (hl : (wds z.natAbs).length ≤ 1073741824) :
    Calls Tryz.prog 91 #[u, v] w (RWhole (z / (d : Int)) w) := by
  obtain ⟨a0, l0, c0, rfl, _⟩ := hu.open
  obtain ⟨a1, l1, c1, rfl, h1⟩ := nvOpen hv
  have HNG : Hid (∀ W, Upd [] w W → Calls Tryz.prog 17 #[.agg #[.bool (decide (z < 0)), .slice a0 l0 c0]] W (fun e w' => e = .returned (.bool (decide (z < 0))) ∧ Upd [] W w')) := fun W h => wneg_any _ z W (hu.upd0 h)
  have HAB : Hid (∀ W, Upd [] w W → Calls Tryz.prog 19 #[.agg #[.bool (decide (z < 0)), .slice a0 l0 c0]] W (RNat z.natAbs W)) := fun W h => wabs_any _ z W (hu.upd0 h)
  have HBY : Hid (∀ W s, Upd [] w W → NV W s z.natAbs → Calls Tryz.prog 82 #[s, .agg #[.slice a1 l1 c1]] W (RNat (z.natAbs / d) W)) := fun W s h hs => by_any _ _ _ _ W hs (h1.upd0 h) hd hl
  have HK : Hid (∀ W s, Upd [] w W → NV W s (z.natAbs / d) → Calls Tryz.prog 35 #[.bool (decide (z < 0)), s] W (RWhole (z / (d : Int)) W)) := fun W s h hs => by
    have := wmake_any (decide (z < 0)) _ _ W hs
    simp only [decide_eq_true_eq] at this
    rw [over_eq z d hd hdv] at this
    exact this
  generalize decide (z < 0) = b0 at *
  clear hu hv h1 hd hdv hl
  obtain ⟨w0, hw0⟩ : ∃ W, W = (((w.alloc (.cells #[.bool b0, .slice a0 l0 c0] 29)).alloc (.cells #[.slice a1 l1 c1] 27)).alloc (.cells #[.bool false, .slice none 0 0] 29)) := ⟨_, rfl⟩
  obtain ⟨S, hS⟩ : ∃ s, s = w.heap.size := ⟨_, rfl⟩
  obtain ⟨hu0, r0, r1, r2, hz0⟩ := rows3 w #[.bool b0, .slice a0 l0 c0] #[.slice a1 l1 c1] #[.bool false, .slice none 0 0] 29 27 29 w0 hw0 S hS
  have HU0 := Lib.hid hu0
  have HW0 := Lib.hid hw0
  have HS := Lib.hid hS
  have HZ0 := Lib.hid hz0
  have HC : Hid (∀ W, Upd [S + 1 + 1] w0 W → W.cell? ⟨S, 0, none⟩ = some (.bool b0) ∧ W.cell? ⟨S, 1, none⟩ = some (.slice a0 l0 c0) ∧ W.cell? ⟨S + 1, 0, none⟩ = some (.slice a1 l1 c1) ∧ Upd [S + 1 + 1] w0 W) := fun W h =>
    ⟨(r0.upd h (by simp <;> omega)).cell 0, (r0.upd h (by simp <;> omega)).cell 1, (r1.upd h (by simp <;> omega)).cell 0, h⟩
  have hcA : ∀ W, Upd [] w0 W → W.cell? ⟨S + 1 + 1, 0, none⟩ = some (.bool false) ∧ W.cell? ⟨S + 1 + 1, 1, none⟩ = some (.slice none 0 0) ∧ W.frozen? ⟨S + 1 + 1, 0, none⟩ = false ∧ W.frozen? ⟨S + 1 + 1, 1, none⟩ = false := fun W h => ⟨(r2.upd0 h).cell 0, (r2.upd0 h).cell 1, (r2.upd0 h).frozen 0, (r2.upd0 h).frozen 1⟩
  have HRES := Lib.hid r2
  have hrf : Upd [] w0 w0 := Upd.refl _ _
  clear hw0 hS hu0 r0 r1 r2 hz0
  go_enter Tryz.func91, Tryz.ntmps91
  go_wp2_with fail
  rw [← HW0.out]
  rw [← HS.out]
  go_region_held3 (fun W => W.cell? ⟨S, 0, none⟩ = some (.bool b0) ∧ W.cell? ⟨S, 1, none⟩ = some (.slice a0 l0 c0) ∧ W.cell? ⟨S + 1, 0, none⟩ = some (.slice a1 l1 c1) ∧ Upd [S + 1 + 1] w0 W)
    ((refine HC.out _ ?_; repeat (first | (with_reducible refine Upd.setCell ?_ (.inl (by simp)) _) | (with_reducible exact huy.mono (by simp)) | (with_reducible exact hrf.mono (by simp)) | (with_reducible apply Upd.drew) | (with_reducible apply Upd.alloc))))
    (first
      | (go_at_call 17; (with_reducible refine (HNG.out _ (HU0.out.trans0 (by repeat (first | exact huy | exact hrf | apply Upd.drew | apply Upd.alloc)))).mono ?_); rintro e wz ⟨rfl, hu20⟩;   have huz : Upd [] w0 wz := Upd.trans0 (by repeat (first | exact huy | exact hrf | apply Upd.drew | apply Upd.alloc)) hu20; (try clear huy); clear hu20; have huy := huz; clear huz)
      | (go_at_call 19; (with_reducible refine (HAB.out _ (HU0.out.trans0 (by repeat (first | exact huy | exact hrf | apply Upd.drew | apply Upd.alloc)))).mono ?_); rintro e wz ⟨vA, rfl, hnA, hu20⟩;  have HNA := Lib.hid hnA; clear hnA; have huz : Upd [] w0 wz := Upd.trans0 (by repeat (first | exact huy | exact hrf | apply Upd.drew | apply Upd.alloc)) hu20; (try clear huy); clear hu20; have huy := huz; clear huz)
      | (go_at_call 82; (with_reducible refine (HBY.out _ _ (HU0.out.trans0 (by repeat (first | exact huy | exact hrf | apply Upd.drew | apply Upd.alloc))) HNA.out).mono ?_); rintro e wz ⟨vB, rfl, hnB, hu20⟩; have HNA := Lib.hid (HNA.out.upd0 (by first | exact hu20 | exact Upd.al hu20)); have HNB := Lib.hid hnB; clear hnB; have huz : Upd [] w0 wz := Upd.trans0 (by repeat (first | exact huy | exact hrf | apply Upd.drew | apply Upd.alloc)) hu20; (try clear huy); clear hu20; have huy := huz; clear huz)
      | (go_at_call 35; (with_reducible refine (HK.out _ _ (HU0.out.trans0 (by repeat (first | exact huy | exact hrf | apply Upd.drew | apply Upd.alloc))) HNB.out).mono ?_); rintro e wz ⟨vK, rfl, hvK, hu20⟩; have HNA := Lib.hid (HNA.out.upd0 (by first | exact hu20 | exact Upd.al hu20)); have HNB := Lib.hid (HNB.out.upd0 (by first | exact hu20 | exact Upd.al hu20)); obtain ⟨aK, lK, cK, rfl, _⟩ := hvK.open; have HK := Lib.hid hvK; clear hvK; have huz : Upd [] w0 wz := Upd.trans0 (by repeat (first | exact huy | exact hrf | apply Upd.drew | apply Upd.alloc)) hu20; (try clear huy); clear hu20; have huy := huz; clear huz; obtain ⟨x0, x1, x2, x3⟩ := hcA _ huy))
  all_goals
    have HP := Lib.hid (NewW.set ⟨HRES.out.upd0 huy, by have := HS.out; omega⟩ (HU0.out.trans0 huy) HK.out)
    clear hcA huy
    generalize decide (z / (d : Int) < 0) = pK at *
    have z0 := HP.out.row.cell 0
    have z1 := HP.out.row.cell 1
    go_wp2
    refine bodyPost_ret (v := .agg #[.bool pK, .slice aK lK cK]) (by simp [results, Tryz.results91, go_sem, z0, z1]) rfl ?_
    exact ⟨_, rfl, HP.out.wv, HP.out.upd⟩

end Go.Proofs.YtoklmfmoblkfcaaGreatDoor

/- Plain mathematics of groups of nineteen decimal digits. Nothing of the program is imported. -/
namespace Go.Proofs.Tm
set_option linter.unusedVariables false
set_option maxRecDepth 20000

/-- The groups of q, the lowest first: of 0 none. -/
def rest (q : Nat) : List Nat := if h : q = 0 then [] else q % 10000000000000000000 :: rest (q / 10000000000000000000)
termination_by q
decreasing_by exact Nat.div_lt_self (by omega) (by decide)

/-- The groups of n: of 0 one, too. -/
def grps (n : Nat) : List Nat := n % 10000000000000000000 :: rest (n / 10000000000000000000)

theorem rest_zero : rest 0 = [] := by rw [rest]; simp
theorem rest_pos {q : Nat} (h : q ≠ 0) : rest q = q % 10000000000000000000 :: rest (q / 10000000000000000000) := by rw [rest]; simp [h]

theorem rest_length_le : ∀ (k q : Nat), q < 10000000000000000000 ^ k → (rest q).length ≤ k
  | 0, q, h => by
    have : q = 0 := by simpa using h
    rw [this, rest_zero]; simp
  | k + 1, q, h => by
    by_cases h0 : q = 0
    · rw [h0, rest_zero]; simp
    · rw [rest_pos h0, List.length_cons]
      have := rest_length_le k (q / 10000000000000000000) (by rw [Nat.div_lt_iff_lt_mul (by decide)]; rw [Nat.pow_succ] at h; exact h)
      omega

theorem rest_lt (q : Nat) : ∀ d ∈ rest q, d < 10000000000000000000 := by
  induction q using Nat.strongRecOn with
  | _ q ih =>
    by_cases h0 : q = 0
    · rw [h0, rest_zero]; simp
    · rw [rest_pos h0]
      intro d hd
      rcases List.mem_cons.1 hd with rfl | hd
      · exact Nat.mod_lt _ (by decide)
      · exact ih _ (Nat.div_lt_self (by omega) (by decide)) d hd

theorem rest_getD : ∀ (i q : Nat), (rest q).getD i 0 = q / 10000000000000000000 ^ i % 10000000000000000000
  | i, q => by
    by_cases h0 : q = 0
    · subst h0; rw [rest_zero]; simp
    · rw [rest_pos h0]
      cases i with
      | zero => simp
      | succ i =>
        rw [List.getD_cons_succ, rest_getD i, Nat.div_div_eq_div_mul, Nat.pow_succ, Nat.mul_comm]

theorem rest_top (q : Nat) : q / 10000000000000000000 ^ (rest q).length = 0 ∧ ∀ i, i < (rest q).length → q / 10000000000000000000 ^ i ≠ 0 := by
  induction q using Nat.strongRecOn with
  | _ q ih =>
    by_cases h0 : q = 0
    · rw [h0, rest_zero]; simp
    · rw [rest_pos h0]
      obtain ⟨h1, h2⟩ := ih _ (Nat.div_lt_self (by omega) (by decide) : q / 10000000000000000000 < q)
      rw [Nat.div_div_eq_div_mul] at h1
      refine ⟨by rw [List.length_cons, Nat.pow_succ, Nat.mul_comm]; exact h1, fun i hi => ?_⟩
      cases i with
      | zero => simpa using h0
      | succ i =>
        have := h2 i (by simpa using hi)
        rw [Nat.div_div_eq_div_mul] at this
        rw [Nat.pow_succ, Nat.mul_comm]
        exact this

theorem grps_lt (n : Nat) : ∀ d ∈ grps n, d < 10000000000000000000 := by
  intro d hd
  rcases List.mem_cons.1 hd with rfl | hd
  · exact Nat.mod_lt _ (by decide)
  · exact rest_lt _ d hd

theorem grps_getD (n i : Nat) : (grps n).getD i 0 = n / 10000000000000000000 ^ i % 10000000000000000000 := by
  unfold grps
  cases i with
  | zero => simp
  | succ i => rw [List.getD_cons_succ, rest_getD, Nat.div_div_eq_div_mul, Nat.pow_succ, Nat.mul_comm]

theorem grps_top (n : Nat) : n / 10000000000000000000 ^ (grps n).length = 0 ∧ ∀ i, 0 < i → i < (grps n).length → n / 10000000000000000000 ^ i ≠ 0 := by
  obtain ⟨h1, h2⟩ := rest_top (n / 10000000000000000000)
  unfold grps
  refine ⟨by rw [List.length_cons, Nat.pow_succ, Nat.mul_comm, ← Nat.div_div_eq_div_mul]; exact h1, fun i h0 hi => ?_⟩
  obtain ⟨j, rfl⟩ : ∃ j, i = j + 1 := ⟨i - 1, by omega⟩
  have := h2 j (by simpa using hi)
  rw [Nat.pow_succ, Nat.mul_comm, ← Nat.div_div_eq_div_mul]
  exact this

theorem grps_length_le (n : Nat) : (grps n).length ≤ 2 * (wds n).length + 1 := by
  have h1 := wds_lt_pow n
  have h2 : (18446744073709551616 : Nat) ^ (wds n).length ≤ 10000000000000000000 ^ (2 * (wds n).length) := by
    rw [Nat.pow_mul]
    exact Nat.pow_le_pow_left (by decide) _
  have := rest_length_le (2 * (wds n).length) (n / 10000000000000000000) (Nat.lt_of_le_of_lt (Nat.div_le_self _ _) (Nat.lt_of_lt_of_le h1 h2))
  unfold grps
  rw [List.length_cons]
  omega
theorem grps_pos (n : Nat) : 0 < (grps n).length := by unfold grps; simp

/-- The highest group is the number itself, cut there. -/
theorem grps_last (n : Nat) : (grps n).getD ((grps n).length - 1) 0 = n / 10000000000000000000 ^ ((grps n).length - 1) := by
  rw [grps_getD]
  apply Nat.mod_eq_of_lt
  have h := (grps_top n).1
  have hp := grps_pos n
  rw [show (grps n).length = ((grps n).length - 1) + 1 by omega, Nat.pow_succ, ← Nat.div_div_eq_div_mul, Nat.div_eq_zero_iff] at h
  rcases h with h | h
  · exact absurd h (by decide)
  · exact h
end Go.Proofs.Tm

/- The contract of nat's groups. -/
namespace Go.Proofs.YtoklmfmoblkfcaaGreatDoor
open Go.RowKit Go.Proofs.Tm Go.Shelf
set_option linter.unusedVariables false
set_option maxRecDepth 20000

def slen : Value → Nat | .slice _ n _ => n | _ => 0

theorem NV.updN {w w' : World} {S : List Nat} {a : Option Addr} {l c n : Nat} (h : NV w (.agg #[.slice a l c]) n) (u : Upd S w w') (hS : n ≠ 0 → ∀ k, nblk (.agg #[.slice a l c]) = some k → k ∉ S) : NV w' (.agg #[.slice a l c]) n := by
  refine ⟨_, rfl, h.sl.upd u (fun hx => ?_)⟩
  have hn : n ≠ 0 := by rintro rfl; rw [wds_zero] at hx; exact hx rfl
  intro k hk
  exact hS hn k (by simpa [nblk] using hk)

/-- Between two rounds: the groups so far, what is left, the cells. -/
structure GrpI (w : World) (i j base : Nat) (n : Nat) (v : Value) (W : World) : Prop where
  ex : ∃ (q : Nat) (L : List Nat) (a b : Option Addr) (l c l' c' : Nat), W.heap[i]? = some (.cells #[.slice a l c] 27 (0, 0)) ∧ W.heap[j]? = some (.cells #[.slice b l' c'] 27 (0, 0)) ∧ NV W (.agg #[.slice a l c]) q ∧ W.ownsRow base 64 1 v L.length (cu64 L) ∧ L ++ rest q = grps n ∧ q ≤ n ∧ (q ≠ 0 → ∀ k, nblk (.agg #[.slice a l c]) = some k → v.ownBlock ≠ some k)
  u : Upd [] w W

set_option maxHeartbeats 1600000 in
theorem groups_any (u : Value) (n : Nat) (w : World) (hu : NV w u n) (hlen : (wds n).length ≤ 1073741824) :
    Calls Tryz.prog 68 #[u] w (RSl (cu64 (grps n)) w) := by
  obtain ⟨a, cap, rfl, hl, hcm⟩ := hu.open
  have HA := Lib.hid hu
  have hlen' : (wds n).length ≤ 1099511627776 := by omega
  have HLN := Lib.hid hlen'
  have HM : Hid ((grps n).length ≤ 2147483649) := by show _ ≤ _; have := grps_length_le n; omega
  have HBW : Hid (∀ W v q, NV W v q → q ≤ n → Calls Tryz.prog 110 #[v, .int .u64 10000000000000000000] W (RNat2F (q / 10000000000000000000) (q % 10000000000000000000) W)) := fun W v q h hq => by
    have := byWord_fresh v q 10000000000000000000 W h (by decide) (by decide) (Nat.le_trans (wds_length_le hq) HLN.out)
    simpa using this
  have HW0 : Hid (∀ W v k, NV W v k → k < 18446744073709551616 → Calls Tryz.prog 87 #[v, .int .i64 0] W fun e w' => e = .returned (.int .u64 (k : Int)) ∧ Upd [] W w') := fun W v k h hk => by
    have := word_any v k 0 W h (by decide)
    rw [wds_getD] at this
    simpa [Nat.mod_eq_of_lt hk] using this
  generalize (wds n).length = lm at *
  clear hu
  go_enter Tryz.func68, Tryz.ntmps68
  go_wp2_with fail
  refine (HBW.out _ _ n (HA.out.upd0 ((Upd.refl _ _).alloc _)) (Nat.le_refl _)).mono ?_
  rintro e w1 ⟨v1, v2, rfl, hn1, hn2, hu1, _⟩
  obtain ⟨a1, cap1, rfl, hl1, hm1⟩ := hn1.open
  obtain ⟨a2, cap2, rfl, hl2, hm2⟩ := hn2.open
  generalize (wds (n / 10000000000000000000)).length = l1 at *
  generalize (wds (n % 10000000000000000000)).length = l2 at *
  have hu01 := ((Upd.refl [] w).alloc _).trans0 hu1
  have HN1 := Lib.hid hn1
  have HN2 := Lib.hid hn2
  have HU1 := Lib.hid hu01
  clear hn1 hn2 hu1 hu01
  go_wp2_with fail
  obtain ⟨i, hi⟩ : ∃ i, i = w1.heap.size := ⟨_, rfl⟩
  have hwi : w.heap.size ≤ i := by rw [hi]; exact HU1.out.size
  refine (HW0.out _ _ _ (HN2.out.upd0 (((Upd.refl _ _).alloc _).alloc _)) (by omega)).mono ?_
  rintro e w2 ⟨rfl, hu2⟩
  have hb1 : w2.heap[i]? = some (.cells #[.slice a1 l1 cap1] 27 (0, 0)) := by
    rw [hu2.block _ (by simp; omega) (by simp), Below.heap_alloc _ _ _ (by simp; omega), hi]; exact heap_alloc_new w1 _
  have hb2 : w2.heap[i + 1]? = some (.cells #[.slice a2 l2 cap2] 27 (0, 0)) := by
    rw [hu2.block _ (by simp; omega) (by simp), hi]; have := heap_alloc_new (w1.alloc (.cells #[.slice a1 l1 cap1] 27)) (.cells #[.slice a2 l2 cap2] 27); simpa using this
  have hu12 : Upd [] w1 w2 := (((Upd.refl _ _).alloc _).alloc _).trans0 hu2
  have hsz : i + 2 ≤ w2.heap.size := by have := hu2.size; simp at this; omega
  have H0 : Hid (GrpI w i (i + 1) (i + 2) n (.slice (some ⟨w2.heap.size, 0, none⟩) 1 1) (w2.alloc (.cells #[.int .u64 ((n % 10000000000000000000 : Nat) : Int)] 64))) :=
    ⟨⟨_, [n % 10000000000000000000], _, _, _, _, _, _, (Below.heap_alloc _ _ _ (by omega)).trans hb1, (Below.heap_alloc _ _ _ (by omega)).trans hb2, HN1.out.upd0 (hu12.alloc _), by have := own_lit w2 64 #[.int .u64 ((n % 10000000000000000000 : Nat) : Int)] (by simp [maxLen]); exact ownsRow_base this hsz, rfl, Nat.div_le_self _ _, fun h0 k hk e => by have := HN1.out.blk (by rw [Ne, wds_nil]; exact h0) k (by simpa [nblk] using hk); simp [Value.ownBlock] at e; omega⟩, (HU1.out.trans0 hu12).alloc _⟩
  rw [← hi]
  clear hb1 hb2 hu12 hu2 hi hsz
  go_wp2_with fail
  go_loopw [5] (fun v5 wr => GrpI w i (i + 1) (i + 2) n v5 wr) (fun v5 _ => (grps n).length - slen v5)
  case atStart => simpa using H0.out
  case round =>
    obtain ⟨⟨q, L, a3, a4, l3, c3, l4, c4, hb1, hb2, hx, ho, he, hq, _⟩, hu⟩ := hrel
    obtain ⟨a5, c5, rfl⟩ := own_ex ho
    have HX := Lib.hid hx
    have HO := Lib.hid ho
    have HE := Lib.hid he
    have HU := Lib.hid hu
    have HB1 := Lib.hid hb1
    have HB2 := Lib.hid hb2
    have hc1 : wr.cell? ⟨i, 0, none⟩ = some (.slice a3 l3 c3) := by rw [cell_of_row wr _ 0 _ _ _ hb1]; rfl
    clear hx ho he hu hb1 hb2 H0
    by_cases h0 : q = 0
    · go_wp2_with fail
      refine (zero_any _ _ _ HX.out).mono ?_
      rintro e w3 ⟨rfl, hu3⟩
      have hd : decide (q = 0) = true := by simpa using h0
      rw [hd]
      have hL : L = grps n := by have := HE.out; rw [h0, rest_zero, List.append_nil] at this; exact this
      have HO3 := Lib.hid (ownsRow_upd HO.out hu3 (by simp))
      have HU3 := Lib.hid (HU.out.trans0 hu3)
      have HL := Lib.hid hL
      clear hu3 hL
      go_wp2
      go_ret
      refine ⟨_, rfl, by rw [← HL.out]; exact Sl.own HO3.out, HU3.out, fun k hk => ?_⟩
      have := (HO3.out.lt k hk).1
      omega
    · go_wp2_with fail
      refine (zero_any _ _ _ HX.out).mono ?_
      rintro e w3 ⟨rfl, hu3⟩
      have hd : decide (q = 0) = false := by simpa using h0
      rw [hd]
      have hb1 := (hu3.block i (Array.getElem?_eq_some_iff.1 HB1.out).1 (by simp)).trans HB1.out
      have hb2 := (hu3.block (i + 1) (Array.getElem?_eq_some_iff.1 HB2.out).1 (by simp)).trans HB2.out
      have hx := HX.out.upd0 hu3
      have ho := ownsRow_upd HO.out hu3 (by simp)
      have hu := HU.out.trans0 hu3
      have hc3' : w3.cell? ⟨i, 0, none⟩ = some (.slice a3 l3 c3) := by rw [cell_of_row w3 _ 0 _ _ _ hb1]; rfl
      have hi3 := (Array.getElem?_eq_some_iff.1 hb1).1
      have hj3 := (Array.getElem?_eq_some_iff.1 hb2).1
      clear hu3 HX HO HU HB1 HB2 hc1
      have HX := Lib.hid hx
      have HO := Lib.hid ho
      have HU := Lib.hid hu
      have HB1 := Lib.hid hb1
      have HB2 := Lib.hid hb2
      clear hx ho hu hb1 hb2
      go_wp2_with fail
      refine (HBW.out _ _ q HX.out hq).mono ?_
      rintro e w4 ⟨v1, v2, rfl, hn1, hn2, hu4, hk4⟩
      obtain ⟨a6, c6, rfl, hl6, hm6⟩ := hn1.open
      obtain ⟨a7, c7, rfl, hl7, hm7⟩ := hn2.open
      generalize (wds (q / 10000000000000000000)).length = l6 at *
      generalize (wds (q % 10000000000000000000)).length = l7 at *
      have hb1 := (hu4.block i hi3 (by simp)).trans HB1.out
      have hb2 := (hu4.block (i + 1) hj3 (by simp)).trans HB2.out
      have hst := store2 (by omega) (by omega) (by omega) hb1 hb2 (HU.out.trans0 hu4) hn1 hn2
      have ho := ownsRow_kept (ownsRow_upd HO.out hu4 (by simp)) (w' := (w4.setCell ⟨i, 0, none⟩ (.slice a6 l6 c6)).setCell ⟨i + 1, 0, none⟩ (.slice a7 l7 c7)) (fun g hg => by
        have := (HO.out.lt g hg).1
        rw [Below.heap_setCell _ _ _ _ (by show g ≠ i + 1; omega), Below.heap_setCell _ _ _ _ (by show g ≠ i; omega)])
      have g1 : w4.cell? ⟨i, 0, none⟩ = some (.slice a3 l3 c3) := by rw [cell_of_row w4 _ 0 _ _ _ hb1]; rfl
      have g2 : w4.frozen? ⟨i, 0, none⟩ = false := by simp [World.frozen?, hb1]
      have g3 : w4.cell? ⟨i + 1, 0, none⟩ = some (.slice a4 l4 c4) := by rw [cell_of_row w4 _ 0 _ _ _ hb2]; rfl
      have g4 : w4.frozen? ⟨i + 1, 0, none⟩ = false := by simp [World.frozen?, hb2]
      have HST := Lib.hid hst
      have HK4 := Lib.hid hk4
      have HLT : Hid (∀ g, (Value.slice a5 L.length c5).ownBlock = some g → g < w3.heap.size) := fun g hg => (HO.out.lt g hg).2
      have HO4 := Lib.hid ho
      have g5 := hst.c2
      have g6 : q % 10000000000000000000 < 18446744073709551616 := by have := Nat.mod_lt q (y := 10000000000000000000) (by decide); omega
      have HG6 := Lib.hid g6
      clear hk4 hn1 hn2 hu4 hb1 hb2 hst ho HX HO HU HB1 HB2 g6
      go_wp2_with fail
      refine (HW0.out _ _ _ HST.out.n2 HG6.out).mono ?_
      rintro e w5 ⟨rfl, hu5⟩
      have HO5 := Lib.hid (ownsRow_upd HO4.out hu5 (by simp))
      have hb1 := (hu5.block i (Array.getElem?_eq_some_iff.1 HST.out.b1).1 (by simp)).trans HST.out.b1
      have hb2 := (hu5.block (i + 1) (Array.getElem?_eq_some_iff.1 HST.out.b2).1 (by simp)).trans HST.out.b2
      have HN1 := Lib.hid (HST.out.n1.upd0 hu5)
      have HN2 := Lib.hid (HST.out.n2.upd0 hu5)
      have HU5 := Lib.hid (HST.out.u.trans0 hu5)
      have hsz : i + 2 ≤ w5.heap.size := by have := (Array.getElem?_eq_some_iff.1 hb2).1; omega
      have HB1 := Lib.hid hb1
      have HB2 := Lib.hid hb2
      have HEQ : Hid ((L ++ [q % 10000000000000000000]) ++ rest (q / 10000000000000000000) = grps n) := by
        show _ = _
        rw [← HE.out, rest_pos h0]
        simp
      have HLL : Hid (L.length < (grps n).length) := by
        show _ < _
        rw [← HE.out, rest_pos h0]
        simp
      have HSZ := Lib.hid hsz
      obtain ⟨d, hd'⟩ : ∃ d, d = q % 10000000000000000000 := ⟨_, rfl⟩
      rw [← hd'] at HEQ HN2 ⊢
      clear hu5 hb1 hb2 hd' HST HO4 g1 g2 g3 g4 g5 HG6 hsz hd HE
      go_wp2_with (at_builtin; refine wpList_append_sl _ rfl (.tmp 22) (.tmp 25) 22 rfl (i + 2) 64 (.int .u64 0) 8 Tryz.underlying22 infoU64 rfl _ _ _ rfl (ownsRow_upd HO5.out ((Upd.refl [] _).alloc _) (by simp)) _ (cu64 [d]) rfl (Sl.lit1 _ _ _) (cu64_one _) ?c2 ?c3 ?c4 ?go)
      case c2 => have := HM.out; have := HLL.out; unfold maxLen; simp; omega
      case c3 => have := HM.out; have := HLL.out; simp; omega
      case c4 => have := HSZ.out; simp; omega
      case go =>
        intro v6 w6 ho6 hg6 hfr
        have hown : ∀ g, (Value.slice a5 L.length c5).ownBlock = some g → i + 2 ≤ g := fun g hg => (HO5.out.lt g hg).1
        have k1 : w6.heap[i]? = some (.cells #[.slice a6 l6 c6] 27 (0, 0)) := by
          rw [hg6.block i (by have := HSZ.out; simp; omega) (fun e => by have := hown i e.symm; omega), Below.heap_alloc _ _ _ (by have := HSZ.out; omega)]
          exact HB1.out
        have k2 : w6.heap[i + 1]? = some (.cells #[.slice a7 l7 c7] 27 (0, 0)) := by
          rw [hg6.block (i + 1) (by have := HSZ.out; simp; omega) (fun e => by have := hown (i + 1) e.symm; omega), Below.heap_alloc _ _ _ (by have := HSZ.out; omega)]
          exact HB2.out
        have hu6 : Upd [] w w6 := (HU5.out.alloc _).grown hg6 (fun k hk => .inr (by have := hown k hk; omega))
        have hsep : ∀ k, nblk (.agg #[.slice a6 l6 c6]) = some k → (Value.slice a5 L.length c5).ownBlock ≠ some k := fun k h1 h2 => by
          have := HK4.out k h1
          have := HLT.out k h2
          omega
        have hn6 : NV w6 (.agg #[.slice a6 l6 c6]) (q / 10000000000000000000) := (HN1.out.upd0 ((Upd.refl _ _).alloc _)).updN (Upd.of_grown hg6) (fun _ k hk hm => by
          rw [Option.mem_toList] at hm
          exact hsep k hk hm)
        have hsep6 : q / 10000000000000000000 ≠ 0 → ∀ k, nblk (.agg #[.slice a6 l6 c6]) = some k → v6.ownBlock ≠ some k := fun h0 k h1 h2 => by
          have hb := HN1.out.blk (by rw [Ne, wds_nil]; exact h0) k (by simpa [nblk] using h1)
          rcases hfr with hf | ⟨g, hg, hg2⟩
          · rw [hf] at h2; exact hsep k h1 h2
          · rw [hg] at h2
            simp at h2 hg2
            omega
        obtain ⟨a8, c8, rfl⟩ := own_ex ho6
        have HF : Hid (GrpI w i (i + 1) (i + 2) n (.slice a8 (L.length + 1) c8) w6) := ⟨⟨_, L ++ [d], _, _, _, _, _, _, k1, k2, hn6, by simpa [cu64] using ho6, HEQ.out, Nat.le_trans (Nat.div_le_self _ _) hq, hsep6⟩, hu6⟩
        clear ho6 hg6 k1 k2 hu6 hn6 hown hsep hsep6 hfr
        go_wp2_with fail
        exact ⟨HF.out, by have := HLL.out; simp only [slen]; omega⟩
end Go.Proofs.YtoklmfmoblkfcaaGreatDoor

/- Plain mathematics of digits of base 10000 (the document's own numbers of layer 5): value and digits. Nothing of the program is imported. -/
namespace Go.Proofs.Tm
set_option linter.unusedVariables false
set_option maxRecDepth 20000

/-- The value of digits of base 10000, the lowest first. -/
def dval : List Nat → Nat
  | [] => 0
  | d :: l => d + 10000 * dval l

/-- The digits of a number: none of them 0 at the end. -/
def digs (n : Nat) : List Nat := if h : n = 0 then [] else n % 10000 :: digs (n / 10000)
termination_by n
decreasing_by omega

theorem digs_zero : digs 0 = [] := by rw [digs]; simp
theorem digs_pos (n : Nat) (h : n ≠ 0) : digs n = n % 10000 :: digs (n / 10000) := by rw [digs]; simp [h]

theorem dval_digs (n : Nat) : dval (digs n) = n := by
  induction n using Nat.strongRecOn with
  | _ n ih =>
    by_cases h : n = 0
    · subst h; rw [digs_zero]; rfl
    · rw [digs_pos n h, dval, ih (n / 10000) (by omega)]; omega

theorem digs_lt (n : Nat) : ∀ d ∈ digs n, d < 10000 := by
  induction n using Nat.strongRecOn with
  | _ n ih =>
    intro d hd
    by_cases h : n = 0
    · subst h; rw [digs_zero] at hd; simp at hd
    · rw [digs_pos n h] at hd
      rcases List.mem_cons.1 hd with rfl | hd
      · exact Nat.mod_lt _ (by decide)
      · exact ih _ (by omega) d hd

theorem dval_append (l m : List Nat) : dval (l ++ m) = dval l + 10000 ^ l.length * dval m := by
  induction l with
  | nil => simp [dval]
  | cons d l ih =>
    simp only [List.cons_append, dval, ih, List.length_cons, Nat.pow_succ]
    rw [Nat.mul_add, ← Nat.mul_assoc, Nat.mul_comm 10000 (10000 ^ l.length)]
    omega

theorem dval_snoc (l : List Nat) (d : Nat) : dval (l ++ [d]) = dval l + 10000 ^ l.length * d := by rw [dval_append]; simp [dval]

theorem dval_lt (l : List Nat) (h : ∀ d ∈ l, d < 10000) : dval l < 10000 ^ l.length := by
  induction l with
  | nil => simp [dval]
  | cons d l ih =>
    have h1 : d < 10000 := h d (by simp)
    have h2 := ih (fun x hx => h x (by simp [hx]))
    simp only [dval, List.length_cons, Nat.pow_succ]
    omega

theorem dval_zeros (l : List Nat) (h : ∀ d ∈ l, d = 0) : dval l = 0 := by
  induction l with
  | nil => rfl
  | cons d l ih => simp only [dval]; rw [h d (by simp), ih (fun x hx => h x (by simp [hx]))]

/-- Digits without noughts at the end are the number's. -/
theorem digs_dval (l : List Nat) (h : ∀ d ∈ l, d < 10000) (hl : ∀ d, l.getLast? = some d → d ≠ 0) : digs (dval l) = l := by
  induction l with
  | nil => exact digs_zero
  | cons d l ih =>
    have h1 : d < 10000 := h d (by simp)
    have hv : dval (d :: l) ≠ 0 := by
      intro h0
      simp only [dval] at h0
      have hd : d = 0 := by omega
      have hl0 : dval l = 0 := by omega
      cases l with
      | nil => exact hl d rfl hd
      | cons e m =>
        have e1 := ih (fun x hx => h x (by simp [hx])) (fun x hx => hl x (by simpa [List.getLast?_cons_cons] using hx))
        rw [hl0, digs_zero] at e1
        cases e1
    rw [digs_pos _ hv]
    simp only [dval]
    rw [show (d + 10000 * dval l) % 10000 = d by omega, show (d + 10000 * dval l) / 10000 = dval l by omega]
    cases l with
    | nil => simp [dval, digs_zero]
    | cons e m => rw [ih (fun x hx => h x (by simp [hx])) (fun x hx => hl x (by simpa [List.getLast?_cons_cons] using hx))]

/-- What trim leaves. -/
theorem trim_digs (l : List Nat) (n : Nat) (h : ∀ d ∈ l, d < 10000) (hn : n ≤ l.length) (h1 : n = 0 ∨ l[n - 1]? ≠ some 0) (h2 : ∀ j, n ≤ j → j < l.length → l[j]? = some 0) : l.take n = digs (dval l) := by
  have hz : dval (l.drop n) = 0 := dval_zeros _ (by
    intro d hd
    obtain ⟨j, hj, rfl⟩ := List.mem_iff_getElem.1 hd
    have hj' : j < l.length - n := by simpa using hj
    have := h2 (n + j) (by omega) (by omega)
    rw [List.getElem_drop]
    rw [List.getElem?_eq_getElem (by omega)] at this
    simpa using this)
  have hv : dval l = dval (l.take n) := by
    have := dval_append (l.take n) (l.drop n)
    rw [List.take_append_drop, hz] at this
    simpa using this
  rw [hv]
  refine (digs_dval (l.take n) (fun d hd => h d (List.mem_of_mem_take hd)) ?_).symm
  intro d hd
  rcases h1 with rfl | h1
  · simp at hd
  · rintro rfl
    apply h1
    rw [List.getLast?_eq_getElem?, List.length_take, Nat.min_eq_left hn] at hd
    rw [List.getElem?_take] at hd
    split at hd
    · exact hd
    · cases hd

theorem digs_length_le {m n : Nat} (h : m ≤ n) : (digs m).length ≤ (digs n).length := by
  induction n using Nat.strongRecOn generalizing m with
  | _ n ih =>
    by_cases h0 : m = 0
    · subst h0; rw [digs_zero]; simp
    · rw [digs_pos m h0, digs_pos n (by omega), List.length_cons, List.length_cons]
      exact Nat.succ_le_succ (ih (n / 10000) (by omega) (by omega))

theorem digs_lt_of_length {m n : Nat} (h : (digs m).length < (digs n).length) : m < n := by
  rcases Nat.lt_or_ge m n with h' | h'
  · exact h'
  · have := digs_length_le h'; omega

/-- Held against one another from above: the first unlike digit tells. -/
theorem dval_cmp (a b : List Nat) (k : Nat) (x y : Nat) (ha : ∀ d ∈ a, d < 10000) (hb : ∀ d ∈ b, d < 10000) (hl : a.length = b.length) (hx : a[k]? = some x) (hy : b[k]? = some y) (hxy : x < y) (he : a.drop (k + 1) = b.drop (k + 1)) : dval a < dval b := by
  have hka : k < a.length := (List.getElem?_eq_some_iff.1 hx).1
  have hkb : k < b.length := (List.getElem?_eq_some_iff.1 hy).1
  have e1 : a = a.take k ++ (x :: a.drop (k + 1)) := by
    have : a[k] = x := by rw [List.getElem?_eq_getElem hka] at hx; simpa using hx
    rw [← this, ← List.drop_eq_getElem_cons hka, List.take_append_drop]
  have e2 : b = b.take k ++ (y :: b.drop (k + 1)) := by
    have : b[k] = y := by rw [List.getElem?_eq_getElem hkb] at hy; simpa using hy
    rw [← this, ← List.drop_eq_getElem_cons hkb, List.take_append_drop]
  have v1 := dval_append (a.take k) (x :: a.drop (k + 1))
  have v2 := dval_append (b.take k) (y :: b.drop (k + 1))
  rw [← e1] at v1
  rw [← e2] at v2
  have l1 : (a.take k).length = k := by simp; omega
  have l2 : (b.take k).length = k := by simp; omega
  have t1 := dval_lt (a.take k) (fun d hd => ha d (List.mem_of_mem_take hd))
  rw [l1] at v1 t1
  rw [l2] at v2
  rw [v1, v2, ← he]
  simp only [dval]
  generalize 10000 * dval (a.drop (k + 1)) = r at *
  have : 10000 ^ k * (x + r) + 10000 ^ k ≤ 10000 ^ k * (y + r) := by
    rw [← Nat.mul_succ]; exact Nat.mul_le_mul_left _ (by omega)
  omega
end Go.Proofs.Tm

/- Plain mathematics of digits of base 10000: a round of a sum, a difference, a product, a quotient. Nothing of the program is imported. -/
namespace Go.Proofs.Tm
set_option linter.unusedVariables false
set_option maxRecDepth 20000

theorem dval_take_succ (a : List Nat) (i : Nat) : dval (a.take (i + 1)) = dval (a.take i) + 10000 ^ i * a.getD i 0 := by
  rcases Nat.lt_or_ge i a.length with h | h
  · rw [List.take_succ_eq_append_getElem h, dval_snoc, List.length_take, Nat.min_eq_left (Nat.le_of_lt h)]
    simp [h]
  · rw [List.take_of_length_le (by omega), List.take_of_length_le h]
    simp [h]

/-- A round of a sum. -/
theorem add_step (a b out : List Nat) (i c t : Nat) (hl : out.length = i) (h : dval out + 10000 ^ i * c = dval (a.take i) + dval (b.take i)) (ht : t = c + a.getD i 0 + b.getD i 0) :
    dval (out ++ [t % 10000]) + 10000 ^ (i + 1) * (t / 10000) = dval (a.take (i + 1)) + dval (b.take (i + 1)) := by
  rw [dval_snoc, hl, dval_take_succ, dval_take_succ, Nat.pow_succ, Nat.mul_assoc]
  have e : 10000 ^ i * (t % 10000) + 10000 ^ i * (10000 * (t / 10000)) = 10000 ^ i * t := by rw [← Nat.mul_add]; congr 1; omega
  have e2 : 10000 ^ i * t = 10000 ^ i * c + 10000 ^ i * a.getD i 0 + 10000 ^ i * b.getD i 0 := by rw [ht, Nat.mul_add, Nat.mul_add]
  omega

/-- A round of a difference: c is what was borrowed. -/
theorem sub_step (a b out : List Nat) (i c d c' : Nat) (hl : out.length = i) (h : dval (a.take i) + 10000 ^ i * c = dval out + dval (b.take i)) (hd : a.getD i 0 + 10000 * c' = d + c + b.getD i 0) :
    dval (a.take (i + 1)) + 10000 ^ (i + 1) * c' = dval (out ++ [d]) + dval (b.take (i + 1)) := by
  rw [dval_snoc, hl, dval_take_succ, dval_take_succ, Nat.pow_succ, Nat.mul_assoc]
  have e : 10000 ^ i * a.getD i 0 + 10000 ^ i * (10000 * c') = 10000 ^ i * d + 10000 ^ i * c + 10000 ^ i * b.getD i 0 := by rw [← Nat.mul_add, hd, Nat.mul_add, Nat.mul_add]
  omega

theorem dval_set (l : List Nat) (j d : Nat) (h : j < l.length) : dval (l.set j d) + 10000 ^ j * l.getD j 0 = dval l + 10000 ^ j * d := by
  induction l generalizing j with
  | nil => simp at h
  | cons x l ih =>
    cases j with
    | zero => simp [dval]; omega
    | succ j =>
      have := ih j (by simpa using h)
      simp only [List.set_cons_succ, dval, List.getD_cons_succ, Nat.pow_succ]
      have e1 : 10000 ^ j * 10000 * l.getD j 0 = 10000 * (10000 ^ j * l.getD j 0) := by rw [Nat.mul_comm (10000 ^ j) 10000, Nat.mul_assoc]
      have e2 : 10000 ^ j * 10000 * d = 10000 * (10000 ^ j * d) := by rw [Nat.mul_comm (10000 ^ j) 10000, Nat.mul_assoc]
      rw [e1, e2]
      omega

/-- A round of a product: the digit at i + k. -/
theorem mul_step (b out : List Nat) (i k c x V ai : Nat) (hj : i + k < out.length) (h : dval out + 10000 ^ (i + k) * c = V + 10000 ^ i * (ai * dval (b.take k))) (hx : x = out.getD (i + k) 0 + c + ai * b.getD k 0) :
    dval (out.set (i + k) (x % 10000)) + 10000 ^ (i + (k + 1)) * (x / 10000) = V + 10000 ^ i * (ai * dval (b.take (k + 1))) := by
  have hs := dval_set out (i + k) (x % 10000) hj
  rw [dval_take_succ, Nat.mul_add, Nat.mul_add]
  have e : 10000 ^ (i + k) * (x % 10000) + 10000 ^ (i + (k + 1)) * (x / 10000) = 10000 ^ (i + k) * x := by
    rw [← Nat.add_assoc, Nat.pow_succ, Nat.mul_assoc, ← Nat.mul_add]; congr 1; omega
  have e2 : 10000 ^ (i + k) * x = 10000 ^ (i + k) * out.getD (i + k) 0 + 10000 ^ (i + k) * c + 10000 ^ i * (ai * (10000 ^ k * b.getD k 0)) := by
    rw [hx, Nat.mul_add, Nat.mul_add]
    congr 1
    rw [Nat.pow_add, Nat.mul_assoc]
    congr 1
    rw [← Nat.mul_assoc, ← Nat.mul_assoc, Nat.mul_comm (10000 ^ k) ai]
  omega

/-- Behind the divisor's digits nothing is carried any more. -/
theorem mul_end (b out : List Nat) (i c V ai : Nat) (hb : ∀ d ∈ b, d < 10000) (hV : V < 10000 ^ (i + b.length)) (hai : ai < 10000) (h : dval out + 10000 ^ (i + (b.length + 1)) * c = V + 10000 ^ i * (ai * dval (b.take (b.length + 1)))) : c = 0 := by
  rw [List.take_of_length_le (by omega)] at h
  have hbv := dval_lt b hb
  have h1 : V + 10000 ^ i * (ai * dval b) < 10000 ^ (i + (b.length + 1)) := by
    have h2 : ai * dval b ≤ 9999 * 10000 ^ b.length := Nat.mul_le_mul (by omega) (Nat.le_of_lt hbv)
    have h3 : 10000 ^ i * (ai * dval b) ≤ 10000 ^ i * (9999 * 10000 ^ b.length) := Nat.mul_le_mul_left _ h2
    have h4 : 10000 ^ (i + (b.length + 1)) = 10000 ^ i * (9999 * 10000 ^ b.length) + 10000 ^ (i + b.length) := by
      rw [Nat.pow_add 10000 i (b.length + 1), Nat.pow_add 10000 i b.length, Nat.pow_succ, ← Nat.mul_add]; congr 1; omega
    omega
  rcases Nat.eq_zero_or_pos c with h0 | h0
  · exact h0
  · have := Nat.mul_le_mul_left (10000 ^ (i + (b.length + 1))) h0
    omega

/-- One digit more of the dividend. -/
theorem div_step (a b : List Nat) (i q r lo : Nat) (hi : i < a.length) (hb : 0 < dval b) (h : dval (a.drop (i + 1)) = q * dval b + r) (hr : r < dval b) (hlo : dval b * lo ≤ a.getD i 0 + 10000 * r) (hhi : a.getD i 0 + 10000 * r < dval b * (lo + 1)) :
    dval (a.drop i) = (lo + 10000 * q) * dval b + (a.getD i 0 + 10000 * r - dval b * lo) ∧ a.getD i 0 + 10000 * r - dval b * lo < dval b := by
  have e : dval (a.drop i) = a.getD i 0 + 10000 * dval (a.drop (i + 1)) := by
    rw [List.drop_eq_getElem_cons hi, dval]; simp [hi]
  rw [e, h]
  have e2 : (lo + 10000 * q) * dval b = dval b * lo + 10000 * (q * dval b) := by
    rw [Nat.add_mul, Nat.mul_comm lo, Nat.mul_assoc]
  rw [e2, Nat.mul_succ] at *
  constructor <;> omega
end Go.Proofs.Tm

/- Plain mathematics of decimal texts: digit by digit, group by group, and back. Nothing of the program is imported. -/
namespace Go.Proofs.Tm
open Go.Lib
set_option linter.unusedVariables false
set_option maxRecDepth 20000

theorem snoc_ind {α : Type} {P : List α → Prop} (h0 : P []) (h1 : ∀ l a, P l → P (l ++ [a])) (l : List α) : P l := by
  have : ∀ m : List α, P m.reverse := fun m => by
    induction m with
    | nil => exact h0
    | cons a m ih => rw [List.reverse_cons]; exact h1 _ _ ih
  simpa using this l.reverse

/-- The lowest j decimal digits of n, the highest of them first. -/
def low (n j : Nat) : List UInt8 := (List.range j).map fun t => dg n (j - 1 - t)
theorem low_zero (n : Nat) : low n 0 = [] := rfl
@[simp] theorem low_length (n j : Nat) : (low n j).length = j := by simp [low]

theorem low_succ (n j : Nat) : low n (j + 1) = dg n j :: low n j := by
  unfold low
  rw [List.range_succ_eq_map, List.map_cons, List.map_map]
  congr 1
  refine List.map_congr_left fun t ht => ?_
  have := List.mem_range.1 ht
  simp only [Function.comp]
  rw [show j + 1 - 1 - (t + 1) = j - 1 - t by omega]

theorem decDigits_low (n : Nat) : decDigits n = low n (nDigits n) := decDigits_eq n

theorem dg_add (n k j : Nat) : dg n (k + j) = dg (n / 10 ^ k) j := by
  unfold dg
  rw [Nat.pow_add, Nat.div_div_eq_div_mul]

theorem low_add (n a k : Nat) : low n (a + k) = low (n / 10 ^ k) a ++ low n k := by
  induction a with
  | zero => simp [low_zero]
  | succ a ih =>
    rw [show a + 1 + k = (a + k) + 1 by omega, low_succ, ih, low_succ, List.cons_append, Nat.add_comm a k, dg_add]

theorem dg_mod (n k j : Nat) (h : j < k) : dg (n % 10 ^ k) j = dg n j := by
  unfold dg
  congr 2
  obtain ⟨m, rfl⟩ : ∃ m, k = j + (m + 1) := ⟨k - j - 1, by omega⟩
  rw [Nat.pow_add, Nat.mod_mul_right_div_self, Nat.pow_succ, Nat.mod_mul_left_mod]

theorem low_mod (n k : Nat) : low (n % 10 ^ k) k = low n k := by
  unfold low
  refine List.map_congr_left fun t ht => ?_
  have := List.mem_range.1 ht
  exact dg_mod n k _ (by omega)

theorem dg_zero (n j : Nat) (h : n / 10 ^ j = 0) : dg n j = 48 := by unfold dg; rw [h]; rfl

theorem low_pad (n k : Nat) (h : nDigits n ≤ k) : low n k = List.replicate (k - nDigits n) 48 ++ decDigits n := by
  obtain ⟨m, rfl⟩ : ∃ m, k = nDigits n + m := ⟨k - nDigits n, by omega⟩
  rw [Nat.add_sub_cancel_left]
  clear h
  induction m with
  | zero => simp [decDigits_low]
  | succ m ih =>
    rw [← Nat.add_assoc, low_succ, ih, List.replicate_succ, List.cons_append]
    congr 1
    refine dg_zero _ _ (Nat.div_eq_of_lt (Nat.lt_of_lt_of_le (lt_pow_nDigits n) (Nat.pow_le_pow_right (by decide) (by omega))))

theorem pow_nDigits_le (n : Nat) (h : n ≠ 0) : 10 ^ (nDigits n - 1) ≤ n := by
  induction n using Nat.strongRecOn with
  | _ n ih =>
    by_cases h1 : n < 10
    · rw [nDigits_small h1]; simp; omega
    · have := ih (n / 10) (by omega) (by omega)
      rw [nDigits_big h1]
      have hp := nDigits_pos (n / 10)
      obtain ⟨m, hm⟩ : ∃ m, nDigits (n / 10) = m + 1 := ⟨nDigits (n / 10) - 1, by omega⟩
      rw [hm] at this ⊢
      simp only [Nat.add_sub_cancel] at this ⊢
      rw [Nat.pow_succ]
      omega

theorem nDigits_le_iff (n k : Nat) (hk : 1 ≤ k) : nDigits n ≤ k ↔ n < 10 ^ k := by
  constructor
  · intro h; exact Nat.lt_of_lt_of_le (lt_pow_nDigits n) (Nat.pow_le_pow_right (by decide) h)
  · intro h
    by_cases h0 : n = 0
    · subst h0; rw [nDigits_small (by decide)]; exact hk
    · rcases Nat.lt_or_ge k (nDigits n) with h1 | h1
      · have h2 := pow_nDigits_le n h0
        have h3 : 10 ^ k ≤ 10 ^ (nDigits n - 1) := Nat.pow_le_pow_right (by decide) (by omega)
        omega
      · exact h1

theorem nDigits_div (n k : Nat) (h : n / 10 ^ k ≠ 0) : nDigits n = nDigits (n / 10 ^ k) + k := by
  have h1 := pow_nDigits_le _ h
  have h2 := lt_pow_nDigits (n / 10 ^ k)
  have hp := nDigits_pos (n / 10 ^ k)
  obtain ⟨m, hm⟩ : ∃ m, nDigits (n / 10 ^ k) = m + 1 := ⟨nDigits (n / 10 ^ k) - 1, by omega⟩
  rw [hm] at h1 h2 ⊢
  simp only [Nat.add_sub_cancel] at h1
  have hk : 0 < 10 ^ k := Nat.pow_pos (by decide)
  rw [Nat.le_div_iff_mul_le hk, ← Nat.pow_add] at h1
  rw [Nat.div_lt_iff_lt_mul hk, ← Nat.pow_add] at h2
  rw [nDigits_unique (m + k) n h1 (by rw [show m + k + 1 = m + 1 + k by omega]; exact h2)]
  omega

/-- A number's text: the text of what stands above the lowest k digits, and these, with noughts ahead. -/
theorem decDigits_split (n k : Nat) (hk : 1 ≤ k) (h : n / 10 ^ k ≠ 0) : decDigits n = decDigits (n / 10 ^ k) ++ (List.replicate (k - nDigits (n % 10 ^ k)) 48 ++ decDigits (n % 10 ^ k)) := by
  have hlt : n % 10 ^ k < 10 ^ k := Nat.mod_lt _ (Nat.pow_pos (by decide))
  rw [← low_pad _ _ ((nDigits_le_iff _ _ hk).2 hlt), low_mod, decDigits_low, nDigits_div n k h, low_add, ← decDigits_low]

/-- When nothing is left above, the digits written are the number's text. -/
theorem low_done (n j : Nat) (h0 : n ≠ 0) (h1 : n / 10 ^ j = 0) (h2 : n / 10 ^ (j - 1) ≠ 0) : low n j = decDigits n := by
  have hj : 1 ≤ j := by
    rcases j with _ | j
    · simp at h1; omega
    · omega
  obtain ⟨m, rfl⟩ : ∃ m, j = m + 1 := ⟨j - 1, by omega⟩
  simp only [Nat.add_sub_cancel] at h2
  have hlt : n < 10 ^ (m + 1) := by
    rcases Nat.lt_or_ge n (10 ^ (m + 1)) with h | h
    · exact h
    · have := Nat.div_pos h (Nat.pow_pos (by decide)); omega
  have hge : 10 ^ m ≤ n := by
    rcases Nat.lt_or_ge n (10 ^ m) with h | h
    · exact absurd (Nat.div_eq_of_lt h) h2
    · exact h
  rw [decDigits_low, nDigits_unique m n hge hlt]

/-- What a text of digits comes to. -/
def decVal (l : List UInt8) : Nat := l.foldl (fun v c => v * 10 + (c.toNat - 48)) 0
theorem decVal_nil : decVal [] = 0 := rfl
theorem decVal_snoc (l : List UInt8) (c : UInt8) : decVal (l ++ [c]) = decVal l * 10 + (c.toNat - 48) := by simp [decVal]
theorem decVal_append (l m : List UInt8) : decVal (l ++ m) = decVal l * 10 ^ m.length + decVal m := by
  induction m using snoc_ind with
  | h0 => simp [decVal_nil]
  | h1 m c ih =>
    rw [← List.append_assoc, decVal_snoc, ih, decVal_snoc, List.length_append, Nat.pow_add]
    simp only [List.length_singleton, Nat.pow_one, Nat.add_mul, Nat.mul_assoc]
    omega

/-- Digits alone. -/
def Digs (l : List UInt8) : Prop := ∀ c ∈ l, 48 ≤ c.toNat ∧ c.toNat ≤ 57
theorem decVal_lt (l : List UInt8) (h : Digs l) : decVal l < 10 ^ l.length := by
  induction l using snoc_ind with
  | h0 => simp [decVal_nil]
  | h1 l c ih =>
    have := ih (fun x hx => h x (by simp [hx]))
    have hc := h c (by simp)
    rw [decVal_snoc, List.length_append, Nat.pow_add]
    simp only [List.length_singleton, Nat.pow_one]
    omega

theorem ofNat_digit (c : UInt8) (h : 48 ≤ c.toNat ∧ c.toNat ≤ 57) : UInt8.ofNat (48 + (c.toNat - 48)) = c := by
  rw [show 48 + (c.toNat - 48) = c.toNat by omega]; exact UInt8.ofNat_toNat

theorem decVal_pos (l : List UInt8) (h : Digs l) (c : UInt8) (m : List UInt8) (hl : l = c :: m) (hc : c ≠ 48) : 0 < decVal l := by
  subst hl
  rw [show c :: m = [c] ++ m from rfl, decVal_append]
  have h1 := h c (by simp)
  have h2 : c.toNat ≠ 48 := fun e => hc (by rw [← UInt8.toNat_inj]; exact e)
  have h3 : decVal [c] = c.toNat - 48 := by simp [decVal]
  rw [h3]
  have : 0 < (c.toNat - 48) * 10 ^ m.length := Nat.mul_pos (by omega) (Nat.pow_pos (by decide))
  omega

/-- Just these texts are numbers' texts. -/
theorem decDigits_decVal (l : List UInt8) (h : Digs l) (hne : l ≠ []) (h0 : l.length = 1 ∨ l.head? ≠ some 48) : decDigits (decVal l) = l := by
  induction l using snoc_ind with
  | h0 => exact absurd rfl hne
  | h1 l c ih =>
    have hc := h c (by simp)
    rw [decVal_snoc]
    by_cases hl : l = []
    · subst hl
      rw [decVal_nil, Nat.zero_mul, Nat.zero_add, decDigits_one (by omega), ofNat_digit c hc]; rfl
    · have hd : Digs l := fun x hx => h x (by simp [hx])
      obtain ⟨a, m, rfl⟩ : ∃ a m, l = a :: m := by cases l with | nil => exact absurd rfl hl | cons a m => exact ⟨a, m, rfl⟩
      have ha : a ≠ 48 := by
        rcases h0 with h0 | h0
        · simp at h0
        · intro e; subst e; simp at h0
      have hp := decVal_pos _ hd a m rfl ha
      have := ih hd (by simp) (.inr (by simpa using ha))
      rw [decDigits, dif_neg (by omega), show (decVal (a :: m) * 10 + (c.toNat - 48)) / 10 = decVal (a :: m) by omega, show (decVal (a :: m) * 10 + (c.toNat - 48)) % 10 = c.toNat - 48 by omega, this, ofNat_digit c hc]

theorem decDigits_digs (n : Nat) : Digs (decDigits n) := by
  rw [decDigits_low]
  intro c hc
  obtain ⟨t, _, rfl⟩ := List.mem_map.1 hc
  unfold dg
  have := Nat.mod_lt (n / 10 ^ (nDigits n - 1 - t)) (show 0 < 10 by decide)
  rw [UInt8.toNat_ofNat']
  omega

theorem decVal_decDigits (n : Nat) : decVal (decDigits n) = n := by
  induction n using Nat.strongRecOn with
  | _ n ih =>
    by_cases h : n < 10
    · rw [decDigits_one h]
      simp only [decVal, List.foldl_cons, List.foldl_nil]
      rw [UInt8.toNat_ofNat']
      omega
    · rw [decDigits, dif_neg h, decVal_snoc, ih _ (by omega), UInt8.toNat_ofNat']
      omega

theorem decDigits_head (n : Nat) : (decDigits n).length = 1 ∨ (decDigits n).head? ≠ some 48 := by
  induction n using Nat.strongRecOn with
  | _ n ih =>
    by_cases h : n < 10
    · rw [decDigits_one h]; left; rfl
    · right
      rw [decDigits, dif_neg h]
      have hne : decDigits (n / 10) ≠ [] := by intro e; have h1 := decDigits_length (n / 10); rw [e] at h1; have := nDigits_pos (n / 10); simp at h1; omega
      rw [List.head?_append, List.head?_eq_some_head hne, Option.some_or, ← List.head?_eq_some_head hne]
      rcases ih (n / 10) (by omega) with h1 | h1
      · by_cases h2 : n / 10 < 10
        · rw [decDigits_one h2]
          intro e
          simp only [List.head?_cons, Option.some.injEq] at e
          have := congrArg UInt8.toNat e
          rw [UInt8.toNat_ofNat'] at this
          simp at this
          omega
        · exfalso
          rw [decDigits_length, nDigits_big h2] at h1
          have := nDigits_pos (n / 10 / 10)
          omega
      · exact h1

theorem decDigits_inj {a b : Nat} (h : decDigits a = decDigits b) : a = b := by rw [← decVal_decDigits a, h, decVal_decDigits]
theorem decDigits_ne (n : Nat) : decDigits n ≠ [] := by
  intro e; have h1 := decDigits_length n; rw [e] at h1; have := nDigits_pos n; simp at h1; omega

/-- A digit of base 10000 holds four decimal ones. -/
theorem dg_of_digs (n i k : Nat) (hk : k < 4) : n / 10000 ^ i % 10000 / 10 ^ k % 10 = n / 10 ^ (4 * i + k) % 10 := by
  rw [Nat.pow_add, Nat.pow_mul, show (10 : Nat) ^ 4 = 10000 by decide, ← Nat.div_div_eq_div_mul]
  generalize n / 10000 ^ i = X
  have : k = 0 ∨ k = 1 ∨ k = 2 ∨ k = 3 := by omega
  rcases this with rfl | rfl | rfl | rfl <;> simp <;> omega
end Go.Proofs.Tm
