/- Texts that belong together, joined: RefMul RefDiv NatBitM RefOf. -/
import Derived.Test.YtcehkflkekefpaaDoorAa
import Derived.Lib.ItoaNum
/- The document's own numbers of layer 5: contract of Mul. -/
namespace Go.Proofs.YtcehkflkekefpaaDoor
open Go.RowKit Go.Proofs.Tm
set_option linter.unusedVariables false
set_option linter.unusedSimpArgs false
set_option maxRecDepth 20000

/-- A row of digits of the call's own. -/
structure DRow (w : World) (g len : Nat) (L : List Nat) (wr : World) : Prop where
  own : wr.ownsRow w.heap.size 3 1 (.slice (some ⟨g, 0, none⟩) len len) len (ci64 L)
  len : L.length = len
  lt : ∀ d ∈ L, d < 10000
  upd : Upd [] w wr

theorem DRow.set {w wr : World} {g len : Nat} {L : List Nat} (h : DRow w g len L wr) (hg : w.heap.size ≤ g) (j d : Nat) (hd : d < 10000) : DRow w g len (L.set j d) (wr.setCell ⟨g, j, none⟩ (.int .i64 (d : Int))) := by
  refine ⟨by rw [ci64_set]; exact (h.own.stored j _).1, by rw [List.length_set]; exact h.len, fun e he => ?_, h.upd.setCell (.inr hg) _⟩
  rcases List.mem_or_eq_of_mem_set he with he | rfl
  · exact h.lt e he
  · exact hd
theorem DRow.drewN {w wr : World} {g len : Nat} {L : List Nat} (h : DRow w g len L wr) (n : Nat) : DRow w g len L (wr.drewN n) :=
  ⟨ownsRow_upd h.own ((Upd.refl [] _).drewN n) (by simp), h.len, h.lt, h.upd.drewN n⟩
theorem getD_lt4 {L : List Nat} (h : ∀ d ∈ L, d < 10000) (i : Nat) : L.getD i 0 < 10000 := by
  rcases Nat.lt_or_ge i L.length with hi | hi
  · have : L.getD i 0 = L[i] := by simp [hi]
    rw [this]; exact h _ (List.getElem_mem hi)
  · rw [getD_over _ _ hi]; decide

theorem w64_nat (n : Nat) (h : n < 9223372036854775808) : wrap64 (n : Int) = (n : Int) := by unfold wrap64; omega
theorem mul_dig_le {p q : Nat} (h1 : p < 10000) (h2 : q < 10000) : p * q ≤ 99980001 := by
  have := Nat.mul_le_mul (show p ≤ 9999 by omega) (show q ≤ 9999 by omega)
  simpa using this
theorem mul_digit (y c pq d c' t : Nat) (hy : y < 10000) (hc : c < 10000) (hpq : pq ≤ 99980001) (ht : t = y + c + pq) (hd : d = t % 10000) (hc' : c' = t / 10000) :
    c' < 10000 ∧ wrap64 ((y : Int) + (c : Int)) = (y : Int) + (c : Int) ∧ wrap64 (pq : Int) = (pq : Int) ∧ wrap64 ((y : Int) + (c : Int) + (pq : Int)) = (t : Int) ∧ (t : Int).tmod 10000 = (d : Int) ∧ (t : Int).tdiv 10000 = (c' : Int) ∧ (t : Int) % 10000 = (d : Int) ∧ (t : Int) / 10000 = (c' : Int) ∧ ((y : Int) + (c : Int) + (pq : Int)) % 10000 = (d : Int) ∧ ((y : Int) + (c : Int) + (pq : Int)) / 10000 = (c' : Int) := by
  have e1 : (t : Int).tmod 10000 = (t : Int) % 10000 := Int.tmod_eq_emod_of_nonneg (by omega)
  have e2 : (t : Int).tdiv 10000 = (t : Int) / 10000 := Int.tdiv_eq_ediv_of_nonneg (by omega)
  rw [e1, e2]
  unfold wrap64
  refine ⟨by omega, by omega, by omega, by omega, by omega, by omega, by omega, by omega, by omega, by omega⟩

set_option maxHeartbeats 1600000 in
theorem rmul_any (u v : Value) (m n : Nat) (w : World) (hu : Sl w u (ci64 (digs m))) (hv : Sl w v (ci64 (digs n))) (hm : (digs m).length ≤ 1099511627776) (hn : (digs n).length ≤ 1099511627776) :
    Calls Tryd.prog 29 #[u, v] w (RDig (m * n) w) := by
  obtain ⟨a, cap, rfl, hl, hcm⟩ := dig_open hu
  obtain ⟨b, cap', rfl, hl', hcm'⟩ := dig_open hv
  unfold maxLen at hcm hcm'
  have HA := Lib.hid hu
  have HB := Lib.hid hv
  have HXL := Lib.hid (fun i => digs_getD_lt m i)
  have HYL := Lib.hid (fun i => digs_getD_lt n i)
  obtain ⟨la, hla⟩ : ∃ la, la = (digs m).length := ⟨_, rfl⟩
  obtain ⟨lb, hlb⟩ : ∃ lb, lb = (digs n).length := ⟨_, rfl⟩
  have HLA := Lib.hid hla
  have HLB := Lib.hid hlb
  rw [← hla] at hl hm HA ⊢
  rw [← hlb] at hl' hn HB ⊢
  obtain ⟨len, hlen⟩ : ∃ len, len = la + lb + 1 := ⟨_, rfl⟩
  have hsum : (la : Int) + (lb : Int) + 1 = (len : Int) := by omega
  have HLEN := Lib.hid hlen
  have h1 : len ≤ 2199023255553 := by omega
  clear hu hv hla hlb hlen
  go_enter Tryd.func29, Tryd.ntmps29
  go_wp2_with (at_make; refine wpList_make_lc _ rfl (.tmp 15) (.tmp 15) 29 rfl 3 (.int .i64 0) 8 Tryd.underlying29 infoI64 rfl .i64 .i64 _ _ len len rfl rfl (by omega) (by omega) (by omega) (by omega) (by unfold maxLen; omega) ?_)
  intro w1 ho hu1 hw1
  obtain ⟨g, hg⟩ : ∃ g, g = w.heap.size := ⟨_, rfl⟩
  have hgw : w.heap.size ≤ g := by omega
  have H0 : Hid (DRow w g len (List.replicate len 0) w1) := ⟨by rw [ci64_zero, hg]; exact ho, by simp, fun d hd => by rw [List.eq_of_mem_replicate hd]; decide, hu1⟩
  rw [← hg]
  clear ho hu1 hw1 hg
  go_wp2
  go_loopw [6, 7, 8, 9] (fun v6 v7 v8 v9 wr => ∃ (i : Nat) (L : List Nat), i ≤ la ∧ v6 = .int .i64 (i : Int) ∧ Hid (dval L = dval ((digs m).take i) * n) ∧ DRow w g len L wr) (fun v6 _ _ _ _ => la - (intOf v6).toNat)
  case atStart => exact ⟨0, _, by omega, rfl, by show _ = _; rw [dval_zeros _ (fun d hd => List.eq_of_mem_replicate hd)]; simp [dval], H0.out⟩
  case round =>
    obtain ⟨i, L, hi, rfl, HE, hinv⟩ := hrel
    have HI := Lib.hid hinv
    clear hinv H0
    by_cases hlt : i < la
    · have hia : (i : Int) < (la : Int) := by omega
      have hx := HXL.out i
      obtain ⟨ba, oa, rfl, hba, hca⟩ := dig_at HA.out i (by rw [← HLA.out]; exact hlt)
      obtain ⟨p, hp⟩ : ∃ p, p = (digs m).getD i 0 := ⟨_, rfl⟩
      have HP := Lib.hid hp
      have HVL : Hid (dval L < 10000 ^ (i + lb)) := by
        show _ < _
        rw [HE.out, Nat.pow_add]
        have e1 : dval ((digs m).take i) < 10000 ^ i := by
          have := dval_lt ((digs m).take i) (fun d hd => digs_lt m d (List.mem_of_mem_take hd))
          rw [List.length_take, Nat.min_eq_left (by rw [← HLA.out]; omega)] at this
          exact this
        have e2 : n < 10000 ^ lb := by
          have := dval_lt (digs n) (digs_lt n)
          rw [dval_digs, ← HLB.out] at this
          exact this
        exact Nat.mul_lt_mul_of_lt_of_le e1 (Nat.le_of_lt e2) (Nat.pow_pos (by decide))
      rw [← hp] at hx hca
      clear hp
      go_wp2
      go_loopw [7, 8, 9] (fun v7 v8 v9 wr => ∃ (k c : Nat) (L' : List Nat), v8 = .int .i64 (k : Int) ∧ v7 = .int .i64 (c : Int) ∧ (k ≤ lb ∨ (k = lb + 1 ∧ c = 0)) ∧ c < 10000 ∧ Hid (dval L' + 10000 ^ (i + k) * c = dval L + 10000 ^ i * (p * dval ((digs n).take k))) ∧ DRow w g len L' wr) (fun _ v8 _ _ => lb + 2 - (intOf v8).toNat)
      case atStart => exact ⟨0, 0, L, rfl, rfl, by omega, by omega, by show _ = _; simp [dval], HI.out⟩
      case round =>
        obtain ⟨k, c, L', rfl, rfl, hkb, hc4, HE', hinv⟩ := hrel
        have HI' := Lib.hid hinv
        clear hinv
        have i0 : (0 : Int) ≤ (k : Int) := by omega
        by_cases hgo : k < lb ∨ 0 < c
        · have hkl : k ≤ lb := by omega
          obtain ⟨f, hf⟩ : ∃ f, f = i + k := ⟨_, rfl⟩
          have hfl : f < len := by have := HLEN.out; omega
          have hcl := HI'.out.own.cellAt f (by rw [Nat.mul_one]; exact hfl)
          rw [ci64_getD _ _ (by rw [HI'.out.len]; exact hfl)] at hcl
          have hfz := HI'.out.own.frozenAt f
          have hyl := getD_lt4 HI'.out.lt f
          have hc1 : wr.cell? ⟨ba, oa + i, none⟩ = some (.int .i64 (p : Int)) := (HI'.out.upd.cell (p := ⟨ba, oa + i, none⟩) hba (by simp)).trans hca
          have i3 : (i : Int) + (k : Int) = (f : Int) := by omega
          have hf63 : f < 9223372036854775808 := by omega
          have i5 : (f : Int) < (len : Int) := by omega
          have i6 : (0 : Int) ≤ (f : Int) := by omega
          have HFE := Lib.hid hf
          obtain ⟨t, ht⟩ : ∃ t, t = L'.getD f 0 + c + p * (digs n).getD k 0 := ⟨_, rfl⟩
          have HST := Lib.hid <| mul_step (digs n) L' i k c t (dval L) p (by rw [HI'.out.len, ← hf]; exact hfl) HE'.out (by rw [← hf]; exact ht)
          obtain ⟨d, hd⟩ : ∃ d, d = t % 10000 := ⟨_, rfl⟩
          obtain ⟨c', hc'⟩ : ∃ c', c' = t / 10000 := ⟨_, rfl⟩
          rw [← hd, ← hc', ← hf] at HST
          clear hf
          have hdl : d < 10000 := by omega
          have HF : Hid (DRow w g len (L'.set f d) (wr.setCell ⟨g, f, none⟩ (.int .i64 (d : Int)))) := HI'.out.set hgw f d hdl
          have HFD : Hid (∀ nq, DRow w g len (L'.set f d) ((wr.drewN nq).setCell ⟨g, f, none⟩ (.int .i64 (d : Int)))) := fun nq => (HI'.out.drewN nq).set hgw f d hdl
          by_cases hkk : k < lb
          · have hib : (k : Int) < (lb : Int) := by omega
            have hy := HYL.out k
            obtain ⟨bb, ob, rfl, hbb, hcb⟩ := dig_at HB.out k (by rw [← HLB.out]; exact hkk)
            have hcb' : wr.cell? ⟨bb, ob + k, none⟩ = some (.int .i64 (((digs n).getD k 0 : Nat) : Int)) := (HI'.out.upd.cell (p := ⟨bb, ob + k, none⟩) hbb (by simp)).trans hcb
            clear hcb
            generalize L'.getD f 0 = y at *
            generalize (digs n).getD k 0 = q at *
            obtain ⟨pq, hpq⟩ : ∃ pq, pq = p * q := ⟨_, rfl⟩
            have hpql : pq ≤ 99980001 := by rw [hpq]; exact mul_dig_le hx hy
            rw [← hpq] at ht
            have hpqi : (p : Int) * (q : Int) = (pq : Int) := by rw [hpq]; exact (Int.natCast_mul p q).symm
            have K := Lib.hid (mul_digit y c pq d c' t hyl hc4 hpql ht hd hc')
            have hcl' := K.out.1
            have k7 := K.out.2.2.2.2.2.2.2.2.1
            have k8 := K.out.2.2.2.2.2.2.2.2.2
            have hk63 : k ≤ 1099511627776 := by omega
            clear ht hpq hd hc' hgo hl hl' hcm hcm' hm hn hsum h1 hkb hi
            have HIK := Lib.hid hkl
            clear hkl
            go_wp2
            go_quiet (fail)
            go_wp2
            refine ⟨⟨k + 1, c', L'.set f d, by go_num, by go_num, by have := HIK.out; omega, hcl', HST, HFD.out _⟩, by have := HIK.out; simp [intOf]; omega⟩
          · have hib : decide (k < lb) = false := by simp; omega
            have hcp : 0 < c := by omega
            have hcd : decide (0 < c) = true := by simpa using hcp
            have hkl2 : k = lb := by omega
            have hy0 : (digs n).getD k 0 = 0 := getD_over _ _ (by have := HLB.out; omega)
            rw [hy0, Nat.mul_zero] at ht
            clear hy0
            generalize L'.getD f 0 = y at *
            have hc0 : Hid (c' = 0) := by
              have h := HST.out
              have hVL := HVL.out
              have hlb := HLB.out
              rw [hkl2] at h
              rw [hlb] at h hVL
              exact mul_end (digs n) _ i c' (dval L) p (digs_lt n) hVL hx h
            have hcl' : c' < 10000 := by omega
            have i4 : wrap64 ((i : Int) + (k : Int)) = (f : Int) := by rw [i3]; exact w64_nat f hf63
            have j1 : ((y : Int) + (c : Int)) % 10000 = (d : Int) := by omega
            have j2 : ((y : Int) + (c : Int)) / 10000 = (c' : Int) := by omega
            have HK2 := Lib.hid hkl2
            have hk63 : k ≤ 1099511627776 := by omega
            clear i3
            clear ht hd hc' hgo hl hl' hcm hcm' hm hn hsum h1 hkb hi hkl2 hkl
            go_wp2
            refine ⟨⟨k + 1, c', L'.set f d, by go_num, by first | go_num | rw [j2], by have := hc0.out; have := HK2.out; omega, hcl', HST, HF.out⟩, by have := HK2.out; simp [intOf]; omega⟩
        · have hib : decide (k < lb) = false := by simp; omega
          have hcd : decide (0 < c) = false := by simp; omega
          have HF : Hid (dval L' = dval ((digs m).take (i + 1)) * n) := by
            show _ = _
            have h := HE'.out
            rw [show c = 0 by omega, List.take_of_length_le (by rw [← HLB.out]; omega), dval_digs, HE.out] at h
            rw [dval_take_succ, ← HP.out, Nat.add_mul, Nat.mul_assoc]
            simpa using h
          clear hgo
          go_wp2
          refine ⟨⟨i + 1, L', by omega, by go_num, HF, HI'.out⟩, by simp [intOf]; omega⟩
    · obtain rfl : i = la := by omega
      have HF : Hid (dval L = m * n) := by
        show _ = _
        rw [HE.out, List.take_of_length_le (by rw [← HLA.out]; exact Nat.le_refl _), dval_digs]
      have HSL := Lib.hid (Sl.own HI.out.own)
      have HLT := Lib.hid HI.out.lt
      have HU := Lib.hid HI.out.upd
      go_wp2_with fail
      refine (trim_any _ L _ HSL.out HLT.out).mono ?_
      rintro e w7 ⟨v7, rfl, hs7, rfl⟩
      have HFF : Hid (Sl w7 v7 (ci64 (digs (m * n)))) := by show Sl _ _ _; rw [← HF.out]; exact hs7
      clear hs7
      go_wp2
      go_ret
      exact ⟨_, rfl, HFF.out, HU.out⟩
end Go.Proofs.YtcehkflkekefpaaDoor

/- The document's own numbers of layer 5: contracts of DivMod and Pow. -/
namespace Go.Proofs.YtcehkflkekefpaaDoor
open Go.RowKit Go.Proofs.Tm
set_option linter.unusedVariables false
set_option linter.unusedSimpArgs false
set_option maxRecDepth 20000

theorem digs_lt_pow (n : Nat) : n < 10000 ^ (digs n).length := by
  have := dval_lt (digs n) (digs_lt n); rw [dval_digs] at this; exact this
theorem digs_mul_len (a b : Nat) : (digs (a * b)).length ≤ (digs a).length + (digs b).length :=
  digs_len _ _ (by rw [Nat.pow_add]; exact Nat.mul_lt_mul_of_lt_of_le (digs_lt_pow a) (Nat.le_of_lt (digs_lt_pow b)) (Nat.pow_pos (by decide)))
theorem digs_len1 {a : Nat} (h : a < 10000) : (digs a).length ≤ 1 := digs_len 1 a (by simpa using h)
theorem digs_len_small {a : Nat} (h : a ≤ 9223372036854775807) : (digs a).length ≤ 5 := digs_len 5 a (by omega)

/-- Two of the document's numbers are answered. -/
def RDig2 (q r : Nat) (w : World) (e : Ending) (w' : World) : Prop := ∃ v1 v2, e = .returned (.tuple #[v1, v2]) ∧ Sl w' v1 (ci64 (digs q)) ∧ Sl w' v2 (ci64 (digs r)) ∧ Upd [] w w'

theorem cmp_le (a b : Nat) : decide (cmpN a b ≤ 0) = decide (a ≤ b) := by
  unfold cmpN
  rw [Bool.eq_iff_iff, decide_eq_true_eq, decide_eq_true_eq]
  by_cases h : a < b
  · rw [if_pos h]; omega
  · rw [if_neg h]; split <;> omega
theorem half_mid {lo hi mid : Nat} (h : mid = (lo + hi) / 2) (h1 : 1 < hi - lo) : lo < mid ∧ mid < hi := by omega

/-- Before round i. -/
structure DivI (m n : Nat) (w : World) (g len i R : Nat) (L : List Nat) (v : Value) (wr : World) : Prop where
  row : DRow w g len L wr
  rs : Sl wr v (ci64 (digs R))
  lt : R < n
  eq : dval ((digs m).drop i) = dval (L.drop i) * n + R

set_option maxHeartbeats 1600000 in
theorem rdivmod_any (u v : Value) (m n : Nat) (w : World) (hu : Sl w u (ci64 (digs m))) (hv : Sl w v (ci64 (digs n))) (hm : (digs m).length ≤ 274877906944) (hn : (digs n).length ≤ 274877906944) (hn0 : 0 < n) :
    Calls Tryd.prog 18 #[u, v] w (RDig2 (m / n) (m % n) w) := by
  obtain ⟨a, cap, rfl, hl, hcm⟩ := dig_open hu
  have HA := Lib.hid hu
  have HB := Lib.hid hv
  have HXL := Lib.hid (fun i => digs_getD_lt m i)
  obtain ⟨la, hla⟩ : ∃ la, la = (digs m).length := ⟨_, rfl⟩
  have HLA := Lib.hid hla
  have HLN := Lib.hid hn
  rw [← hla] at hl hm HA ⊢
  have HN0 := Lib.hid hn0
  unfold maxLen at hcm
  clear hu hv hla hn hn0
  go_enter Tryd.func18, Tryd.ntmps18
  go_wp2_with (at_make; refine wpList_make_lc _ rfl (.tmp 13) (.tmp 13) 29 rfl 3 (.int .i64 0) 8 Tryd.underlying29 infoI64 rfl .i64 .i64 _ _ la la rfl rfl (by omega) (by omega) (by omega) (by omega) (by unfold maxLen; omega) ?_)
  intro w1 ho hu1 hw1
  obtain ⟨g, hg⟩ : ∃ g, g = w.heap.size := ⟨_, rfl⟩
  have hgw : w.heap.size ≤ g := by omega
  have hgl : g < w1.heap.size := by rw [hg]; exact hw1
  have H0 : Hid (DivI m n w g la la 0 (List.replicate la 0) (.slice none 0 0) w1) := ⟨⟨by rw [ci64_zero, hg]; exact ho, by simp, fun d hd => by rw [List.eq_of_mem_replicate hd]; decide, hu1⟩, by rw [digs_zero]; exact Sl.nil _, HN0.out, by rw [List.drop_of_length_le (by rw [← HLA.out]; exact Nat.le_refl _), List.drop_of_length_le (by simp)]; simp [dval]⟩
  rw [← hg]
  clear ho hu1 hg
  go_wp2
  go_loopw [7, 8, 9, 10, 11] (fun v7 v8 _ _ _ wr => ∃ (i R : Nat) (L : List Nat), i ≤ la ∧ v8 = .int .i64 ((i : Int) - 1) ∧ g < wr.heap.size ∧ DivI m n w g la i R L v7 wr) (fun _ v8 _ _ _ _ => (intOf v8 + 1).toNat)
  case atStart => exact ⟨la, 0, _, Nat.le_refl _, rfl, hgl, H0.out⟩
  case round =>
    obtain ⟨i, R, L, hi, rfl, hgr, hinv⟩ := hrel
    have HI := Lib.hid hinv
    clear hinv H0 hgl hw1
    by_cases h0 : i = 0
    · subst h0
      have HE : Hid (dval L = m / n ∧ R = m % n) := by
        have h := HI.out.eq
        rw [List.drop_zero, List.drop_zero, dval_digs] at h
        have hl := HI.out.lt
        refine ⟨?_, ?_⟩
        · rw [h, Nat.mul_comm, Nat.mul_add_div HN0.out, Nat.div_eq_of_lt hl, Nat.add_zero]
        · rw [h, Nat.mul_comm, Nat.mul_add_mod, Nat.mod_eq_of_lt hl]
      have HSL := Lib.hid (Sl.own HI.out.row.own)
      have HLT := Lib.hid HI.out.row.lt
      have HU := Lib.hid HI.out.row.upd
      have HRS := Lib.hid HI.out.rs
      go_wp2_with fail
      refine (trim_any _ L _ HSL.out HLT.out).mono ?_
      rintro e w7 ⟨v7, rfl, hs7, rfl⟩
      have HF : Hid (Sl w7 v7 (ci64 (digs (m / n)))) := by show Sl _ _ _; rw [← HE.out.1]; exact hs7
      clear hs7
      go_wp2
      go_ret2
      exact ⟨_, _, rfl, HF.out, by rw [← HE.out.2]; exact HRS.out, HU.out⟩
    · obtain ⟨k, hk⟩ : ∃ k, i = k + 1 := ⟨i - 1, by omega⟩
      have hik : k < la := by omega
      obtain ⟨ba, oa, rfl, hba, hca⟩ := dig_at HA.out k (by rw [← HLA.out]; exact hik)
      have hca' : wr.cell? ⟨ba, oa + k, none⟩ = some (.int .i64 (((digs m).getD k 0 : Nat) : Int)) := (HI.out.row.upd.cell (p := ⟨ba, oa + k, none⟩) hba (by simp)).trans hca
      have hx := HXL.out k
      obtain ⟨x, hxe⟩ : ∃ x, x = (digs m).getD k 0 := ⟨_, rfl⟩
      have HX := Lib.hid hxe
      rw [← hxe] at hca' hx
      rw [hk] at HI
      have i0 : (0 : Int) ≤ (k : Int) := by omega
      have i1 : (k : Int) < (la : Int) := by omega
      have i2 : ((i : Int) - 1) = (k : Int) := by omega
      rw [i2]
      clear hca hxe i2
      have HRL : Hid ((digs R).length ≤ 274877906944) := Nat.le_trans (digs_length_le (Nat.le_of_lt HI.out.lt)) HLN.out
      go_wp2_with (at_builtin; refine wpList_append_sl _ rfl (.tmp 26) (.tmp 27) 29 rfl wr.heap.size 3 (.int .i64 0) 8 Tryd.underlying29 infoI64 rfl _ _ _ rfl (own_lit wr 3 #[.int .i64 (x : Int)] (by simp [maxLen])) _ (ci64 (digs R)) rfl (HI.out.rs.upd0 ((Upd.refl _ _).alloc _)) (ci64_one _) ?c2 ?c3 ?c4 ?go)
      case c2 => have := HRL.out; unfold maxLen; simp; omega
      case c3 => have := HRL.out; simp; omega
      case c4 => simp
      case go =>
        intro v6 w6 ho6 hg6 hfr
        have hS6 : Sl w6 v6 (ci64 (x :: digs R)) := by
          have : ci64 (x :: digs R) = [Value.int .i64 (x : Int)] ++ ci64 (digs R) := rfl
          rw [this]
          exact Sl.own ho6
        have hk6 : ∀ q, v6.ownBlock = some q → wr.heap.size ≤ q := fun q hq => (ho6.lt q hq).1
        have hu6 : Upd [] wr w6 := ((Upd.refl _ _).alloc _).grown hg6 (fun q hq => .inr (by simp [Value.ownBlock] at hq; omega))
        have HS6 := Lib.hid hS6
        have HK6 := Lib.hid hk6
        have HU6 := Lib.hid hu6
        clear ho6 hg6 hfr hS6 hk6 hu6
        go_wp2_with fail
        refine (trim_own v6 (x :: digs R) w6 HS6.out (fun d hd => by rcases List.mem_cons.1 hd with rfl | hd; exact hx; exact digs_lt R d hd)).mono ?_
        rintro e w7 ⟨v7, rfl, hs7, rfl, hk7⟩
        obtain ⟨Q, hQ⟩ : ∃ Q, Q = x + 10000 * R := ⟨_, rfl⟩
        have HQ := Lib.hid hQ
        have HR7 : Hid (Sl w7 v7 (ci64 (digs Q))) := by
          show Sl _ _ _
          rw [hQ, ← show dval (x :: digs R) = x + 10000 * R by simp only [dval, dval_digs]]
          exact hs7
        have HK7 : Hid (∀ q, v7.ownBlock = some q → q ≠ g) := fun q hq => by have := HK6.out q (hk7 q hq); omega
        have HQL : Hid (Q < n * 10000) := by
          show _ < _
          have := HI.out.lt
          rw [hQ]; omega
        have HRW : Hid (DRow w g la L w7) := ⟨ownsRow_upd HI.out.row.own HU6.out (by simp), HI.out.row.len, HI.out.row.lt, HI.out.row.upd.trans0 HU6.out⟩
        have hg7 : g < w7.heap.size := Nat.lt_of_lt_of_le hgr HU6.out.size
        clear hs7 hk7 hQ hca'
        go_wp2
        go_loopw [9, 10, 11] (fun v9 v10 _ wr => ∃ (lo hi : Nat), v9 = .int .i64 (lo : Int) ∧ v10 = .int .i64 (hi : Int) ∧ lo < hi ∧ hi ≤ 10000 ∧ Hid (n * lo ≤ Q ∧ Q < n * hi) ∧ Upd [] w7 wr) (fun v9 v10 _ _ => (intOf v10 - intOf v9).toNat)
        case atStart => exact ⟨0, 10000, rfl, rfl, by omega, by omega, ⟨by omega, HQL.out⟩, Upd.refl _ _⟩
        case round =>
          obtain ⟨lo, hi', rfl, rfl, hlh, hhi, HLH, hu⟩ := hrel
          have HUW := Lib.hid hu
          clear hu
          by_cases hgo : 1 < hi' - lo
          · obtain ⟨mid, hmid⟩ : ∃ mid, mid = (lo + hi') / 2 := ⟨_, rfl⟩
            have hmm := half_mid hmid hgo
            have j0 : decide (1 < (hi' : Int) - (lo : Int)) = true := by simp; omega
            have j1 : ((lo : Int) + (hi' : Int)) / 2 = (mid : Int) := by omega
            have HMID := Lib.hid hmid
            clear hmid hgo
            go_wp2_with fail
            refine (small_any mid _ (by omega)).mono ?_
            rintro e w8 ⟨v8, rfl, hs8, hu8⟩
            have HS8 := Lib.hid hs8
            have HU8 := Lib.hid (HUW.out.trans0 hu8)
            clear hs8 hu8
            go_wp2_with fail
            refine (rmul_any _ _ n mid _ (HB.out.upd0 (HRW.out.upd.trans0 HU8.out)) HS8.out (by have := HLN.out; omega) (by have := digs_len1 (a := mid) (by omega); omega)).mono ?_
            rintro e w9 ⟨v9, rfl, hs9, hu9⟩
            have HS9 := Lib.hid hs9
            have HU9 := Lib.hid (HU8.out.trans0 hu9)
            clear hs9 hu9
            go_wp2_with fail
            refine (rcmp_any _ _ (n * mid) Q _ HS9.out (HR7.out.upd0 HU9.out) (by have := HLN.out; have := digs_mul_len n mid; have := digs_len1 (a := mid) (by omega); omega) (by have := HLN.out; have := digs_mul_len n 10000; have := digs_len_small (a := 10000) (by decide); have := digs_length_le (Nat.le_of_lt HQL.out); omega)).mono ?_
            rintro e w10 ⟨rfl, hu10⟩
            have HU10 := Lib.hid (HU9.out.trans0 hu10)
            have hcl := cmp_le (n * mid) Q
            clear hu10
            by_cases hle : n * mid ≤ Q
            · have hcl' : decide (cmpN (n * mid) Q ≤ 0) = true := by rw [hcl]; simpa using hle
              have HLE : Hid (n * mid ≤ Q ∧ Q < n * hi') := ⟨hle, HLH.out.2⟩
              clear hcl hle
              generalize cmpN (n * mid) Q = cc at *
              go_wp2
              exact ⟨⟨mid, hi', rfl, rfl, hmm.2, hhi, HLE, HU10.out⟩, by simp [intOf]; omega⟩
            · have hcl' : decide (cmpN (n * mid) Q ≤ 0) = false := by rw [hcl]; simpa using hle
              have HLE : Hid (n * lo ≤ Q ∧ Q < n * mid) := ⟨HLH.out.1, by omega⟩
              clear hcl hle
              generalize cmpN (n * mid) Q = cc at *
              go_wp2
              exact ⟨⟨lo, mid, rfl, rfl, hmm.1, by omega, HLE, HU10.out⟩, by simp [intOf]; omega⟩
          · have j0 : decide (1 < (hi' : Int) - (lo : Int)) = false := by simp; omega
            have HLH' : Hid (n * lo ≤ Q ∧ Q < n * (lo + 1)) := by
              obtain rfl : hi' = lo + 1 := by omega
              exact HLH.out
            have hlo : lo < 10000 := by omega
            have HROW : Hid (DRow w g la L wr) := ⟨ownsRow_upd HRW.out.own HUW.out (by simp), HRW.out.len, HRW.out.lt, HRW.out.upd.trans0 HUW.out⟩
            have HSET : Hid (DRow w g la (L.set k lo) (wr.setCell ⟨g, k, none⟩ (.int .i64 (lo : Int)))) := HROW.out.set hgw k lo hlo
            have hcl := HROW.out.own.cellAt k (by rw [Nat.mul_one]; exact hik)
            rw [ci64_getD _ _ (by rw [HROW.out.len]; exact hik)] at hcl
            have hfz := HROW.out.own.frozenAt k
            have HRS : Hid (Sl (wr.setCell ⟨g, k, none⟩ (.int .i64 (lo : Int))) v7 (ci64 (digs Q))) := ((HR7.out.upd0 HUW.out).upd (S := [g]) ((Upd.refl _ _).setCell (.inl (by simp)) _) (fun _ q hq => by simp; exact HK7.out q hq))
            have hgz : g < (wr.setCell ⟨g, k, none⟩ (.int .i64 (lo : Int))).heap.size := by simp; exact Nat.lt_of_lt_of_le hg7 HUW.out.size
            generalize L.getD k 0 = y0 at *
            obtain ⟨W, hW⟩ : ∃ W, W = wr.setCell ⟨g, k, none⟩ (.int .i64 (lo : Int)) := ⟨_, rfl⟩
            rw [← hW] at HSET HRS hgz
            have HWE := Lib.hid hW
            clear hW
            go_wp2_with fail
            rw [← HWE.out]
            refine (small_any lo _ (by omega)).mono ?_
            rintro e w8 ⟨v8, rfl, hs8, hu8⟩
            have HS8 := Lib.hid hs8
            have HU8 := Lib.hid hu8
            clear hs8 hu8
            go_wp2_with fail
            refine (rmul_any _ _ n lo _ (HB.out.upd0 (HSET.out.upd.trans0 HU8.out)) HS8.out (by have := HLN.out; omega) (by have := digs_len1 (a := lo) (by omega); omega)).mono ?_
            rintro e w9 ⟨v9, rfl, hs9, hu9⟩
            have HS9 := Lib.hid hs9
            have HU9 := Lib.hid (HU8.out.trans0 hu9)
            clear hs9 hu9
            go_wp2_with fail
            refine (rsub_any _ _ Q (n * lo) _ (HRS.out.upd0 HU9.out) HS9.out (by have := HLN.out; have := digs_mul_len n 10000; have := digs_len_small (a := 10000) (by decide); have := digs_length_le (Nat.le_of_lt HQL.out); omega) HLH'.out.1).mono ?_
            rintro e w10 ⟨v10, rfl, hs10, hu10⟩
            have hst := div_step (digs m) (digs n) k (dval (L.drop (k + 1))) R lo (by rw [← HLA.out]; exact hik) (by rw [dval_digs]; exact HN0.out) (by rw [dval_digs]; exact HI.out.eq) (by rw [dval_digs]; exact HI.out.lt) (by rw [dval_digs, ← HX.out, ← HQ.out]; exact HLH'.out.1) (by rw [dval_digs, ← HX.out, ← HQ.out]; exact HLH'.out.2)
            rw [dval_digs, ← HX.out, ← HQ.out] at hst
            have hu9 := HU9.out.trans0 hu10
            have HF : Hid (DivI m n w g la k (Q - n * lo) (L.set k lo) v10 w10) := by
              refine ⟨⟨ownsRow_upd HSET.out.own hu9 (by simp), HSET.out.len, HSET.out.lt, HSET.out.upd.trans0 hu9⟩, hs10, hst.2, ?_⟩
              rw [hst.1]
              congr 1
              congr 1
              have e : (L.set k lo).drop k = lo :: L.drop (k + 1) := by
                rw [List.drop_eq_getElem_cons (by rw [List.length_set, HI.out.row.len]; exact hik), List.getElem_set_self, List.drop_set_of_lt (by omega)]
              rw [e]
              simp only [dval]
            have hgf : g < w10.heap.size := Nat.lt_of_lt_of_le hgz hu9.size
            clear hst hu9 hs10 hu10
            go_wp2
            exact ⟨⟨k, _, _, by omega, rfl, hgf, HF.out⟩, by simp [intOf]⟩
    
set_option maxHeartbeats 800000 in
theorem rpow_any (u : Value) (m n : Nat) (w : World) (hu : Sl w u (ci64 (digs m))) (hm : (digs m).length ≤ 1048576) (hn : n ≤ 65536) :
    Calls Tryd.prog 27 #[u, .int .i64 (n : Int)] w (RDig (m ^ n) w) := by
  have HU := Lib.hid hu
  have HLEN : Hid (∀ i, i ≤ n → (digs (m ^ i)).length ≤ i * (digs m).length + 1) := by
    intro i
    induction i with
    | zero => intro _; rw [Nat.pow_zero]; have := digs_len1 (a := 1) (by decide); omega
    | succ i ih =>
      intro h
      have h1 := ih (by omega)
      have h2 := digs_mul_len (m ^ i) m
      rw [Nat.pow_succ, Nat.succ_mul]; omega
  have HML := Lib.hid hm
  have HPL : Hid (∀ i, i ≤ n → i * (digs m).length ≤ 65536 * 1048576) := fun i hi => Nat.mul_le_mul (Nat.le_trans hi hn) hm
  clear hu hm
  have HS1 := Lib.hid (small_any 1 w (by decide))
  go_enter Tryd.func27, Tryd.ntmps27
  go_wp2_with fail
  refine HS1.out.mono ?_
  rintro e w1 ⟨v1, rfl, hs1, hu1⟩
  have H1 := Lib.hid hs1
  have HU1 := Lib.hid hu1
  clear hs1 hu1
  go_wp2
  go_loopw [5, 6] (fun v5 v6 wr => ∃ (i : Nat), i ≤ n ∧ v6 = .int .i64 (i : Int) ∧ Sl wr v5 (ci64 (digs (m ^ i))) ∧ Upd [] w wr) (fun _ v6 _ => n - (intOf v6).toNat)
  case atStart => exact ⟨0, by omega, rfl, H1.out, HU1.out⟩
  case round =>
    obtain ⟨i, hi, rfl, hs, hu⟩ := hrel
    have HS := Lib.hid hs
    have HUW := Lib.hid hu
    clear hs hu
    by_cases hlt : i < n
    · go_wp2_with fail
      refine (rmul_any _ _ (m ^ i) m _ HS.out (HU.out.upd0 HUW.out) (by have := HLEN.out i hi; have := HPL.out i hi; omega) (by have := HML.out; omega)).mono ?_
      rintro e w9 ⟨v9, rfl, hs9, hu9⟩
      have HF : Hid (Sl w9 v9 (ci64 (digs (m ^ (i + 1)))) ∧ Upd [] w w9) := ⟨by rw [Nat.pow_succ]; exact hs9, HUW.out.trans0 hu9⟩
      clear hs9 hu9
      go_wp2
      exact ⟨⟨i + 1, by omega, by go_num, HF.out⟩, by simp [intOf]; omega⟩
    · obtain rfl : i = n := by omega
      go_wp2
      go_ret
      exact ⟨_, rfl, HS.out, HUW.out⟩
end Go.Proofs.YtcehkflkekefpaaDoor

/- How many bits a number has, up to its highest one. -/
namespace Go.Proofs.Tm
open Go
set_option linter.unusedVariables false

/-- The bits of n, up to the highest one. -/
def nbits (n : Nat) : Nat := if n = 0 then 0 else Nat.log2 n + 1

theorem nbits_zero : nbits 0 = 0 := rfl
theorem nbits_of {n k : Nat} (h1 : 2 ^ k ≤ n) (h2 : n < 2 ^ (k + 1)) : nbits n = k + 1 := by
  have h0 : n ≠ 0 := by have := Nat.two_pow_pos k; omega
  unfold nbits
  rw [if_neg h0, (Nat.log2_eq_iff h0).2 ⟨h1, h2⟩]
theorem nbits_spec {n : Nat} (h0 : n ≠ 0) : ∃ k, nbits n = k + 1 ∧ 2 ^ k ≤ n ∧ n < 2 ^ (k + 1) := by
  have h := (Nat.log2_eq_iff (k := Nat.log2 n) h0).1 rfl
  exact ⟨Nat.log2 n, by unfold nbits; rw [if_neg h0], h.1, h.2⟩
theorem nbits_le_iff (n k : Nat) : nbits n ≤ k ↔ n < 2 ^ k := by
  by_cases h0 : n = 0
  · subst h0; simp [nbits_zero, Nat.two_pow_pos]
  · obtain ⟨j, hj, h1, h2⟩ := nbits_spec h0
    rw [hj]
    constructor
    · intro h; exact Nat.lt_of_lt_of_le h2 (Nat.pow_le_pow_right (by decide) h)
    · intro h
      exact (Nat.pow_lt_pow_iff_right (a := 2) (by decide)).1 (Nat.lt_of_le_of_lt h1 h)
theorem nbits_mono {m n : Nat} (h : m ≤ n) : nbits m ≤ nbits n := (nbits_le_iff _ _).2 (Nat.lt_of_le_of_lt h ((nbits_le_iff n _).1 (Nat.le_refl _)))
theorem nbits_lt (n : Nat) : n < 2 ^ nbits n := (nbits_le_iff n _).1 (Nat.le_refl _)
theorem nbits_add (a b : Nat) : nbits (a + b) ≤ max (nbits a) (nbits b) + 1 := by
  rw [nbits_le_iff, Nat.pow_succ]
  have h1 := Nat.lt_of_lt_of_le (nbits_lt a) (Nat.pow_le_pow_right (n := 2) (by decide) (Nat.le_max_left (nbits a) (nbits b)))
  have h2 := Nat.lt_of_lt_of_le (nbits_lt b) (Nat.pow_le_pow_right (n := 2) (by decide) (Nat.le_max_right (nbits a) (nbits b)))
  omega
theorem nbits_pos {n : Nat} (h : n ≠ 0) : 0 < nbits n := by obtain ⟨k, hk, _⟩ := nbits_spec h; omega
theorem nbits_eq_zero {n : Nat} : nbits n = 0 ↔ n = 0 := ⟨fun h => by rcases Nat.eq_zero_or_pos n with e | e; exact e; have := nbits_pos (n := n) (by omega); omega, fun h => by rw [h]; rfl⟩
theorem nbits_le_one {n : Nat} : nbits n ≤ 1 ↔ n ≤ 1 := by rw [nbits_le_iff]; omega

theorem bitLen_nbits (x : Nat) (h0 : x ≠ 0) (h : x < 18446744073709551616) : Lib.bitLen x = nbits x := by
  obtain ⟨h1, h2, h3⟩ := Lib.bitLenAux_bounds 64 x (by simpa using h) h0
  have e : Lib.bitLen x = Lib.bitLenAux 64 x := rfl
  rw [e, nbits_of (k := Lib.bitLenAux 64 x - 1) h2 (by rw [show Lib.bitLenAux 64 x - 1 + 1 = Lib.bitLenAux 64 x by omega]; exact h3)]
  omega

/-- The highest word: it isn't 0, and tells the bits. -/
theorem nbits_words (n : Nat) (h0 : n ≠ 0) : (wds n).getD ((wds n).length - 1) 0 ≠ 0 ∧ (wds n).getD ((wds n).length - 1) 0 < 18446744073709551616 ∧ ((wds n).length - 1) * 64 + Lib.bitLen ((wds n).getD ((wds n).length - 1) 0) = nbits n := by
  have hl : (wds n).length ≠ 0 := fun e => h0 (wds_length_zero.1 e)
  obtain ⟨k, hk⟩ : ∃ k, (wds n).length = k + 1 := ⟨(wds n).length - 1, by omega⟩
  rw [hk, Nat.add_sub_cancel, wds_getD]
  have hlo : 18446744073709551616 ^ k ≤ n := by
    have : ¬ (wds n).length ≤ k := by omega
    rw [wds_length_le_iff] at this
    omega
  have hhi : n < 18446744073709551616 ^ (k + 1) := (wds_length_le_iff n (k + 1)).1 (by omega)
  have hp : 0 < 18446744073709551616 ^ k := Nat.pow_pos (by decide)
  have hq : n / 18446744073709551616 ^ k < 18446744073709551616 := by rw [Nat.div_lt_iff_lt_mul hp]; rw [Nat.pow_succ, Nat.mul_comm] at hhi; exact hhi
  rw [Nat.mod_eq_of_lt hq]
  have hx0 : n / 18446744073709551616 ^ k ≠ 0 := by
    intro e
    rw [Nat.div_eq_zero_iff] at e
    omega
  refine ⟨hx0, hq, ?_⟩
  rw [bitLen_nbits _ hx0 hq]
  obtain ⟨j, hj, h1, h2⟩ := nbits_spec hx0
  rw [hj]
  have e64 : (18446744073709551616 : Nat) ^ k = 2 ^ (k * 64) := by rw [Nat.mul_comm, Nat.pow_mul]
  rw [e64] at h1 h2
  have hp2 : 0 < 2 ^ (k * 64) := Nat.two_pow_pos _
  rw [show k * 64 + (j + 1) = (k * 64 + j) + 1 by omega]
  symm
  refine nbits_of ?_ ?_
  · rw [Nat.pow_add, Nat.mul_comm]
    exact (Nat.le_div_iff_mul_le hp2).1 h1
  · rw [show k * 64 + j + 1 = j + 1 + k * 64 by omega, Nat.pow_add]
    exact (Nat.div_lt_iff_lt_mul hp2).1 h2
end Go.Proofs.Tm

/- The document's own numbers of layer 5: contracts of Of and Bits. -/
namespace Go.Proofs.YtcehkflkekefpaaDoor
open Go.RowKit Go.Proofs.Tm
set_option linter.unusedVariables false
set_option linter.unusedSimpArgs false
set_option maxRecDepth 20000

theorem digs_wlen {n k : Nat} (h : n < 18446744073709551616 ^ k) : (digs n).length ≤ 5 * k := by
  refine digs_len _ _ (Nat.lt_of_lt_of_le h ?_)
  rw [Nat.pow_mul]
  exact Nat.pow_le_pow_left (by decide) k
theorem wval_drop_lt (ws : List Nat) (h : ∀ d ∈ ws, d < 18446744073709551616) (i k : Nat) (hk : ws.length ≤ k) : wval (ws.drop i) < 18446744073709551616 ^ k := by
  refine Nat.lt_of_lt_of_le (wval_lt _ (fun d hd => h d (List.mem_of_mem_drop hd))) (Nat.pow_le_pow_right (by decide) ?_)
  rw [List.length_drop]; omega
theorem wval_drop_step (ws : List Nat) (k : Nat) (h : k < ws.length) : wval (ws.drop k) = wval (ws.drop (k + 1)) * 18446744073709551616 + ws.getD k 0 := by
  rw [List.drop_eq_getElem_cons h]
  have : ws.getD k 0 = ws[k] := by simp [h]
  rw [this, wval]
  omega

set_option maxHeartbeats 1600000 in
theorem rof_any (u : Value) (ws : List Nat) (w : World) (hu : Sl w u (cu64 ws)) (hW : ∀ d ∈ ws, d < 18446744073709551616) (hl : ws.length ≤ 1048576) :
    Calls Tryd.prog 15 #[u] w (RDig (wval ws) w) := by
  have HA := Lib.hid hu
  have HWL := Lib.hid hW
  obtain ⟨a, cap, rfl, hlc, hcm, _⟩ := hu
  rw [cu64_length] at *
  unfold maxLen at hcm
  obtain ⟨la, hla⟩ : ∃ la, la = ws.length := ⟨_, rfl⟩
  have HLA := Lib.hid hla
  rw [← hla] at hl hlc HA ⊢
  have HL4 : Hid (∀ i, (digs (wval (ws.drop i))).length ≤ 5242880) := fun i => by
    have := digs_wlen (wval_drop_lt ws HWL.out i la (by rw [← HLA.out]; exact Nat.le_refl _))
    omega
  have HXL := Lib.hid (fun i => (show ws.getD i 0 < 18446744073709551616 by
    rcases Nat.lt_or_ge i ws.length with hi | hi
    · have : ws.getD i 0 = ws[i] := by simp [hi]
      rw [this]; exact HWL.out _ (List.getElem_mem hi)
    · have : ws.getD i 0 = 0 := by simp [hi]
      rw [this]; decide))
  have HSM : Hid (∀ W, Calls Tryd.prog 28 #[.int .i64 4294967296] W (RDig 4294967296 W)) := fun W => small_any 4294967296 W (by decide)
  have H5 : Hid ((digs 4294967296).length ≤ 5 ∧ (digs 18446744073709551616).length ≤ 5) := ⟨digs_len 5 _ (by decide), digs_len 5 _ (by decide)⟩
  clear hW hla
  go_enter Tryd.func15, Tryd.ntmps15
  go_wp2_with fail
  refine (HSM.out _).mono ?_
  rintro e w1 ⟨v1, rfl, hs1, hu1⟩
  have HS1 := Lib.hid hs1
  have HU1 := Lib.hid hu1
  clear hs1 hu1
  go_wp2_with fail
  refine (HSM.out _).mono ?_
  rintro e w2 ⟨v2, rfl, hs2, hu2⟩
  have HS2 := Lib.hid hs2
  have HS1' := Lib.hid (HS1.out.upd0 hu2)
  have HU2 := Lib.hid (HU1.out.trans0 hu2)
  clear hs2 hu2
  go_wp2_with fail
  refine (rmul_any _ _ 4294967296 4294967296 _ HS1'.out HS2.out (by have := H5.out.1; omega) (by have := H5.out.1; omega)).mono ?_
  rintro e w3 ⟨v3, rfl, hs3, hu3⟩
  have HST : Hid (Sl w3 v3 (ci64 (digs 18446744073709551616))) := hs3
  have HU3 := Lib.hid (HU2.out.trans0 hu3)
  clear hs3 hu3
  go_wp2
  go_loopw [3, 5, 6, 7] (fun v3 v5 _ _ wr => ∃ i : Nat, i ≤ la ∧ v5 = .int .i64 ((i : Int) - 1) ∧ Sl wr v3 (ci64 (digs (wval (ws.drop i)))) ∧ Upd [] w3 wr) (fun _ v5 _ _ _ => (intOf v5 + 1).toNat)
  case atStart => exact ⟨la, Nat.le_refl _, rfl, by rw [List.drop_of_length_le (by rw [← HLA.out]; exact Nat.le_refl _), wval, digs_zero]; exact Sl.nil _, Upd.refl _ _⟩
  case round =>
    obtain ⟨i, hi, rfl, hs, hu⟩ := hrel
    have HS := Lib.hid hs
    have HUW := Lib.hid hu
    clear hs hu
    by_cases h0 : i = 0
    · subst h0
      have HF : Hid (Sl wr u3 (ci64 (digs (wval ws)))) := HS.out
      have HUF := Lib.hid (HU3.out.trans0 HUW.out)
      go_wp2
      go_ret
      exact ⟨_, rfl, HF.out, HUF.out⟩
    · obtain ⟨k, hk⟩ : ∃ k, i = k + 1 := ⟨i - 1, by omega⟩
      have hik : k < la := by omega
      obtain ⟨ba, oa, cap', hv, hca⟩ := sl_at HA.out (by rw [cu64_nil]; intro e; have := HLA.out; rw [e] at this; simp at this; omega)
      obtain ⟨rfl, rfl⟩ : a = some ⟨ba, oa, none⟩ ∧ cap = cap' := by simp at hv; exact ⟨hv.1, hv.2.2⟩
      have hcell := hca k (by rw [cu64_length, ← HLA.out]; exact hik)
      rw [cu64_getD _ _ (by rw [← HLA.out]; exact hik)] at hcell
      have hlb := World.block_lt_of_cell? w _ hcell
      have HC : Hid (∀ W, Upd [] wr W → W.cell? ⟨ba, oa + k, none⟩ = some (.int .u64 ((ws.getD k 0 : Nat) : Int))) := fun W h => ((HU3.out.trans0 (HUW.out.trans0 h)).cell (p := ⟨ba, oa + k, none⟩) hlb (by simp)).trans hcell
      have hx := HXL.out k
      have HVS : Hid (wval (ws.drop k) = wval (ws.drop (k + 1)) * 18446744073709551616 + ws.getD k 0) := wval_drop_step ws k (by rw [← HLA.out]; exact hik)
      have HLK := HL4.out k
      have HLK1 := HL4.out (k + 1)
      rw [hk] at HS
      have i2 : ((i : Int) - 1) = (k : Int) := by omega
      rw [i2]
      clear hca hv hcell hlb i2
      generalize wval (ws.drop (k + 1)) = P at *
      generalize ws.getD k 0 = x at *
      obtain ⟨xh, hxh⟩ : ∃ xh, xh = x / 4294967296 := ⟨_, rfl⟩
      obtain ⟨xl, hxl⟩ : ∃ xl, xl = x % 4294967296 := ⟨_, rfl⟩
      have i0 : (0 : Int) ≤ (k : Int) := by omega
      have i1 : (k : Int) < (la : Int) := by omega
      have j1 : (x : Int) / 4294967296 = (xh : Int) := by omega
      have j2 : (x : Int) % 4294967296 = (xl : Int) := by omega
      have hxh' : xh < 4294967296 := by omega
      have hxl' : xl < 4294967296 := by omega
      have HX : Hid (xh * 4294967296 + xl = x) := by show _ = _; omega
      have hcw := HC.out wr (Upd.refl _ _)
      clear hxh hxl hx
      go_wp2_with fail
      refine (small_any xh _ (by omega)).mono ?_
      rintro e w4 ⟨v4, rfl, hs4, hu4⟩
      have HS4 := Lib.hid hs4
      have HU4 := Lib.hid hu4
      have hcw4 := HC.out _ hu4
      clear hs4 hu4 hcw
      go_wp2_with fail
      refine (small_any xl _ (by omega)).mono ?_
      rintro e w5 ⟨v5, rfl, hs5, hu5⟩
      have HS5 := Lib.hid hs5
      have HU45 := Lib.hid hu5
      have HU5 := Lib.hid (HU4.out.trans0 hu5)
      clear hs5 hu5 hcw4
      go_wp2_with fail
      refine (rmul_any _ _ P 18446744073709551616 _ (HS.out.upd0 HU5.out) (HST.out.upd0 (HUW.out.trans0 HU5.out)) (by omega) (by have := H5.out.2; omega)).mono ?_
      rintro e w6 ⟨v6, rfl, hs6, hu6⟩
      have HS6 := Lib.hid hs6
      have HU6 := Lib.hid hu6
      clear hs6 hu6
      go_wp2_with fail
      refine (HSM.out _).mono ?_
      rintro e w7 ⟨v7, rfl, hs7, hu7⟩
      have HS7 := Lib.hid hs7
      have HU7 := Lib.hid hu7
      clear hs7 hu7
      go_wp2_with fail
      refine (rmul_any _ _ xh 4294967296 _ (HS4.out.upd0 (HU45.out.trans0 (HU6.out.trans0 HU7.out))) HS7.out (by have := digs_len_small (a := xh) (by omega); omega) (by have := H5.out.1; omega)).mono ?_
      rintro e w8 ⟨v8, rfl, hs8, hu8⟩
      have HS8 := Lib.hid hs8
      have HU8 := Lib.hid hu8
      clear hs8 hu8
      go_wp2_with fail
      refine (radd_any _ _ (xh * 4294967296) xl _ HS8.out (HS5.out.upd0 (HU6.out.trans0 (HU7.out.trans0 HU8.out))) (by have := digs_mul_len xh 4294967296; have := H5.out.1; have := digs_len_small (a := xh) (by omega); omega) (by have := digs_len_small (a := xl) (by omega); omega)).mono ?_
      rintro e w9 ⟨v9, rfl, hs9, hu9⟩
      have HS9 := Lib.hid hs9
      rw [HX.out] at HS9
      have HU9 := Lib.hid hu9
      clear hs9 hu9
      go_wp2_with fail
      refine (radd_any _ _ (P * 18446744073709551616) x _ (HS6.out.upd0 (HU7.out.trans0 (HU8.out.trans0 HU9.out))) HS9.out (by have := digs_mul_len P 18446744073709551616; have := H5.out.2; omega) (by have := digs_len 5 x (by have := HX.out; omega); omega)).mono ?_
      rintro e w10 ⟨v10, rfl, hs10, hu10⟩
      have HF : Hid (Sl w10 v10 (ci64 (digs (wval (ws.drop k)))) ∧ Upd [] w3 w10) := ⟨by rw [HVS.out]; exact hs10, HUW.out.trans0 (HU5.out.trans0 (HU6.out.trans0 (HU7.out.trans0 (HU8.out.trans0 (HU9.out.trans0 hu10)))))⟩
      clear hs10 hu10
      go_wp2
      exact ⟨⟨k, by omega, rfl, HF.out⟩, by simp [intOf]⟩

end Go.Proofs.YtcehkflkekefpaaDoor
