/- The document's own numbers of layer 5: contract of Mul. -/
import Derived.Test.YtoklmfmoblkfcaaDoorRefSub
namespace Go.Proofs.YtoklmfmoblkfcaaDoor
open Go.RowKit Go.Proofs.Tm
set_option linter.unusedVariables false
set_option linter.unusedSimpArgs false
set_option maxRecDepth 20000

/-- A row of digits of the call's own. -/
structure DRow (w : World) (g len : Nat) (L : List Nat) (wr : World) : Prop where
  own : wr.ownsRow w.heap.size 3 1 (.slice (some ⟨g, 0, none⟩) len len) len (ci64 L)
  len : L.length = len
  lt : ∀ d ∈ L, d < 10000
  upd : Upd [] w wr

theorem DRow.set {w wr : World} {g len : Nat} {L : List Nat} (h : DRow w g len L wr) (hg : w.heap.size ≤ g) (j d : Nat) (hd : d < 10000) : DRow w g len (L.set j d) (wr.setCell ⟨g, j, none⟩ (.int .i64 (d : Int))) := by
  refine ⟨by rw [ci64_set]; exact (h.own.stored j _).1, by rw [List.length_set]; exact h.len, fun e he => ?_, h.upd.setCell (.inr hg) _⟩
  rcases List.mem_or_eq_of_mem_set he with he | rfl
  · exact h.lt e he
  · exact hd
theorem DRow.drewN {w wr : World} {g len : Nat} {L : List Nat} (h : DRow w g len L wr) (n : Nat) : DRow w g len L (wr.drewN n) :=
  ⟨ownsRow_upd h.own ((Upd.refl [] _).drewN n) (by simp), h.len, h.lt, h.upd.drewN n⟩
theorem getD_lt4 {L : List Nat} (h : ∀ d ∈ L, d < 10000) (i : Nat) : L.getD i 0 < 10000 := by
  rcases Nat.lt_or_ge i L.length with hi | hi
  · have : L.getD i 0 = L[i] := by simp [hi]
    rw [this]; exact h _ (List.getElem_mem hi)
  · rw [getD_over _ _ hi]; decide

theorem w64_nat (n : Nat) (h : n < 9223372036854775808) : wrap64 (n : Int) = (n : Int) := by unfold wrap64; omega
theorem mul_dig_le {p q : Nat} (h1 : p < 10000) (h2 : q < 10000) : p * q ≤ 99980001 := by
  have := Nat.mul_le_mul (show p ≤ 9999 by omega) (show q ≤ 9999 by omega)
  simpa using this
theorem mul_digit (y c pq d c' t : Nat) (hy : y < 10000) (hc : c < 10000) (hpq : pq ≤ 99980001) (ht : t = y + c + pq) (hd : d = t % 10000) (hc' : c' = t / 10000) :
    c' < 10000 ∧ wrap64 ((y : Int) + (c : Int)) = (y : Int) + (c : Int) ∧ wrap64 (pq : Int) = (pq : Int) ∧ wrap64 ((y : Int) + (c : Int) + (pq : Int)) = (t : Int) ∧ (t : Int).tmod 10000 = (d : Int) ∧ (t : Int).tdiv 10000 = (c' : Int) ∧ (t : Int) % 10000 = (d : Int) ∧ (t : Int) / 10000 = (c' : Int) ∧ ((y : Int) + (c : Int) + (pq : Int)) % 10000 = (d : Int) ∧ ((y : Int) + (c : Int) + (pq : Int)) / 10000 = (c' : Int) := by
  have e1 : (t : Int).tmod 10000 = (t : Int) % 10000 := Int.tmod_eq_emod_of_nonneg (by omega)
  have e2 : (t : Int).tdiv 10000 = (t : Int) / 10000 := Int.tdiv_eq_ediv_of_nonneg (by omega)
  rw [e1, e2]
  unfold wrap64
  refine ⟨by omega, by omega, by omega, by omega, by omega, by omega, by omega, by omega, by omega, by omega⟩

set_option maxHeartbeats 1600000 in
theorem rmul_any (u v : Value) (m n : Nat) (w : World) (hu : Sl w u (ci64 (digs m))) (hv : Sl w v (ci64 (digs n))) (hm : (digs m).length ≤ 1099511627776) (hn : (digs n).length ≤ 1099511627776) :
    Calls Tryd.prog 44 #[u, v] w (RDig (m * n) w) := by
  obtain ⟨a, cap, rfl, hl, hcm⟩ := dig_open hu
  obtain ⟨b, cap', rfl, hl', hcm'⟩ := dig_open hv
  unfold maxLen at hcm hcm'
  have HA := Lib.hid hu
  have HB := Lib.hid hv
  have HXL := Lib.hid (fun i => digs_getD_lt m i)
  have HYL := Lib.hid (fun i => digs_getD_lt n i)
  obtain ⟨la, hla⟩ : ∃ la, la = (digs m).length := ⟨_, rfl⟩
  obtain ⟨lb, hlb⟩ : ∃ lb, lb = (digs n).length := ⟨_, rfl⟩
  have HLA := Lib.hid hla
  have HLB := Lib.hid hlb
  rw [← hla] at hl hm HA ⊢
  rw [← hlb] at hl' hn HB ⊢
  obtain ⟨len, hlen⟩ : ∃ len, len = la + lb + 1 := ⟨_, rfl⟩
  have hsum : (la : Int) + (lb : Int) + 1 = (len : Int) := by omega
  have HLEN := Lib.hid hlen
  have h1 : len ≤ 2199023255553 := by omega
  clear hu hv hla hlb hlen
  go_enter Tryd.func44, Tryd.ntmps44
  go_wp2_with (at_make; refine wpList_make_lc _ rfl (.tmp 15) (.tmp 15) 31 rfl 3 (.int .i64 0) 8 Tryd.underlying31 infoI64 rfl .i64 .i64 _ _ len len rfl rfl (by omega) (by omega) (by omega) (by omega) (by unfold maxLen; omega) ?_)
  intro w1 ho hu1 hw1
  obtain ⟨g, hg⟩ : ∃ g, g = w.heap.size := ⟨_, rfl⟩
  have hgw : w.heap.size ≤ g := by omega
  have H0 : Hid (DRow w g len (List.replicate len 0) w1) := ⟨by rw [ci64_zero, hg]; exact ho, by simp, fun d hd => by rw [List.eq_of_mem_replicate hd]; decide, hu1⟩
  rw [← hg]
  clear ho hu1 hw1 hg
  go_wp2
  go_loopw [6, 7, 8, 9] (fun v6 v7 v8 v9 wr => ∃ (i : Nat) (L : List Nat), i ≤ la ∧ v6 = .int .i64 (i : Int) ∧ Hid (dval L = dval ((digs m).take i) * n) ∧ DRow w g len L wr) (fun v6 _ _ _ _ => la - (intOf v6).toNat)
  case atStart => exact ⟨0, _, by omega, rfl, by show _ = _; rw [dval_zeros _ (fun d hd => List.eq_of_mem_replicate hd)]; simp [dval], H0.out⟩
  case round =>
    obtain ⟨i, L, hi, rfl, HE, hinv⟩ := hrel
    have HI := Lib.hid hinv
    clear hinv H0
    by_cases hlt : i < la
    · have hia : (i : Int) < (la : Int) := by omega
      have hx := HXL.out i
      obtain ⟨ba, oa, rfl, hba, hca⟩ := dig_at HA.out i (by rw [← HLA.out]; exact hlt)
      obtain ⟨p, hp⟩ : ∃ p, p = (digs m).getD i 0 := ⟨_, rfl⟩
      have HP := Lib.hid hp
      have HVL : Hid (dval L < 10000 ^ (i + lb)) := by
        show _ < _
        rw [HE.out, Nat.pow_add]
        have e1 : dval ((digs m).take i) < 10000 ^ i := by
          have := dval_lt ((digs m).take i) (fun d hd => digs_lt m d (List.mem_of_mem_take hd))
          rw [List.length_take, Nat.min_eq_left (by rw [← HLA.out]; omega)] at this
          exact this
        have e2 : n < 10000 ^ lb := by
          have := dval_lt (digs n) (digs_lt n)
          rw [dval_digs, ← HLB.out] at this
          exact this
        exact Nat.mul_lt_mul_of_lt_of_le e1 (Nat.le_of_lt e2) (Nat.pow_pos (by decide))
      rw [← hp] at hx hca
      clear hp
      go_wp2
      go_loopw [7, 8, 9] (fun v7 v8 v9 wr => ∃ (k c : Nat) (L' : List Nat), v8 = .int .i64 (k : Int) ∧ v7 = .int .i64 (c : Int) ∧ (k ≤ lb ∨ (k = lb + 1 ∧ c = 0)) ∧ c < 10000 ∧ Hid (dval L' + 10000 ^ (i + k) * c = dval L + 10000 ^ i * (p * dval ((digs n).take k))) ∧ DRow w g len L' wr) (fun _ v8 _ _ => lb + 2 - (intOf v8).toNat)
      case atStart => exact ⟨0, 0, L, rfl, rfl, by omega, by omega, by show _ = _; simp [dval], HI.out⟩
      case round =>
        obtain ⟨k, c, L', rfl, rfl, hkb, hc4, HE', hinv⟩ := hrel
        have HI' := Lib.hid hinv
        clear hinv
        have i0 : (0 : Int) ≤ (k : Int) := by omega
        by_cases hgo : k < lb ∨ 0 < c
        · have hkl : k ≤ lb := by omega
          obtain ⟨f, hf⟩ : ∃ f, f = i + k := ⟨_, rfl⟩
          have hfl : f < len := by have := HLEN.out; omega
          have hcl := HI'.out.own.cellAt f (by rw [Nat.mul_one]; exact hfl)
          rw [ci64_getD _ _ (by rw [HI'.out.len]; exact hfl)] at hcl
          have hfz := HI'.out.own.frozenAt f
          have hyl := getD_lt4 HI'.out.lt f
          have hc1 : wr.cell? ⟨ba, oa + i, none⟩ = some (.int .i64 (p : Int)) := (HI'.out.upd.cell (p := ⟨ba, oa + i, none⟩) hba (by simp)).trans hca
          have i3 : (i : Int) + (k : Int) = (f : Int) := by omega
          have hf63 : f < 9223372036854775808 := by omega
          have i5 : (f : Int) < (len : Int) := by omega
          have i6 : (0 : Int) ≤ (f : Int) := by omega
          have HFE := Lib.hid hf
          obtain ⟨t, ht⟩ : ∃ t, t = L'.getD f 0 + c + p * (digs n).getD k 0 := ⟨_, rfl⟩
          have HST := Lib.hid <| mul_step (digs n) L' i k c t (dval L) p (by rw [HI'.out.len, ← hf]; exact hfl) HE'.out (by rw [← hf]; exact ht)
          obtain ⟨d, hd⟩ : ∃ d, d = t % 10000 := ⟨_, rfl⟩
          obtain ⟨c', hc'⟩ : ∃ c', c' = t / 10000 := ⟨_, rfl⟩
          rw [← hd, ← hc', ← hf] at HST
          clear hf
          have hdl : d < 10000 := by omega
          have HF : Hid (DRow w g len (L'.set f d) (wr.setCell ⟨g, f, none⟩ (.int .i64 (d : Int)))) := HI'.out.set hgw f d hdl
          have HFD : Hid (∀ nq, DRow w g len (L'.set f d) ((wr.drewN nq).setCell ⟨g, f, none⟩ (.int .i64 (d : Int)))) := fun nq => (HI'.out.drewN nq).set hgw f d hdl
          by_cases hkk : k < lb
          · have hib : (k : Int) < (lb : Int) := by omega
            have hy := HYL.out k
            obtain ⟨bb, ob, rfl, hbb, hcb⟩ := dig_at HB.out k (by rw [← HLB.out]; exact hkk)
            have hcb' : wr.cell? ⟨bb, ob + k, none⟩ = some (.int .i64 (((digs n).getD k 0 : Nat) : Int)) := (HI'.out.upd.cell (p := ⟨bb, ob + k, none⟩) hbb (by simp)).trans hcb
            clear hcb
            generalize L'.getD f 0 = y at *
            generalize (digs n).getD k 0 = q at *
            obtain ⟨pq, hpq⟩ : ∃ pq, pq = p * q := ⟨_, rfl⟩
            have hpql : pq ≤ 99980001 := by rw [hpq]; exact mul_dig_le hx hy
            rw [← hpq] at ht
            have hpqi : (p : Int) * (q : Int) = (pq : Int) := by rw [hpq]; exact (Int.natCast_mul p q).symm
            have K := Lib.hid (mul_digit y c pq d c' t hyl hc4 hpql ht hd hc')
            have hcl' := K.out.1
            have k7 := K.out.2.2.2.2.2.2.2.2.1
            have k8 := K.out.2.2.2.2.2.2.2.2.2
            have hk63 : k ≤ 1099511627776 := by omega
            clear ht hpq hd hc' hgo hl hl' hcm hcm' hm hn hsum h1 hkb hi
            have HIK := Lib.hid hkl
            clear hkl
            go_wp2
            go_quiet (fail)
            go_wp2
            refine ⟨⟨k + 1, c', L'.set f d, by go_num, by go_num, by have := HIK.out; omega, hcl', HST, HFD.out _⟩, by have := HIK.out; simp [intOf]; omega⟩
          · have hib : decide (k < lb) = false := by simp; omega
            have hcp : 0 < c := by omega
            have hcd : decide (0 < c) = true := by simpa using hcp
            have hkl2 : k = lb := by omega
            have hy0 : (digs n).getD k 0 = 0 := getD_over _ _ (by have := HLB.out; omega)
            rw [hy0, Nat.mul_zero] at ht
            clear hy0
            generalize L'.getD f 0 = y at *
            have hc0 : Hid (c' = 0) := by
              have h := HST.out
              have hVL := HVL.out
              have hlb := HLB.out
              rw [hkl2] at h
              rw [hlb] at h hVL
              exact mul_end (digs n) _ i c' (dval L) p (digs_lt n) hVL hx h
            have hcl' : c' < 10000 := by omega
            have i4 : wrap64 ((i : Int) + (k : Int)) = (f : Int) := by rw [i3]; exact w64_nat f hf63
            have j1 : ((y : Int) + (c : Int)) % 10000 = (d : Int) := by omega
            have j2 : ((y : Int) + (c : Int)) / 10000 = (c' : Int) := by omega
            have HK2 := Lib.hid hkl2
            have hk63 : k ≤ 1099511627776 := by omega
            clear i3
            clear ht hd hc' hgo hl hl' hcm hcm' hm hn hsum h1 hkb hi hkl2 hkl
            go_wp2
            refine ⟨⟨k + 1, c', L'.set f d, by go_num, by first | go_num | rw [j2], by have := hc0.out; have := HK2.out; omega, hcl', HST, HF.out⟩, by have := HK2.out; simp [intOf]; omega⟩
        · have hib : decide (k < lb) = false := by simp; omega
          have hcd : decide (0 < c) = false := by simp; omega
          have HF : Hid (dval L' = dval ((digs m).take (i + 1)) * n) := by
            show _ = _
            have h := HE'.out
            rw [show c = 0 by omega, List.take_of_length_le (by rw [← HLB.out]; omega), dval_digs, HE.out] at h
            rw [dval_take_succ, ← HP.out, Nat.add_mul, Nat.mul_assoc]
            simpa using h
          clear hgo
          go_wp2
          refine ⟨⟨i + 1, L', by omega, by go_num, HF, HI'.out⟩, by simp [intOf]; omega⟩
    · obtain rfl : i = la := by omega
      have HF : Hid (dval L = m * n) := by
        show _ = _
        rw [HE.out, List.take_of_length_le (by rw [← HLA.out]; exact Nat.le_refl _), dval_digs]
      have HSL := Lib.hid (Sl.own HI.out.own)
      have HLT := Lib.hid HI.out.lt
      have HU := Lib.hid HI.out.upd
      go_wp2_with fail
      refine (trim_any _ L _ HSL.out HLT.out).mono ?_
      rintro e w7 ⟨v7, rfl, hs7, rfl⟩
      have HFF : Hid (Sl w7 v7 (ci64 (digs (m * n)))) := by show Sl _ _ _; rw [← HF.out]; exact hs7
      clear hs7
      go_wp2
      go_ret
      exact ⟨_, rfl, HFF.out, HU.out⟩
end Go.Proofs.YtoklmfmoblkfcaaDoor
