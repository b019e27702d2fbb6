/- The document's own numbers of layer 5: contracts of DivMod and Pow. -/
import Derived.Test.YtoklmfmoblkfcaaGreatDoorRefMul
namespace Go.Proofs.YtoklmfmoblkfcaaGreatDoor
open Go.RowKit Go.Proofs.Tm
set_option linter.unusedVariables false
set_option linter.unusedSimpArgs false
set_option maxRecDepth 20000

theorem digs_lt_pow (n : Nat) : n < 10000 ^ (digs n).length := by
  have := dval_lt (digs n) (digs_lt n); rw [dval_digs] at this; exact this
theorem digs_mul_len (a b : Nat) : (digs (a * b)).length ≤ (digs a).length + (digs b).length :=
  digs_len _ _ (by rw [Nat.pow_add]; exact Nat.mul_lt_mul_of_lt_of_le (digs_lt_pow a) (Nat.le_of_lt (digs_lt_pow b)) (Nat.pow_pos (by decide)))
theorem digs_len1 {a : Nat} (h : a < 10000) : (digs a).length ≤ 1 := digs_len 1 a (by simpa using h)
theorem digs_len_small {a : Nat} (h : a ≤ 9223372036854775807) : (digs a).length ≤ 5 := digs_len 5 a (by omega)

/-- Two of the document's numbers are answered. -/
def RDig2 (q r : Nat) (w : World) (e : Ending) (w' : World) : Prop := ∃ v1 v2, e = .returned (.tuple #[v1, v2]) ∧ Sl w' v1 (ci64 (digs q)) ∧ Sl w' v2 (ci64 (digs r)) ∧ Upd [] w w'

theorem cmp_le (a b : Nat) : decide (cmpN a b ≤ 0) = decide (a ≤ b) := by
  unfold cmpN
  rw [Bool.eq_iff_iff, decide_eq_true_eq, decide_eq_true_eq]
  by_cases h : a < b
  · rw [if_pos h]; omega
  · rw [if_neg h]; split <;> omega
theorem half_mid {lo hi mid : Nat} (h : mid = (lo + hi) / 2) (h1 : 1 < hi - lo) : lo < mid ∧ mid < hi := by omega

/-- Before round i. -/
structure DivI (m n : Nat) (w : World) (g len i R : Nat) (L : List Nat) (v : Value) (wr : World) : Prop where
  row : DRow w g len L wr
  rs : Sl wr v (ci64 (digs R))
  lt : R < n
  eq : dval ((digs m).drop i) = dval (L.drop i) * n + R

set_option maxHeartbeats 1600000 in
theorem rdivmod_any (u v : Value) (m n : Nat) (w : World) (hu : Sl w u (ci64 (digs m))) (hv : Sl w v (ci64 (digs n))) (hm : (digs m).length ≤ 274877906944) (hn : (digs n).length ≤ 274877906944) (hn0 : 0 < n) :
    Calls Tryz.prog 124 #[u, v] w (RDig2 (m / n) (m % n) w) := by
  obtain ⟨a, cap, rfl, hl, hcm⟩ := dig_open hu
  have HA := Lib.hid hu
  have HB := Lib.hid hv
  have HXL := Lib.hid (fun i => digs_getD_lt m i)
  obtain ⟨la, hla⟩ : ∃ la, la = (digs m).length := ⟨_, rfl⟩
  have HLA := Lib.hid hla
  have HLN := Lib.hid hn
  rw [← hla] at hl hm HA ⊢
  have HN0 := Lib.hid hn0
  unfold maxLen at hcm
  clear hu hv hla hn hn0
  go_enter Tryz.func124, Tryz.ntmps124
  go_wp2_with (at_make; refine wpList_make_lc _ rfl (.tmp 13) (.tmp 13) 31 rfl 3 (.int .i64 0) 8 Tryz.underlying31 infoI64 rfl .i64 .i64 _ _ la la rfl rfl (by omega) (by omega) (by omega) (by omega) (by unfold maxLen; omega) ?_)
  intro w1 ho hu1 hw1
  obtain ⟨g, hg⟩ : ∃ g, g = w.heap.size := ⟨_, rfl⟩
  have hgw : w.heap.size ≤ g := by omega
  have hgl : g < w1.heap.size := by rw [hg]; exact hw1
  have H0 : Hid (DivI m n w g la la 0 (List.replicate la 0) (.slice none 0 0) w1) := ⟨⟨by rw [ci64_zero, hg]; exact ho, by simp, fun d hd => by rw [List.eq_of_mem_replicate hd]; decide, hu1⟩, by rw [digs_zero]; exact Sl.nil _, HN0.out, by rw [List.drop_of_length_le (by rw [← HLA.out]; exact Nat.le_refl _), List.drop_of_length_le (by simp)]; simp [dval]⟩
  rw [← hg]
  clear ho hu1 hg
  go_wp2
  go_loopw [7, 8, 9, 10, 11] (fun v7 v8 _ _ _ wr => ∃ (i R : Nat) (L : List Nat), i ≤ la ∧ v8 = .int .i64 ((i : Int) - 1) ∧ g < wr.heap.size ∧ DivI m n w g la i R L v7 wr) (fun _ v8 _ _ _ _ => (intOf v8 + 1).toNat)
  case atStart => exact ⟨la, 0, _, Nat.le_refl _, rfl, hgl, H0.out⟩
  case round =>
    obtain ⟨i, R, L, hi, rfl, hgr, hinv⟩ := hrel
    have HI := Lib.hid hinv
    clear hinv H0 hgl hw1
    by_cases h0 : i = 0
    · subst h0
      have HE : Hid (dval L = m / n ∧ R = m % n) := by
        have h := HI.out.eq
        rw [List.drop_zero, List.drop_zero, dval_digs] at h
        have hl := HI.out.lt
        refine ⟨?_, ?_⟩
        · rw [h, Nat.mul_comm, Nat.mul_add_div HN0.out, Nat.div_eq_of_lt hl, Nat.add_zero]
        · rw [h, Nat.mul_comm, Nat.mul_add_mod, Nat.mod_eq_of_lt hl]
      have HSL := Lib.hid (Sl.own HI.out.row.own)
      have HLT := Lib.hid HI.out.row.lt
      have HU := Lib.hid HI.out.row.upd
      have HRS := Lib.hid HI.out.rs
      go_wp2_with fail
      refine (trim_any _ L _ HSL.out HLT.out).mono ?_
      rintro e w7 ⟨v7, rfl, hs7, rfl⟩
      have HF : Hid (Sl w7 v7 (ci64 (digs (m / n)))) := by show Sl _ _ _; rw [← HE.out.1]; exact hs7
      clear hs7
      go_wp2
      go_ret2
      exact ⟨_, _, rfl, HF.out, by rw [← HE.out.2]; exact HRS.out, HU.out⟩
    · obtain ⟨k, hk⟩ : ∃ k, i = k + 1 := ⟨i - 1, by omega⟩
      have hik : k < la := by omega
      obtain ⟨ba, oa, rfl, hba, hca⟩ := dig_at HA.out k (by rw [← HLA.out]; exact hik)
      have hca' : wr.cell? ⟨ba, oa + k, none⟩ = some (.int .i64 (((digs m).getD k 0 : Nat) : Int)) := (HI.out.row.upd.cell (p := ⟨ba, oa + k, none⟩) hba (by simp)).trans hca
      have hx := HXL.out k
      obtain ⟨x, hxe⟩ : ∃ x, x = (digs m).getD k 0 := ⟨_, rfl⟩
      have HX := Lib.hid hxe
      rw [← hxe] at hca' hx
      rw [hk] at HI
      have i0 : (0 : Int) ≤ (k : Int) := by omega
      have i1 : (k : Int) < (la : Int) := by omega
      have i2 : ((i : Int) - 1) = (k : Int) := by omega
      rw [i2]
      clear hca hxe i2
      have HRL : Hid ((digs R).length ≤ 274877906944) := Nat.le_trans (digs_length_le (Nat.le_of_lt HI.out.lt)) HLN.out
      go_wp2_with (at_builtin; refine wpList_append_sl _ rfl (.tmp 26) (.tmp 27) 31 rfl wr.heap.size 3 (.int .i64 0) 8 Tryz.underlying31 infoI64 rfl _ _ _ rfl (own_lit wr 3 #[.int .i64 (x : Int)] (by simp [maxLen])) _ (ci64 (digs R)) rfl (HI.out.rs.upd0 ((Upd.refl _ _).alloc _)) (ci64_one _) ?c2 ?c3 ?c4 ?go)
      case c2 => have := HRL.out; unfold maxLen; simp; omega
      case c3 => have := HRL.out; simp; omega
      case c4 => simp
      case go =>
        intro v6 w6 ho6 hg6 hfr
        have hS6 : Sl w6 v6 (ci64 (x :: digs R)) := by
          have : ci64 (x :: digs R) = [Value.int .i64 (x : Int)] ++ ci64 (digs R) := rfl
          rw [this]
          exact Sl.own ho6
        have hk6 : ∀ q, v6.ownBlock = some q → wr.heap.size ≤ q := fun q hq => (ho6.lt q hq).1
        have hu6 : Upd [] wr w6 := ((Upd.refl _ _).alloc _).grown hg6 (fun q hq => .inr (by simp [Value.ownBlock] at hq; omega))
        have HS6 := Lib.hid hS6
        have HK6 := Lib.hid hk6
        have HU6 := Lib.hid hu6
        clear ho6 hg6 hfr hS6 hk6 hu6
        go_wp2_with fail
        refine (trim_own v6 (x :: digs R) w6 HS6.out (fun d hd => by rcases List.mem_cons.1 hd with rfl | hd; exact hx; exact digs_lt R d hd)).mono ?_
        rintro e w7 ⟨v7, rfl, hs7, rfl, hk7⟩
        obtain ⟨Q, hQ⟩ : ∃ Q, Q = x + 10000 * R := ⟨_, rfl⟩
        have HQ := Lib.hid hQ
        have HR7 : Hid (Sl w7 v7 (ci64 (digs Q))) := by
          show Sl _ _ _
          rw [hQ, ← show dval (x :: digs R) = x + 10000 * R by simp only [dval, dval_digs]]
          exact hs7
        have HK7 : Hid (∀ q, v7.ownBlock = some q → q ≠ g) := fun q hq => by have := HK6.out q (hk7 q hq); omega
        have HQL : Hid (Q < n * 10000) := by
          show _ < _
          have := HI.out.lt
          rw [hQ]; omega
        have HRW : Hid (DRow w g la L w7) := ⟨ownsRow_upd HI.out.row.own HU6.out (by simp), HI.out.row.len, HI.out.row.lt, HI.out.row.upd.trans0 HU6.out⟩
        have hg7 : g < w7.heap.size := Nat.lt_of_lt_of_le hgr HU6.out.size
        clear hs7 hk7 hQ hca'
        go_wp2
        go_loopw [9, 10, 11] (fun v9 v10 _ wr => ∃ (lo hi : Nat), v9 = .int .i64 (lo : Int) ∧ v10 = .int .i64 (hi : Int) ∧ lo < hi ∧ hi ≤ 10000 ∧ Hid (n * lo ≤ Q ∧ Q < n * hi) ∧ Upd [] w7 wr) (fun v9 v10 _ _ => (intOf v10 - intOf v9).toNat)
        case atStart => exact ⟨0, 10000, rfl, rfl, by omega, by omega, ⟨by omega, HQL.out⟩, Upd.refl _ _⟩
        case round =>
          obtain ⟨lo, hi', rfl, rfl, hlh, hhi, HLH, hu⟩ := hrel
          have HUW := Lib.hid hu
          clear hu
          by_cases hgo : 1 < hi' - lo
          · obtain ⟨mid, hmid⟩ : ∃ mid, mid = (lo + hi') / 2 := ⟨_, rfl⟩
            have hmm := half_mid hmid hgo
            have j0 : decide (1 < (hi' : Int) - (lo : Int)) = true := by simp; omega
            have j1 : ((lo : Int) + (hi' : Int)) / 2 = (mid : Int) := by omega
            have HMID := Lib.hid hmid
            clear hmid hgo
            go_wp2_with fail
            refine (small_any mid _ (by omega)).mono ?_
            rintro e w8 ⟨v8, rfl, hs8, hu8⟩
            have HS8 := Lib.hid hs8
            have HU8 := Lib.hid (HUW.out.trans0 hu8)
            clear hs8 hu8
            go_wp2_with fail
            refine (rmul_any _ _ n mid _ (HB.out.upd0 (HRW.out.upd.trans0 HU8.out)) HS8.out (by have := HLN.out; omega) (by have := digs_len1 (a := mid) (by omega); omega)).mono ?_
            rintro e w9 ⟨v9, rfl, hs9, hu9⟩
            have HS9 := Lib.hid hs9
            have HU9 := Lib.hid (HU8.out.trans0 hu9)
            clear hs9 hu9
            go_wp2_with fail
            refine (rcmp_any _ _ (n * mid) Q _ HS9.out (HR7.out.upd0 HU9.out) (by have := HLN.out; have := digs_mul_len n mid; have := digs_len1 (a := mid) (by omega); omega) (by have := HLN.out; have := digs_mul_len n 10000; have := digs_len_small (a := 10000) (by decide); have := digs_length_le (Nat.le_of_lt HQL.out); omega)).mono ?_
            rintro e w10 ⟨rfl, hu10⟩
            have HU10 := Lib.hid (HU9.out.trans0 hu10)
            have hcl := cmp_le (n * mid) Q
            clear hu10
            by_cases hle : n * mid ≤ Q
            · have hcl' : decide (cmpN (n * mid) Q ≤ 0) = true := by rw [hcl]; simpa using hle
              have HLE : Hid (n * mid ≤ Q ∧ Q < n * hi') := ⟨hle, HLH.out.2⟩
              clear hcl hle
              generalize cmpN (n * mid) Q = cc at *
              go_wp2
              exact ⟨⟨mid, hi', rfl, rfl, hmm.2, hhi, HLE, HU10.out⟩, by simp [intOf]; omega⟩
            · have hcl' : decide (cmpN (n * mid) Q ≤ 0) = false := by rw [hcl]; simpa using hle
              have HLE : Hid (n * lo ≤ Q ∧ Q < n * mid) := ⟨HLH.out.1, by omega⟩
              clear hcl hle
              generalize cmpN (n * mid) Q = cc at *
              go_wp2
              exact ⟨⟨lo, mid, rfl, rfl, hmm.1, by omega, HLE, HU10.out⟩, by simp [intOf]; omega⟩
          · have j0 : decide (1 < (hi' : Int) - (lo : Int)) = false := by simp; omega
            have HLH' : Hid (n * lo ≤ Q ∧ Q < n * (lo + 1)) := by
              obtain rfl : hi' = lo + 1 := by omega
              exact HLH.out
            have hlo : lo < 10000 := by omega
            have HROW : Hid (DRow w g la L wr) := ⟨ownsRow_upd HRW.out.own HUW.out (by simp), HRW.out.len, HRW.out.lt, HRW.out.upd.trans0 HUW.out⟩
            have HSET : Hid (DRow w g la (L.set k lo) (wr.setCell ⟨g, k, none⟩ (.int .i64 (lo : Int)))) := HROW.out.set hgw k lo hlo
            have hcl := HROW.out.own.cellAt k (by rw [Nat.mul_one]; exact hik)
            rw [ci64_getD _ _ (by rw [HROW.out.len]; exact hik)] at hcl
            have hfz := HROW.out.own.frozenAt k
            have HRS : Hid (Sl (wr.setCell ⟨g, k, none⟩ (.int .i64 (lo : Int))) v7 (ci64 (digs Q))) := ((HR7.out.upd0 HUW.out).upd (S := [g]) ((Upd.refl _ _).setCell (.inl (by simp)) _) (fun _ q hq => by simp; exact HK7.out q hq))
            have hgz : g < (wr.setCell ⟨g, k, none⟩ (.int .i64 (lo : Int))).heap.size := by simp; exact Nat.lt_of_lt_of_le hg7 HUW.out.size
            generalize L.getD k 0 = y0 at *
            obtain ⟨W, hW⟩ : ∃ W, W = wr.setCell ⟨g, k, none⟩ (.int .i64 (lo : Int)) := ⟨_, rfl⟩
            rw [← hW] at HSET HRS hgz
            have HWE := Lib.hid hW
            clear hW
            go_wp2_with fail
            rw [← HWE.out]
            refine (small_any lo _ (by omega)).mono ?_
            rintro e w8 ⟨v8, rfl, hs8, hu8⟩
            have HS8 := Lib.hid hs8
            have HU8 := Lib.hid hu8
            clear hs8 hu8
            go_wp2_with fail
            refine (rmul_any _ _ n lo _ (HB.out.upd0 (HSET.out.upd.trans0 HU8.out)) HS8.out (by have := HLN.out; omega) (by have := digs_len1 (a := lo) (by omega); omega)).mono ?_
            rintro e w9 ⟨v9, rfl, hs9, hu9⟩
            have HS9 := Lib.hid hs9
            have HU9 := Lib.hid (HU8.out.trans0 hu9)
            clear hs9 hu9
            go_wp2_with fail
            refine (rsub_any _ _ Q (n * lo) _ (HRS.out.upd0 HU9.out) HS9.out (by have := HLN.out; have := digs_mul_len n 10000; have := digs_len_small (a := 10000) (by decide); have := digs_length_le (Nat.le_of_lt HQL.out); omega) HLH'.out.1).mono ?_
            rintro e w10 ⟨v10, rfl, hs10, hu10⟩
            have hst := div_step (digs m) (digs n) k (dval (L.drop (k + 1))) R lo (by rw [← HLA.out]; exact hik) (by rw [dval_digs]; exact HN0.out) (by rw [dval_digs]; exact HI.out.eq) (by rw [dval_digs]; exact HI.out.lt) (by rw [dval_digs, ← HX.out, ← HQ.out]; exact HLH'.out.1) (by rw [dval_digs, ← HX.out, ← HQ.out]; exact HLH'.out.2)
            rw [dval_digs, ← HX.out, ← HQ.out] at hst
            have hu9 := HU9.out.trans0 hu10
            have HF : Hid (DivI m n w g la k (Q - n * lo) (L.set k lo) v10 w10) := by
              refine ⟨⟨ownsRow_upd HSET.out.own hu9 (by simp), HSET.out.len, HSET.out.lt, HSET.out.upd.trans0 hu9⟩, hs10, hst.2, ?_⟩
              rw [hst.1]
              congr 1
              congr 1
              have e : (L.set k lo).drop k = lo :: L.drop (k + 1) := by
                rw [List.drop_eq_getElem_cons (by rw [List.length_set, HI.out.row.len]; exact hik), List.getElem_set_self, List.drop_set_of_lt (by omega)]
              rw [e]
              simp only [dval]
            have hgf : g < w10.heap.size := Nat.lt_of_lt_of_le hgz hu9.size
            clear hst hu9 hs10 hu10
            go_wp2
            exact ⟨⟨k, _, _, by omega, rfl, hgf, HF.out⟩, by simp [intOf]⟩
end Go.Proofs.YtoklmfmoblkfcaaGreatDoor
