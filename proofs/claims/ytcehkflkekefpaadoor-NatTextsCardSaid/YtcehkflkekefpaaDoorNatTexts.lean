/- The law NatTexts (layer 5). -/
import Derived.Test.YtcehkflkekefpaaDoorNatIs
import Derived.Test.YtcehkflkekefpaaDoorNatWake
import Derived.Test.YtcehkflkekefpaaDoorNatFewB
import Derived.Test.YtcehkflkekefpaaDoorNatPar
import Derived.Deep.DeepCutAuto
namespace Go.Proofs.YtcehkflkekefpaaDoor
open Go.RowKit Go.Proofs.Tm
set_option linter.unusedVariables false
set_option linter.unusedSimpArgs false
set_option maxRecDepth 20000

theorem isTxt_dec (n : Nat) : isTxt (Lib.decDigits n) = true := by
  have h1 := decDigits_digs n
  have h2 := decDigits_head n
  have h3 := decDigits_ne n
  unfold isTxt
  cases h : Lib.decDigits n with
  | nil => exact absurd h h3
  | cons c r =>
    rw [h] at h1 h2
    have e1 : ((c :: r).all isDig) = true := by
      rw [List.all_eq_true]
      intro x hx
      have := h1 x hx
      simp [isDig, this.1, this.2]
    rw [e1]
    simp at h2 ⊢
    exact h2
theorem dec_len {A : Nat} (h : (wds A).length ≤ 9) : (Lib.decDigits A).length ≤ 2000 := by
  have h1 := (wds_length_le_iff A 9).1 h
  have h2 : A < 10 ^ 200 := Nat.lt_trans h1 (by decide +kernel)
  have h3 := (nDigits_le_iff A 200 (by decide)).2 h2
  rw [decDigits_low, low_length]
  omega
theorem parseOf_dec {A : Nat} (h : (wds A).length ≤ 9) : parseOf (Lib.decDigits A) = (0, A) := by
  unfold parseOf
  rw [if_neg (by have := dec_len h; omega), if_pos (isTxt_dec A), decVal_decDigits]
theorem txt_back {l : List UInt8} (h : isTxt l = true) : Lib.decDigits (decVal l) = l := by
  unfold isTxt at h
  rw [Bool.and_eq_true, Bool.and_eq_true] at h
  refine decDigits_decVal l (digs_all h.2) ?_ ?_
  · rintro rfl; simp at h
  · cases l with
    | nil => simp at h
    | cons c r => simpa using h.1.2
set_option maxHeartbeats 3200000 in
theorem natTexts_law (a0 : Option Addr) (cap0 : Nat) (p : List Nat) (t : ByteArray) (w : World) (ht : Tab w)
    (hp : Sl w (.slice a0 p.length cap0) (cu64 p)) (hpw : ∀ d ∈ p, d < 18446744073709551616) (hts : t.size ≤ 9223372036854775807) :
    Calls Tryd.prog 6 #[.slice a0 p.length cap0, .string t] w fun e w' => e = .returned (.bool true) ∧ Upd [] w w' := by
  have HT : Hid (∀ W, Upd [] w W → Tab W) := fun W h => ht.upd0 h
  have HP : Hid (∀ W, Upd [] w W → Calls Tryd.prog 13 #[.slice a0 p.length cap0, .int .i64 9] W (RFew (p.take 9) W)) := fun W h => few_any a0 cap0 p 9 (by decide) W (hp.upd0 h)
  have HBA : Hid (_ ∧ _) := few_bounds p 9 hpw
  have HPW : Hid (∀ d ∈ p.take 9, d < 18446744073709551616) := fun d hd => hpw d (List.mem_of_mem_take hd)
  have HPL : Hid ((p.take 9).length ≤ 9) := by show _ ≤ _; rw [List.length_take]; omega
  generalize p.take 9 = P at *
  obtain ⟨lp, hlp⟩ : ∃ l, l = p.length := ⟨_, rfl⟩
  rw [← hlp] at HP ⊢
  have HPS : Hid (∀ W, Calls Tryd.prog 32 #[.string t] W (RParse t.data.toList W)) := fun W => parse_any t W hts
  obtain ⟨n, hn⟩ : ∃ n, n = t.size := ⟨_, rfl⟩
  have HN := Lib.hid hn
  clear ht hp hpw hlp hts
  go_enter Tryd.func6, Tryd.ntmps6
  go_wp2_with fail
  refine (awake_any _ (HT.out _ (Upd.refl _ _))).mono ?_
  rintro e w1 ⟨rfl, hu1⟩
  have HU1 := Lib.hid hu1
  clear hu1
  go_wp2_with fail
  refine (HP.out _ HU1.out).mono ?_
  rintro e w2 ⟨v2, rfl, hs2, rfl⟩
  have HS2 := Lib.hid hs2
  clear hs2
  go_wp2_with fail
  refine (of_any _ _ _ HS2.out (by have := HPL.out; omega) HPW.out).mono ?_
  rintro e w4 ⟨v4, rfl, hn4, hu4⟩
  have HDS : Hid (∀ W, Upd [] w4 W → Calls Tryd.prog 15 #[v2] W (RDig (wval P) W)) := fun W h => rof_any _ _ _ ((HS2.out.upd0 hu4).upd0 h) HPW.out (by have := HPL.out; omega)
  generalize wval P = A at *
  obtain ⟨x4, c4, rfl, _, _⟩ := hn4.open
  obtain ⟨l4, hl4⟩ : ∃ l, l = (wds A).length := ⟨_, rfl⟩
  rw [← hl4] at hn4 ⊢
  obtain ⟨w5, hw5⟩ : ∃ W, W = w4.alloc (.cells #[.slice x4 l4 c4] 26) := ⟨_, rfl⟩
  obtain ⟨k5, hk5⟩ : ∃ k, k = w4.heap.size := ⟨_, rfl⟩
  have hu5 : Upd [] w4 w5 := by rw [hw5]; exact (Upd.refl _ _).alloc _
  have hb5 : Box w5 k5 (.slice x4 l4 c4) 26 := by rw [hw5, hk5]; exact Box.new _ _ _
  have HB5 : Hid (∀ W, Upd [] w5 W → W.cell? ⟨k5, 0, none⟩ = some (.slice x4 l4 c4)) := fun W h => (hb5.upd h).cell
  have HN5 : Hid (∀ W, Upd [] w5 W → NV W (.agg #[.slice x4 l4 c4]) A) := fun W h => (hn4.upd0 hu5).upd0 h
  have HD5 : Hid (∀ W, Upd [] w5 W → Calls Tryd.prog 15 #[v2] W (RDig A W)) := fun W h => HDS.out W (hu5.trans0 h)
  have HUT : Hid (∀ W, Upd [] w5 W → Upd [] w W) := fun W h => HU1.out.trans0 (hu4.trans0 (hu5.trans0 h))
  have HTX : Hid (∀ W, Upd [] w5 W → Calls Tryd.prog 33 #[.agg #[.slice x4 l4 c4]] W fun e w' => e = .returned (.string ⟨(Lib.decDigits A).toArray⟩) ∧ Upd [] W w') := fun W h => text_any _ A W (HN5.out W h) (HT.out W (HUT.out W h)) (by have := HBA.out.1; omega)
  have HW5 := Lib.hid hw5
  have HK5 := Lib.hid hk5
  clear hn4 hu4 hu5 hb5 hw5 hk5 hl4 HDS HS2
  have b5 := HB5.out _ (Upd.refl _ w5)
  rw [HW5.out] at b5
  go_wp2_with fail
  rw [← HW5.out]
  rw [← HK5.out]
  refine (HTX.out _ (Upd.refl _ _)).mono ?_
  rintro e w6 ⟨rfl, hu6⟩
  have HU6 := Lib.hid hu6
  clear hu6 b5
  go_wp2_with fail
  have HQA := Lib.hid (parse_any ⟨(Lib.decDigits A).toArray⟩ w6 (by have := dec_len HBA.out.1; show (Lib.decDigits A).toArray.size ≤ _; simp; omega))
  refine HQA.out.mono ?_
  rintro e w7 ⟨v7, rfl, hn7, hu7⟩
  have hpo : parseOf (ByteArray.data ⟨(Lib.decDigits A).toArray⟩).toList = (0, A) := by show parseOf (Lib.decDigits A).toArray.toList = _; rw [List.toList_toArray]; exact parseOf_dec HBA.out.1
  rw [hpo] at hn7 ⊢
  obtain ⟨x7, c7, rfl, _, _⟩ := hn7.open
  obtain ⟨l7, hl7⟩ : ∃ l, l = (wds (0, A).2).length := ⟨_, rfl⟩
  rw [← hl7] at hn7 ⊢
  obtain ⟨w8, hw8⟩ : ∃ W, W = w7.alloc (.cells #[.slice x7 l7 c7] 26) := ⟨_, rfl⟩
  obtain ⟨k8, hk8⟩ : ∃ k, k = w7.heap.size := ⟨_, rfl⟩
  have hu8 : Upd [] w7 w8 := by rw [hw8]; exact (Upd.refl _ _).alloc _
  have hb8 : Box w8 k8 (.slice x7 l7 c7) 26 := by rw [hw8, hk8]; exact Box.new _ _ _
  have HB8 : Hid (∀ W, Upd [] w8 W → W.cell? ⟨k8, 0, none⟩ = some (.slice x7 l7 c7)) := fun W h => (hb8.upd h).cell
  have HN8 : Hid (∀ W, Upd [] w8 W → NV W (.agg #[.slice x7 l7 c7]) A) := fun W h => (hn7.upd0 hu8).upd0 h
  have HU8 := Lib.hid (HU6.out.trans0 (hu7.trans0 hu8))
  have HW8 := Lib.hid hw8
  have HK8 := Lib.hid hk8
  have b5 := HB5.out _ HU8.out
  rw [HW8.out] at b5
  clear hn7 hu7 hu8 hb8 hw8 hk8 hl7 hpo HQA
  go_wp2_with fail
  rw [← HW8.out]
  rw [← HK8.out]
  refine (HTX.out _ HU8.out).mono ?_
  rintro e w9 ⟨rfl, hu9⟩
  have HU9 := Lib.hid (HU8.out.trans0 hu9)
  have H89 := Lib.hid hu9
  clear hu9 b5
  go_wp2_with fail
  refine (HD5.out _ HU9.out).mono ?_
  rintro e w10 ⟨v10, rfl, hs10, hu10⟩
  have HS10 := Lib.hid hs10
  have HU10 := Lib.hid (HU9.out.trans0 hu10)
  have H810 := Lib.hid (H89.out.trans0 hu10)
  clear hs10 hu10
  go_wp2_with fail
  refine (rtext_any _ A _ HS10.out (by have := HBA.out.2; omega)).mono ?_
  rintro e w11 ⟨rfl, hu11⟩
  have HU11 := Lib.hid (HU10.out.trans0 hu11)
  have H811 := Lib.hid (H810.out.trans0 hu11)
  have b5 := HB5.out _ HU11.out
  have b8 := HB8.out _ H811.out
  have HCE : Hid (∀ W, Upd [] w11 W → Calls Tryd.prog 20 #[.agg #[.slice x7 l7 c7], .agg #[.slice x4 l4 c4]] W fun e w' => e = .returned (.int .i64 0) ∧ Upd [] W w') := fun W h => by
    have := cmp_any _ _ A A W (HN8.out W (H811.out.trans0 h)) (HN5.out W (HU11.out.trans0 h)) (by have := HBA.out.1; omega)
    unfold cmpN at this
    rw [if_neg (Nat.lt_irrefl _), if_pos rfl] at this
    exact this
  have HDA : Hid (∀ s, s = (Lib.decDigits A).toArray → True) := fun _ _ => trivial
  clear hu11 HTX
  generalize (Lib.decDigits A).toArray = sA at *
  go_wp2_with fail
  refine (HCE.out _ (Upd.refl _ _)).mono ?_
  rintro e w12 ⟨rfl, hu12⟩
  have HU12 := Lib.hid (HUT.out _ (HU11.out.trans0 hu12))
  clear hu12 b5 b8
  -- ANY OTHER TEXT
  by_cases h2000 : 2000 < n
  · have g1 : decide ((2000 : Int) < (t.size : Int)) = true := by simp; have := HN.out; omega
    have HPO : Hid (parseOf t.data.toList = (3, 0)) := by
      show _ = _
      unfold parseOf
      rw [if_pos (by have := HN.out; simp; omega)]
    have HQ := HPS.out w12
    clear h2000 hn
    go_wp2_with fail
    refine HQ.mono ?_
    rintro e w13 ⟨v13, rfl, hn13, hu13⟩
    rw [HPO.out] at hn13 ⊢
    obtain ⟨x13, c13, rfl, _, _⟩ := hn13.open
    have HF := Lib.hid (HU12.out.trans0 (hu13.trans0 ((Upd.refl _ _).alloc (.cells #[.slice x13 (wds (3, 0).2).length c13] 26))))
    clear hn13 hu13
    go_wp2
    go_ret
    exact ⟨rfl, HF.out⟩
  · have g1 : decide ((2000 : Int) < (t.size : Int)) = false := by simp; have := HN.out; omega
    obtain ⟨l, hl⟩ : ∃ l, l = t.data.toList := ⟨_, rfl⟩
    have hll : l.length = n := by rw [hl, hn]; simp
    have HPO : Hid ((isTxt l = true → parseOf l = (0, decVal l)) ∧ (isTxt l = false → parseOf l = (4, 0))) := by
      show _ ∧ _
      unfold parseOf
      rw [if_neg (by omega)]
      exact ⟨fun h => by rw [if_pos h], fun h => by rw [h]; rfl⟩
    have HQ := HPS.out w12
    rw [← hl] at HQ
    have HL := Lib.hid hl
    have HLL := Lib.hid hll
    have hn2 : n ≤ 2000 := by omega
    obtain ⟨b0, hb0⟩ : ∃ b, b = (!l.isEmpty && (l.length == 1 || l.getD 0 0 != 48)) := ⟨_, rfl⟩
    have HB0 := Lib.hid hb0
    have HIT : Hid (isTxt l = (b0 && l.all isDig)) := by show _ = _; rw [hb0]; rfl
    obtain ⟨K, hK⟩ : ∃ K, K = (parseOf l).1 := ⟨_, rfl⟩
    obtain ⟨M, hM⟩ : ∃ M, M = (parseOf l).2 := ⟨_, rfl⟩
    have HK := Lib.hid hK
    have HM := Lib.hid hM
    clear h2000 hl hll hb0
    go_wp2_with fail
    refine HQ.mono ?_
    rintro e w13 ⟨v13, rfl, hn13, hu13⟩
    rw [← hK]
    rw [← hM] at hn13
    obtain ⟨x13, c13, rfl, _, _⟩ := hn13.open
    obtain ⟨l13, hl13⟩ : ∃ l, l = (wds M).length := ⟨_, rfl⟩
    rw [← hl13] at hn13 ⊢
    obtain ⟨w14, hw14⟩ : ∃ W, W = w13.alloc (.cells #[.slice x13 l13 c13] 26) := ⟨_, rfl⟩
    obtain ⟨k14, hk14⟩ : ∃ k, k = w13.heap.size := ⟨_, rfl⟩
    have hu14 : Upd [] w13 w14 := by rw [hw14]; exact (Upd.refl _ _).alloc _
    have hb14 : Box w14 k14 (.slice x13 l13 c13) 26 := by rw [hw14, hk14]; exact Box.new _ _ _
    have HB14 : Hid (w14.cell? ⟨k14, 0, none⟩ = some (.slice x13 l13 c13)) := (hb14.upd (Upd.refl _ _)).cell
    have HN14 : Hid (NV w14 (.agg #[.slice x13 l13 c13]) M) := hn13.upd0 hu14
    have HU14 := Lib.hid (HU12.out.trans0 (hu13.trans0 hu14))
    have HW14 := Lib.hid hw14
    have HK14 := Lib.hid hk14
    clear hn13 hu13 hu14 hb14 hw14 hk14 hl13 hK hM HQ
    go_upto_region 12 with fail
    rw [← HW14.out]
    rw [← HK14.out]
    go_cut [11] (fun v11 wx => v11 = .bool b0 ∧ wx = w14)
    case first =>
      have HX : Hid (∀ (h : 0 < t.size), (t[0]'h).toNat = (l.getD 0 0).toNat) := fun h => by rw [HL.out]; simp [ByteArray.getElem_eq_getElem_data, List.getD, h]
      by_cases h0 : n = 0
      · have he : t.toList.isEmpty = true := by
          rw [ByteArray.toList_eq, ← HL.out]
          have := HLL.out
          cases l with
          | nil => rfl
          | cons _ _ => simp at this; omega
        have HR : Hid (b0 = false) := by
          show _ = _
          rw [HB0.out, HL.out, ← ByteArray.toList_eq, he]; rfl
        clear hn
        go_wp2_with fail
        go_meet
        exact ⟨by rw [HR.out], rfl⟩
      · have he : t.toList.isEmpty = false := by
          rw [ByteArray.toList_eq, ← HL.out]
          have := HLL.out
          cases l with
          | nil => simp at this; omega
          | cons _ _ => rfl
        have hpos : 0 < t.size := by omega
        have b1 : (0 : Int) < (t.size : Int) := by omega
        by_cases h1 : n = 1
        · have g2 : ((t.size : Int) == 1) = true := by simp; omega
          have HR : Hid (b0 = true) := by
            show _ = _
            rw [HB0.out, HLL.out, h1, HL.out, ← ByteArray.toList_eq, he]; rfl
          clear hn
          go_wp2_with fail
          go_meet
          exact ⟨by rw [HR.out], rfl⟩
        · have g2 : ((t.size : Int) == 1) = false := by simp; omega
          have hx0 := HX.out hpos
          obtain ⟨x, hx⟩ : ∃ x, x = (l.getD 0 0).toNat := ⟨_, rfl⟩
          rw [← hx] at hx0
          have HR : Hid (b0 = (x != 48)) := by
            show _ = _
            rw [HB0.out, HLL.out, HL.out, ← ByteArray.toList_eq, he, ByteArray.toList_eq, ← HL.out, hx]
            have e1 : (n == 1) = false := by simpa using h1
            have e2 : (l.getD 0 0 != 48) = ((l.getD 0 0).toNat != 48) := by rw [Bool.eq_iff_iff]; simp [← UInt8.toNat_inj]
            rw [e1, e2]; simp
          clear hx hn
          by_cases h48 : x = 48
          · have g3 : ((x : Int) != 48) = false := by simp; omega
            go_wp2_with fail
            go_meet
            exact ⟨by rw [HR.out, h48]; rfl, rfl⟩
          · have g3 : ((x : Int) != 48) = true := by simp; omega
            go_wp2_with fail
            go_meet
            exact ⟨by rw [HR.out]; simp [h48], rfl⟩
    case rest =>
      obtain ⟨rfl, rfl⟩ := hcut
      have hn3 : n ≤ 2000 := hn2
      go_wp2_with fail
      go_loopw [11, 12, 70] (fun v11 v12 v70 wr => ∃ i : Nat, i ≤ n ∧ v70 = .int .i64 (i : Int) ∧ v11 = .bool (b0 && (l.take i).all isDig) ∧ wr = wc) (fun _ _ v70 _ => n - (intOf v70).toNat)
      case atStart => exact ⟨0, Nat.zero_le _, rfl, by simp, rfl⟩
      case round =>
        obtain ⟨i, hi, rfl, rfl, rfl⟩ := hrel
        by_cases hlt : i < n
        · have hlt2 : i < t.size := by omega
          have g4 : decide ((i : Int) < (t.size : Int)) = true := by simp; omega
          have i0 : (0 : Int) ≤ (i : Int) := by omega
          have i1 : (i : Int) < (t.size : Int) := by omega
          obtain ⟨c, hc⟩ : ∃ c, c = (l.getD i 0).toNat := ⟨_, rfl⟩
          have hx : (t[i]'hlt2).toNat = c := by rw [hc, HL.out]; simp [ByteArray.getElem_eq_getElem_data, List.getD, hlt2]
          have HDG : Hid (isDig (l.getD i 0) = (decide (48 ≤ c) && decide (c ≤ 57))) := by show _ = _; rw [hc]; rfl
          have HS : Hid (((l.take (i + 1)).all isDig) = ((l.take i).all isDig && isDig (l.getD i 0))) := by
            show _ = _
            have hil : i < l.length := by have := HLL.out; omega
            rw [List.take_add_one, List.getElem?_eq_getElem hil, List.all_append, List.getD_eq_getElem?_getD, List.getElem?_eq_getElem hil]
            simp
          obtain ⟨q, hq⟩ : ∃ q, q = (b0 && (l.take i).all isDig) := ⟨_, rfl⟩
          have HNX : Hid ((b0 && (l.take (i + 1)).all isDig) = (q && (decide (48 ≤ c) && decide (c ≤ 57)))) := by
            show _ = _
            rw [HS.out, HDG.out, hq, Bool.and_assoc]
          have hcw : IntKind.i64.wrap ((i : Int) + 1) = ((i + 1 : Nat) : Int) := by rw [IntWalk.i64_in _ (by omega)]; omega
          rw [← hq]
          clear hc hq hn
          cases q
          · have HE : Hid ((b0 && (l.take (i + 1)).all isDig) = false) := by show _ = _; rw [HNX.out]; rfl
            go_wp2_with fail
            refine ⟨⟨i + 1, by omega, by go_num, by rw [HE.out], trivial⟩, by simp [intOf]; omega⟩
          · by_cases hc1 : 48 ≤ c
            · have g5 : decide ((48 : Int) ≤ (c : Int)) = true := by simp; omega
              by_cases hc2 : c ≤ 57
              · have g6 : decide ((c : Int) ≤ 57) = true := by simp; omega
                have HE : Hid ((b0 && (l.take (i + 1)).all isDig) = true) := by show _ = _; rw [HNX.out, decide_eq_true hc1, decide_eq_true hc2]; rfl
                go_wp2_with fail
                refine ⟨⟨i + 1, by omega, by go_num, by rw [HE.out], trivial⟩, by simp [intOf]; omega⟩
              · have g6 : decide ((c : Int) ≤ 57) = false := by simp; omega
                have HE : Hid ((b0 && (l.take (i + 1)).all isDig) = false) := by show _ = _; rw [HNX.out, decide_eq_true hc1, decide_eq_false hc2]; rfl
                go_wp2_with fail
                refine ⟨⟨i + 1, by omega, by go_num, by rw [HE.out], trivial⟩, by simp [intOf]; omega⟩
            · have g5 : decide ((48 : Int) ≤ (c : Int)) = false := by simp; omega
              have HE : Hid ((b0 && (l.take (i + 1)).all isDig) = false) := by show _ = _; rw [HNX.out, decide_eq_false hc1]; rfl
              go_wp2_with fail
              refine ⟨⟨i + 1, by omega, by go_num, by rw [HE.out], trivial⟩, by simp [intOf]; omega⟩
        · obtain rfl : i = n := by omega
          have g4 : decide ((i : Int) < (t.size : Int)) = false := by simp; omega
          have hge : ¬ i < t.size := by omega
          have g4' : decide (i < t.size) = false := by simp; omega
          have e1 : l.take i = l := List.take_of_length_le (by have := HLL.out; omega)
          rw [e1, ← HIT.out]
          have b14 := HB14.out
          clear hn e1
          by_cases htx : isTxt l = true
          · have HPK := HPO.out.1 htx
            have hK0 : K = 0 := by rw [HK.out, HPK]
            have hMv : M = decVal l := by rw [HM.out, HPK]
            have hll := HLL.out
            have hMl : (wds M).length ≤ 2000 := by
              obtain ⟨E, hE⟩ : ∃ E, E = 2000 := ⟨_, rfl⟩
              rw [← hE]
              have hdg : Digs l := by
                have h := htx
                unfold isTxt at h
                rw [Bool.and_eq_true] at h
                exact digs_all h.2
              refine par_len (r := 0) (N := M) (by simp) ?_
              rw [hMv]
              exact Nat.lt_of_lt_of_le (decVal_lt l hdg) (Nat.pow_le_pow_right (by decide) (by omega))
            have hst : (⟨(Lib.decDigits M).toArray⟩ : ByteArray) = t := by
              rw [hMv, txt_back htx, HL.out]
            have HTM := Lib.hid (text_any _ M _ HN14.out (HT.out _ HU14.out) (by omega))
            rw [hst] at HTM
            rw [htx, hK0]
            clear hK0 hMv hll hMl hst htx HPK
            go_wp2_with fail
            refine HTM.out.mono ?_
            rintro e w15 ⟨rfl, hu15⟩
            have HF := Lib.hid (HU14.out.trans0 hu15)
            clear hu15
            go_wp2
            go_ret
            exact ⟨rfl, HF.out⟩
          · have htf : isTxt l = false := by simpa using htx
            have HPK := HPO.out.2 htf
            have hK0 : K = 4 := by rw [HK.out, HPK]
            have hMv : M = 0 := by rw [HM.out, HPK]
            have HZ := Lib.hid (zero_any _ M _ HN14.out)
            rw [hMv] at HZ
            rw [htf, hK0]
            clear hK0 hMv htf htx HPK
            go_wp2_with fail
            refine HZ.out.mono ?_
            rintro e w15 ⟨rfl, hu15⟩
            have HF := Lib.hid (HU14.out.trans0 hu15)
            clear hu15
            go_wp2
            go_ret
            exact ⟨rfl, HF.out⟩
end Go.Proofs.YtcehkflkekefpaaDoor
