/- PackReads: what is written is read back, from wherever it stands; too little is refused: the walk of the law, out of the contracts. -/
import Derived.Test.YtbbbfkcpkcfndaaLawPack0
import Derived.Test.YtbbbfkcpkcfndaaPackMath2
import Derived.Test.YtbbbfkcpkcfndaaLawCrcO
namespace Go.Proofs.Ytbbbfkcpkcfndaa
open Go.RowKit Go.Proofs.Tm
set_option linter.unusedVariables false
set_option maxRecDepth 20000

theorem numsAt_parts (bs : List Nat) (i wd n : Nat) (h : i + n * wd ≤ 8 * bs.length) : numsAt bs i wd n = (List.range n).map fun k => Tm.part (bitsOf bs) (i + k * wd) wd := by
  unfold numsAt numAt
  refine List.map_congr_left fun k hk => val_part _ _ _ ?_
  have hk' : k < n := List.mem_range.1 hk
  have : (k + 1) * wd ≤ n * wd := Nat.mul_le_mul_right _ hk'
  rw [Nat.add_mul] at this
  rw [bitsOf_length]; omega

theorem numsAt_lt (bs : List Nat) (i wd n : Nat) : ∀ x ∈ numsAt bs i wd n, x < 2 ^ wd := by
  intro x hx
  obtain ⟨k, _, rfl⟩ := List.mem_map.1 hx
  exact numAt_lt _ _ _

theorem numsAt_back (wd : Nat) (l : List Nat) (n : Nat) (hn : l.length = n) (hw : 1 ≤ wd) (hl : ∀ x ∈ l, x < 2 ^ wd) : numsAt (bytesOf (allBits wd l)) 0 wd n = l := by
  subst hn
  rw [numsAt_parts]
  · exact parts_back wd l hw hl
  · rw [bytesOf_length, allBits_length]; omega

theorem max_min (lo hi : Nat) (x : Int) (h : lo ≤ hi) : ∃ k : Nat, max (lo : Int) (min x (hi : Int)) = (k : Int) ∧ lo ≤ k ∧ k ≤ hi := ⟨(max (lo : Int) (min x (hi : Int))).toNat, by omega, by omega, by omega⟩

/-- 's[lo:hi]' of a slice that reads as a list, under one name. -/
theorem sl_mid {P : Program} {t e : TypeId} (ht : P.underlying t = some (.slice (P.elem t))) (he : P.elem t = e) (hs : ∀ W, (sizeOf e).run P W = .ok 1 W) {w : World} {a : Option Addr} {n cap : Nat} {xs : List Value} (h : Sl w (.slice a n cap) xs) (lo hi : Nat) (h1 : lo ≤ hi) (h2 : hi ≤ n) (hi' : Int) (hh : hi' = (hi : Int)) :
    ∃ b c, (∀ W, (Instr.sliceAt t (.slice a n cap) (some (.int .i64 (lo : Int))) (some (.int .i64 hi')) none).run P W = .ok (.slice b (hi - lo) c) W) ∧
      (∀ W, (Instr.slice t (.slice a n cap) (some (.int .i64 (lo : Int))) (some (.int .i64 hi')) none).run P W = .ok (.slice b (hi - lo) c) W) ∧ Sl w (.slice b (hi - lo) c) ((xs.drop lo).take (hi - lo)) := by
  subst hh
  obtain ⟨a', cap', hq, q1, q2, q3⟩ := h
  simp only [Value.slice.injEq] at hq
  obtain ⟨rfl, rfl, rfl⟩ := hq
  have hr : ∀ W, (Instr.slice t (.slice a xs.length cap) (some (.int .i64 (lo : Int))) (some (.int .i64 (hi : Int))) none).run P W = .ok (.slice (if cap = lo then a else a.map (·.add (lo * 1))) (hi - lo) (cap - lo)) W := by
    intro W
    rw [run_slice_lh (P := P) W t a xs.length cap ht .i64 .i64 (lo : Int) (hi : Int) (by omega) (by omega) (by omega), he, hs]
    simp [sliced, Result.andThen]
  refine ⟨_, _, fun W => ?_, hr, ?_⟩
  · rw [run_sliceAt_slice (P := P) W t _ _ _ _ ht]; exact hr W
  · have hl : ((xs.drop lo).take (hi - lo)).length = hi - lo := by simp; omega
    refine ⟨_, cap - lo, by rw [hl], by rw [hl]; omega, by omega, fun hne => ?_⟩
    have hne2 : xs ≠ [] := by rintro rfl; simp at hne
    have hlt : lo < hi := by
      rcases Nat.lt_or_ge lo hi with h | h
      · exact h
      · exfalso; apply hne; rw [show hi - lo = 0 by omega]; simp
    obtain ⟨b, o, rfl, hc⟩ := q3 hne2
    refine ⟨b, o + lo, ?_, fun i hi' => ?_⟩
    · rw [if_neg (by omega)]
      simp [Addr.add]
    · rw [hl] at hi'
      rw [Nat.add_assoc, hc (lo + i) (by omega), List.getElem?_take, if_pos hi', List.getElem?_drop]

set_option maxRecDepth 100000 in
set_option maxHeartbeats 3200000 in
theorem packReads_law (a b c : Int) (a1 : Option Addr) (cap1 : Nat) (bs : List Nat) (w : World) (hB : Sl w (.slice a1 bs.length cap1) (cu8 bs)) (hb : ∀ b ∈ bs, b < 256) :
    Calls Try.prog 12 #[.agg #[.int .i64 a, .int .i64 b, .int .i64 c], .slice a1 bs.length cap1] w fun e w' => e = .returned (.bool true) ∧ Upd [] w w' := by
  have HS := Lib.hid hB
  have HB := Lib.hid hb
  have hcap : bs.length ≤ cap1 := by obtain ⟨a, c, h, h2, _⟩ := hB; simp at h h2; omega
  have hmx : cap1 ≤ maxLen := by obtain ⟨a, c, h, h2, h3, _⟩ := hB; simp at h; omega
  unfold maxLen at hmx
  obtain ⟨m1, hm1⟩ : ∃ m, m = min a 256 := ⟨_, rfl⟩
  obtain ⟨m2, hm2⟩ : ∃ m, m = min b 32 := ⟨_, rfl⟩
  obtain ⟨m3, hm3⟩ : ∃ m, m = min c 9 := ⟨_, rfl⟩
  obtain ⟨n, hn, _, hn2⟩ := max_min 0 256 a (by decide)
  obtain ⟨wd, hwd, hw1, hw2⟩ := max_min 1 32 b (by decide)
  obtain ⟨ah, hah, _, ha2⟩ := max_min 0 9 c (by decide)
  have hmn1 : ∀ ts t W, (Builtin.min_ ts t #[.int .i64 a, .int .i64 256]).run Try.prog W = .ok (.int .i64 m1) W := fun ts t W => by rw [hm1]; exact run_min2 _ _ _ _ _
  have hmn2 : ∀ ts t W, (Builtin.min_ ts t #[.int .i64 b, .int .i64 32]).run Try.prog W = .ok (.int .i64 m2) W := fun ts t W => by rw [hm2]; exact run_min2 _ _ _ _ _
  have hmn3 : ∀ ts t W, (Builtin.min_ ts t #[.int .i64 c, .int .i64 9]).run Try.prog W = .ok (.int .i64 m3) W := fun ts t W => by rw [hm3]; exact run_min2 _ _ _ _ _
  have hmx1 : ∀ ts t W, (Builtin.max_ ts t #[.int .i64 0, .int .i64 m1]).run Try.prog W = .ok (.int .i64 (n : Int)) W := fun ts t W => by rw [← hn, hm1]; exact run_max2 _ _ _ _ _
  have hmx2 : ∀ ts t W, (Builtin.max_ ts t #[.int .i64 1, .int .i64 m2]).run Try.prog W = .ok (.int .i64 (wd : Int)) W := fun ts t W => by rw [← hwd, hm2]; exact run_max2 _ _ _ _ _
  have hmx3 : ∀ ts t W, (Builtin.max_ ts t #[.int .i64 0, .int .i64 m3]).run Try.prog W = .ok (.int .i64 (ah : Int)) W := fun ts t W => by rw [← hah, hm3]; exact run_max2 _ _ _ _ _
  have U0 : Upd [] w (w.alloc (.cells #[.int .i64 a, .int .i64 b, .int .i64 c] 80)) := (Upd.refl _ _).alloc _
  have HU0 := Lib.hid U0
  have hg0 := heap_alloc_new w (.cells #[.int .i64 a, .int .i64 b, .int .i64 c] 80)
  have HG0 := Lib.hid hg0
  clear hm1 hm2 hm3 hn hwd hah hB hb U0 hg0
  go_enter Try.func12, Try.ntmps12
  go_wp2_with fail
  refine (awake3 _).mono ?_
  rintro e w1 ⟨rfl, hu1⟩
  have HU1 := Lib.hid (HU0.out.trans0 hu1)
  have hb1 : w1.heap[w.heap.size]? = some (.cells #[.int .i64 a, .int .i64 b, .int .i64 c] 80 (0, 0)) := (hu1.block _ (by simp) (by simp)).trans HG0.out
  have k0 : w1.cell? ⟨w.heap.size, 0, none⟩ = some (.int .i64 a) := by rw [cell_of_row w1 _ 0 _ _ _ hb1]; rfl
  have k1 : w1.cell? ⟨w.heap.size, 1, none⟩ = some (.int .i64 b) := by rw [cell_of_row w1 _ 1 _ _ _ hb1]; rfl
  have k2 : w1.cell? ⟨w.heap.size, 2, none⟩ = some (.int .i64 c) := by rw [cell_of_row w1 _ 2 _ _ _ hb1]; rfl
  clear hb1 hu1
  go_wp2_with fail
  go_quiet (fail)
  have HUq : Hid (Upd [] w (w1.drewN nq)) := HU1.out.drewN nq
  generalize w1.drewN nq = w2 at *
  clear k0 k1 k2
  go_upto_if 25 with fail
  go_cut [1] (fun s1 wx => ∃ bs', IsCutTo 200 wx s1 bs' ∧ w2 = wx)
  case first =>
    by_cases hl : 200 < bs.length
    · go_wp2_with fail
      go_meet
      exact ⟨bs.take 200, ⟨by have := sl_take (HS.out.upd0 HUq.out) 200 (by omega); simpa [cu8, List.map_take] using this, by simp; omega, fun b hb => HB.out b (List.mem_of_mem_take hb)⟩, rfl⟩
    · go_wp2_with fail
      go_meet
      exact ⟨bs, ⟨HS.out.upd0 HUq.out, by omega, HB.out⟩, rfl⟩
  case rest =>
    obtain ⟨cs, hcut, rfl⟩ := hcut
    obtain ⟨hsl, hlen, hlt⟩ := hcut
    have hsz0 := HUq.out.size
    have HR1 := Lib.hid (read_any u1 cs w2 hsl (by omega) hlt)
    have HSL := Lib.hid hsl
    have HLT := Lib.hid hlt
    clear hsl hlt HB HS hmx
    go_wp2_with fail
    refine HR1.out.mono ?_
    rintro e w3 ⟨r, gr, rfl, hr3, hu3, hp3, hg3⟩
    have HBI := Lib.hid (rbits_any u1 cs w3 (HSL.out.upd0 hu3) (by omega) HLT.out)
    have HR3 := Lib.hid hr3
    have HU3 := Lib.hid (HUq.out.trans0 hu3)
    have lr := hr3.lt
    have lgr := hr3.glt gr rfl
    clear hr3 hu3
    go_wp2_with fail
    refine HBI.out.mono ?_
    rintro e w4 ⟨lv, rfl, ho4, hu4⟩
    have HR4 := Lib.hid (HR3.out.upd hu4 (by simp) (by simp))
    have HU4 := Lib.hid (HU3.out.trans0 hu4)
    have HO4 := Lib.hid ho4
    have hsz4 := hu4.size
    obtain ⟨la, lcap, rfl⟩ := own_ex ho4
    obtain ⟨N, hN⟩ : ∃ N, N = 8 * cs.length := ⟨_, rfl⟩
    rw [← hN] at HO4 ⊢
    have hN2 : N ≤ 1600 := by omega
    have HNN := Lib.hid hN
    clear ho4 hu4
    clear hN
    obtain ⟨f, hf⟩ : ∃ f, f = n * wd := ⟨_, rfl⟩
    have hf2 : f ≤ 256 * 32 := by rw [hf]; exact Nat.mul_le_mul hn2 hw2
    have hm : IntKind.i64.wrap ((n : Int) * (wd : Int)) = (f : Int) := by rw [hf, Int.natCast_mul]; refine IntWalk.i64_in _ ?_; rw [← Int.natCast_mul, ← hf]; omega
    have hmm : (n : Int) * (wd : Int) = (f : Int) := by rw [hf, Int.natCast_mul]
    have HF := Lib.hid hf
    clear hf
    by_cases hah : N < ah
    · have hd : decide (N < ah) = true := by simpa using hah
      go_wp2_with fail
      go_ret
      exact ⟨rfl, HU4.out⟩
    · have hd : decide (N < ah) = false := by simpa using hah
      have HNUM := Lib.hid (rnum_ok r (some gr) cs 0 ah w4 HR4.out (by omega) (by have := HNN.out; omega))
      go_wp2_with fail
      refine HNUM.out.mono ?_
      rintro e w5 ⟨rfl, hr5, hu5⟩
      rw [Nat.zero_add] at hr5
      have HR5 := Lib.hid hr5
      have HU5 := Lib.hid (HU4.out.trans hu5 (by intro x hx; simp at hx; subst hx; right; omega))
      have HO5 := Lib.hid (ownsRow_upd HO4.out hu5 (by intro k hk; have := (HO4.out.lt k hk).1; simp; omega))
      have hsz5 := hu5.size
      clear hr5 hu5 HNUM
      by_cases hff : N < ah + f
      · have hd2 : (N : Int) - (ah : Int) < (f : Int) := by omega
        have HRE := Lib.hid (vread_end r (some gr) cs ah n wd w5 HR5.out hn2 hw1 hw2 (by have := HNN.out; have := HF.out; omega))
        go_wp2_with fail
        refine HRE.out.mono ?_
        rintro e w6 ⟨rfl, hu6⟩
        have HU6 := Lib.hid (HU5.out.trans0 hu6)
        clear hu6 HRE
        go_wp2_with fail
        go_ret
        exact ⟨rfl, HU6.out⟩
      · have hd2 : (f : Int) ≤ (N : Int) - (ah : Int) := by omega
        have HLE : Hid (ah + n * wd ≤ 8 * cs.length) := by show _ ≤ _; have := HNN.out; have := HF.out; omega
        have HRO := Lib.hid (vread_ok r (some gr) cs ah n wd w5 HR5.out hn2 hw1 hw2 HLE.out)
        go_wp2_with fail
        refine HRO.out.mono ?_
        rintro e w6 ⟨p, g, rfl, hv6, hp6, hg6, hr6, hu6⟩
        have HV6 := Lib.hid hv6
        have HR6 := Lib.hid hr6
        have HU6 := Lib.hid (HU5.out.trans hu6 (by intro x hx; simp at hx; subst hx; right; omega))
        have HO6 := Lib.hid (ownsRow_upd HO5.out hu6 (by intro k hk; have := (HO4.out.lt k hk).1; simp; omega))
        have HNL := Lib.hid (numsAt_length cs ah wd n)
        have HNX := Lib.hid (numsAt_lt cs ah wd n)
        have HNP : Hid (allBits wd (numsAt cs ah wd n) = ((bitsOf cs).drop ah).take f) := by
          show _ = _
          rw [HF.out, numsAt_parts _ _ _ _ HLE.out]
          exact allBits_parts _ _ _ _ (by omega) (by rw [bitsOf_length]; exact HLE.out)
        have hvl := vlen_any p g wd _ w6 hv6
        rw [HNL.out] at hvl
        have HVL := Lib.hid hvl
        have HLF := Lib.hid (left_any r (some gr) cs _ w6 hr6)
        have hsz6 := hu6.size
        have lp6 := hv6.lt
        have lg6 := hv6.glt
        clear hv6 hr6 hu6 HRO hvl
        generalize numsAt cs ah wd n = l at *
        go_wp2_with fail
        refine HVL.out.mono ?_
        rintro e w7 ⟨rfl, rfl⟩
        have hne : (((8 * cs.length - (ah + n * wd) : Nat) : Int) != (N : Int) - (ah : Int) - (f : Int)) = false := by
          have := HNN.out; have := HF.out; rw [bne_eq_false_iff_eq]; omega
        go_wp2_with fail
        refine HLF.out.mono ?_
        rintro e w7 ⟨rfl, m7, rfl⟩
        have HV7 := Lib.hid (HV6.out.upd0 ((Upd.refl _ _).drewN m7))
        have HU7 := Lib.hid (HU6.out.drewN m7)
        have HO7 : Hid (Sl (w6.drewN m7) (.slice la N lcap) (cb (bitsOf cs))) := (Sl.own HO6.out).upd0 ((Upd.refl _ _).drewN m7)
        have hs7 : p < (w6.drewN m7).heap.size ∧ g < (w6.drewN m7).heap.size := ⟨lp6, lg6⟩
        generalize w6.drewN m7 = w8 at *
        obtain ⟨hs7p, hs7g⟩ := hs7
        have HW := Lib.hid (vwrite_any p g wd l w8.heap.size none [] _ (HV7.out.upd0 ((Upd.refl _ _).alloc _)) (Wr.zero w8) (by omega) (by omega) (by simp) (by simp))
        clear HLF HVL
        go_wp2_with fail
        refine HW.out.mono ?_
        rintro e w9 ⟨rfl, g9, hw9, hu9, hf9⟩
        rw [List.nil_append] at hw9
        have HW9 := Lib.hid hw9
        have hu9' : Upd [] w8 w9 := ((Upd.refl [] w8).alloc _).trans hu9 (by intro x hx; simp at hx; subst hx; exact .inr (Nat.le_refl _))
        have HU9 := Lib.hid (HU7.out.trans0 hu9')
        have HV9 := Lib.hid (HV7.out.upd0 hu9')
        have HO9 := Lib.hid (HO7.out.upd0 hu9')
        have HLA : Hid ((allBits wd l).length = f) := by show _ = _; rw [allBits_length, HNL.out, HF.out]
        have HBY := Lib.hid (bytes_any w8.heap.size g9 (allBits wd l) w9 hw9 (by rw [HLA.out]; omega))
        clear hw9 hu9 hf9 hu9' HW
        have e1 : IntKind.i64.wrap ((ah : Int) + (f : Int)) = (ah : Int) + (f : Int) := IntWalk.i64_in _ (by omega)
        have hlc : N ≤ lcap := by obtain ⟨a, c, h, h2, _⟩ := HO9.out; rw [cb_length, bitsOf_length, ← HNN.out] at h h2; simp at h; omega
        obtain ⟨sb, sc, hs1, hs2, hs3⟩ := sl_mid (P := Try.prog) (t := 27) (e := 4) (by kernel_rfl) (by kernel_rfl) (fun W => by kernel_rfl) HO9.out ah (ah + f) (by omega) (by omega) ((ah : Int) + (f : Int)) (by omega)
        rw [show ah + f - ah = f by omega] at hs1 hs2 hs3
        have HWANT : Hid (Sl w9 (.slice sb f sc) (cb (allBits wd l))) := by
          show Sl _ _ _
          rw [HNP.out]; unfold cb; rw [List.map_take, List.map_drop]; exact hs3
        clear hs3
        have HBL : Hid ((bytesOf (allBits wd l)).length ≤ 2000) := by show _ ≤ _; rw [bytesOf_length, HLA.out]; omega
        have HBX : Hid (∀ b ∈ bytesOf (allBits wd l), b < 256) := by
          intro b hb
          obtain ⟨j, _, rfl⟩ := List.mem_map.1 hb
          exact byteAt_lt _ _
        have HBK := Lib.hid (numsAt_back wd l n HNL.out hw1 HNX.out)
        have HB8 : Hid (0 + n * wd ≤ 8 * (bytesOf (allBits wd l)).length) := by show _ ≤ _; rw [bytesOf_length, HLA.out]; have := HF.out; omega
        go_wp2_with fail
        refine HBY.out.mono ?_
        rintro e w10 ⟨v10, rfl, ho10, hu10⟩
        have HRD := Lib.hid (read_any v10 (bytesOf (allBits wd l)) w10 (Sl.own ho10) (by have := HBL.out; omega) HBX.out)
        have HU10 := Lib.hid hu10
        have hu10_size := hu10.size
        clear ho10 hu10 HBY
        go_wp2_with fail
        refine HRD.out.mono ?_
        rintro e w11 ⟨r2, gr2, rfl, hr11, hu11, hp11, hg11⟩
        have HU11 := Lib.hid (HU10.out.trans0 hu11)
        have hpo := vread_ok r2 (some gr2) (bytesOf (allBits wd l)) 0 n wd w11 hr11 hn2 hw1 hw2 HB8.out
        have HPO := Lib.hid hpo
        clear hr11 hu11 HRD hpo
        go_wp2_with fail
        refine HPO.out.mono ?_
        rintro e w12 ⟨p2, g2, rfl, hv12, hp12, hg12, hr12, hu12⟩
        rw [HBK.out] at hv12
        have HV12 := Lib.hid hv12
        have HU12 := Lib.hid (HU11.out.trans hu12 (by intro x hx; simp at hx; subst hx; right; omega))
        have HW12 := Lib.hid (HW9.out.upd HU12.out (by simp) (by simp))
        have HBY2 := Lib.hid (bytes_any w8.heap.size g9 (allBits wd l) w12 HW12.out (by rw [HLA.out]; omega))
        clear hv12 hr12 hu12 HPO
        go_wp2_with fail
        refine HBY2.out.mono ?_
        rintro e w13 ⟨v13, rfl, ho13, hu13⟩
        have HU13 := Lib.hid (HU12.out.trans0 hu13)
        have HO13 := Lib.hid (Sl.own ho13)
        have HRB := Lib.hid (rbytes_any (.slice sb f sc) (allBits wd l) w13 (HWANT.out.upd0 HU13.out) (by rw [HLA.out]; omega))
        have HV13 := Lib.hid (HV12.out.upd0 hu13)
        have HW13 := Lib.hid (HW12.out.upd hu13 (by simp) (by simp))
        clear ho13 hu13 HBY2
        go_wp2_with fail
        refine HRB.out.mono ?_
        rintro e w14 ⟨v14, rfl, ho14, hu14⟩
        have HSM := same_any v13 v14 (bytesOf (allBits wd l)) (bytesOf (allBits wd l)) w14 (HO13.out.upd0 hu14) (Sl.own ho14) (by have := HBL.out; omega)
        rw [show decide (bytesOf (allBits wd l) = bytesOf (allBits wd l)) = true by simp] at HSM
        have HS14 := Lib.hid HSM
        have HU14 := Lib.hid (HU13.out.trans0 hu14)
        have HV14 := Lib.hid (HV13.out.upd0 hu14)
        have HW14 := Lib.hid (HW13.out.upd hu14 (by simp) (by simp))
        clear ho14 hu14 HRB HSM
        go_wp2_with fail
        refine HS14.out.mono ?_
        rintro e w15 ⟨rfl, m15, rfl⟩
        have hlen := len_any _ _ _ (w14.drewN m15) (HW14.out.upd ((Upd.refl [] _).drewN m15) (by simp) (by simp))
        rw [HLA.out] at hlen
        have HLN := Lib.hid hlen
        have HSV := vsame_any p2 g2 p g wd l l (w14.drewN m15) (HV14.out.upd0 ((Upd.refl _ _).drewN m15)) ((HV9.out.upd0 HU14.out).upd0 ((Upd.refl _ _).drewN m15)) rfl
        rw [show decide (l = l) = true by simp] at HSV
        have HSS := Lib.hid HSV
        clear hlen HSV
        go_wp2_with fail
        refine HLN.out.mono ?_
        rintro e w16 ⟨rfl, rfl⟩
        go_wp2_with fail
        refine HSS.out.mono ?_
        rintro e w17 ⟨rfl, m17, rfl⟩
        go_wp2
        go_ret
        exact ⟨rfl, (HU9.out.trans0 HU14.out).drewN _⟩
end Go.Proofs.Ytbbbfkcpkcfndaa
