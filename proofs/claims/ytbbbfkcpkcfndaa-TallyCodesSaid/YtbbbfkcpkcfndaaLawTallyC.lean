/- TallyCodes: numbers of all ways are as long as is told, and are read back: the walk of the law, out of the contracts. -/
import Derived.Test.YtbbbfkcpkcfndaaTallyMath
import Derived.Test.YtbbbfkcpkcfndaaPackRW
namespace Go.Proofs.Ytbbbfkcpkcfndaa
open Go.RowKit Go.Proofs.Tm
set_option linter.unusedVariables false
set_option maxRecDepth 20000

/-- What the item i of the two lists is: c, x, where they stand. -/
structure TItem (w : World) (a0 : Option Addr) (a1 : Option Addr) (i : Nat) (c x : Nat) (b0 o0 b1 o1 n d : Nat) (k : Int) : Prop where
  e0 : a0 = some ⟨b0, o0, none⟩
  e1 : a1 = some ⟨b1, o1, none⟩
  c0 : w.cell? ⟨b0, o0 + i, none⟩ = some (.int .u64 (n : Int))
  c1 : w.cell? ⟨b1, o1 + i, none⟩ = some (.int .i64 k)
  hc : bits .and .i64 k 63 = (c : Int)
  hd : (63 : Int) - (c : Int) = (d : Int)
  hdw : IntKind.i64.wrap ((63 : Int) - (c : Int)) = (d : Int)
  hx : (n : Int) / 2 ^ d = (x : Int)
  c63 : c ≤ 63
  xlt : x < 2 ^ (c + 1)
  x64 : x < 18446744073709551616

theorem titems {w : World} {a0 a1 : Option Addr} {cap cap1 : Nat} {ns ks : List Int} (hS : Sl w (.slice a0 ns.length cap) (ns.map (Value.int .u64))) (hN : ∀ n ∈ ns, (Lit.int .u64 n).wf = true) (hK : Sl w (.slice a1 ks.length cap1) (ks.map (Value.int .i64))) :
    ∃ f : Nat → Nat × Nat, ∀ i, i < ns.length → i < ks.length → ∃ b0 o0 b1 o1 n d k, TItem w a0 a1 i (f i).1 (f i).2 b0 o0 b1 o1 n d k := by
  refine ⟨fun i => ((bits .and .i64 (ks.getD i 0) 63).toNat, (ns.getD i 0).toNat / 2 ^ (63 - (bits .and .i64 (ks.getD i 0) 63).toNat)), fun i h0 h1 => ?_⟩
  obtain ⟨b, o, cap', hv, hc⟩ := sl_at hS (by intro h; have := congrArg List.length h; simp at this; simp_all)
  obtain ⟨b', o', cap'', hv', hc'⟩ := sl_at hK (by intro h; have := congrArg List.length h; simp at this; simp_all)
  have hcell := hc i (by simpa using h0)
  have hcell' := hc' i (by simpa using h1)
  rw [List.getElem?_map, List.getElem?_eq_getElem h0] at hcell
  rw [List.getElem?_map, List.getElem?_eq_getElem h1] at hcell'
  simp only [Option.map_some] at hcell hcell'
  have hbd := bounds_u64 (hN _ (List.getElem_mem h0))
  obtain ⟨n, hn⟩ := Int.eq_ofNat_of_zero_le hbd.1
  have g0 : ns.getD i 0 = (n : Int) := by rw [← hn]; simp [h0]
  have g1 : ks.getD i 0 = ks[i] := by simp [h1]
  rw [hn] at hcell hbd
  obtain ⟨c, hc63, hcc⟩ := and63 ks[i]
  have hlt : n / 2 ^ (63 - c) < 2 ^ (c + 1) := by
    rw [Nat.div_lt_iff_lt_mul (Nat.two_pow_pos _), ← Nat.pow_add, show c + 1 + (63 - c) = 64 by omega]
    omega
  refine ⟨b, o, b', o', n, 63 - c, ks[i], by simp at hv; exact hv.1, by simp at hv'; exact hv'.1, hcell, hcell', ?_, ?_, ?_, ?_, ?_, ?_, ?_⟩ <;> simp only [g0, g1, hcc, Int.toNat_natCast]
  · omega
  · rw [IntWalk.i64_in _ (by omega)]; omega
  · simp
  · exact hc63
  · exact hlt
  · exact Nat.lt_of_le_of_lt (Nat.div_le_self _ _) (by omega)

/-- The words of the items. -/
def wordC (f : Nat → Nat × Nat) (i : Nat) : List Bool := wordT (f i).1 (f i).2

/-- Since w a Writer of the call's own stands at q, of the bits l. -/
def Own1 (w : World) (q : Nat) (l : List Bool) (wr : World) : Prop := ∃ g, Wr wr q g l ∧ (∀ k, g = some k → w.heap.size ≤ k) ∧ w.heap.size ≤ q ∧ Upd [] w wr

theorem Own1.more {w : World} {q : Nat} {l : List Bool} {wr : World} (h : Own1 w q l wr) : ∃ g, Wr wr q g l ∧ ∀ m w', WrMore q g l wr m w' → Own1 w q (l ++ m) w' := by
  obtain ⟨g, h1, h2, h3, h4⟩ := h
  refine ⟨g, h1, fun m w' ⟨g', k1, k2, k3⟩ => ⟨g', k1, ?_, h3, ?_⟩⟩
  · intro k hk
    rcases k3 with rfl | ⟨j, hj, hl⟩
    · exact h2 k hk
    · rw [hj] at hk; obtain rfl : j = k := by simpa using hk
      exact Nat.le_trans h4.size hl
  · refine h4.trans k2 (fun x hx => .inr ?_)
    rcases List.mem_cons.1 hx with rfl | hx
    · exact h3
    · exact h2 x (by simpa using hx)

theorem wordT_told (c x : Nat) : (wordT c x).length = c + 1 + deltaLen (x ||| 1) + 8 * groups x := by
  have h1 : x ||| 1 ≠ 0 := by have : (1 : Nat) ≤ x ||| 1 := Nat.right_le_or; omega
  unfold wordT deltaLen groups
  rw [List.length_append, List.length_append, numBits_length, deltaBits_length, varBits_length, if_neg h1]
  omega

theorem or_one64 (x : Nat) (h : x < 18446744073709551616) : bits .or .u64 (x : Int) 1 = ((x ||| 1 : Nat) : Int) := by
  have := u64_or_nat x 1 h (by decide)
  simpa using this

/-- The third loop: bit by bit. -/
def Third (w5 : World) (q2 s gs : Nat) (L : List Bool) (j : Nat) (wr : World) : Prop :=
  ∃ g, Wr wr q2 g (L.take j) ∧ (∀ k, g = some k → w5.heap.size ≤ k) ∧ Rd wr s (some gs) (bytesOf L) j ∧ Upd [q2, s] w5 wr

set_option maxRecDepth 100000 in
set_option maxHeartbeats 6400000 in
theorem tallyCodes_law (a0 : Option Addr) (cap : Nat) (ns : List Int) (a1 : Option Addr) (cap1 : Nat) (ks : List Int) (w : World) (hS : Sl w (.slice a0 ns.length cap) (ns.map (Value.int .u64))) (hN : ∀ n ∈ ns, (Lit.int .u64 n).wf = true)
    (hK : Sl w (.slice a1 ks.length cap1) (ks.map (Value.int .i64))) :
    Calls Try.prog 17 #[.slice a0 ns.length cap, .slice a1 ks.length cap1] w fun e w' => e = .returned (.bool true) ∧ Upd [] w w' := by
  obtain ⟨f, hf⟩ := titems hS hN hK
  have HF := Lib.hid hf
  have hnm : ns.length ≤ maxLen := by have := hS.len_le; simpa using this
  have hkm : ks.length ≤ maxLen := by have := hK.len_le; simpa using this
  unfold maxLen at hnm hkm
  generalize ns.length = na at *
  generalize ks.length = nk at *
  clear hS hN hK hf
  have HZ : Hid (Own1 w w.heap.size [] (w.alloc (.cells #[.slice none 0 0, .int .i64 0] 26))) :=
    ⟨none, Wr.zero w, by simp, Nat.le_refl _, (Upd.refl _ _).alloc _⟩
  have hm : ∃ m : Nat, m ≤ na ∧ m ≤ nk ∧ m ≤ 25 ∧ (if (25 : Int) < (if (nk : Int) < (na : Int) then (nk : Int) else (na : Int)) then (25 : Int) else if (nk : Int) < (na : Int) then (nk : Int) else (na : Int)) = (m : Int) :=
    ⟨min (min na nk) 25, by omega, by omega, by omega, by (repeat' split) <;> omega⟩
  obtain ⟨m, m1, m2, m3, m4⟩ := hm
  have hmin : ∀ (ts : Array TypeId) (t : TypeId) (W : World), (Builtin.min_ ts t #[.int .i64 (na : Int), .int .i64 (nk : Int), .int .i64 25]).run Try.prog W = .ok (.int .i64 (m : Int)) W := by
    intro ts t W
    have e : Builtin.min_ ts t #[.int .i64 (na : Int), .int .i64 (nk : Int), .int .i64 25] = pure (.int .i64 (if (25 : Int) < (if (nk : Int) < (na : Int) then (nk : Int) else (na : Int)) then (25 : Int) else if (nk : Int) < (na : Int) then (nk : Int) else (na : Int))) := rfl
    rw [e, m4]; rfl
  clear m4
  obtain ⟨q, hq⟩ : ∃ q, q = w.heap.size := ⟨_, rfl⟩
  rw [← hq] at HZ
  have HQ := Lib.hid hq
  go_enter Try.func17, Try.ntmps17
  go_wp2_with fail
  rw [← hq]
  clear hq
  go_loopw [7, 33] (fun v7 v33 wr => ∃ i : Nat, i ≤ m ∧ v33 = .int .i64 i ∧ v7 = .int .i64 ((allS (wordC f) i).length : Int) ∧ (allS (wordC f) i).length ≤ 500 * i ∧ Own1 w q (allS (wordC f) i) wr) (fun _ v33 _ => m - (intOf v33).toNat)
  case atStart => exact ⟨0, by omega, rfl, by simp [allS], by simp [allS], HZ.out⟩
  case round =>
    obtain ⟨i, hi, rfl, rfl, hll, hinv⟩ := hrel
    obtain ⟨wo, rfl⟩ : ∃ wo : World, wo = wr := ⟨_, rfl⟩
    have HB := Lib.hid hinv
    clear hinv
    by_cases hlt : i < m
    · obtain ⟨b0, o0, b1, o1, n, d, k, it⟩ := HF.out i (by omega) (by omega)
      obtain ⟨e0, e1, k0, k1, hc, hd, hdw, hx, c63, xlt, x64⟩ := it
      have HIT := Lib.hid (allS_succ (wordC f) i)
      have HW : Hid (wordC f i = wordT (f i).1 (f i).2) := rfl
      have hwl := wordT_len (f i).1 (f i).2 c63 x64
      generalize f i = fi at *
      obtain ⟨c, x⟩ := fi
      dsimp only at hc hd hdw hx c63 xlt x64 HW hwl
      subst e0 e1
      obtain ⟨g, hwr, hmore⟩ := HB.out.more
      have hup : Upd [] w wo := by obtain ⟨_, _, _, _, h⟩ := HB.out; exact h
      have h0 := (hup.cell (World.block_lt_of_cell? w _ k0) (by simp)).trans k0
      have h1 := (hup.cell (World.block_lt_of_cell? w _ k1) (by simp)).trans k1
      have i0 : (0 : Int) ≤ (i : Int) := by omega
      have HT := Lib.hid (wordT_told c x)
      have hor := or_one64 x x64
      have hx1 : x ||| 1 < 18446744073709551616 := Nat.or_lt_two_pow (n := 64) x64 (by decide)
      have hx0 : x ||| 1 ≠ 0 := by have : (1 : Nat) ≤ x ||| 1 := Nat.right_le_or; omega
      have P1 := num_ok q g (allS (wordC f) i) x (c + 1) wo hwr (by omega) (by omega) (fits_div x (c + 1) xlt)
      rw [show ((c + 1 : Nat) : Int) = (c : Int) + 1 by omega] at P1
      have HP1 := Lib.hid P1
      have HM := Lib.hid hmore
      have HD1 := Lib.hid (fun W => deltas_any (x ||| 1) W hx1)
      have HD2 := Lib.hid (fun W => vars_any x W x64)
      have HX1 := Lib.hid hx1
      have HX0 := Lib.hid hx0
      have HX64 := Lib.hid x64
      have HLEN : Hid ((allS (wordC f) (i + 1)).length ≤ 500 * (i + 1)) := by show _ ≤ _; rw [HIT.out, List.length_append, HW.out]; omega
      have HLT : Hid ((allS (wordC f) (i + 1)).length = (allS (wordC f) i).length + (c + 1 + deltaLen (x ||| 1) + 8 * groups x)) := by show _ = _; rw [HIT.out, List.length_append, HW.out, HT.out]
      have hdl : c + 1 + deltaLen (x ||| 1) + 8 * groups x ≤ 500 := by rw [← HT.out]; exact hwl
      clear P1 hwr hmore hup hwl k0 k1 hx1 hx0 xlt
      have HDX : Hid ((deltaBits (x ||| 1)).length ≤ 500) := by show _ ≤ _; have h := HT.out; unfold wordT at h; rw [List.length_append, List.length_append] at h; omega
      obtain ⟨x1, hx1e⟩ : ∃ x1, x1 = x ||| 1 := ⟨_, rfl⟩
      have HX1E := Lib.hid hx1e
      rw [← hx1e] at HT hor HD1 HX1 HX0 HLT hdl HDX
      clear hx1e HT
      generalize deltaLen x1 = dl at *
      generalize 8 * groups x = vl at *
      go_wp2_with fail
      refine HP1.out.mono ?_
      rintro e w3 ⟨rfl, hm3⟩
      obtain ⟨g3, hwr3, hmore3⟩ := (HM.out _ _ hm3).more
      have P2 := Lib.hid (putDelta_any q g3 _ x1 w3 hwr3 (by rw [List.length_append, numBits_length]; omega) HX0.out HX1.out)
      have HM3 := Lib.hid hmore3
      clear hwr3 hmore3 hm3
      go_wp2_with fail
      refine P2.out.mono ?_
      rintro e w4 ⟨rfl, hm4⟩
      obtain ⟨g4, hwr4, hmore4⟩ := (HM3.out _ _ hm4).more
      have hl4 : (allS (wordC f) i ++ numBits x (c + 1) ++ deltaBits x1).length ≤ 100000 := by
        rw [List.length_append, List.length_append, numBits_length]
        have := HDX.out; omega
      have P3 := Lib.hid (putVar_any q g4 _ x w4 hwr4 (by omega) HX64.out)
      have HM4 := Lib.hid hmore4
      clear hwr4 hmore4 hm4 hl4
      go_wp2_with fail
      refine P3.out.mono ?_
      rintro e w5 ⟨rfl, hm5⟩
      have HO5 : Hid (Own1 w q (allS (wordC f) (i + 1)) w5) := by
        show Own1 _ _ _ _
        have := HM4.out _ _ hm5
        rw [HIT.out, HW.out]
        unfold wordT
        rw [← HX1E.out]
        rw [List.append_assoc, List.append_assoc] at this
        exact this
      clear hm5
      go_wp2_with fail
      refine (HD1.out _).mono ?_
      rintro e w6 ⟨rfl, rfl⟩
      go_wp2_with fail
      refine (HD2.out _).mono ?_
      rintro e w6 ⟨rfl, rfl⟩
      go_wp2
      go_roundw
      case rel => exact ⟨i + 1, by omega, by go_num, by rw [HLT.out]; go_num, HLEN.out, HO5.out⟩
      case measure => simp [intOf]; omega
    · obtain rfl : i = m := by omega
      obtain ⟨L, hL⟩ : ∃ L, L = allS (wordC f) i := ⟨_, rfl⟩
      rw [← hL] at hll HB ⊢
      have HL := Lib.hid hL
      obtain ⟨g, hwr, hgk, hqw, hup⟩ := HB.out
      have HWR := Lib.hid hwr
      have HGK := Lib.hid hgk
      have HUP := Lib.hid hup
      have HBY := Lib.hid (bytes_any q g L wo hwr (by omega))
      have hs0 := hup.size
      have hql := hwr.lt
      clear hL hwr hgk hup HB
      go_wp2_with fail
      refine HBY.out.mono ?_
      rintro e w2 ⟨vb, rfl, ho2, hu2⟩
      obtain ⟨ba, bcap, rfl⟩ := own_ex ho2
      have HO2 := Lib.hid (Sl.own ho2)
      have HU2 := Lib.hid hu2
      have HLE := Lib.hid (len_any q g L w2 (HWR.out.upd hu2 (by simp) (by simp)))
      have HRD := Lib.hid (read_any (.slice ba ((L.length + 7) / 8) bcap) (bytesOf L) w2 (Sl.own ho2) (by simp; omega) (by intro b hb; simp only [bytesOf, List.mem_map] at hb; obtain ⟨j, _, rfl⟩ := hb; exact byteAt_lt _ _))
      have hs2 := hu2.size
      clear ho2 hu2 HBY
      go_wp2_with fail
      refine HLE.out.mono ?_
      rintro e w3 ⟨rfl, rfl⟩
      go_wp2_with fail
      refine HRD.out.mono ?_
      rintro e w3 ⟨r, gr, rfl, hr3, hu3, hp3, hg3⟩
      have HU3 := Lib.hid (HU2.out.trans0 hu3)
      have HO3 := Lib.hid (HO2.out.upd0 hu3)
      have HST : Hid (Rd w3 r (some gr) (bytesOf L) 0) := hr3
      have hr0 : w.heap.size ≤ r := by omega
      have hr1 : w2.heap.size ≤ r := by omega
      have hrl := hr3.lt
      have hrgl := hr3.glt gr rfl
      clear hr3 hu3 HLE HRD
      go_wp2_with fail
      go_loopw [88] (fun v88 wr => ∃ j : Nat, j ≤ i ∧ v88 = .int .i64 j ∧ Rd wr r (some gr) (bytesOf L) (allS (wordC f) j).length ∧ Upd [r] w3 wr) (fun v88 _ => i - (intOf v88).toNat)
      case atStart => exact ⟨0, by omega, rfl, by simpa [allS] using HST.out, Upd.refl _ _⟩
      case round =>
        obtain ⟨j, hj, rfl, hrd, hup⟩ := hrel
        obtain ⟨wx, rfl⟩ : ∃ wx : World, wx = wr := ⟨_, rfl⟩
        have RD := Lib.hid hrd
        have RW := Lib.hid hup
        have RU : Hid (Upd [] w wx) := (HUP.out.trans0 HU3.out).trans hup (by intro x hx; simp at hx; subst hx; right; exact hr0)
        clear hrd hup
        by_cases hji : j < i
        · obtain ⟨b0, o0, b1, o1, n, d, k, it⟩ := HF.out j (by omega) (by omega)
          obtain ⟨e0, e1, k0, k1, hc, hd, hdw, hx, c63, xlt, x64⟩ := it
          obtain ⟨hle, B, hB⟩ := allS_read (wordC f) j i hji
          rw [← HL.out] at hle hB
          have hsp := wordT_back (k := (f j).1) (x := (f j).2) hle xlt x64 hB
          have HSUC : Hid ((allS (wordC f) (j + 1)).length = (allS (wordC f) j).length + (wordT (f j).1 (f j).2).length) := by show _ = _; rw [allS_succ, List.length_append]; rfl
          generalize f j = fj at *
          obtain ⟨c, x⟩ := fj
          dsimp only at hc hd hdw hx c63 xlt x64 hsp HSUC
          obtain ⟨s1, s2, s3, s4⟩ := hsp
          subst e0 e1
          have h1 := (RU.out.cell (World.block_lt_of_cell? w _ k1) (by simp)).trans k1
          have hblt := World.block_lt_of_cell? w _ k0
          have K0 := Lib.hid k0
          have i0 : (0 : Int) ≤ (j : Int) := by omega
          have hor := or_one64 x x64
          obtain ⟨x1, hx1e⟩ : ∃ x1, x1 = x ||| 1 := ⟨_, rfl⟩
          rw [← hx1e] at s3 s4 hor
          generalize hpa : (allS (wordC f) j).length = at0 at *
          generalize hpb : at0 + (c + 1) = at1 at *
          generalize hpc : at1 + (deltaBits x1).length = at2 at *
          generalize hpd : at0 + (wordT c x).length = at3 at *
          have R1 := rnum_any r (some gr) (bytesOf L) at0 ((c : Int) + 1) wx RD.out
          rw [show stepN (bitsOf (bytesOf L)) at0 ((c : Int) + 1) = (x, at1, 0) by
            unfold stepN
            rw [if_pos (by omega), show ((c : Int) + 1).toNat = c + 1 by omega, hpb, if_pos s1, s2]] at R1
          have HR1 := Lib.hid R1
          have HS3 := Lib.hid s3
          have HS4 := Lib.hid s4
          have HPD := Lib.hid hpd
          clear R1 s1 s2 s3 s4 hx1e hpa hpb hpc hpd k0 k1 hle hB xlt x64
          go_wp2_with fail
          refine HR1.out.mono ?_
          rintro e w4 ⟨rfl, hr4, hu4⟩
          have HD := Lib.hid (Delta_any r (some gr) (bytesOf L) at1 w4 hr4)
          have HU4 := Lib.hid (RW.out.trans hu4 (by intro x hx; exact .inl hx))
          clear hr4 hu4
          go_wp2_with fail
          refine HD.out.mono ?_
          intro e w5 h5
          obtain ⟨rfl, hr5, hu5⟩ := whole_back h5 HS3.out
          have HV := Lib.hid (Var_any r (some gr) (bytesOf L) at2 w5 hr5)
          have HU5 := Lib.hid (HU4.out.trans hu5 (by intro x hx; exact .inl hx))
          clear h5 hr5 hu5
          go_wp2_with fail
          refine HV.out.mono ?_
          intro e w6 h6
          obtain ⟨rfl, hr6, hu6⟩ := whole_back h6 HS4.out
          have HR6 := Lib.hid hr6
          have HU6 := Lib.hid (HU5.out.trans hu6 (by intro x hx; exact .inl hx))
          have RU6 : Upd [] w w6 := (HUP.out.trans0 HU3.out).trans HU6.out (by intro x hx; simp at hx; subst hx; right; exact hr0)
          have h0 := (RU6.cell hblt (by simp)).trans K0.out
          clear h6 hr6 hu6 RU6
          have z1 : ((x : Int) != (x : Int)) = false := by simp
          have z2 : ((x1 : Int) != (x1 : Int)) = false := by simp
          go_wp2
          go_roundw
          case rel => exact ⟨j + 1, by omega, by go_num, by rw [HSUC.out]; exact HR6.out, HU6.out⟩
          case measure => simp [intOf]; omega
        · obtain rfl : j = i := by omega
          rw [← HL.out] at RD
          have hvb : ∀ k, cu8 (bytesOf L) ≠ [] → (Value.slice ba ((L.length + 7) / 8) bcap).ownBlock = some k → k < w2.heap.size := fun k hne hk => HO2.out.block_lt hne k hk
          have HOX : Hid (Sl wx (.slice ba ((L.length + 7) / 8) bcap) (cu8 (bytesOf L))) := HO3.out.upd RW.out (fun hne k hk => by have := hvb k hne hk; simp; omega)
          have hsx := RW.out.size
          have HBL : Hid (∀ b ∈ bytesOf L, b < 256) := by
            intro b hb
            obtain ⟨j, _, rfl⟩ := List.mem_map.1 hb
            exact byteAt_lt _ _
          have HRD2 := Lib.hid (read_any (.slice ba ((L.length + 7) / 8) bcap) (bytesOf L) (wx.alloc (.cells #[.slice none 0 0, .int .i64 0] 26)) (HOX.out.upd0 ((Upd.refl _ _).alloc _)) (by simp; omega) HBL.out)
          have HZ2 := Lib.hid (Wr.zero wx)
          obtain ⟨q2, hq2⟩ : ∃ q2, q2 = wx.heap.size := ⟨_, rfl⟩
          have hal : (wx.alloc (.cells #[.slice none 0 0, .int .i64 0] 26)).heap.size = q2 + 1 := by rw [hq2]; simp
          have UAL : Upd [] wx (wx.alloc (.cells #[.slice none 0 0, .int .i64 0] 26)) := (Upd.refl _ _).alloc _
          have HUAL := Lib.hid UAL
          have HHAL := Lib.hid hal
          rw [← hq2] at HZ2
          have HQ2 := Lib.hid hq2
          clear hvb UAL hal
          go_wp2_with fail
          refine HRD2.out.mono ?_
          rintro e w5 ⟨s, gs, rfl, hr5, hu5, hp5, hg5⟩
          rw [← hq2]
          rw [HHAL.out] at hp5 hg5
          have HU5 := Lib.hid (HUAL.out.trans0 hu5)
          have hs5 := hr5.lt
          have hgs5 := hr5.glt gs rfl
          have H0 : Hid (Third w5 q2 s gs L 0 w5) := ⟨none, by have := HZ2.out.upd hu5 (by simp) (by simp); simpa using this, by simp, hr5, Upd.refl _ _⟩
          have hq2x : wx.heap.size ≤ q2 := by omega
          have hq2w : q2 < w5.heap.size := by omega
          clear hq2 hr5 hu5 HRD2
          go_wp2_with fail
          go_loopw [149] (fun v149 wr => ∃ k : Nat, k ≤ L.length ∧ v149 = .int .i64 k ∧ Third w5 q2 s gs L k wr) (fun v149 _ => L.length - (intOf v149).toNat)
          case atStart => exact ⟨0, by omega, rfl, H0.out⟩
          case round =>
            obtain ⟨k, hk, rfl, g', hw', hgk', hrd', hup'⟩ := hrel
            obtain ⟨wy, rfl⟩ : ∃ wy : World, wy = wr := ⟨_, rfl⟩
            have HWY := Lib.hid hw'
            have HGY := Lib.hid hgk'
            have HRY := Lib.hid hrd'
            have HUY := Lib.hid hup'
            have hsy := hup'.size
            clear hw' hgk' hrd' hup'
            by_cases hkL : k < L.length
            · have HBI := Lib.hid (rbit_any s (some gs) (bytesOf L) k wy HRY.out (by rw [bytesOf_length]; omega))
              have HTK : Hid (L.take (k + 1) = L.take k ++ [bitAt (bytesOf L) k]) := by
                show _ = _
                rw [bitAt_bytesOf _ _ (by omega), List.take_succ_eq_append_getElem hkL]
                simp [hkL]
              go_wp2_with fail
              refine HBI.out.mono ?_
              rintro e w6 ⟨rfl, hr6, hu6⟩
              have HWB := Lib.hid (bit_any q2 g' (L.take k) (bitAt (bytesOf L) k) w6 (HWY.out.upd hu6 (by simp; omega) (by intro z hz; have := HGY.out z hz; simp; omega)) (by simp; omega))
              have HR6 := Lib.hid hr6
              have HU6 := Lib.hid hu6
              have hs6 := hu6.size
              clear hr6 hu6 HBI
              go_wp2_with fail
              refine HWB.out.mono ?_
              rintro e w7 ⟨rfl, g7, hw7, hu7, hf7⟩
              have HT7 : Hid (Third w5 q2 s gs L (k + 1) w7) := by
                refine ⟨g7, by rw [HTK.out]; exact hw7, ?_, HR6.out.upd hu7 ?_ ?_, ?_⟩
                · intro z hz
                  rcases hf7 with rfl | ⟨z', hz', hl'⟩
                  · exact HGY.out z hz
                  · rw [hz'] at hz; obtain rfl : z' = z := by simpa using hz
                    omega
                · simp only [List.mem_cons, Option.mem_toList]
                  rintro (h | h)
                  · omega
                  · have := HGY.out _ h; omega
                · intro z hz
                  obtain rfl : gs = z := by simpa using hz
                  simp only [List.mem_cons, Option.mem_toList]
                  rintro (h | h)
                  · omega
                  · have := HGY.out _ h; omega
                · refine (HUY.out.trans HU6.out (by intro z hz; simp at hz; subst hz; left; simp)).trans hu7 ?_
                  intro z hz
                  rcases List.mem_cons.1 hz with rfl | hz
                  · left; simp
                  · right; exact HGY.out z (by simpa using hz)
              clear hw7 hu7 hf7
              go_wp2
              go_roundw
              case rel => exact ⟨k + 1, by omega, by go_num, HT7.out⟩
              case measure => simp [intOf]; omega
            · obtain rfl : k = L.length := by omega
              rw [List.take_length] at HWY
              have UWX : Hid (Upd [] wx wy) := HU5.out.trans HUY.out (by intro z hz; simp at hz; rcases hz with rfl | rfl; right; exact hq2x; right; omega)
              have HRZ := Lib.hid (RD.out.upd UWX.out (by simp) (by simp))
              have HOZ := Lib.hid (HOX.out.upd0 UWX.out)
              have HRN := Lib.hid (read_any (.slice none 0 0) [] wy (Sl.nil _) (by simp) (by simp))
              go_wp2_with fail
              refine HRN.out.mono ?_
              rintro e w8 ⟨r9, g9, rfl, hr9, hu9, _, _⟩
              have HE9 := Lib.hid (rnum_end r9 (some g9) [] 0 1 w8 hr9 (by decide) (by decide))
              have HU9 := Lib.hid hu9
              clear hr9 hu9 HRN
              go_wp2_with fail
              refine HE9.out.mono ?_
              rintro e w9 ⟨rfl, n9, hw9⟩
              have U9 : Upd [] wy w9 := by rw [hw9]; exact HU9.out.drewN n9
              have HU99 := Lib.hid U9
              have hcl := closeL_any r (some gr) (bytesOf L) L.length w9 (HRZ.out.upd U9 (by simp) (by simp))
              rw [close_zero] at hcl
              have HCL := Lib.hid hcl
              clear hw9 U9 hcl HE9
              go_wp2_with fail
              refine HCL.out.mono ?_
              rintro e w10 ⟨rfl, hu10⟩
              have HU10 := Lib.hid (HU99.out.trans0 hu10)
              have hcl2 := closeL_any s (some gs) (bytesOf L) L.length w10 (HRY.out.upd HU10.out (by simp) (by simp))
              rw [close_zero] at hcl2
              have HCL2 := Lib.hid hcl2
              clear hu10 hcl2 HCL
              go_wp2_with fail
              refine HCL2.out.mono ?_
              rintro e w11 ⟨rfl, hu11⟩
              have HU11 := Lib.hid (HU10.out.trans0 hu11)
              have HBB := Lib.hid (bytes_any q2 g' L w11 (HWY.out.upd HU11.out (by simp) (by simp)) (by omega))
              clear hu11 HCL2
              go_wp2_with fail
              refine HBB.out.mono ?_
              rintro e w12 ⟨v12, rfl, ho12, hu12⟩
              have hsm := same_any v12 (.slice ba ((L.length + 7) / 8) bcap) (bytesOf L) (bytesOf L) w12 (Sl.own ho12) (HOZ.out.upd0 (HU11.out.trans0 hu12)) (by simp; omega)
              rw [show decide (bytesOf L = bytesOf L) = true by simp] at hsm
              have HSM := Lib.hid hsm
              have HU12 := Lib.hid (HU11.out.trans0 hu12)
              clear ho12 hu12 hsm HBB
              go_wp2_with fail
              refine HSM.out.mono ?_
              rintro e w13 ⟨rfl, n13, rfl⟩
              go_wp2
              go_ret
              exact ⟨rfl, (RU.out.trans0 (UWX.out.trans0 HU12.out)).drewN n13⟩
end Go.Proofs.Ytbbbfkcpkcfndaa
