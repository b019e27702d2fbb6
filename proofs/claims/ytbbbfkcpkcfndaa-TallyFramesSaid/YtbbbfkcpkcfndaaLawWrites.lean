/- BitsWrites: bits and numbers are written just as the document says: the law's walk, out of the contracts, for every list of numbers and widths. -/
import Derived.Test.YtbbbfkcpkcfndaaLawJoins
import Derived.Test.YtbbbfkcpkcfndaaRefPut
import Derived.Test.YtbbbfkcpkcfndaaOpen
namespace Go.Proofs.Ytbbbfkcpkcfndaa
open Go.RowKit Go.Proofs.Tm
set_option linter.unusedVariables false
set_option maxRecDepth 20000

/-- A list of numbers and widths that came in. -/
def SlP (w : World) (v : Value) (ps : List (Nat × Int)) : Prop :=
  ∃ a cap, v = .slice a ps.length cap ∧ ps.length ≤ cap ∧ cap ≤ maxLen ∧ (ps ≠ [] → ∃ b o, a = some ⟨b, o, none⟩ ∧ ∀ i, i < ps.length → ∃ n : Nat, ∃ k : Int, ps[i]? = some (n, k) ∧ n < 18446744073709551616 ∧
    w.cell? ⟨b, o + i * 2, none⟩ = some (.int .u64 (n : Int)) ∧ w.cell? ⟨b, o + i * 2 + 1, none⟩ = some (.int .i64 k))

theorem slp_of_pair {w : World} {a : Option Addr} {cap : Nat} {zs : List (Int × Int)} (h : SlPair .u64 .i64 w (.slice a zs.length cap) zs) : ∃ ps : List (Nat × Int), ps.length = zs.length ∧ SlP w (.slice a zs.length cap) ps := by
  obtain ⟨a', cap', hv, h1, h2, h3⟩ := h
  refine ⟨zs.map fun p => (p.1.toNat, p.2), by simp, a', cap', by simpa using hv, by simpa using h1, h2, fun hne => ?_⟩
  obtain ⟨b, o, ha, hc⟩ := h3 (by rintro rfl; simp at hne)
  refine ⟨b, o, ha, fun i hi => ?_⟩
  obtain ⟨n, k, hp, hw, _, c0, c1⟩ := hc i (by simpa using hi)
  have hb := bounds_u64 hw
  exact ⟨n.toNat, k, by rw [List.getElem?_map, hp]; rfl, by omega, by rw [show ((n.toNat : Nat) : Int) = n by omega]; exact c0, c1⟩

/-- Is a number of a width? -/
def fits (n : Nat) (k : Int) : Bool := decide (0 ≤ k ∧ k ≤ 64) && decide (n / 2 ^ k.toNat = 0)
/-- What is written behind l, and the error. -/
def stepW (l : List Bool) (n : Nat) (k : Int) : List Bool × Int := if fits n k then (l ++ numBits n k.toNat, 0) else (l, 2)

theorem stepW_len (l : List Bool) (n : Nat) (k : Int) : (stepW l n k).1.length ≤ l.length + 64 := by
  unfold stepW
  split
  · rename_i h
    simp [fits] at h
    simp; omega
  · simp

theorem fits_iff (n m : Nat) : ((n : Int) / 2 ^ m != 0) = !decide (n / 2 ^ m = 0) := by
  have h1 : (n : Int) / 2 ^ m = ((n / 2 ^ m : Nat) : Int) := by simp
  rw [h1, Bool.eq_iff_iff]
  simp only [bne_iff_ne, Bool.not_eq_true', decide_eq_false_iff_not]
  omega

/-- From w to w' a Writer has become one of l'. -/
def WrTo (p : Nat) (g : Option Nat) (w : World) (l' : List Bool) (w' : World) : Prop :=
  ∃ g', Wr w' p g' l' ∧ Upd (p :: g.toList) w w' ∧ (g' = g ∨ ∃ k, g' = some k ∧ w.heap.size ≤ k)

theorem num_any (p : Nat) (g : Option Nat) (l : List Bool) (n : Nat) (k : Int) (w : World) (h : Wr w p g l) (hl : l.length < 562949953421312) :
    Calls Try.prog 20 #[.pointer (some ⟨p, 0, none⟩), .int .u64 (n : Int), .int .i64 k] w fun e w' => e = .returned (.int .i64 (stepW l n k).2) ∧ WrTo p g w (stepW l n k).1 w' := by
  unfold stepW
  by_cases hk : 0 ≤ k ∧ k ≤ 64
  · obtain ⟨m, rfl⟩ := Int.eq_ofNat_of_zero_le hk.1
    have hf : fits n (m : Int) = decide (n / 2 ^ m = 0) := by unfold fits; rw [decide_eq_true hk, Int.toNat_natCast]; simp
    by_cases h0 : n / 2 ^ m = 0
    · rw [if_pos (by rw [hf]; simpa using h0), Int.toNat_natCast]
      exact num_ok p g l n m w h hl (by omega) (by rw [fits_iff]; simp [h0])
    · rw [if_neg (by rw [hf]; simpa using h0)]
      refine (num_over p n m w (by omega) (by rw [fits_iff]; simp only [Bool.not_eq_true', decide_eq_false_iff_not]; exact h0)).mono ?_
      rintro e w' ⟨rfl, rfl⟩
      exact ⟨rfl, g, h, Upd.refl _ _, .inl rfl⟩
  · have hf : fits n k = false := by unfold fits; rw [decide_eq_false hk]; rfl
    rw [if_neg (by rw [hf]; simp)]
    refine (num_bad p n k w (by simp; omega)).mono ?_
    rintro e w' ⟨rfl, rfl⟩
    exact ⟨rfl, g, h, Upd.refl _ _, .inl rfl⟩

theorem put_any (lv : Value) (l : List Bool) (n : Nat) (k : Int) (w : World) (h : Sl w lv (cb l)) (hl : l.length ≤ 70368744177664) (hn : n < 18446744073709551616) :
    Calls Try.prog 21 #[lv, .int .u64 (n : Int), .int .i64 k] w fun e w' => ∃ v, e = .returned (.tuple #[v, .int .i64 (stepW l n k).2]) ∧ Sl w' v (cb (stepW l n k).1) ∧ Upd [] w w' ∧ (∀ q, v.ownBlock = some q → lv.ownBlock = some q ∨ (w.heap.size ≤ q ∧ q < w'.heap.size)) := by
  unfold stepW
  by_cases hk : 0 ≤ k ∧ k ≤ 64
  · obtain ⟨m, rfl⟩ := Int.eq_ofNat_of_zero_le hk.1
    have hf : fits n (m : Int) = decide (n / 2 ^ m = 0) := by unfold fits; rw [decide_eq_true hk, Int.toNat_natCast]; simp
    have hp := put_loop lv l n m w h hl (by omega) hn (decide (0 < n / 2 ^ m)) rfl
    by_cases h0 : n / 2 ^ m = 0
    · rw [if_pos (by rw [hf]; simpa using h0), Int.toNat_natCast]
      refine hp.mono ?_
      intro e w' hq
      rw [h0, if_neg (by decide)] at hq
      obtain ⟨v, rfl, ho, hu⟩ := hq
      exact ⟨v, rfl, Sl.own ho, hu, fun q hq => .inr (ho.lt q hq)⟩
    · rw [if_neg (by rw [hf]; simpa using h0)]
      refine hp.mono ?_
      intro e w' hq
      rw [if_pos (by generalize n / 2 ^ m = q at *; simp; omega)] at hq
      obtain ⟨rfl, hu⟩ := hq
      exact ⟨lv, rfl, h.upd0 hu, hu, fun q hq => .inl hq⟩
  · have hf : fits n k = false := by unfold fits; rw [decide_eq_false hk]; rfl
    rw [if_neg (by rw [hf]; simp)]
    refine (put_bad lv n k w (by simp; omega)).mono ?_
    rintro e w' ⟨rfl, hu⟩
    exact ⟨lv, rfl, h.upd0 hu, hu, fun q hq => .inl hq⟩

/-- Round by round: the Writer and the list of bits are one. -/
def WtInv (w : World) (p : Nat) (lv : Value) (l : List Bool) (wr : World) : Prop :=
  ∃ g, Wr wr p g l ∧ Sl wr lv (cb l) ∧ Upd [] w wr ∧ (∀ q, lv.ownBlock = some q → (q ≠ p ∧ g ≠ some q) ∧ q < wr.heap.size) ∧ (∀ q, g = some q → w.heap.size ≤ q)

set_option maxHeartbeats 3200000 in
theorem writes_law (a0 : Option Addr) (cap : Nat) (ps : List (Nat × Int)) (w : World) (hS : SlP w (.slice a0 ps.length cap) ps) :
    Calls Try.prog 3 #[.slice a0 ps.length cap] w fun e w' => e = .returned (.bool true) ∧ Upd [] w w' := by
  have HS := Lib.hid hS
  have hkm : ps.length ≤ maxLen := by obtain ⟨a, c, h, h2, h3, _⟩ := hS; omega
  unfold maxLen at hkm
  clear hS
  go_enter Try.func3, Try.ntmps3
  go_wp2_with fail
  refine (awake1 w).mono ?_
  rintro e w1 ⟨rfl, hu1⟩
  have HU1 := Lib.hid hu1
  have hs1 := hu1.size
  have HWZ := Lib.hid (Wr.zero w1)
  clear hu1
  go_wp2_with fail
  go_loopw [4, 5] (fun v4 v5 wr => ∃ (i : Nat) (l : List Bool), i ≤ ps.length ∧ v5 = .int .i64 i ∧ l.length ≤ 64 * i ∧ i ≤ 60 ∧ WtInv w w1.heap.size v4 l wr) (fun _ v5 _ => ps.length - (intOf v5).toNat)
  case atStart => exact ⟨0, [], by omega, rfl, by simp, by omega, none, HWZ.out, Sl.nil _, HU1.out.alloc _, by simp [Value.ownBlock], by simp⟩
  case round =>
    obtain ⟨i, l, hi, rfl, hll, hi60, hinv⟩ := hrel
    obtain ⟨wo, rfl⟩ : ∃ wo : World, wo = wr := ⟨_, rfl⟩
    obtain ⟨g, hwr, hsl, hup, hlq, hgq⟩ := hinv
    have HW := Lib.hid hwr
    have HL := Lib.hid hsl
    have HU := Lib.hid hup
    have HLQ := Lib.hid hlq
    have HGQ := Lib.hid hgq
    clear hwr hsl hup hlq hgq
    by_cases hlt : i < ps.length ∧ i < 60
    · obtain ⟨hlt1, hlt2⟩ := hlt
      have b1 : decide (i < ps.length) = true := by simpa using hlt1
      have hsP := HS.out
      obtain ⟨a', cap', hv, _, _, hcc⟩ := hsP
      obtain ⟨b, o, hab, hc⟩ := hcc (by rintro rfl; simp at hlt1)
      subst hab
      clear hcc
      obtain ⟨rfl, rfl⟩ : a0 = some ⟨b, o, none⟩ ∧ cap = cap' := by simpa using hv
      obtain ⟨n, k, hps, hn64, hc0, hc1⟩ := hc i hlt1
      have hblt := World.block_lt_of_cell? w _ hc0
      have k0 := (HU.out.cell hblt (by simp)).trans hc0
      have k1 := (HU.out.cell (p := ⟨b, o + i * 2 + 1, none⟩) hblt (by simp)).trans hc1
      have c0 : (0 : Int) ≤ (i : Int) := by omega
      have HN64 := Lib.hid hn64
      clear hc hv hc0 hc1 hn64 hps
      have hpo : w1.heap.size < wo.heap.size := HW.out.lt
      obtain ⟨l', ec, hst⟩ : ∃ l' ec, stepW l n k = (l', ec) := ⟨_, _, rfl⟩
      have hll' : l'.length ≤ 64 * (i + 1) := by have := stepW_len l n k; rw [hst] at this; simp only at this; omega
      have h1 := num_any w1.heap.size g l n k (wo.alloc (.cells #[.int .u64 (n : Int), .int .i64 k] 30)) (HW.out.upd ((Upd.refl [] wo).alloc _) (by simp) (by simp)) (by omega)
      rw [hst] at h1
      dsimp only at h1
      have H1 := Lib.hid h1
      have HST := Lib.hid hst
      clear h1 hst
      go_wp2_with fail
      refine H1.out.mono ?_
      rintro e w4 ⟨rfl, g', hwr4, hup4, hfr4⟩
      have hgo : ∀ q, g = some q → q < wo.heap.size := HW.out.glt
      have x0 : w4.cell? ⟨wo.heap.size, 0, none⟩ = some (.int .u64 (n : Int)) := by
        rw [hup4.cell (p := ⟨wo.heap.size, 0, none⟩) (by simp) (by
          intro hm
          rcases List.mem_cons.1 hm with h | h
          · simp only at h; omega
          · have := hgo wo.heap.size (by simpa [Option.mem_toList] using h); omega), World.cell?_alloc_at _ _ _ _ rfl]
        rfl
      have x1 : w4.cell? ⟨wo.heap.size, 1, none⟩ = some (.int .i64 k) := by
        rw [hup4.cell (p := ⟨wo.heap.size, 1, none⟩) (by simp) (by
          intro hm
          rcases List.mem_cons.1 hm with h | h
          · simp only at h; omega
          · have := hgo wo.heap.size (by simpa [Option.mem_toList] using h); omega), World.cell?_alloc_at _ _ _ _ rfl]
        rfl
      have hsl4 : Sl w4 u4 (cb l) := (HL.out.upd0 ((Upd.refl [] wo).alloc _)).upd hup4 (by
        intro _ q hq
        have := HLQ.out q hq
        intro hm
        rcases List.mem_cons.1 hm with h | h
        · exact this.1.1 h
        · exact this.1.2 (by simpa [Option.mem_toList] using h))
      have hU4 : Upd [] w w4 := (HU.out.alloc _).trans hup4 (by
        intro x hx
        rcases List.mem_cons.1 hx with rfl | hx
        · right; omega
        · exact .inr (HGQ.out x (by simpa [Option.mem_toList] using hx)))
      have hg4 : ∀ q, g' = some q → w.heap.size ≤ q ∧ (g = some q ∨ wo.heap.size ≤ q) := by
        intro q hq
        rcases hfr4 with rfl | ⟨k, hk, hl⟩
        · exact ⟨HGQ.out q hq, .inl hq⟩
        · rw [hk] at hq; obtain rfl : k = q := by simpa using hq
          have := HU.out.size
          simp at hl
          exact ⟨by omega, .inr (by omega)⟩
      have h2 := put_any u4 l n k w4 hsl4 (by omega) HN64.out
      rw [HST.out] at h2
      dsimp only at h2
      have H2 := Lib.hid h2
      have HW4 := Lib.hid hwr4
      have HU4 := Lib.hid hU4
      have HG4 := Lib.hid hg4
      have hs4 := hup4.size
      simp at hs4
      clear h2 hwr4 hup4 hfr4 hsl4 hU4 hg4
      go_wp2_with fail
      refine H2.out.mono ?_
      rintro e w5 ⟨v, rfl, hsl5, hu5, hfv⟩
      obtain ⟨va, vc, rfl⟩ : ∃ va vc, v = .slice va l'.length vc := by
        obtain ⟨a, c, h, _⟩ := hsl5
        exact ⟨a, c, by rw [h, cb_length]⟩
      have HLV : Hid (∀ q, (Value.slice va l'.length vc).ownBlock = some q → (q ≠ w1.heap.size ∧ g' ≠ some q) ∧ q < w5.heap.size) := by
        intro q hq
        have hp4 := HW4.out.glt
        have hp5 := HW4.out.lt
        have hs5 := hu5.size
        rcases hfv q hq with h | h
        · have h0 := HLQ.out q h
          refine ⟨⟨h0.1.1, fun hg => ?_⟩, by omega⟩
          rcases (HG4.out q hg).2 with h' | h'
          · exact h0.1.2 h'
          · omega
        · refine ⟨⟨by omega, fun hg => ?_⟩, h.2⟩
          have := hp4 q hg
          omega
      have HS5 := Lib.hid hsl5
      have HW5 := Lib.hid (HW4.out.upd hu5 (by simp) (by simp))
      have HU5 := Lib.hid (HU4.out.trans0 hu5)
      have HLEN := Lib.hid (len_any w1.heap.size g' l' w5 HW5.out)
      clear hsl5 hu5 hfv
      go_wp2_with fail
      refine HLEN.out.mono ?_
      rintro e w6 ⟨rfl, rfl⟩
      have HBY := Lib.hid (bytes_any w1.heap.size g' l' w5 HW5.out (by omega))
      go_wp2_with fail
      refine HBY.out.mono ?_
      rintro e w6 ⟨vb, rfl, ho6, hu6⟩
      have HS6 := Lib.hid (HS5.out.upd0 hu6)
      have HO6 := Lib.hid ho6
      have HU6 := Lib.hid hu6
      have HRB := Lib.hid (rbytes_any _ l' w6 HS6.out (by omega))
      clear ho6 hu6
      go_wp2_with fail
      refine HRB.out.mono ?_
      rintro e w7 ⟨vr, rfl, ho7, hu7⟩
      have HU7 := Lib.hid hu7
      have h3 := same_any vb vr (bytesOf l') (bytesOf l') w7 ((Sl.own HO6.out).upd0 hu7) (Sl.own ho7) (by simp; omega)
      simp only [decide_true] at h3
      have H3 := Lib.hid h3
      clear ho7 hu7 h3
      go_wp2_with fail
      refine H3.out.mono ?_
      rintro e w8 ⟨rfl, m, rfl⟩
      have HFIN : Hid (WtInv w w1.heap.size (.slice va l'.length vc) l' (w7.drewN m)) := by
        have hu := (HU6.out.trans0 HU7.out).drewN m
        exact ⟨g', HW5.out.upd hu (by simp) (by simp), HS5.out.upd0 hu, HU5.out.trans0 hu, fun q hq => ⟨(HLV.out q hq).1, Nat.lt_of_lt_of_le (HLV.out q hq).2 hu.size⟩, fun q hq => (HG4.out q hq).1⟩
      go_wp2
      go_roundw
      case rel => exact ⟨i + 1, l', by omega, by go_num, hll', by omega, HFIN.out⟩
      case measure => simp [intOf]; omega
    · have hend : (decide (i < ps.length) = false) ∨ (decide (i < ps.length) = true ∧ ¬ (i : Int) < 60) := by
        by_cases h1 : i < ps.length
        · right; exact ⟨by simpa using h1, by omega⟩
        · left; simpa using h1
      clear hlt
      have HBY := Lib.hid (bytes_any w1.heap.size g l wo HW.out (by omega))
      obtain ⟨n, hn⟩ : ∃ n, n = (l.length + 7) / 8 := ⟨_, rfl⟩
      have HN := Lib.hid hn
      have hn2 : n ≤ 1000 := by omega
      rw [← hn] at HBY
      clear hn
      rcases hend with hend | ⟨hend, hend2⟩
      all_goals
        go_wp2_with fail
        refine HBY.out.mono ?_
        rintro e w2 ⟨vb, rfl, ho2, hu2⟩
        obtain ⟨va, vc, rfl⟩ : ∃ va vc, vb = .slice va n vc := by
          obtain ⟨a, c, h, _⟩ := Sl.own ho2
          exact ⟨a, c, by rw [h, cu8_length, bytesOf_length, HN.out]⟩
        have HU2 := Lib.hid hu2
        have HST : Hid (∃ zs : List Int, w2.ownsRow wo.heap.size 5 1 (.slice va n vc) n (zs.map (Value.int .u8))) := ⟨(bytesOf l).map (fun (b : Nat) => (b : Int)), by rw [List.map_map]; exact ho2⟩
        clear ho2 hu2
        go_wp2_with fail
        go_loopw [62] (fun v62 wr => ∃ j : Nat, j ≤ n ∧ v62 = .int .i64 j ∧ (∃ zs : List Int, wr.ownsRow wo.heap.size 5 1 (.slice va n vc) n (zs.map (Value.int .u8))) ∧ Upd [] wo wr) (fun v62 _ => n - (intOf v62).toNat)
        case atStart => exact ⟨0, by omega, rfl, HST.out, HU2.out⟩
        case round =>
          obtain ⟨j, hj, rfl, ⟨zs, hzo⟩, hzu⟩ := hrel
          have HZU := Lib.hid hzu
          clear hzu
          by_cases hjn : j < n
          · obtain ⟨gb, gc, hg⟩ := own_shape hzo (by omega)
            obtain ⟨rfl, rfl⟩ : va = some ⟨gb, 0, none⟩ ∧ vc = gc := by simpa using hg
            have hzl : zs.length = n := by simpa using hzo.1
            have hcell := hzo.cellAt j (by omega)
            rw [List.getElem?_map, List.getElem?_eq_getElem (by omega)] at hcell
            simp only [Option.map_some] at hcell
            generalize zs[j] = z at hcell
            have hfr := hzo.frozenAt j
            have hgb := (hzo.lt gb rfl).1
            have HZ := Lib.hid hzo
            have c0 : (0 : Int) ≤ (j : Int) := by omega
            have HZL := Lib.hid hzl
            clear hzo hg hzl
            go_wp2
            go_roundw
            case rel =>
              refine ⟨j + 1, by omega, by go_num, ⟨zs.set j (IntKind.u8.wrap (z + 1)), ?_⟩, HZU.out.setCell (.inr hgb) _⟩
              rw [List.map_set]
              exact (HZ.out.stored j _).1
            case measure => simp [intOf]; omega
          · clear hzo
            have hj' : j = n := by omega
            subst hj'
            go_wp2_with fail
            have hw9 := HW.out.upd HZU.out (by simp) (by simp)
            refine (bytes_any w1.heap.size g l _ hw9 (by omega)).mono ?_
            rintro e w6 ⟨vb, rfl, ho6, hu6⟩
            have hs6 := (HL.out.upd0 HZU.out).upd0 hu6
            have HO6 := Lib.hid ho6
            have HU6 := Lib.hid hu6
            have HRB := Lib.hid (rbytes_any _ l w6 hs6 (by omega))
            clear ho6 hu6 hs6 hw9
            go_wp2_with fail
            refine HRB.out.mono ?_
            rintro e w7 ⟨vr, rfl, ho7, hu7⟩
            have HU7 := Lib.hid hu7
            have h3 := same_any vb vr (bytesOf l) (bytesOf l) w7 ((Sl.own HO6.out).upd0 hu7) (Sl.own ho7) (by simp; omega)
            simp only [decide_true] at h3
            have H3 := Lib.hid h3
            clear ho7 hu7 h3
            go_wp2_with fail
            refine H3.out.mono ?_
            rintro e w8 ⟨rfl, m, rfl⟩
            go_wp2
            go_ret
            exact ⟨rfl, (((HU.out.trans0 HZU.out).trans0 HU6.out).trans0 HU7.out).drewN m⟩
end Go.Proofs.Ytbbbfkcpkcfndaa
