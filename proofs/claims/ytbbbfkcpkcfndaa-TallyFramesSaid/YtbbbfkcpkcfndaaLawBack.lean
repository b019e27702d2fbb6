/- BitsBack: what was written is read back, and nothing is left: the law's walk, out of the contracts. -/
import Derived.Test.YtbbbfkcpkcfndaaLawWrites
import Derived.Test.YtbbbfkcpkcfndaaLawReads
namespace Go.Proofs.Ytbbbfkcpkcfndaa
open Go.RowKit Go.Proofs.Tm
set_option linter.unusedVariables false
set_option maxRecDepth 20000

theorem infoPut : (Try.prog.info? 30).map (fun i => (i.zero, i.size, i.bytes)) = some (some (.agg #[.int .u64 0, .int .i64 0]), 2, 16) := by kernel_rfl

/-- Numbers and widths, as cells. -/
def cells2 : List (Nat × Nat) → List Value
  | [] => []
  | p :: ks => .int .u64 (p.1 : Int) :: .int .i64 (p.2 : Int) :: cells2 ks
theorem cells2_length (ks : List (Nat × Nat)) : (cells2 ks).length = ks.length * 2 := by
  induction ks with
  | nil => rfl
  | cons p ks ih => simp [cells2, ih]; omega
theorem cells2_append (ks ms : List (Nat × Nat)) : cells2 (ks ++ ms) = cells2 ks ++ cells2 ms := by
  induction ks with
  | nil => rfl
  | cons p ks ih => simp [cells2, ih]
theorem cells2_get (ks : List (Nat × Nat)) (j : Nat) (h : j < ks.length) : (cells2 ks)[j * 2]? = some (.int .u64 ((ks[j].1 : Nat) : Int)) ∧ (cells2 ks)[j * 2 + 1]? = some (.int .i64 ((ks[j].2 : Nat) : Int)) := by
  induction ks generalizing j with
  | nil => simp at h
  | cons p ks ih =>
    cases j with
    | zero => simp [cells2]
    | succ j =>
      have := ih j (by simpa using h)
      rw [show (j + 1) * 2 = j * 2 + 1 + 1 by omega]
      simpa [cells2] using this

/-- The bits of numbers, each in its width. -/
def bitsOfAll (ks : List (Nat × Nat)) : List Bool := ks.flatMap fun p => numBits p.1 p.2
theorem bitsOfAll_snoc (ks : List (Nat × Nat)) (p : Nat × Nat) : bitsOfAll (ks ++ [p]) = bitsOfAll ks ++ numBits p.1 p.2 := by simp [bitsOfAll]

theorem take_all (ks : List (Nat × Nat)) (j : Nat) (h : j < ks.length) : bitsOfAll ks = bitsOfAll (ks.take j) ++ (numBits ks[j].1 ks[j].2 ++ bitsOfAll (ks.drop (j + 1))) := by
  have e : ks = ks.take j ++ (ks[j] :: ks.drop (j + 1)) := by simp
  have e2 : bitsOfAll ks = bitsOfAll (ks.take j ++ (ks[j] :: ks.drop (j + 1))) := congrArg bitsOfAll e
  exact e2.trans (by unfold bitsOfAll; rw [List.flatMap_append, List.flatMap_cons])

theorem take_succ_len (ks : List (Nat × Nat)) (j : Nat) (h : j < ks.length) : (bitsOfAll (ks.take (j + 1))).length = (bitsOfAll (ks.take j)).length + ks[j].2 := by
  rw [List.take_add_one, List.getElem?_eq_getElem h]
  show (bitsOfAll (ks.take j ++ [ks[j]])).length = _
  rw [bitsOfAll_snoc]
  simp

/-- What stands at a place is the number that was written there. -/
theorem read_back (ks : List (Nat × Nat)) (hk : ∀ p ∈ ks, p.1 < 2 ^ p.2) (j : Nat) (h : j < ks.length) :
    (bitsOfAll (ks.take j)).length + ks[j].2 ≤ 8 * (bytesOf (bitsOfAll ks)).length ∧ numAt (bytesOf (bitsOfAll ks)) (bitsOfAll (ks.take j)).length ks[j].2 = ks[j].1 := by
  have hlen : (bitsOfAll ks).length ≤ 8 * (bytesOf (bitsOfAll ks)).length := by simp; omega
  have ht := take_all ks j h
  have h1 : (bitsOfAll (ks.take j)).length + ks[j].2 ≤ (bitsOfAll ks).length := by
    rw [ht]; simp
  refine ⟨by omega, ?_⟩
  unfold numAt
  rw [bitsOf_bytesOf]
  generalize 8 * (((bitsOfAll ks).length + 7) / 8) - (bitsOfAll ks).length = z
  rw [ht, List.append_assoc, List.append_assoc, List.drop_left]
  have : (numBits ks[j].1 ks[j].2 ++ (bitsOfAll (ks.drop (j + 1)) ++ List.replicate z false)).take ks[j].2 = numBits ks[j].1 ks[j].2 := by
    rw [List.take_append_of_le_length (by simp)]
    exact List.take_of_length_le (by simp)
  rw [this]
  exact val_numBits_of_lt _ _ (hk _ (List.getElem_mem h))

theorem close_zero (l : List Bool) : closeL (bitsOf (bytesOf l)) l.length = 0 := by
  unfold closeL
  rw [bitsOf_bytesOf]
  rw [if_neg (by simp; omega), if_pos]
  intro b hb
  rw [List.drop_left] at hb
  exact (List.mem_replicate.1 hb).2

/-- Round by round: what the Writer has, and what was kept. -/
def BkInv (w : World) (p : Nat) (kv : Value) (ks : List (Nat × Nat)) (wr : World) : Prop :=
  ∃ g, Wr wr p g (bitsOfAll ks) ∧ wr.ownsRow w.heap.size 30 2 kv ks.length (cells2 ks) ∧ Upd [] w wr ∧ (∀ q, kv.ownBlock = some q → q ≠ p ∧ g ≠ some q) ∧ (∀ q, g = some q → w.heap.size ≤ q) ∧ ∀ x ∈ ks, x.1 < 2 ^ x.2 ∧ x.2 ≤ 64

theorem put_row_ne {w : World} {p : Nat} {g : Option Nat} {l : List Bool} {base : Nat} {kv : Value} {n : Nat} {xs : List Value} (h : Wr w p g l) (ho : w.ownsRow base 30 2 kv n xs) : ∀ q, kv.ownBlock = some q → q ≠ p ∧ g ≠ some q := by
  intro q hq
  obtain ⟨v, h1, h2, h3⟩ := h
  rcases ho.2 with ⟨rfl, _⟩ | ⟨q', cap, cur, rfl, _, hc, _⟩
  · simp [Value.ownBlock] at hq
  · simp [Value.ownBlock] at hq
    subst hq
    refine ⟨?_, ?_⟩
    · rintro rfl; rw [h1] at hc; simp at hc
    · intro hg
      rcases h3.2 with ⟨rfl, _⟩ | ⟨g', cap', cur', rfl, _, hc', _⟩
      · simp [Value.ownBlock] at h2; rw [← h2] at hg; cases hg
      · simp [Value.ownBlock] at h2
        rw [← h2] at hg
        obtain rfl : g' = q' := by simpa using hg
        rw [hc'] at hc
        simp at hc

set_option maxHeartbeats 3200000 in
theorem back_law (a0 : Option Addr) (cap : Nat) (ps : List (Nat × Int)) (w : World) (hS : SlP w (.slice a0 ps.length cap) ps) :
    Calls Try.prog 5 #[.slice a0 ps.length cap] w fun e w' => e = .returned (.bool true) ∧ Upd [] w w' := by
  have HS := Lib.hid hS
  have hkm : ps.length ≤ maxLen := by obtain ⟨a, c, h, h2, h3, _⟩ := hS; omega
  unfold maxLen at hkm
  obtain ⟨i0, hinf, hz0, hz1, hz2⟩ := info_parts infoPut
  clear hS
  go_enter Try.func5, Try.ntmps5
  go_wp2_with fail
  refine (awake1 w).mono ?_
  rintro e w1 ⟨rfl, hu1⟩
  have HU1 := Lib.hid hu1
  have hs1 := hu1.size
  have HWZ := Lib.hid (Wr.zero w1)
  clear hu1
  go_wp2_with fail
  go_loopw [4, 5] (fun v4 v5 wr => ∃ (i : Nat) (ks : List (Nat × Nat)), i ≤ ps.length ∧ v5 = .int .i64 i ∧ ks.length ≤ i ∧ (bitsOfAll ks).length ≤ 64 * i ∧ i ≤ 60 ∧ BkInv w w1.heap.size v4 ks wr) (fun _ v5 _ => ps.length - (intOf v5).toNat)
  case atStart => exact ⟨0, [], by omega, rfl, by simp, by simp [bitsOfAll], by omega, none, HWZ.out, World.ownsRow_nil _ _ _ _, HU1.out.alloc _, by simp [Value.ownBlock], by simp, by simp⟩
  case round =>
    obtain ⟨i, ks, hi, rfl, hkl, hbl, hi60, hinv⟩ := hrel
    obtain ⟨wo, rfl⟩ : ∃ wo : World, wo = wr := ⟨_, rfl⟩
    obtain ⟨g, hwr, hown, hup, hlq, hgq, hks⟩ := hinv
    have HW := Lib.hid hwr
    have HO := Lib.hid hown
    have HU := Lib.hid hup
    have HLQ := Lib.hid hlq
    have HGQ := Lib.hid hgq
    have HKS := Lib.hid hks
    clear hwr hown hup hlq hgq hks
    by_cases hlt : i < ps.length ∧ i < 60
    · obtain ⟨hlt1, hlt2⟩ := hlt
      have b1 : decide (i < ps.length) = true := by simpa using hlt1
      have hsP := HS.out
      obtain ⟨a', cap', hv, _, _, hcc⟩ := hsP
      obtain ⟨b, o, hab, hc⟩ := hcc (by rintro rfl; simp at hlt1)
      subst hab
      clear hcc
      obtain ⟨rfl, rfl⟩ : a0 = some ⟨b, o, none⟩ ∧ cap = cap' := by simpa using hv
      obtain ⟨n, k, hps, hn64, hc0, hc1⟩ := hc i hlt1
      have hblt := World.block_lt_of_cell? w _ hc0
      have k0 := (HU.out.cell hblt (by simp)).trans hc0
      have k1 := (HU.out.cell (p := ⟨b, o + i * 2 + 1, none⟩) hblt (by simp)).trans hc1
      have c0 : (0 : Int) ≤ (i : Int) := by omega
      have c1 : (i : Int) < (ps.length : Int) := by omega
      have HC0 := Lib.hid hc0
      have HC1 := Lib.hid hc1
      have h1 := num_any w1.heap.size g (bitsOfAll ks) n k wo.drew (HW.out.upd ((Upd.refl [] wo).drew) (by simp) (by simp)) (by omega)
      have hsz1 := HW.out.lt
      by_cases hfit : fits n k = true
      · have hst : stepW (bitsOfAll ks) n k = (bitsOfAll ks ++ numBits n k.toNat, 0) := by unfold stepW; rw [if_pos hfit]
        rw [hst] at h1
        dsimp only at h1
        have H1 := Lib.hid h1
        have hk : 0 ≤ k ∧ k ≤ 64 ∧ n < 2 ^ k.toNat := by
          unfold fits at hfit
          rw [Bool.and_eq_true, decide_eq_true_eq, decide_eq_true_eq] at hfit
          exact ⟨hfit.1.1, hfit.1.2, (Nat.div_eq_zero_iff_lt (Nat.two_pow_pos _)).1 hfit.2⟩
        obtain ⟨m, rfl⟩ := Int.eq_ofNat_of_zero_le hk.1
        rw [Int.toNat_natCast] at hk H1
        have HK := Lib.hid hk
        clear h1 hst hfit hc hv hc0 hc1 hn64 hps hk
        go_wp2_with fail
        go_still_tail 10, (by kernel_rfl)
        change wpList _ _ _ _ _ wo.drew
        go_wp2_with fail
        refine H1.out.mono ?_
        rintro e w4 ⟨rfl, g', hwr4, hup4, hfr4⟩
        have hU4 : Upd [] w w4 := HU.out.drew.trans hup4 (by
          intro x hx
          rcases List.mem_cons.1 hx with rfl | hx
          · right; omega
          · exact .inr (HGQ.out x (by simpa [Option.mem_toList] using hx)))
        have q0 := (hU4.cell hblt (by simp)).trans HC0.out
        have q1 := (hU4.cell (p := ⟨b, o + i * 2 + 1, none⟩) hblt (by simp)).trans HC1.out
        have hown4 := ownsRow_upd (show wo.drew.ownsRow _ _ _ _ _ _ from HO.out) hup4 (by
          intro q hq hm
          have := HLQ.out q hq
          rcases List.mem_cons.1 hm with h | h
          · exact this.1 h
          · exact this.2 (by simpa [Option.mem_toList] using h))
        have hgq4 : ∀ q, g' = some q → w.heap.size ≤ q := by
          intro q hq
          rcases hfr4 with rfl | ⟨k, hk, hl⟩
          · exact HGQ.out q hq
          · rw [hk] at hq; obtain rfl : k = q := by simpa using hq
            have := HU.out.size
            simp at hl
            omega
        have HO4 := Lib.hid hown4
        have HW4 := Lib.hid hwr4
        have HU4 := Lib.hid hU4
        have HG4 := Lib.hid hgq4
        have hs4 := hU4.size
        clear hup4 hfr4 hwr4 hU4 hown4 hgq4 k0 k1
        go_wp2_with (at_builtin; refine wpList_append_own _ rfl (.tmp 35) (.tmp 40) 22 rfl w.heap.size 30 i0 (.agg #[.int .u64 0, .int .i64 0]) 2 16 Try.underlying22 hinf hz0 hz1 hz2 rfl (by decide) _ _ _ rfl (HO4.out.alloc _) ⟨w4.heap.size, 0, none⟩ 1 1 [.int .u64 (n : Int), .int .i64 (m : Int)] rfl rfl ?c1 ?c2 ?c3 ?c4 ?c5 ?go)
        case c1 => intro j u hj; match j, hj with | 0, hj => simp at hj; subst hj; simp [Addr.add] | 1, hj => simp at hj; subst hj; simp [Addr.add]
        case c2 => intro u hu; simp at hu; rcases hu with rfl | rfl <;> rfl
        case c3 => unfold maxLen; omega
        case c4 => omega
        case c5 => exact Nat.le_trans hs4 (by simp)
        case go =>
          intro v1 w5 ho5 hg5 _
          have HO5 : Hid (w5.ownsRow w.heap.size 30 2 v1 (ks ++ [(n, m)]).length (cells2 (ks ++ [(n, m)]))) := by
            show w5.ownsRow _ _ _ _ _ _
            rw [cells2_append, List.length_append]
            exact ho5
          have hu5 : Upd (u4.ownBlock.toList) w4 w5 := ((Upd.refl _ w4).alloc _).grown hg5 (fun q hq => .inl (by rw [hq]; simp))
          have HW5 := Lib.hid (HW4.out.upd hu5 (by
            intro hm
            have := put_row_ne HW4.out HO4.out _ (by simpa [Option.mem_toList] using hm)
            exact this.1 rfl) (by
            intro q hq hm
            exact (put_row_ne HW4.out HO4.out q (by simpa [Option.mem_toList] using hm)).2 hq))
          have HU5 := Lib.hid (HU4.out.trans hu5 (by intro x hx; exact .inr ((HO4.out.lt x (by simpa [Option.mem_toList] using hx)).1)))
          clear ho5 hg5 hu5
          have hlen : (bitsOfAll (ks ++ [(n, m)])).length ≤ 64 * (i + 1) := by
            have := HK.out
            rw [bitsOfAll_snoc]; simp; omega
          have HFIN : Hid (BkInv w w1.heap.size v1 (ks ++ [(n, m)]) w5) := by
            refine ⟨g', by rw [bitsOfAll_snoc]; exact HW5.out, HO5.out, HU5.out, put_row_ne HW5.out HO5.out, HG4.out, ?_⟩
            intro x hx
            rcases List.mem_append.1 hx with hx | hx
            · exact HKS.out x hx
            · obtain rfl : x = (n, m) := by simpa using hx
              have := HK.out
              exact ⟨this.2.2, by omega⟩
          go_wp2
          go_roundw
          case rel => exact ⟨i + 1, _, by omega, by go_num, by simp; omega, hlen, by omega, HFIN.out⟩
          case measure => simp [intOf]; omega
      · have hst : stepW (bitsOfAll ks) n k = (bitsOfAll ks, 2) := by unfold stepW; rw [if_neg hfit]
        rw [hst] at h1
        dsimp only at h1
        have H1 := Lib.hid h1
        clear h1 hst hfit hc hv hc0 hc1 hn64 hps
        go_wp2_with fail
        go_still_tail 10, (by kernel_rfl)
        change wpList _ _ _ _ _ wo.drew
        go_wp2_with fail
        refine H1.out.mono ?_
        rintro e w4 ⟨rfl, g', hwr4, hup4, hfr4⟩
        have hU4 : Upd [] w w4 := HU.out.drew.trans hup4 (by
          intro x hx
          rcases List.mem_cons.1 hx with rfl | hx
          · right; omega
          · exact .inr (HGQ.out x (by simpa [Option.mem_toList] using hx)))
        have hown4 := ownsRow_upd (show wo.drew.ownsRow _ _ _ _ _ _ from HO.out) hup4 (by
          intro q hq hm
          have := HLQ.out q hq
          rcases List.mem_cons.1 hm with h | h
          · exact this.1 h
          · exact this.2 (by simpa [Option.mem_toList] using h))
        have hgq4 : ∀ q, g' = some q → w.heap.size ≤ q := by
          intro q hq
          rcases hfr4 with rfl | ⟨k, hk, hl⟩
          · exact HGQ.out q hq
          · rw [hk] at hq; obtain rfl : k = q := by simpa using hq
            have := HU.out.size
            simp at hl
            omega
        have HFIN : Hid (BkInv w w1.heap.size u4 ks w4) := ⟨g', hwr4, hown4, hU4, put_row_ne hwr4 hown4, hgq4, HKS.out⟩
        clear hup4 hfr4 hwr4 hU4 hown4 hgq4 k0 k1
        go_wp2
        go_roundw
        case rel => exact ⟨i + 1, ks, by omega, by go_num, by omega, by omega, by omega, HFIN.out⟩
        case measure => simp [intOf]; omega
    · have hend : (decide (i < ps.length) = false) ∨ (decide (i < ps.length) = true ∧ ¬ (i : Int) < 60) := by
        by_cases h1 : i < ps.length
        · right; exact ⟨by simpa using h1, by omega⟩
        · left; simpa using h1
      clear hlt
      obtain ⟨l, hl⟩ : ∃ l, l = bitsOfAll ks := ⟨_, rfl⟩
      have HLL := Lib.hid hl
      rw [← hl] at HW hbl
      clear hl
      have HBY := Lib.hid (bytes_any w1.heap.size g l wo HW.out (by omega))
      obtain ⟨n, hn⟩ : ∃ n, n = ks.length := ⟨_, rfl⟩
      have HN := Lib.hid hn
      have hn60 : n ≤ 60 := by omega
      obtain ⟨ka, kc, hkv⟩ : ∃ ka kc, u4 = .slice ka n kc := by
        rcases HO.out.2 with ⟨h, h0⟩ | ⟨q, c, cur, h, _⟩
        · exact ⟨none, 0, by rw [h, hn, h0]⟩
        · exact ⟨some ⟨q, 0, none⟩, c, by rw [h, hn]⟩
      subst hkv
      rw [← hn] at HO
      clear hn
      have hsz1 := HW.out.lt
      have hs0 := HU.out.size
      rcases hend with hend | ⟨hend, hend2⟩
      all_goals
        go_wp2_with fail
        refine HBY.out.mono ?_
        rintro e w2 ⟨vb, rfl, ho2, hu2⟩
        have hrd := read_any vb (bytesOf l) w2 (Sl.own ho2) (by simp; omega) (by intro b hb; simp only [bytesOf, List.mem_map] at hb; obtain ⟨j, _, rfl⟩ := hb; exact byteAt_lt _ _)
        have HRD := Lib.hid hrd
        have HU2 := Lib.hid hu2
        have hs2 := hu2.size
        clear ho2 hu2 hrd
        go_wp2_with fail
        refine HRD.out.mono ?_
        rintro e w3 ⟨p, gr, rfl, hr3, hu3, hp3, hg3⟩
        have HU3 := Lib.hid (HU2.out.trans0 hu3)
        have HST : Hid (Rd w3 p (some gr) (bytesOf l) 0) := hr3
        clear hr3 hu3
        have hs1' := hs1
        go_wp2_with fail
        go_loopw [46] (fun v46 wr => ∃ j : Nat, j ≤ n ∧ v46 = .int .i64 j ∧ Rd wr p (some gr) (bytesOf l) (bitsOfAll (ks.take j)).length ∧ Upd [] wo wr) (fun v46 _ => n - (intOf v46).toNat)
        case atStart => exact ⟨0, by omega, rfl, HST.out, HU3.out⟩
        case round =>
          obtain ⟨j, hj, rfl, hrd, hup⟩ := hrel
          obtain ⟨wx, rfl⟩ : ∃ wx : World, wx = wr := ⟨_, rfl⟩
          have RD := Lib.hid hrd
          have RU := Lib.hid hup
          clear hrd hup
          by_cases hjn : j < n
          · obtain ⟨q, qc, hg⟩ : ∃ q qc, Value.slice ka n kc = .slice (some ⟨q, 0, none⟩) n qc := by
              rcases HO.out.2 with ⟨_, h0⟩ | ⟨q, c, cur, h, _⟩
              · omega
              · exact ⟨q, c, h⟩
            obtain ⟨rfl, rfl⟩ : ka = some ⟨q, 0, none⟩ ∧ kc = qc := by simpa using hg
            have hjk : j < ks.length := by rw [← HN.out]; exact hjn
            obtain ⟨e0, e1⟩ := cells2_get ks j hjk
            have hcell0 := HO.out.cellAt (j * 2) (by omega)
            have hcell1 := HO.out.cellAt (j * 2 + 1) (by omega)
            rw [e0] at hcell0
            rw [e1] at hcell1
            have hqlt := World.block_lt_of_cell? wo _ hcell0
            have q0 := (RU.out.cell hqlt (by simp)).trans hcell0
            have q1 := (RU.out.cell (p := ⟨q, j * 2 + 1, none⟩) hqlt (by simp)).trans hcell1
            have hrb := read_back ks (fun x hx => (HKS.out x hx).1) j hjk
            have hk64 := (HKS.out _ (List.getElem_mem hjk)).2
            have hlen := take_succ_len ks j hjk
            rw [← HLL.out] at hrb
            generalize ks[j] = x at *
            obtain ⟨xn, xk⟩ := x
            simp only at q0 q1 hrb hk64 hlen
            have h1 := rnum_ok p _ (bytesOf l) _ xk (wx.alloc (.cells #[.int .u64 (xn : Int), .int .i64 (xk : Int)] 30)) (RD.out.upd ((Upd.refl [] wx).alloc _) (by simp) (by simp)) hk64 hrb.1
            rw [hrb.2] at h1
            have H1 := Lib.hid h1
            have HLEN := Lib.hid hlen
            have c0 : (0 : Int) ≤ (j : Int) := by omega
            have hplt := RD.out.lt
            clear h1 hlen hrb hk64 e0 e1 hcell0 hcell1 hg
            go_wp2_with fail
            refine H1.out.mono ?_
            rintro e w4 ⟨rfl, hr4, hu4⟩
            have x0 : w4.cell? ⟨wx.heap.size, 0, none⟩ = some (.int .u64 (xn : Int)) := by
              rw [hu4.cell (p := ⟨wx.heap.size, 0, none⟩) (by simp) (by simp; omega), World.cell?_alloc_at _ _ _ _ rfl]; rfl
            have HR4 := Lib.hid hr4
            have HU4 := Lib.hid ((RU.out.alloc (.cells #[.int .u64 (xn : Int), .int .i64 (xk : Int)] 30)).trans hu4 (by intro y hy; simp at hy; subst hy; right; omega))
            clear hr4 hu4
            go_wp2
            go_roundw
            case rel => exact ⟨j + 1, by omega, by go_num, by rw [HLEN.out]; exact HR4.out, HU4.out⟩
            case measure => simp [intOf]; omega
          · have hj' : j = n := by omega
            subst hj'
            have hz : (bitsOfAll (ks.take j)).length = l.length := by rw [HN.out, List.take_length, HLL.out]
            have RD2 : Hid (Rd wx p (some gr) (bytesOf l) l.length) := by rw [← hz]; exact RD.out
            have hcl := closeL_any p _ (bytesOf l) l.length wx RD2.out
            rw [close_zero] at hcl
            have HCL := Lib.hid hcl
            have HWX := Lib.hid (HW.out.upd RU.out (by simp) (by simp))
            clear hz hcl
            obtain ⟨ln, hln⟩ : ∃ ln, ln = l.length := ⟨_, rfl⟩
            have hfin : (((8 * (bytesOf l).length - ln : Nat) : Int) == ((8 - (ln : Int) % 8) % 8)) = true := by
              rw [beq_iff_eq, bytesOf_length, ← hln]; omega
            go_wp2_with fail
            refine HCL.out.mono ?_
            rintro e w5 ⟨rfl, hu5⟩
            have h2 := left_any p _ (bytesOf l) l.length w5 (RD2.out.upd hu5 (by simp) (by simp))
            rw [← hln] at h2
            have H2 := Lib.hid h2
            have HU5 := Lib.hid hu5
            clear h2 hu5
            go_wp2_with fail
            refine H2.out.mono ?_
            rintro e w6 ⟨rfl, m, rfl⟩
            have h3 := len_any w1.heap.size g l (w5.drewN m) (HWX.out.upd (HU5.out.drewN m) (by simp) (by simp))
            rw [← hln] at h3
            have H3 := Lib.hid h3
            clear h3
            go_wp2_with fail
            refine H3.out.mono ?_
            rintro e w7 ⟨rfl, rfl⟩
            go_wp2
            go_ret
            exact ⟨ret_bool (by rw [beq_iff_eq]; omega), ((HU.out.trans0 RU.out).trans0 HU5.out).drewN m⟩
end Go.Proofs.Ytbbbfkcpkcfndaa
