/- BitsReads: bits and numbers are read just as the document says: the law's walk, out of the contracts, for every list of bytes and every list of ints. -/
import Derived.Test.YtbbbfkcpkcfndaaLawJoins
namespace Go.Proofs.Ytbbbfkcpkcfndaa
open Go.RowKit Go.Proofs.Tm
set_option linter.unusedVariables false
set_option maxRecDepth 20000

/-- What is read, where it leaves the reader, the error: for any width. -/
def stepN (L : List Bool) (i : Nat) (k : Int) : Nat × Nat × Int :=
  if 0 ≤ k ∧ k ≤ 64 then (if i + k.toNat ≤ L.length then (numL L i k.toNat, i + k.toNat, 0) else (0, i, 5)) else (0, i, 2)

theorem stepN_le (L : List Bool) (i : Nat) (k : Int) (h : i ≤ L.length) : (stepN L i k).2.1 ≤ L.length := by
  unfold stepN
  split
  · split <;> simp_all
  · exact h

theorem rnum_any (p : Nat) (g : Option Nat) (bs : List Nat) (i : Nat) (k : Int) (w : World) (h : Rd w p g bs i) :
    Calls Try.prog 28 #[.pointer (some ⟨p, 0, none⟩), .int .i64 k] w fun e w' =>
      e = .returned (.tuple #[.int .u64 (((stepN (bitsOf bs) i k).1 : Nat) : Int), .int .i64 (stepN (bitsOf bs) i k).2.2]) ∧ RdGone p g bs w (stepN (bitsOf bs) i k).2.1 w' := by
  have hle := h.le
  unfold stepN
  by_cases hk : 0 ≤ k ∧ k ≤ 64
  · rw [if_pos hk]
    obtain ⟨n, rfl⟩ := Int.eq_ofNat_of_zero_le hk.1
    rw [Int.toNat_natCast, bitsOf_length]
    by_cases hi : i + n ≤ 8 * bs.length
    · rw [if_pos hi]
      exact rnum_ok p g bs i n w h (by omega) hi
    · rw [if_neg hi]
      refine (rnum_end p g bs i n w h (by omega) (by omega)).mono ?_
      rintro e w' ⟨rfl, m, rfl⟩
      exact ⟨rfl, h.drewN m, (Upd.refl _ _).drewN m⟩
  · rw [if_neg hk]
    refine (rnum_bad p k w (by simp; omega)).mono ?_
    rintro e w' ⟨rfl, rfl⟩
    exact ⟨rfl, h, Upd.refl _ _⟩

theorem get_any (lv : Value) (L : List Bool) (i : Nat) (k : Int) (w : World) (h : Sl w lv (cb L)) (hl : L.length ≤ 1125899906842624) (hi : i ≤ L.length) :
    Calls Try.prog 29 #[lv, .int .i64 (i : Int), .int .i64 k] w fun e w' =>
      e = .returned (.tuple #[.int .u64 (((stepN L i k).1 : Nat) : Int), .int .i64 (((stepN L i k).2.1 : Nat) : Int), .int .i64 (stepN L i k).2.2]) ∧ w = w' := by
  unfold stepN
  by_cases hk : 0 ≤ k ∧ k ≤ 64
  · rw [if_pos hk]
    obtain ⟨n, rfl⟩ := Int.eq_ofNat_of_zero_le hk.1
    rw [Int.toNat_natCast]
    by_cases hin : i + n ≤ L.length
    · rw [if_pos hin]
      exact get_ok lv L i n w h hl (by omega) hin
    · rw [if_neg hin]
      exact get_end lv L i n w h hl (by omega) hi (by omega)
  · rw [if_neg hk]
    exact get_bad lv i k w (by simp; omega)

theorem closeL_any (p : Nat) (g : Option Nat) (bs : List Nat) (i : Nat) (w : World) (h : Rd w p g bs i) :
    Calls Try.prog 31 #[.pointer (some ⟨p, 0, none⟩)] w fun e w' => e = .returned (.int .i64 (closeL (bitsOf bs) i)) ∧ Upd [] w w' := by
  rw [← closeAt_eq]; exact close_any p g bs i w h

/-- A list of bytes, cut to k at most, in the world w. -/
def IsCutTo (k : Nat) (w : World) (v : Value) (bs : List Nat) : Prop := Sl w v (cu8 bs) ∧ bs.length ≤ k ∧ ∀ b ∈ bs, b < 256

/-- Round by round: reader and list stand at one place. -/
def RdInv (w : World) (p g : Nat) (lv : Value) (bs : List Nat) (i : Nat) (wr : World) : Prop :=
  Rd wr p (some g) bs i ∧ wr.ownsRow w.heap.size 4 1 lv (8 * bs.length) (cb (bitsOf bs)) ∧ Upd [] w wr

set_option maxRecDepth 100000 in
set_option maxHeartbeats 3200000 in
theorem reads_law (a0 : Option Addr) (cap : Nat) (bs : List Nat) (a1 : Option Addr) (cap1 : Nat) (ks : List Int) (w : World) (hS : Sl w (.slice a0 bs.length cap) (cu8 bs)) (hb : ∀ b ∈ bs, b < 256)
    (hK : Sl w (.slice a1 ks.length cap1) (ks.map (Value.int .i64))) :
    Calls Try.prog 4 #[.slice a0 bs.length cap, .slice a1 ks.length cap1] w fun e w' => e = .returned (.bool true) ∧ Upd [] w w' := by
  have HS := Lib.hid hS
  have HB := Lib.hid hb
  have HK := Lib.hid hK
  have hcap : bs.length ≤ cap := by obtain ⟨a, c, h, h2, _⟩ := hS; simp at h h2; omega
  have hmx : cap ≤ maxLen := by obtain ⟨a, c, h, h2, h3, _⟩ := hS; simp at h; omega
  have hkm : ks.length ≤ maxLen := by have := hK.len_le; simpa using this
  unfold maxLen at hmx hkm
  clear hS hb hK
  go_enter Try.func4, Try.ntmps4
  go_wp2_with fail
  refine (awake1 w).mono ?_
  rintro e w1 ⟨rfl, hu1⟩
  have HU1 := Lib.hid hu1
  clear hu1
  go_upto_if 23 with fail
  go_cut [0] (fun s0 wx => ∃ bs', IsCutTo 300 wx s0 bs' ∧ w1 = wx)
  case first =>
    by_cases hl : 300 < bs.length
    · go_wp2_with fail
      go_meet
      exact ⟨bs.take 300, ⟨by have := sl_take (HS.out.upd0 HU1.out) 300 (by omega); simpa [cu8, List.map_take] using this, by simp; omega, fun b hb => HB.out b (List.mem_of_mem_take hb)⟩, rfl⟩
    · go_wp2_with fail
      go_meet
      exact ⟨bs, ⟨HS.out.upd0 HU1.out, by omega, HB.out⟩, rfl⟩
  case rest =>
    obtain ⟨cs, hcut, rfl⟩ := hcut
    obtain ⟨hsl, hlen, hlt⟩ := hcut
    have HR1 := Lib.hid (read_any u0 cs w1 hsl (by omega) hlt)
    have HSL := Lib.hid hsl
    have HLT := Lib.hid hlt
    clear hsl hlt HB HS hmx
    go_wp2_with fail
    refine HR1.out.mono ?_
    rintro e w2 ⟨p, g, rfl, hr1, hu2, hp1, hg1⟩
    have HRB := Lib.hid (rbits_any u0 cs w2 (HSL.out.upd0 hu2) (by omega) HLT.out)
    have l1 := hr1.lt
    have RD1 := Lib.hid hr1
    have HU2 := Lib.hid hu2
    have hs1 := HU1.out.size
    have hs2 := HU2.out.size
    clear hr1 hu2
    go_wp2_with fail
    refine HRB.out.mono ?_
    rintro e w3 ⟨lv, rfl, ho, hu3⟩
    have HLV : Hid (∀ k, lv.ownBlock = some k → k ∉ [p]) := fun k hk => by
      have := (ho.lt k hk).1
      simp; omega
    have HIN : Hid (RdInv w p g lv cs 0 w3) := ⟨RD1.out.upd hu3 (by simp) (by simp), ownsRow_base ho (by omega), (HU1.out.trans0 HU2.out).trans0 hu3⟩
    obtain ⟨L, hL⟩ : ∃ L, L = bitsOf cs := ⟨_, rfl⟩
    have HL := Lib.hid hL
    have hLlen : L.length = 8 * cs.length := by rw [hL]; simp
    obtain ⟨n, hn⟩ : ∃ n, n = 8 * cs.length := ⟨_, rfl⟩
    have HN := Lib.hid hn
    have HLL := Lib.hid hLlen
    have hn2 : n ≤ 2400 := by omega
    obtain ⟨la, lcap, hlv⟩ : ∃ la lcap, lv = .slice la n lcap := by
      obtain ⟨a, c, h, _⟩ := Sl.own ho
      exact ⟨a, c, by rw [h, cb_length, bitsOf_length, ← hn]⟩
    subst hlv
    clear ho hu3 hL hLlen hn
    go_wp2_with fail
    go_loopw [7, 8] (fun v7 v8 wr => ∃ i at_ : Nat, i ≤ ks.length ∧ at_ ≤ n ∧ v8 = .int .i64 i ∧ v7 = .int .i64 at_ ∧ RdInv w p g (.slice la n lcap) cs at_ wr) (fun _ v8 _ => ks.length - (intOf v8).toNat)
    case atStart => exact ⟨0, 0, by omega, by omega, rfl, rfl, HIN.out⟩
    case round =>
      obtain ⟨i, at_, hi, hat, rfl, rfl, hrd, hown, hup⟩ := hrel
      obtain ⟨wo, rfl⟩ : ∃ wo : World, wo = wr := ⟨_, rfl⟩
      have RD := Lib.hid hrd
      have RO := Lib.hid hown
      have RU := Lib.hid hup
      clear hrd hown hup
      by_cases hlt : i < ks.length ∧ i < 100
      · obtain ⟨hlt1, hlt2⟩ := hlt
        have b1 : decide (i < ks.length) = true := by simpa using hlt1
        obtain ⟨b, o, cap', hv, hc⟩ := sl_at HK.out (by intro h; have := congrArg List.length h; simp at this; simp_all)
        obtain ⟨rfl, rfl⟩ : a1 = some ⟨b, o, none⟩ ∧ cap1 = cap' := by simpa using hv
        have hcw := hc i (by simpa using hlt1)
        rw [List.getElem?_map, List.getElem?_eq_getElem hlt1] at hcw
        simp only [Option.map_some] at hcw
        generalize ks[i] = k at hcw
        have c0 : (0 : Int) ≤ (i : Int) := by omega
        have hblt := World.block_lt_of_cell? w _ hcw
        have hcell := (RU.out.cell hblt (by simp)).trans hcw
        have HCW := Lib.hid hcw
        clear hc hv hcw
        obtain ⟨x, y, z, hxyz⟩ : ∃ x y z, stepN L at_ k = (x, y, z) := ⟨_, _, _, rfl⟩
        have hy : y ≤ n := by
          have := stepN_le L at_ k (by rw [HLL.out, ← HN.out]; omega)
          rw [hxyz, HLL.out, ← HN.out] at this
          exact this
        have h1 := rnum_any p _ cs at_ k wo RD.out
        rw [← HL.out, hxyz] at h1
        dsimp only at h1
        have HRN := Lib.hid h1
        have HXYZ := Lib.hid hxyz
        clear h1 hxyz
        go_wp2_with fail
        refine HRN.out.mono ?_
        rintro e w4 ⟨rfl, hr4, hu4⟩
        have hown4 := ownsRow_upd RO.out hu4 HLV.out
        have hup4 := RU.out.trans hu4 (by intro x hx; simp at hx; subst hx; right; omega)
        have hcell4 := (hup4.cell hblt (by simp)).trans HCW.out
        have h2 := get_any _ L at_ k w4 (by rw [HL.out]; exact Sl.own hown4) (by rw [HLL.out]; omega) (by rw [HLL.out, ← HN.out]; omega)
        rw [HXYZ.out] at h2
        dsimp only at h2
        have HG := Lib.hid h2
        have HO4 := Lib.hid hown4
        have RD4 := Lib.hid hr4
        have HUU := Lib.hid hup4
        clear h2 hown4 hr4 hup4 hu4 hcell
        go_wp2_with fail
        refine HG.out.mono ?_
        rintro e w5 ⟨rfl, rfl⟩
        have hne : (((8 * cs.length - y : Nat) : Int) != (n : Int) - (y : Int)) = false := by
          rw [← HN.out, bne_eq_false_iff_eq]; omega
        have HLF := Lib.hid (left_any p _ cs y w4 RD4.out)
        go_wp2_with fail
        refine HLF.out.mono ?_
        rintro e w6 ⟨rfl, m, rfl⟩
        have h3 := closeL_any p _ cs y _ (RD4.out.drewN m)
        rw [← HL.out] at h3
        have HC3 := Lib.hid h3
        clear h3
        go_wp2_with fail
        refine HC3.out.mono ?_
        rintro e w7 ⟨rfl, hu7⟩
        have hown7 := ownsRow_upd (show (w4.drewN m).ownsRow _ _ _ _ _ _ from HO4.out) hu7 (by simp)
        have HO7 := Lib.hid hown7
        have HU7 := Lib.hid hu7
        have HRC := Lib.hid (rclose_any _ L y w7 (by rw [HL.out]; exact Sl.own hown7) (by rw [HLL.out]; omega) (by rw [HLL.out, ← HN.out]; omega))
        clear hown7 hu7
        generalize closeL L y = q at *
        go_wp2_with fail
        refine HRC.out.mono ?_
        rintro e w8 ⟨rfl, rfl⟩
        go_wp2
        go_roundw
        case rel => exact ⟨i + 1, y, by omega, hy, by go_num, rfl, (RD4.out.drewN m).upd HU7.out (by simp) (by simp), HO7.out, (HUU.out.drewN m).trans0 HU7.out⟩
        case measure => simp [intOf]; omega
      · have hend : (decide (i < ks.length) = false) ∨ (decide (i < ks.length) = true ∧ ¬ (i : Int) < 100) := by
          by_cases h1 : i < ks.length
          · right; exact ⟨by simpa using h1, by omega⟩
          · left; simpa using h1
        clear hlt
        by_cases hat2 : at_ < n
        · have hx : stepN L at_ 1 = ((bitAt cs at_).toNat, at_ + 1, 0) := by
            unfold stepN
            rw [if_pos (by decide), if_pos (by rw [HLL.out, ← HN.out]; exact hat2)]
            have : numL L at_ (Int.toNat 1) = (bitAt cs at_).toNat := by
              show numL L at_ 1 = _
              rw [HL.out]
              have h1 := numAt_succ cs at_ 0 (by rw [← HN.out]; omega)
              show numAt cs at_ 1 = _
              rw [h1]
              simp [numAt, val]
            rw [this]; rfl
          have HX := Lib.hid hx
          have HRB2 := Lib.hid (rbit_any p _ cs at_ wo RD.out (by rw [← HN.out]; exact hat2))
          clear hx
          rcases hend with hend | ⟨hend, hend2⟩
          all_goals
            go_wp2_with fail
            refine HRB2.out.mono ?_
            rintro e w4 ⟨rfl, hr4, hu4⟩
            have h2 := get_any _ L at_ 1 w4 (by rw [HL.out]; exact Sl.own (ownsRow_upd RO.out hu4 HLV.out)) (by rw [HLL.out]; omega) (by rw [HLL.out, ← HN.out]; omega)
            rw [HX.out] at h2
            dsimp only at h2
            have HG := Lib.hid h2
            have HUU := Lib.hid (RU.out.trans hu4 (by intro x hx; simp at hx; subst hx; right; omega))
            clear h2 hu4 hr4
            go_wp2_with fail
            refine HG.out.mono ?_
            rintro e w5 ⟨rfl, rfl⟩
            cases bitAt cs at_
            all_goals
              go_wp2
              go_ret
              exact ⟨rfl, HUU.out⟩
        · have hx : stepN L at_ 1 = (0, at_, 5) := by
            unfold stepN
            rw [if_pos (by decide), if_neg (by rw [HLL.out, ← HN.out]; show ¬ at_ + 1 ≤ n; omega)]
          have HX := Lib.hid hx
          have HRB2 := Lib.hid (rbit_no p (some g) cs wo (by rw [← HN.out, show n = at_ by omega]; exact RD.out))
          clear hx
          rcases hend with hend | ⟨hend, hend2⟩
          all_goals
            go_wp2_with fail
            refine HRB2.out.mono ?_
            rintro e w4 ⟨rfl, m, rfl⟩
            have h2 := get_any _ L at_ 1 (wo.drewN m) (by rw [HL.out]; exact (Sl.own RO.out).upd0 ((Upd.refl _ _).drewN m)) (by rw [HLL.out]; omega) (by rw [HLL.out, ← HN.out]; omega)
            rw [HX.out] at h2
            dsimp only at h2
            have HG := Lib.hid h2
            clear h2
            go_wp2_with fail
            refine HG.out.mono ?_
            rintro e w5 ⟨rfl, rfl⟩
            go_wp2
            go_ret
            exact ⟨rfl, RU.out.drewN m⟩
end Go.Proofs.Ytbbbfkcpkcfndaa
