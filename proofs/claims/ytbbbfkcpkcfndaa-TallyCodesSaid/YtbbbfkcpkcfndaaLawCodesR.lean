/- CodesReads: any bits are the numbers that the document says, or none: the law's walk. -/
import Derived.Test.YtbbbfkcpkcfndaaCodesRead
import Derived.Test.YtbbbfkcpkcfndaaLawCodesW
namespace Go.Proofs.Ytbbbfkcpkcfndaa
open Go.RowKit Go.Proofs.Tm
set_option linter.unusedVariables false
set_option maxRecDepth 20000

theorem tmod3 (k : Int) : -2 ≤ k.tmod 3 ∧ k.tmod 3 ≤ 2 := by
  rcases Int.le_total 0 k with h | h
  · rw [Int.tmod_eq_emod_of_nonneg h]; omega
  · have := Int.neg_tmod (a := -k) (b := 3)
    rw [Int.neg_neg] at this
    rw [this, Int.tmod_eq_emod_of_nonneg (by omega)]; omega

set_option maxRecDepth 100000 in
set_option maxHeartbeats 6400000 in
theorem codesR_law (a0 : Option Addr) (cap : Nat) (bs : List Nat) (a1 : Option Addr) (cap1 : Nat) (ks : List Int) (w : World) (hS : Sl w (.slice a0 bs.length cap) (cu8 bs)) (hb : ∀ b ∈ bs, b < 256)
    (hK : Sl w (.slice a1 ks.length cap1) (ks.map (Value.int .i64))) :
    Calls Try.prog 8 #[.slice a0 bs.length cap, .slice a1 ks.length cap1] w fun e w' => e = .returned (.bool true) ∧ Upd [] w w' := by
  have HS := Lib.hid hS
  have HB := Lib.hid hb
  have HK := Lib.hid hK
  have hcap : bs.length ≤ cap := by obtain ⟨a, c, h, h2, _⟩ := hS; simp at h h2; omega
  have hmx : cap ≤ maxLen := by obtain ⟨a, c, h, h2, h3, _⟩ := hS; simp at h; omega
  have hkm : ks.length ≤ maxLen := by have := hK.len_le; simpa using this
  unfold maxLen at hmx hkm
  clear hS hb hK
  go_enter Try.func8, Try.ntmps8
  go_wp2_with fail
  refine (awake2 w).mono ?_
  rintro e w1 ⟨rfl, hu1⟩
  have HU1 := Lib.hid hu1
  clear hu1
  go_upto_if 18 with fail
  go_cut [0] (fun s0 wx => ∃ bs', IsCutTo 200 wx s0 bs' ∧ w1 = wx)
  case first =>
    by_cases hl : 200 < bs.length
    · go_wp2_with fail
      go_meet
      exact ⟨bs.take 200, ⟨by have := sl_take (HS.out.upd0 HU1.out) 200 (by omega); simpa [cu8, List.map_take] using this, by simp; omega, fun b hb => HB.out b (List.mem_of_mem_take hb)⟩, rfl⟩
    · go_wp2_with fail
      go_meet
      exact ⟨bs, ⟨HS.out.upd0 HU1.out, by omega, HB.out⟩, rfl⟩
  case rest =>
    obtain ⟨cs, hcut, rfl⟩ := hcut
    obtain ⟨hsl, hlen, hlt⟩ := hcut
    have HR1 := Lib.hid (read_any u0 cs w1 hsl (by omega) hlt)
    have HSL := Lib.hid hsl
    have HLT := Lib.hid hlt
    clear hsl hlt HB HS hmx
    go_wp2_with fail
    refine HR1.out.mono ?_
    rintro e w2 ⟨p, g, rfl, hr1, hu2, hp1, hg1⟩
    have HRB := Lib.hid (rbits_any u0 cs w2 (HSL.out.upd0 hu2) (by omega) HLT.out)
    have l1 := hr1.lt
    have RD1 := Lib.hid hr1
    have HU2 := Lib.hid hu2
    have hs1 := HU1.out.size
    have hs2 := HU2.out.size
    clear hr1 hu2
    go_wp2_with fail
    refine HRB.out.mono ?_
    rintro e w3 ⟨lv, rfl, ho, hu3⟩
    have HLV : Hid (∀ k, lv.ownBlock = some k → k ∉ [p]) := fun k hk => by
      have := (ho.lt k hk).1
      simp; omega
    have HIN : Hid (RdInv w p g lv cs 0 w3) := ⟨RD1.out.upd hu3 (by simp) (by simp), ownsRow_base ho (by omega), (HU1.out.trans0 HU2.out).trans0 hu3⟩
    obtain ⟨L, hL⟩ : ∃ L, L = bitsOf cs := ⟨_, rfl⟩
    have HL := Lib.hid hL
    have hLlen : L.length = 8 * cs.length := by rw [hL]; simp
    obtain ⟨n, hn⟩ : ∃ n, n = 8 * cs.length := ⟨_, rfl⟩
    have HN := Lib.hid hn
    have HLL := Lib.hid (hLlen.trans hn.symm)
    have hn2 : n ≤ 1600 := by omega
    obtain ⟨la, lcap, hlv⟩ : ∃ la lcap, lv = .slice la n lcap := by
      obtain ⟨a, c, h, _⟩ := Sl.own ho
      exact ⟨a, c, by rw [h, cb_length, bitsOf_length, ← hn]⟩
    subst hlv
    clear ho hu3 hL hLlen hn
    go_wp2_with fail
    go_loopw [7, 8] (fun v7 v8 wr => ∃ i at_ : Nat, i ≤ ks.length ∧ at_ ≤ n ∧ v8 = .int .i64 i ∧ v7 = .int .i64 at_ ∧ RdInv w p g (.slice la n lcap) cs at_ wr) (fun _ v8 _ => ks.length - (intOf v8).toNat)
    case atStart => exact ⟨0, 0, by omega, by omega, rfl, rfl, HIN.out⟩
    case round =>
      obtain ⟨i, at_, hi, hat, rfl, rfl, hrd, hown, hup⟩ := hrel
      obtain ⟨wo, rfl⟩ : ∃ wo : World, wo = wr := ⟨_, rfl⟩
      have RD := Lib.hid hrd
      have RO := Lib.hid hown
      have RU := Lib.hid hup
      clear hrd hown hup
      by_cases hlt : i < ks.length ∧ i < 60
      · obtain ⟨hlt1, hlt2⟩ := hlt
        have b1 : decide (i < ks.length) = true := by simpa using hlt1
        obtain ⟨b, o, cap', hv, hc⟩ := sl_at HK.out (by intro h; have := congrArg List.length h; simp at this; simp_all)
        obtain ⟨rfl, rfl⟩ : a1 = some ⟨b, o, none⟩ ∧ cap1 = cap' := by simpa using hv
        have hcw := hc i (by simpa using hlt1)
        rw [List.getElem?_map, List.getElem?_eq_getElem hlt1] at hcw
        simp only [Option.map_some] at hcw
        generalize ks[i] = k at hcw
        have c0 : (0 : Int) ≤ (i : Int) := by omega
        have hcell := (RU.out.cell (World.block_lt_of_cell? w _ hcw) (by simp)).trans hcw
        clear hc hv hcw
        obtain ⟨ht0, ht2⟩ := tmod3 k
        obtain ⟨t, hT⟩ : ∃ t, k.tmod 3 = t := ⟨_, rfl⟩
        rw [hT] at ht0 ht2
        obtain ⟨s, hS⟩ : ∃ s, (t + 3).tmod 3 = s := ⟨_, rfl⟩
        have hs : s = 0 ∨ s = 1 ∨ s = 2 := by
          rw [Int.tmod_eq_emod_of_nonneg (by omega)] at hS
          omega
        have hsl : ∀ W, W.ownsRow w.heap.size 4 1 (.slice la n lcap) (8 * cs.length) (cb (bitsOf cs)) → Sl W (.slice la n lcap) (cb L) := fun W h => by rw [HL.out]; exact Sl.own h
        have HG0 := Lib.hid (fun W h => refReadGamma_any (.slice la n lcap) L at_ W (hsl W h) (by rw [HLL.out]; omega) (by rw [HLL.out]; exact hat))
        have HG1 := Lib.hid (fun W h => refReadDelta_any (.slice la n lcap) L at_ W (hsl W h) (by rw [HLL.out]; omega) (by rw [HLL.out]; exact hat))
        have HG2 := Lib.hid (fun W h => refReadVar_any (.slice la n lcap) L at_ W (hsl W h) (by rw [HLL.out]; omega) (by rw [HLL.out]; exact hat))
        have HP0 := Lib.hid (Gamma_any p _ cs at_ wo RD.out)
        have HP1 := Lib.hid (Delta_any p _ cs at_ wo RD.out)
        have HP2 := Lib.hid (Var_any p _ cs at_ wo RD.out)
        rw [← HL.out] at HP0 HP1 HP2
        have hf0 := gammaS_fine L at_
        have hf1 := deltaS_fine L at_
        have hf2 := varS_fine L 10 0 0 at_
        obtain ⟨r, hr, hrr⟩ : ∃ r, Fine L r ∧ ((s = 0 ∧ r = gammaS L at_) ∨ (s = 1 ∧ r = deltaS L at_) ∨ (s = 2 ∧ r = varS L 10 0 0 at_)) := by
          rcases hs with h | h | h
          · exact ⟨_, hf0, .inl ⟨h, rfl⟩⟩
          · exact ⟨_, hf1, .inr (.inl ⟨h, rfl⟩)⟩
          · exact ⟨_, hf2, .inr (.inr ⟨h, rfl⟩)⟩
        have hf : (r.2.2 = 0 ∧ r.2.1 ≤ n) ∨ r.2.2 = 4 ∨ r.2.2 = 5 := by rw [← HLL.out]; exact hr
        clear hf0 hf1 hf2 hs hsl hr
        rcases hrr with ⟨rfl, hr⟩ | ⟨rfl, hr⟩ | ⟨rfl, hr⟩
        · rw [← hr] at HG0 HP0
          clear hr HG1 HP1 HG2 HP2
          obtain ⟨x, y, z⟩ := r
          dsimp only at hf
          rcases hf with ⟨rfl, hy⟩ | rfl | rfl
          · go_wp2_with fail
            refine HP0.out.mono ?_
            rintro e w4 ⟨rfl, hr4, hu4⟩
            have hr5 : Rd w4 p (some g) cs y := hr4
            have hown4 := ownsRow_upd RO.out hu4 HLV.out
            have HQ := Lib.hid (HG0.out w4 hown4)
            have RD4 := Lib.hid hr5
            have RO4 := Lib.hid hown4
            have RU4 := Lib.hid (RU.out.trans hu4 (by intro x hx; simp at hx; subst hx; right; omega))
            clear hr4 hr5 hu4 hown4 hcell
            go_wp2_with fail
            refine HQ.out.mono ?_
            rintro e w5 ⟨q, rfl, hq, rfl⟩
            obtain rfl : q = y := hq rfl
            clear hq
            have hne : (((8 * cs.length - q : Nat) : Int) != (n : Int) - (q : Int)) = false := by
              rw [← HN.out, bne_eq_false_iff_eq]; omega
            have HLF := Lib.hid (left_any p _ cs q w4 RD4.out)
            go_wp2_with fail
            refine HLF.out.mono ?_
            rintro e w6 ⟨rfl, m, rfl⟩
            go_wp2
            go_roundw
            case rel => exact ⟨i + 1, q, by omega, hy, by go_num, rfl, RD4.out.drewN m, RO4.out, RU4.out.drewN m⟩
            case measure => simp [intOf]; omega
          all_goals
            go_wp2_with fail
            refine HP0.out.mono ?_
            rintro e w4 ⟨rfl, hr4, hu4⟩
            have hown4 := ownsRow_upd RO.out hu4 HLV.out
            have HQ := Lib.hid (HG0.out w4 hown4)
            have RU4 := Lib.hid (RU.out.trans hu4 (by intro x hx; simp at hx; subst hx; right; omega))
            clear hr4 hu4 hown4 hcell
            go_wp2_with fail
            refine HQ.out.mono ?_
            rintro e w5 ⟨q, rfl, hq, rfl⟩
            go_wp2
            go_ret
            exact ⟨rfl, RU4.out⟩
        · rw [← hr] at HG1 HP1
          clear hr HG0 HP0 HG2 HP2
          obtain ⟨x, y, z⟩ := r
          dsimp only at hf
          rcases hf with ⟨rfl, hy⟩ | rfl | rfl
          · go_wp2_with fail
            refine HP1.out.mono ?_
            rintro e w4 ⟨rfl, hr4, hu4⟩
            have hr5 : Rd w4 p (some g) cs y := hr4
            have hown4 := ownsRow_upd RO.out hu4 HLV.out
            have HQ := Lib.hid (HG1.out w4 hown4)
            have RD4 := Lib.hid hr5
            have RO4 := Lib.hid hown4
            have RU4 := Lib.hid (RU.out.trans hu4 (by intro x hx; simp at hx; subst hx; right; omega))
            clear hr4 hr5 hu4 hown4 hcell
            go_wp2_with fail
            refine HQ.out.mono ?_
            rintro e w5 ⟨q, rfl, hq, rfl⟩
            obtain rfl : q = y := hq rfl
            clear hq
            have hne : (((8 * cs.length - q : Nat) : Int) != (n : Int) - (q : Int)) = false := by
              rw [← HN.out, bne_eq_false_iff_eq]; omega
            have HLF := Lib.hid (left_any p _ cs q w4 RD4.out)
            go_wp2_with fail
            refine HLF.out.mono ?_
            rintro e w6 ⟨rfl, m, rfl⟩
            go_wp2
            go_roundw
            case rel => exact ⟨i + 1, q, by omega, hy, by go_num, rfl, RD4.out.drewN m, RO4.out, RU4.out.drewN m⟩
            case measure => simp [intOf]; omega
          all_goals
            go_wp2_with fail
            refine HP1.out.mono ?_
            rintro e w4 ⟨rfl, hr4, hu4⟩
            have hown4 := ownsRow_upd RO.out hu4 HLV.out
            have HQ := Lib.hid (HG1.out w4 hown4)
            have RU4 := Lib.hid (RU.out.trans hu4 (by intro x hx; simp at hx; subst hx; right; omega))
            clear hr4 hu4 hown4 hcell
            go_wp2_with fail
            refine HQ.out.mono ?_
            rintro e w5 ⟨q, rfl, hq, rfl⟩
            go_wp2
            go_ret
            exact ⟨rfl, RU4.out⟩
        · rw [← hr] at HG2 HP2
          clear hr HG0 HP0 HG1 HP1
          obtain ⟨x, y, z⟩ := r
          dsimp only at hf
          rcases hf with ⟨rfl, hy⟩ | rfl | rfl
          · go_wp2_with fail
            refine HP2.out.mono ?_
            rintro e w4 ⟨rfl, hr4, hu4⟩
            have hr5 : Rd w4 p (some g) cs y := hr4
            have hown4 := ownsRow_upd RO.out hu4 HLV.out
            have HQ := Lib.hid (HG2.out w4 hown4)
            have RD4 := Lib.hid hr5
            have RO4 := Lib.hid hown4
            have RU4 := Lib.hid (RU.out.trans hu4 (by intro x hx; simp at hx; subst hx; right; omega))
            clear hr4 hr5 hu4 hown4 hcell
            go_wp2_with fail
            refine HQ.out.mono ?_
            rintro e w5 ⟨q, rfl, hq, rfl⟩
            obtain rfl : q = y := hq rfl
            clear hq
            have hne : (((8 * cs.length - q : Nat) : Int) != (n : Int) - (q : Int)) = false := by
              rw [← HN.out, bne_eq_false_iff_eq]; omega
            have HLF := Lib.hid (left_any p _ cs q w4 RD4.out)
            go_wp2_with fail
            refine HLF.out.mono ?_
            rintro e w6 ⟨rfl, m, rfl⟩
            go_wp2
            go_roundw
            case rel => exact ⟨i + 1, q, by omega, hy, by go_num, rfl, RD4.out.drewN m, RO4.out, RU4.out.drewN m⟩
            case measure => simp [intOf]; omega
          all_goals
            go_wp2_with fail
            refine HP2.out.mono ?_
            rintro e w4 ⟨rfl, hr4, hu4⟩
            have hown4 := ownsRow_upd RO.out hu4 HLV.out
            have HQ := Lib.hid (HG2.out w4 hown4)
            have RU4 := Lib.hid (RU.out.trans hu4 (by intro x hx; simp at hx; subst hx; right; omega))
            clear hr4 hu4 hown4 hcell
            go_wp2_with fail
            refine HQ.out.mono ?_
            rintro e w5 ⟨q, rfl, hq, rfl⟩
            go_wp2
            go_ret
            exact ⟨rfl, RU4.out⟩
      · have hend : (decide (i < ks.length) = false) ∨ (decide (i < ks.length) = true ∧ ¬ (i : Int) < 60) := by
          by_cases h1 : i < ks.length
          · right; exact ⟨by simpa using h1, by omega⟩
          · left; simpa using h1
        clear hlt
        rcases hend with hend | ⟨hend, hend2⟩
        all_goals
          go_wp2
          go_ret
          exact ⟨rfl, RU.out⟩
end Go.Proofs.Ytbbbfkcpkcfndaa
