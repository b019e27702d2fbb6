/- CrcSums: the sum of bytes is that of a division, bit by bit, however they come: the walk of the law, out of the contracts. -/
import Derived.Test.YtbbbfkcpkcfndaaCrcSeal
import Derived.Deep.DeepCutAuto
namespace Go.Proofs.Ytbbbfkcpkcfndaa
open Go.RowKit Go.Proofs.Tm
set_option linter.unusedVariables false
set_option maxRecDepth 20000

theorem sum_nine : sumL [49, 50, 51, 52, 53, 54, 55, 56, 57] = 3421780262 := by decide +kernel

set_option maxHeartbeats 400000 in
theorem awake4 (w : World) : Calls Try.prog 63 #[] w fun e w' => e = .returned (.bool true) ∧ Upd [] w w' := by
  have hs := sum_any (.slice (some ⟨w.heap.size, 0, none⟩) 9 9) [49, 50, 51, 52, 53, 54, 55, 56, 57] _ (Sl.own (own_lit w 5 #[.int .u8 49, .int .u8 50, .int .u8 51, .int .u8 52, .int .u8 53, .int .u8 54, .int .u8 55, .int .u8 56, .int .u8 57] (by decide))) (by decide)
  rw [sum_nine] at hs
  have HS := Lib.hid hs
  clear hs
  go_enter Try.func63, Try.ntmps63
  go_wp2_with fail
  refine HS.out.mono ?_
  rintro e w1 ⟨rfl, hu⟩
  have HU := Lib.hid hu
  clear hu
  go_wp2
  go_ret
  exact ⟨rfl, ((Upd.refl _ w).alloc _).trans0 HU.out⟩

theorem cu8_take (bs : List Nat) (k : Nat) : cu8 (bs.take k) = (cu8 bs).take k := by simp [cu8, List.map_take]

set_option maxHeartbeats 400000 in
theorem short_any (a : Option Addr) (cap : Nat) (bs : List Nat) (w : World) (h : Sl w (.slice a bs.length cap) (cu8 bs)) :
    Calls Try.prog 64 #[.slice a bs.length cap] w fun e w' => ∃ cs : List Nat, cs.length ≤ 300 ∧ e = .returned (.slice a cs.length cap) ∧ Sl w (.slice a cs.length cap) (cu8 cs) ∧ (∀ b ∈ cs, b ∈ bs) ∧ w = w' := by
  have HS := Lib.hid h
  have hcap : bs.length ≤ cap := by obtain ⟨a, c, h, h2, _⟩ := h; simp at h h2; omega
  have hmx : cap ≤ maxLen := by obtain ⟨a, c, h, h2, h3, _⟩ := h; simp at h; omega
  unfold maxLen at hmx
  clear h
  by_cases hl : 300 < bs.length
  · have HT := Lib.hid (sl_take HS.out 300 (by omega))
    go_enter Try.func64, Try.ntmps64
    go_wp2
    go_ret
    have hlen : (bs.take 300).length = 300 := by simp; omega
    refine ⟨bs.take 300, by omega, by rw [hlen]; rfl, by rw [hlen, cu8_take]; exact HT.out, fun b hb => List.mem_of_mem_take hb, rfl⟩
  · go_enter Try.func64, Try.ntmps64
    go_wp2
    go_ret
    exact ⟨bs, by omega, rfl, HS.out, fun b hb => hb, rfl⟩

theorem more_sum (a b : List Nat) (ha : ∀ x ∈ a, x < 256) : 4294967295 - crcL (4294967295 - sumL a) b = sumL (a ++ b) := by
  have h := crcL_lt 4294967295 a (by decide) ha
  unfold sumL
  rw [crcL_append, show 4294967295 - (4294967295 - crcL 4294967295 a) = crcL 4294967295 a by omega]

set_option maxHeartbeats 1600000 in
theorem crcSums_law (a0 : Option Addr) (cap0 : Nat) (xs : List Nat) (a1 : Option Addr) (cap1 : Nat) (bs : List Nat) (w : World) (hA : Sl w (.slice a0 xs.length cap0) (cu8 xs)) (ha : ∀ b ∈ xs, b < 256)
    (hB : Sl w (.slice a1 bs.length cap1) (cu8 bs)) (hb : ∀ b ∈ bs, b < 256) :
    Calls Try.prog 13 #[.slice a0 xs.length cap0, .slice a1 bs.length cap1] w fun e w' => e = .returned (.bool true) ∧ Upd [] w w' := by
  have HA := Lib.hid hA
  have HAB := Lib.hid ha
  have HB := Lib.hid hB
  have HBB := Lib.hid hb
  clear hA ha hB hb
  go_enter Try.func13, Try.ntmps13
  go_wp2_with fail
  refine (awake4 w).mono ?_
  rintro e w1 ⟨rfl, hu1⟩
  have HS1 := Lib.hid (short_any a0 cap0 xs w1 (HA.out.upd0 hu1))
  have HS2 := Lib.hid (short_any a1 cap1 bs w1 (HB.out.upd0 hu1))
  have HU1 := Lib.hid hu1
  clear hu1
  go_wp2_with fail
  refine HS1.out.mono ?_
  rintro e w2 ⟨xs', hl1, rfl, hs1, hm1, rfl⟩
  have HM1 := Lib.hid (fun b hb => HAB.out b (hm1 b hb))
  have HSA := Lib.hid hs1
  clear hm1 hs1
  go_wp2_with fail
  refine HS2.out.mono ?_
  rintro e w2 ⟨bs', hl2, rfl, hs2, hm2, rfl⟩
  have HM2 := Lib.hid (fun b hb => HBB.out b (hm2 b hb))
  have HSB := Lib.hid hs2
  clear hm2 hs2
  go_wp2_with (at_builtin; refine wpList_append_sl _ rfl (.tmp 12) (.tmp 13) 24 rfl w1.heap.size 5 (.int .u8 0) 1 Try.underlying24 infoU8 rfl _ _ _ rfl (own_lit w1 5 #[] (by decide)) _ (cu8 xs') rfl (HSA.out.upd0 ((Upd.refl _ _).alloc _)) (cu8_one _) ?c2 ?c3 ?c4 ?go)
  case c2 => unfold maxLen; simp; omega
  case c3 => simp; omega
  case c4 => simp
  case go =>
    intro v2 w2 ho hg _
    have HO2 : Hid (w2.ownsRow w1.heap.size 5 1 v2 xs'.length (cu8 xs')) := by show World.ownsRow _ _ _ _ _ _ _; simpa using ho
    have HU2 : Hid (Upd [] w1 w2) := ((Upd.refl _ _).alloc _).grown hg (fun k hk => .inr (by simp [Value.ownBlock] at hk; omega))
    clear ho hg
    go_wp2_with (at_builtin; refine wpList_append_sl _ rfl (.tmp 14) (.tmp 15) 24 rfl w1.heap.size 5 (.int .u8 0) 1 Try.underlying24 infoU8 rfl _ _ _ rfl HO2.out _ (cu8 bs') rfl (HSB.out.upd0 HU2.out) (cu8_one _) ?d2 ?d3 ?d4 ?go2)
    case d2 => unfold maxLen; simp; omega
    case d3 => simp; omega
    case d4 => exact HU2.out.size
    case go2 =>
      intro v3 w3 ho hg _
      have HO3 : Hid (Sl w3 v3 (cu8 (xs' ++ bs'))) := by rw [cu8_append]; exact Sl.own ho
      have HU3 : Hid (Upd [] w1 w3) := HU2.out.grown hg (fun k hk => .inr (HO2.out.lt k hk).1)
      clear ho hg
      go_wp2_with fail
      refine (sum_any _ xs' w3 (HSA.out.upd0 HU3.out) HM1.out).mono ?_
      rintro e w4 ⟨rfl, hu4⟩
      have HU4 := Lib.hid (HU3.out.trans0 hu4)
      have HO4 := Lib.hid (HO3.out.upd0 hu4)
      clear hu4
      go_wp2_with fail
      refine (rsum_any _ xs' w4 (HSA.out.upd0 HU4.out) HM1.out).mono ?_
      rintro e w5 ⟨rfl, rfl⟩
      go_wp2_with fail
      refine (sum_any _ xs' w4 (HSA.out.upd0 HU4.out) HM1.out).mono ?_
      rintro e w5 ⟨rfl, hu5⟩
      have HU5 := Lib.hid (HU4.out.trans0 hu5)
      have HO5 := Lib.hid (HO4.out.upd0 hu5)
      have hm := more_any (sumL xs') _ bs' w5 (sumL_lt _) (HSB.out.upd0 HU5.out) HM2.out
      rw [more_sum xs' bs' HM1.out] at hm
      have HMM := Lib.hid hm
      clear hu5 hm
      go_wp2_with fail
      refine HMM.out.mono ?_
      rintro e w6 ⟨rfl, hu6⟩
      have HU6 := Lib.hid (HU5.out.trans0 hu6)
      have HO6 := Lib.hid (HO5.out.upd0 hu6)
      clear hu6
      go_wp2_with fail
      refine (rsum_any _ (xs' ++ bs') w6 HO6.out (by intro b hb; rcases List.mem_append.1 hb with h | h; exact HM1.out b h; exact HM2.out b h)).mono ?_
      rintro e w7 ⟨rfl, rfl⟩
      go_wp2
      go_ret
      exact ⟨rfl, HU1.out.trans0 HU6.out⟩
end Go.Proofs.Ytbbbfkcpkcfndaa
