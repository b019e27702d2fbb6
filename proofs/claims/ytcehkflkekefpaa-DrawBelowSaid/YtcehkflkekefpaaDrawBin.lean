/- The contract of draw.Binomial (layer 11). -/
import Derived.Test.YtcehkflkekefpaaDraw
namespace Go.Proofs.Ytcehkflkekefpaa
open Go.RowKit Go.Proofs.Tm
set_option linter.unusedVariables false
set_option maxRecDepth 20000

set_option maxHeartbeats 800000 in
theorem tbin_any (p g : Nat) (l : List Bool) (i : Nat) (y : Int) (d : Bool) (w : World) (h : Tp w p g l i d) (hy : y ≤ 1000000) :
    Calls Try.prog 11 #[.pointer (some ⟨p, 0, none⟩), .int .i64 y] w (NPost .i64 (binF y.toNat 0) d p g l i w) := by
  have H0 := Lib.hid h
  have hle := h.le
  obtain ⟨K, hn⟩ : ∃ n, n = y.toNat := ⟨_, rfl⟩
  rw [← hn]
  clear h
  go_enter Try.func11, Try.ntmps11
  go_wp2
  go_loopw [6, 10] (fun v6 v10 wr => ∃ j x : Nat, j ≤ K ∧ v6 = .int .i64 x ∧ v10 = .int .i64 j ∧ Hid (Tp wr p g l (i + j) d ∧ Upd [p] w wr ∧ binF K 0 (l.drop i) = CameN.more j (binF (K - j) x (l.drop (i + j))) ∧ x ≤ j)) (fun _ v10 _ => K - (intOf v10).toNat)
  case atStart => exact ⟨0, 0, Nat.zero_le _, rfl, rfl, H0.out, Upd.refl _ _, by simp [moreN_zero], by simp⟩
  case round =>
    obtain ⟨j, x, hj, rfl, rfl, HI⟩ := hrel
    clear H0
    by_cases hlt : j < K
    · have hjk : (j : Int) < y := by omega
      obtain ⟨m, hm⟩ : ∃ m, K - j = m + 1 := ⟨K - j - 1, by omega⟩
      have hm2 : K - (j + 1) = m := by omega
      have HE := HI.out.2.2.1
      rw [hm] at HE
      have HM2 := Lib.hid hm2
      have hx63 : x ≤ 1000000 := by have := HI.out.2.2.2; omega
      clear hm hm2
      by_cases hil : i + j < l.length
      · rw [drop_someN hil] at HE
        cases hx : l.getD (i + j) false with
        | true =>
          have HF := Lib.hid (tflip_isN p g l (i + j) d true wr HI.out.1 hil hx)
          rw [hx] at HE
          have HEE := Lib.hid HE
          have hd : d = false := by cases d with
            | false => rfl
            | true => have := HI.out.1.le.2.2 rfl; omega
          have HD := Lib.hid hd
          clear HE hx hd
          go_wp2_with fail
          refine HF.out.mono ?_
          rintro e w2 ⟨rfl, ht, hu⟩
          have HI2 : Hid (Tp w2 p g l (i + (j + 1)) d ∧ Upd [p] w w2 ∧ binF K 0 (l.drop i) = CameN.more (j + 1) (binF (K - (j + 1)) (x + 1) (l.drop (i + (j + 1)))) ∧ x + 1 ≤ j + 1) := by
            refine ⟨by rw [HD.out]; exact ht, HI.out.2.1.trans hu (fun x hx => .inl hx), ?_, by have := HI.out.2.2.2; omega⟩
            rw [HEE.out, HM2.out]
            show CameN.more j (CameN.more 1 _) = _
            rw [moreN_more]; rfl
          clear ht hu
          go_wp2
          go_roundw
          case rel => exact ⟨j + 1, x + 1, by omega, by go_num, by go_num, HI2⟩
          case measure => simp [intOf]; omega
        | false =>
          have HF := Lib.hid (tflip_isN p g l (i + j) d false wr HI.out.1 hil hx)
          rw [hx] at HE
          have HEE := Lib.hid HE
          have hd : d = false := by cases d with
            | false => rfl
            | true => have := HI.out.1.le.2.2 rfl; omega
          have HD := Lib.hid hd
          clear HE hx hd
          go_wp2_with fail
          refine HF.out.mono ?_
          rintro e w2 ⟨rfl, ht, hu⟩
          have HI2 : Hid (Tp w2 p g l (i + (j + 1)) d ∧ Upd [p] w w2 ∧ binF K 0 (l.drop i) = CameN.more (j + 1) (binF (K - (j + 1)) x (l.drop (i + (j + 1)))) ∧ x ≤ j + 1) := by
            refine ⟨by rw [HD.out]; exact ht, HI.out.2.1.trans hu (fun x hx => .inl hx), ?_, by have := HI.out.2.2.2; omega⟩
            rw [HEE.out, HM2.out]
            show CameN.more j (CameN.more 1 _) = _
            rw [moreN_more]; rfl
          clear ht hu
          go_wp2
          go_roundw
          case rel => exact ⟨j + 1, x, by omega, rfl, by go_num, HI2⟩
          case measure => simp [intOf]; omega
      · have hij : i + j = l.length := by have := HI.out.1.le; omega
        rw [List.drop_eq_nil_of_le (by omega : l.length ≤ i + j)] at HE
        have HEE : Hid (binF K 0 (l.drop i) = (0, j, true)) := by show _ = _; rw [HE]; rfl
        have ht0 := HI.out.1
        rw [hij] at ht0
        have HF := Lib.hid (tflip_no p g l d wr ht0)
        have HIJ := Lib.hid hij
        clear HE hij ht0
        go_wp2_with fail
        refine HF.out.mono ?_
        rintro e w2 ⟨rfl, ht, hu⟩
        have HT := Lib.hid ht
        have HU := Lib.hid (HI.out.2.1.trans hu (fun x hx => .inl hx))
        clear ht hu
        go_wp2
        go_ret2
        exact NPost.of (x := 0) HEE.out rfl (by rw [HIJ.out, Bool.or_true]; exact HT.out) HU.out
    · obtain rfl : j = K := by omega
      have hjk : decide ((j : Int) < y) = false := by simp; omega
      go_wp2
      go_ret2
      refine NPost.of (t := j) (d := false) ?_ rfl (by rw [Bool.or_false]; exact HI.out.1) HI.out.2.1
      rw [HI.out.2.2.1, Nat.sub_self]; simp [binF, CameN.more]

end Go.Proofs.Ytcehkflkekefpaa
