/- The contracts of draw.number, Below, Binomial (layer 11): what coins come to. -/
import Derived.Test.YtcehkflkekefpaaTapeN
import Derived.Test.YtcehkflkekefpaaDrawMath
import Derived.Test.YtcehkflkekefpaaShelf
namespace Go.Proofs.Ytcehkflkekefpaa
open Go.RowKit Go.Proofs.Tm
set_option linter.unusedVariables false
set_option maxRecDepth 20000

/-- What a drawer of numbers leaves: its answer by F, of the coins from i on. -/
def NPost (k : IntKind) (F : List Bool → CameN) (d0 : Bool) (p g : Nat) (l : List Bool) (i : Nat) (w : World) (e : Ending) (w' : World) : Prop :=
  e = .returned (.tuple #[.int k ((F (l.drop i)).1 : Int), .int .i64 (if (F (l.drop i)).2.2 then 8 else 0)]) ∧ Tp w' p g l (i + (F (l.drop i)).2.1) (d0 || (F (l.drop i)).2.2) ∧ Upd [p] w w'

theorem NPost.of {k : IntKind} {F : List Bool → CameN} {p g : Nat} {l : List Bool} {i t x : Nat} {w w' : World} {d0 d : Bool} {f : Int} (hF : F (l.drop i) = (x, t, d)) (hf : f = if d then 8 else 0) (ht : Tp w' p g l (i + t) (d0 || d)) (hu : Upd [p] w w') :
    NPost k F d0 p g l i w (.returned (.tuple #[.int k (x : Int), .int .i64 f])) w' := by
  unfold NPost; rw [hF, hf]; exact ⟨rfl, ht, hu⟩
theorem NPost.out {k : IntKind} {F : List Bool → CameN} {p g : Nat} {l : List Bool} {i : Nat} {w w' : World} {d0 : Bool} {e : Ending} (h : NPost k F d0 p g l i w e w') :
    ∃ (x t : Nat) (d : Bool), F (l.drop i) = (x, t, d) ∧ e = .returned (.tuple #[.int k (x : Int), .int .i64 (if d then 8 else 0)]) ∧ Tp w' p g l (i + t) (d0 || d) ∧ Upd [p] w w' :=
  ⟨_, _, _, rfl, h.1, h.2.1, h.2.2⟩

theorem drop_someN {l : List Bool} {i : Nat} (h : i < l.length) : l.drop i = l.getD i false :: l.drop (i + 1) := by
  rw [List.drop_eq_getElem_cons h]; simp [h]
theorem tflip_isN (p g : Nat) (l : List Bool) (i : Nat) (d x : Bool) (w : World) (h : Tp w p g l i d) (hi : i < l.length) (hx : l.getD i false = x) :
    Calls Try.prog 19 #[.pointer (some ⟨p, 0, none⟩)] w fun e w' => e = .returned (.tuple #[.bool x, .int .i64 0]) ∧ Tp w' p g l (i + 1) false ∧ Upd [p] w w' := by
  subst hx; exact tflip_yes p g l i d w h hi

set_option maxHeartbeats 800000 in
theorem tnum_any (p g : Nat) (l : List Bool) (i K : Nat) (d : Bool) (w : World) (h : Tp w p g l i d) (hK : K ≤ 64) :
    Calls Try.prog 17 #[.pointer (some ⟨p, 0, none⟩), .int .i64 (K : Int)] w (NPost .u64 (numF K 0) d p g l i w) := by
  have H0 := Lib.hid h
  have hle := h.le
  clear h
  go_enter Try.func17, Try.ntmps17
  go_wp2
  go_loopw [6, 10] (fun v6 v10 wr => ∃ j x : Nat, j ≤ K ∧ v6 = .int .u64 x ∧ v10 = .int .i64 j ∧ Hid (Tp wr p g l (i + j) d ∧ Upd [p] w wr ∧ numF K 0 (l.drop i) = CameN.more j (numF (K - j) x (l.drop (i + j))) ∧ x < 2 ^ j)) (fun _ v10 _ => K - (intOf v10).toNat)
  case atStart => exact ⟨0, 0, Nat.zero_le _, rfl, rfl, H0.out, Upd.refl _ _, by simp [moreN_zero], by simp⟩
  case round =>
    obtain ⟨j, x, hj, rfl, rfl, HI⟩ := hrel
    clear H0
    by_cases hlt : j < K
    · have hjk : decide (j < K) = true := by simpa using hlt
      obtain ⟨m, hm⟩ : ∃ m, K - j = m + 1 := ⟨K - j - 1, by omega⟩
      have hm2 : K - (j + 1) = m := by omega
      have HE := HI.out.2.2.1
      rw [hm] at HE
      have HM2 := Lib.hid hm2
      have hx63 : x < 9223372036854775808 := Nat.lt_of_lt_of_le HI.out.2.2.2 (Nat.le_trans (Nat.pow_le_pow_right (by decide) (show j ≤ 63 by omega)) (by decide))
      clear hm hm2
      by_cases hil : i + j < l.length
      · rw [drop_someN hil] at HE
        cases hx : l.getD (i + j) false with
        | true =>
          have HF := Lib.hid (tflip_isN p g l (i + j) d true wr HI.out.1 hil hx)
          rw [hx] at HE
          have HEE := Lib.hid HE
          have hd : d = false := by cases d with
            | false => rfl
            | true => have := HI.out.1.le.2.2 rfl; omega
          have HD := Lib.hid hd
          have hw1 : IntKind.u64.wrap ((x : Int) * 2) = ((2 * x : Nat) : Int) := by rw [IntKind.wrap_u64]; omega
          have hw2 : IntKind.u64.wrap (((2 * x : Nat) : Int) + 1) = ((2 * x + 1 : Nat) : Int) := by rw [IntKind.wrap_u64]; omega
          clear HE hx hd
          go_wp2_with fail
          refine HF.out.mono ?_
          rintro e w2 ⟨rfl, ht, hu⟩
          have HI2 : Hid (Tp w2 p g l (i + (j + 1)) d ∧ Upd [p] w w2 ∧ numF K 0 (l.drop i) = CameN.more (j + 1) (numF (K - (j + 1)) (2 * x + 1) (l.drop (i + (j + 1)))) ∧ 2 * x + 1 < 2 ^ (j + 1)) := by
            refine ⟨by rw [HD.out]; exact ht, HI.out.2.1.trans hu (fun x hx => .inl hx), ?_, by have := HI.out.2.2.2; rw [Nat.pow_succ]; omega⟩
            rw [HEE.out, HM2.out]
            show CameN.more j (CameN.more 1 _) = _
            rw [moreN_more]; rfl
          clear ht hu
          go_wp2
          go_roundw
          case rel => exact ⟨j + 1, 2 * x + 1, by omega, by go_num, by go_num, HI2⟩
          case measure => simp [intOf]; omega
        | false =>
          have HF := Lib.hid (tflip_isN p g l (i + j) d false wr HI.out.1 hil hx)
          rw [hx] at HE
          have HEE := Lib.hid HE
          have hd : d = false := by cases d with
            | false => rfl
            | true => have := HI.out.1.le.2.2 rfl; omega
          have HD := Lib.hid hd
          have hw1 : IntKind.u64.wrap ((x : Int) * 2) = ((2 * x : Nat) : Int) := by rw [IntKind.wrap_u64]; omega
          clear HE hx hd
          go_wp2_with fail
          refine HF.out.mono ?_
          rintro e w2 ⟨rfl, ht, hu⟩
          have HI2 : Hid (Tp w2 p g l (i + (j + 1)) d ∧ Upd [p] w w2 ∧ numF K 0 (l.drop i) = CameN.more (j + 1) (numF (K - (j + 1)) (2 * x) (l.drop (i + (j + 1)))) ∧ 2 * x < 2 ^ (j + 1)) := by
            refine ⟨by rw [HD.out]; exact ht, HI.out.2.1.trans hu (fun x hx => .inl hx), ?_, by have := HI.out.2.2.2; rw [Nat.pow_succ]; omega⟩
            rw [HEE.out, HM2.out]
            show CameN.more j (CameN.more 1 _) = _
            rw [moreN_more]; rfl
          clear ht hu
          go_wp2
          go_roundw
          case rel => exact ⟨j + 1, 2 * x, by omega, by go_num, by go_num, HI2⟩
          case measure => simp [intOf]; omega
      · have hij : i + j = l.length := by have := HI.out.1.le; omega
        rw [List.drop_eq_nil_of_le (by omega : l.length ≤ i + j)] at HE
        have HEE : Hid (numF K 0 (l.drop i) = (0, j, true)) := by show _ = _; rw [HE]; rfl
        have ht0 := HI.out.1
        rw [hij] at ht0
        have HF := Lib.hid (tflip_no p g l d wr ht0)
        have HIJ := Lib.hid hij
        clear HE hij ht0
        go_wp2_with fail
        refine HF.out.mono ?_
        rintro e w2 ⟨rfl, ht, hu⟩
        have HT := Lib.hid ht
        have HU := Lib.hid (HI.out.2.1.trans hu (fun x hx => .inl hx))
        clear ht hu
        go_wp2
        go_ret2
        exact NPost.of (x := 0) HEE.out rfl (by rw [HIJ.out, Bool.or_true]; exact HT.out) HU.out
    · obtain rfl : j = K := by omega
      have hjk : decide (j < j) = false := by simp
      go_wp2
      go_ret2
      refine NPost.of (t := j) (d := false) ?_ rfl (by rw [Bool.or_false]; exact HI.out.1) HI.out.2.1
      rw [HI.out.2.2.1, Nat.sub_self]; simp [numF, CameN.more]
end Go.Proofs.Ytcehkflkekefpaa
