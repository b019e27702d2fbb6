/- The contract of flip.Half (layer 10): what coins come to. -/
import Derived.Test.YtibfdldllaopdaaTapeN
import Derived.Test.YtibfdldllaopdaaFlipPre
namespace Go.Proofs.Ytibfdldllaopdaa
open Go.RowKit Go.Proofs.Tm
set_option linter.unusedVariables false
set_option maxRecDepth 20000

/-- What an asker of coins leaves: its answer by F, of the coins from i on; S: what else may have turned. -/
def FPost (F : List Bool → Came) (p g : Nat) (l : List Bool) (i : Nat) (w : World) (e : Ending) (w' : World) : Prop :=
  e = .returned (.tuple #[.bool (F (l.drop i)).1, .int .i64 (if (F (l.drop i)).2.2 then 8 else 0)]) ∧ Tp w' p g l (i + (F (l.drop i)).2.1) (F (l.drop i)).2.2 ∧ Upd [p] w w'

theorem drop_some {l : List Bool} {i : Nat} (h : i < l.length) : l.drop i = l.getD i false :: l.drop (i + 1) := by
  rw [List.drop_eq_getElem_cons h]; simp [h]

/-- Flip, the coin named. -/
theorem tflip_is (p g : Nat) (l : List Bool) (i : Nat) (d x : Bool) (w : World) (h : Tp w p g l i d) (hi : i < l.length) (hx : l.getD i false = x) :
    Calls Try.prog 15 #[.pointer (some ⟨p, 0, none⟩)] w fun e w' => e = .returned (.tuple #[.bool x, .int .i64 0]) ∧ Tp w' p g l (i + 1) false ∧ Upd [p] w w' := by
  subst hx; exact tflip_yes p g l i d w h hi

theorem more_more (a b : Nat) (o : Came) : Came.more a (Came.more b o) = Came.more (a + b) o := by simp [Came.more, Nat.add_assoc]

/-- The end of an asker of coins. -/
theorem FPost.of {F : List Bool → Came} {p g : Nat} {l : List Bool} {i k : Nat} {w w' : World} {x d : Bool} {f : Int} (hF : F (l.drop i) = (x, k, d)) (hf : f = if d then 8 else 0) (ht : Tp w' p g l (i + k) d) (hu : Upd [p] w w') :
    FPost F p g l i w (.returned (.tuple #[.bool x, .int .i64 f])) w' := by
  unfold FPost; rw [hF, hf]; exact ⟨rfl, ht, hu⟩

set_option maxHeartbeats 800000 in
theorem half_any (p g : Nat) (l : List Bool) (i : Nat) (k : Int) (w : World) (h : Tp w p g l i false) (hk : k ≤ 1000000) :
    Calls Try.prog 25 #[.pointer (some ⟨p, 0, none⟩), .int .i64 k] w (FPost (halfF k.toNat) p g l i w) := by
  have H0 := Lib.hid h
  have hle := h.le
  obtain ⟨n, hn⟩ : ∃ n, n = k.toNat := ⟨_, rfl⟩
  rw [← hn]
  clear h
  go_enter Try.func25, Try.ntmps25
  go_wp2
  go_loopw [9] (fun v9 wr => ∃ j : Nat, j ≤ n ∧ v9 = .int .i64 j ∧ Hid (Tp wr p g l (i + j) false ∧ Upd [p] w wr ∧ halfF n (l.drop i) = Came.more j (halfF (n - j) (l.drop (i + j))))) (fun v9 _ => n - (intOf v9).toNat)
  case atStart => exact ⟨0, Nat.zero_le _, rfl, H0.out, Upd.refl _ _, by simp [Came.more]⟩
  case round =>
    obtain ⟨j, hj, rfl, HI⟩ := hrel
    clear H0
    by_cases hlt : j < n
    · have hjk : (j : Int) < k := by omega
      obtain ⟨m, hm⟩ : ∃ m, n - j = m + 1 := ⟨n - j - 1, by omega⟩
      have hm2 : n - (j + 1) = m := by omega
      have HE := HI.out.2.2
      rw [hm] at HE
      have HM2 := Lib.hid hm2
      clear hm hm2
      by_cases hil : i + j < l.length
      · rw [drop_some hil] at HE
        cases hx : l.getD (i + j) false with
        | true =>
          have HF := Lib.hid (tflip_is p g l (i + j) false true wr HI.out.1 hil hx)
          rw [hx] at HE
          have HEE := Lib.hid HE
          clear HE hx
          go_wp2_with fail
          refine HF.out.mono ?_
          rintro e w2 ⟨rfl, ht, hu⟩
          have HI2 : Hid (Tp w2 p g l (i + (j + 1)) false ∧ Upd [p] w w2 ∧ halfF n (l.drop i) = Came.more (j + 1) (halfF (n - (j + 1)) (l.drop (i + (j + 1))))) := by
            refine ⟨ht, HI.out.2.1.trans hu (fun x hx => .inl hx), ?_⟩
            rw [HEE.out, HM2.out]
            show Came.more j (Came.more 1 _) = _
            rw [more_more]; rfl
          clear ht hu
          go_wp2
          go_roundw
          case rel => exact ⟨j + 1, by omega, by go_num, HI2⟩
          case measure => simp [intOf]; omega
        | false =>
          have HF := Lib.hid (tflip_is p g l (i + j) false false wr HI.out.1 hil hx)
          rw [hx] at HE
          have HEE : Hid (halfF n (l.drop i) = (false, j + 1, false)) := by show _ = _; rw [HE]; rfl
          clear HE hx
          go_wp2_with fail
          refine HF.out.mono ?_
          rintro e w2 ⟨rfl, ht, hu⟩
          have HT := Lib.hid ht
          have HU := Lib.hid (HI.out.2.1.trans hu (fun x hx => .inl hx))
          clear ht hu
          go_wp2
          go_ret2
          exact FPost.of HEE.out rfl HT.out HU.out
      · have hij : i + j = l.length := by have := HI.out.1.le; omega
        rw [List.drop_eq_nil_of_le (by omega : l.length ≤ i + j)] at HE
        have HEE : Hid (halfF n (l.drop i) = (false, j, true)) := by show _ = _; rw [HE]; rfl
        have ht0 := HI.out.1
        rw [hij] at ht0
        have HF := Lib.hid (tflip_no p g l false wr ht0)
        have HIJ := Lib.hid hij
        clear HE hij ht0
        go_wp2_with fail
        refine HF.out.mono ?_
        rintro e w2 ⟨rfl, ht, hu⟩
        have HT := Lib.hid ht
        have HU := Lib.hid (HI.out.2.1.trans hu (fun x hx => .inl hx))
        clear ht hu
        go_wp2
        go_ret2
        exact FPost.of HEE.out rfl (by rw [HIJ.out]; exact HT.out) HU.out
    · obtain rfl : j = n := by omega
      have hjk : decide ((j : Int) < k) = false := by simp; omega
      go_wp2
      go_ret2
      refine FPost.of (k := j) (d := false) ?_ rfl HI.out.1 HI.out.2.1
      rw [HI.out.2.2, Nat.sub_self]; simp [halfF, Came.more]
end Go.Proofs.Ytibfdldllaopdaa
