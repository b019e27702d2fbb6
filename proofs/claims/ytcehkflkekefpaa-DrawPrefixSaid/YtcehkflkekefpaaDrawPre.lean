/- Plain mathematics: what drawn numbers come to hangs on just the coins that were taken. -/
import Derived.Test.YtcehkflkekefpaaDrawMath
namespace Go.Proofs.Tm
set_option linter.unusedVariables false
set_option maxRecDepth 20000

/-- What F comes to hangs on just the coins that it takes. -/
structure PreN (F : List Bool → CameN) : Prop where
  all : ∀ cs, (F cs).2.2 = true → (F cs).2.1 = cs.length
  le : ∀ cs, (F cs).2.1 ≤ cs.length
  same : ∀ cs m, (F cs).2.2 = false → F (cs.take (F cs).2.1 ++ m) = F cs
  less : ∀ cs n, (F cs).2.2 = false → n < (F cs).2.1 → (F (cs.take n)).2.2 = true

theorem PreN.const (v : Nat) : PreN (fun _ => (v, 0, false)) :=
  ⟨fun _ h => by simp at h, fun _ => by simp, fun _ _ _ => rfl, fun _ n _ h => by simp at h⟩

/-- All of it at one list of coins. -/
def PreAt (F : List Bool → CameN) (cs : List Bool) : Prop :=
  ((F cs).2.2 = true → (F cs).2.1 = cs.length) ∧ (F cs).2.1 ≤ cs.length ∧ (∀ m, (F cs).2.2 = false → F (cs.take (F cs).2.1 ++ m) = F cs) ∧ (∀ n, (F cs).2.2 = false → n < (F cs).2.1 → (F (cs.take n)).2.2 = true)
theorem PreN.of {F : List Bool → CameN} (h : ∀ cs, PreAt F cs) : PreN F := ⟨fun cs => (h cs).1, fun cs => (h cs).2.1, fun cs m hd => (h cs).2.2.1 m hd, fun cs n hd hn => (h cs).2.2.2 n hd hn⟩

theorem PreAt.nil {F : List Bool → CameN} (h : F [] = (0, 0, true)) : PreAt F [] := by
  unfold PreAt; rw [h]; simp
theorem PreAt.more {F G : List Bool → CameN} {c : Bool} {cs : List Bool} (h0 : F [] = (0, 0, true)) (e : ∀ m, F (c :: m) = CameN.more 1 (G m)) (h : PreAt G cs) : PreAt F (c :: cs) := by
  obtain ⟨i2, i3, i4, i5⟩ := h
  unfold PreAt
  rw [e]
  simp only [CameN.more]
  refine ⟨fun h => by rw [i2 h]; simp [Nat.add_comm], by simp; omega, fun m h => ?_, fun n h hn => ?_⟩
  · rw [Nat.add_comm 1, List.take_succ_cons, List.cons_append, e, i4 m h]; simp [CameN.more, Nat.add_comm]
  · cases n with
    | zero => rw [List.take_zero, h0]
    | succ n => rw [List.take_succ_cons, e]; exact i5 n h (by omega)
theorem PreAt.end {F : List Bool → CameN} {c : Bool} {cs : List Bool} {v : Nat} (h0 : F [] = (0, 0, true)) (e : ∀ m, F (c :: m) = (v, 1, false)) : PreAt F (c :: cs) := by
  unfold PreAt
  rw [e]
  refine ⟨by simp, by simp, fun m _ => by simp [e], fun n _ hn => ?_⟩
  simp only [Nat.lt_one_iff] at hn
  subst hn
  rw [List.take_zero, h0]

theorem PreN.bel (n w : Nat) : ∀ k x, PreN (belF n w k x) := by
  have key : ∀ (cs : List Bool) (k x : Nat), PreAt (belF n w k x) cs := by
    intro cs
    induction cs with
    | nil => intro k x; exact PreAt.nil rfl
    | cons c cs ih =>
      intro k x
      by_cases hk : k ≤ 1
      · by_cases hx : 2 * x + c.toNat < n
        · exact PreAt.end rfl (fun m => by rw [belF, if_pos hk, if_pos hx])
        · exact PreAt.more rfl (fun m => by rw [belF, if_pos hk, if_neg hx]) (ih w 0)
      · exact PreAt.more rfl (fun m => by rw [belF, if_neg hk]) (ih (k - 1) (2 * x + c.toNat))
  exact fun k x => PreN.of (fun cs => key cs k x)
theorem PreN.below (n w : Nat) : PreN (belowF n w) := by
  by_cases h : w = 0
  · have e : belowF n w = fun _ => (0, 0, false) := by funext l; unfold belowF; rw [if_pos h]
    rw [e]; exact PreN.const 0
  · have e : belowF n w = belF n w w 0 := by funext l; unfold belowF; rw [if_neg h]
    rw [e]; exact PreN.bel n w w 0
theorem PreN.bin : ∀ y c, PreN (binF y c) := by
  have key : ∀ (cs : List Bool) (y c : Nat), PreAt (binF y c) cs := by
    intro cs
    induction cs with
    | nil =>
      intro y c
      cases y with
      | zero => simp [PreAt, binF]
      | succ y => exact PreAt.nil rfl
    | cons b cs ih =>
      intro y c
      cases y with
      | zero => simp [PreAt, binF]
      | succ y => exact PreAt.more rfl (fun m => rfl) (ih y (c + b.toNat))
  exact fun y c => PreN.of (fun cs => key cs y c)

/-- First one number, and then another one; f of both. -/
def seqN (f : Nat → Nat → Nat) (F G : List Bool → CameN) (cs : List Bool) : CameN :=
  if (F cs).2.2 then F cs else (f (F cs).1 (G (cs.drop (F cs).2.1)).1, (F cs).2.1 + (G (cs.drop (F cs).2.1)).2.1, (G (cs.drop (F cs).2.1)).2.2)

theorem PreN.seq (f : Nat → Nat → Nat) {F G : List Bool → CameN} (hF : PreN F) (hG : PreN G) : PreN (seqN f F G) := by
  have hn : ∀ cs, (F cs).2.2 = true → seqN f F G cs = F cs := fun cs h => by unfold seqN; rw [if_pos h]
  have hy : ∀ cs, (F cs).2.2 = false → seqN f F G cs = (f (F cs).1 (G (cs.drop (F cs).2.1)).1, (F cs).2.1 + (G (cs.drop (F cs).2.1)).2.1, (G (cs.drop (F cs).2.1)).2.2) := fun cs h => by unfold seqN; rw [if_neg (by simp [h])]
  refine ⟨fun cs => ?_, fun cs => ?_, fun cs m => ?_, fun cs n => ?_⟩
  · cases h : (F cs).2.2 with
    | true => simp only [hn cs h]; intro _; exact hF.all cs h
    | false =>
      simp only [hy cs h]
      intro hd
      have := hG.all _ hd
      have h1 := hF.le cs
      rw [this, List.length_drop]
      omega
  · cases h : (F cs).2.2 with
    | true => simp only [hn cs h]; exact hF.le cs
    | false =>
      simp only [hy cs h]
      have := hG.le (cs.drop (F cs).2.1)
      have h1 := hF.le cs
      rw [List.length_drop] at this
      omega
  · cases h : (F cs).2.2 with
    | true => simp only [hn cs h, h]; intro hd; simp at hd
    | false =>
      simp only [hy cs h]
      intro hd
      have h1 := hF.le cs
      have h2 := hG.le (cs.drop (F cs).2.1)
      generalize hk : (F cs).2.1 = k at *
      generalize hj : (G (cs.drop k)).2.1 = j at *
      have e1 : cs.take (k + j) ++ m = cs.take k ++ ((cs.drop k).take j ++ m) := by
        rw [List.take_add, List.append_assoc]
      have e2 := hF.same cs ((cs.drop k).take j ++ m) h
      rw [hk] at e2
      have e3 : (cs.take k ++ ((cs.drop k).take j ++ m)).drop k = (cs.drop k).take j ++ m := by
        have : (cs.take k).length = k := by simp; omega
        rw [List.drop_append_of_le_length (by omega), List.drop_eq_nil_of_le (by omega), List.nil_append]
      have e4 := hG.same (cs.drop k) m hd
      rw [hj] at e4
      rw [e1, hy _ (by rw [e2]; exact h), e2, hk, e3, e4, hj]
  · cases h : (F cs).2.2 with
    | true => simp only [hn cs h, h]; intro hd; simp at hd
    | false =>
      simp only [hy cs h]
      intro hd hlt
      have h1 := hF.le cs
      by_cases hnk : n < (F cs).2.1
      · have := hF.less cs n h hnk
        rw [hn _ this]; exact this
      · generalize hk : (F cs).2.1 = k at *
        obtain ⟨j, rfl⟩ : ∃ j, n = k + j := ⟨n - k, by omega⟩
        have e2 := hF.same cs ((cs.drop k).take j) h
        rw [hk] at e2
        have e1 : cs.take (k + j) = cs.take k ++ (cs.drop k).take j := List.take_add
        have e3 : (cs.take k ++ (cs.drop k).take j).drop k = (cs.drop k).take j := by
          have : (cs.take k).length = k := by simp; omega
          rw [List.drop_append_of_le_length (by omega), List.drop_eq_nil_of_le (by omega), List.nil_append]
        rw [e1, hy _ (by rw [e2]; exact h), e2, hk, e3]
        exact hG.less _ j hd (by omega)
end Go.Proofs.Tm
