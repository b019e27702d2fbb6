/- Plain mathematics: what coins come to hangs on just those that were taken. -/
import Derived.Test.YtibfdldllaopdaaFlipMath
namespace Go.Proofs.Tm
set_option linter.unusedVariables false
set_option maxRecDepth 20000

/-- What F comes to hangs on just the coins that it takes. -/
structure Pre (F : List Bool → Came) : Prop where
  yes : ∀ cs, (F cs).1 = true → (F cs).2.2 = false
  all : ∀ cs, (F cs).2.2 = true → (F cs).2.1 = cs.length
  le : ∀ cs, (F cs).2.1 ≤ cs.length
  same : ∀ cs m, (F cs).2.2 = false → F (cs.take (F cs).2.1 ++ m) = F cs
  less : ∀ cs n, (F cs).2.2 = false → n < (F cs).2.1 → (F (cs.take n)).2.2 = true

theorem Pre.const (b : Bool) : Pre (fun _ => (b, 0, false)) :=
  ⟨fun _ _ => rfl, fun _ h => by simp at h, fun _ => by simp, fun _ _ _ => rfl, fun _ n _ h => by simp at h⟩

theorem Pre.dig (q : Nat) : ∀ r, Pre (digF q r) := by
  have key : ∀ (cs : List Bool) (r : Nat), ((digF q r cs).1 = true → (digF q r cs).2.2 = false) ∧ ((digF q r cs).2.2 = true → (digF q r cs).2.1 = cs.length) ∧ (digF q r cs).2.1 ≤ cs.length ∧
      (∀ m, (digF q r cs).2.2 = false → digF q r (cs.take (digF q r cs).2.1 ++ m) = digF q r cs) ∧ (∀ n, (digF q r cs).2.2 = false → n < (digF q r cs).2.1 → (digF q r (cs.take n)).2.2 = true) := by
    intro cs
    induction cs with
    | nil => intro r; simp [digF]
    | cons c cs ih =>
      intro r
      by_cases hc : c = decide (q ≤ 2 * r)
      · by_cases h0 : restF r q = 0
        · have e : ∀ m, digF q r (c :: m) = (false, 1, false) := fun m => by rw [digF, if_pos hc, if_pos h0]
          rw [e]
          refine ⟨by simp, by simp, by simp, fun m _ => by simp [e], fun n _ hn => ?_⟩
          simp only [Nat.lt_one_iff] at hn
          subst hn; rfl
        · have e : ∀ m, digF q r (c :: m) = Came.more 1 (digF q (restF r q) m) := fun m => by rw [digF, if_pos hc, if_neg h0]
          obtain ⟨i1, i2, i3, i4, i5⟩ := ih (restF r q)
          rw [e]
          simp only [Came.more]
          refine ⟨i1, fun h => by rw [i2 h]; simp [Nat.add_comm], by simp; omega, fun m h => ?_, fun n h hn => ?_⟩
          · rw [Nat.add_comm 1, List.take_succ_cons, List.cons_append, e, i4 m h]; simp [Came.more, Nat.add_comm]
          · cases n with
            | zero => rfl
            | succ n => rw [List.take_succ_cons, e]; exact i5 n h (by omega)
      · have e : ∀ m, digF q r (c :: m) = (decide (q ≤ 2 * r), 1, false) := fun m => by rw [digF, if_neg hc]
        rw [e]
        refine ⟨by simp, by simp, by simp, fun m _ => by simp [e], fun n _ hn => ?_⟩
        simp only [Nat.lt_one_iff] at hn
        subst hn; rfl
  intro r
  exact ⟨fun cs => (key cs r).1, fun cs => (key cs r).2.1, fun cs => (key cs r).2.2.1, fun cs m h => (key cs r).2.2.2.1 m h, fun cs n h hn => (key cs r).2.2.2.2 n h hn⟩

theorem Pre.ratio (p q : Nat) : Pre (ratioF p q) := by
  by_cases h0 : p = 0
  · have e : ratioF p q = fun _ => (false, 0, false) := by funext cs; rw [ratioF, if_pos h0]
    rw [e]; exact Pre.const _
  · by_cases h1 : p = q
    · have e : ratioF p q = fun _ => (true, 0, false) := by funext cs; rw [ratioF, if_neg h0, if_pos h1]
      rw [e]; exact Pre.const _
    · have e : ratioF p q = digF q p := by funext cs; rw [ratioF, if_neg h0, if_neg h1]
      rw [e]; exact Pre.dig q p

theorem Pre.then {F G : List Bool → Came} (hF : Pre F) (hG : Pre G) : Pre (fun cs => thenF (F cs) G cs) := by
  have hy : ∀ cs, (F cs).1 = true → thenF (F cs) G cs = Came.more (F cs).2.1 (G (cs.drop (F cs).2.1)) := fun cs h => by unfold thenF; rw [if_pos h]
  have hn : ∀ cs, (F cs).1 = false → thenF (F cs) G cs = F cs := fun cs h => by unfold thenF; rw [if_neg (by simp [h])]
  refine ⟨fun cs => ?_, fun cs => ?_, fun cs => ?_, fun cs m => ?_, fun cs n => ?_⟩
  · cases h : (F cs).1 with
    | false => simp only [hn cs h]; exact hF.yes cs
    | true => simp only [hy cs h]; exact hG.yes _
  · cases h : (F cs).1 with
    | false => simp only [hn cs h]; exact hF.all cs
    | true =>
      simp only [hy cs h, Came.more]
      intro hd
      have := hG.all _ hd
      have h1 := hF.le cs
      rw [this, List.length_drop]
      omega
  · cases h : (F cs).1 with
    | false => simp only [hn cs h]; exact hF.le cs
    | true =>
      simp only [hy cs h, Came.more]
      have := hG.le (cs.drop (F cs).2.1)
      have h1 := hF.le cs
      rw [List.length_drop] at this
      omega
  · cases h : (F cs).1 with
    | false =>
      simp only [hn cs h]
      intro hd
      have := hF.same cs m hd
      rw [hn _ (by rw [this]; exact h)]; exact this
    | true =>
      simp only [hy cs h, Came.more]
      intro hd
      have h1 := hF.le cs
      have hd1 := hF.yes cs h
      have h2 := hG.le (cs.drop (F cs).2.1)
      generalize hk : (F cs).2.1 = k at *
      generalize hj : (G (cs.drop k)).2.1 = j at *
      have e1 : cs.take (k + j) ++ m = cs.take k ++ ((cs.drop k).take j ++ m) := by
        rw [List.take_add, List.append_assoc]
      have e2 := hF.same cs ((cs.drop k).take j ++ m) hd1
      rw [hk] at e2
      have e3 : (cs.take k ++ ((cs.drop k).take j ++ m)).drop k = (cs.drop k).take j ++ m := by
        have : (cs.take k).length = k := by simp; omega
        rw [List.drop_append_of_le_length (by omega), List.drop_eq_nil_of_le (by omega), List.nil_append]
      have e4 := hG.same (cs.drop k) m hd
      rw [hj] at e4
      rw [e1, e2]
      unfold thenF Came.more
      rw [if_pos h, hk, e3, e4, hj]
  · cases h : (F cs).1 with
    | false =>
      simp only [hn cs h]
      intro hd hlt
      have := hF.less cs n hd hlt
      have h0 : (F (cs.take n)).1 = false := by
        cases hh : (F (cs.take n)).1 with
        | false => rfl
        | true => have := hF.yes _ hh; simp_all
      rw [hn _ h0]; exact this
    | true =>
      simp only [hy cs h, Came.more]
      intro hd hlt
      have h1 := hF.le cs
      have hd1 := hF.yes cs h
      by_cases hnk : n < (F cs).2.1
      · have := hF.less cs n hd1 hnk
        have h0 : (F (cs.take n)).1 = false := by
          cases hh : (F (cs.take n)).1 with
          | false => rfl
          | true => have := hF.yes _ hh; simp_all
        rw [hn _ h0]; exact this
      · generalize hk : (F cs).2.1 = k at *
        obtain ⟨j, rfl⟩ : ∃ j, n = k + j := ⟨n - k, by omega⟩
        have e2 := hF.same cs ((cs.drop k).take j) hd1
        rw [hk] at e2
        have e1 : cs.take (k + j) = cs.take k ++ (cs.drop k).take j := List.take_add
        have e3 : (cs.take k ++ (cs.drop k).take j).drop k = (cs.drop k).take j := by
          have : (cs.take k).length = k := by simp; omega
          rw [List.drop_append_of_le_length (by omega), List.drop_eq_nil_of_le (by omega), List.nil_append]
        rw [e1, e2]
        unfold thenF Came.more
        rw [if_pos h, hk, e3]
        exact hG.less _ j hd (by omega)

theorem Pre.pow (p q : Nat) : ∀ k, Pre (powF p q k) := by
  intro k
  induction k with
  | zero => exact Pre.const true
  | succ k ih => exact (Pre.ratio p q).then ih

/-- One coin. -/
def oneF : List Bool → Came
  | [] => (false, 0, true)
  | c :: _ => (c, 1, false)
theorem Pre.one : Pre oneF := by
  refine ⟨fun cs => ?_, fun cs => ?_, fun cs => ?_, fun cs m => ?_, fun cs n => ?_⟩
  all_goals cases cs <;> simp [oneF]
  intro h; subst h; rfl
theorem Pre.half : ∀ k, Pre (halfF k) := by
  have e1 : ∀ k, halfF (k + 1) = fun cs => thenF (oneF cs) (halfF k) cs := by
    intro k
    funext cs
    cases cs with
    | nil => simp [halfF, oneF, thenF]
    | cons c cs => cases c <;> simp [halfF, oneF, thenF]
  intro k
  induction k with
  | zero => exact Pre.const true
  | succ k ih => rw [e1]; exact Pre.one.then ih

end Go.Proofs.Tm
