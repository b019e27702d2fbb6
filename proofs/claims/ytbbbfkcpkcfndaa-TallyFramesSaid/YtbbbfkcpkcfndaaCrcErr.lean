/- What is sealed, one byte another one: it isn't what would be sealed. -/
import Derived.Test.YtbbbfkcpkcfndaaCrcSeal
namespace Go.Proofs.Ytbbbfkcpkcfndaa
open Go.RowKit Go.Proofs.Tm
set_option linter.unusedVariables false
set_option maxRecDepth 20000

theorem sealL_inj_sum (l m : List Nat) (h : l.length = m.length) (he : sealL l = sealL m) : l = m := (List.append_inj he h).1

/-- Of a list with one byte another one: what is sealed is another one at the sum. -/
theorem crcL_set (c : Nat) (l : List Nat) (i y : Nat) (hc : c < 4294967296) (hl : ∀ b ∈ l, b < 256) (hi : i < l.length) (hy : y < 256) (h : crcL c (l.set i y) = crcL c l) : y = l[i] := by
  induction l generalizing c i with
  | nil => simp at hi
  | cons x l ih =>
    cases i with
    | zero =>
      simp only [List.getElem_cons_zero]
      have h1 := crcL_inj (crcF c y) (crcF c x) l (crcF_lt c y hc hy) (crcF_lt c x hc (hl x (by simp))) (fun b hb => hl b (by simp [hb])) h
      have hx : x < 256 := hl x (by simp)
      have h2 := stpN_inj 8 _ _ (Nat.xor_lt_two_pow (n := 32) hc (by omega)) (Nat.xor_lt_two_pow (n := 32) hc (by omega)) h1
      have := congrArg (c ^^^ ·) h2
      simpa [← Nat.xor_assoc] using this
    | succ i =>
      simp only [List.getElem_cons_succ]
      exact ih (crcF c x) i (crcF_lt c x hc (hl x (by simp))) (fun b hb => hl b (by simp [hb])) (by simpa using hi) h

theorem sumL_eq (l m : List Nat) (hl : ∀ b ∈ l, b < 256) (hm : ∀ b ∈ m, b < 256) (h : sumL l = sumL m) : crcL 4294967295 l = crcL 4294967295 m := by
  have h1 := crcL_lt 4294967295 l (by decide) hl
  have h2 := crcL_lt 4294967295 m (by decide) hm
  unfold sumL at h; omega

theorem sum_of_bytes (l m : List Nat) (h : [sumL l / 16777216, sumL l / 65536 % 256, sumL l / 256 % 256, sumL l % 256] = [sumL m / 16777216, sumL m / 65536 % 256, sumL m / 256 % 256, sumL m % 256]) : sumL l = sumL m := by
  have := sumL_lt l; have := sumL_lt m
  simp only [List.cons.injEq, and_true] at h
  omega

/-- One byte of what is sealed another one: it isn't what would be sealed. -/
theorem seal_one (l : List Nat) (i y : Nat) (hl : ∀ b ∈ l, b < 256) (hi : i < l.length + 4) (hy : y < 256) (hne : (sealL l)[i]? ≠ some y) :
    sealL (((sealL l).set i y).take l.length) ≠ (sealL l).set i y := by
  intro h
  rcases Nat.lt_or_ge i l.length with hil | hil
  · have e : (sealL l).set i y = (l.set i y) ++ [sumL l / 16777216, sumL l / 65536 % 256, sumL l / 256 % 256, sumL l % 256] := by
      unfold sealL; rw [List.set_append_left _ _ hil]
    rw [e, List.take_left' (by simp)] at h
    have h1 := (List.append_inj (s₁ := l.set i y) (s₂ := l.set i y) h rfl).2
    have h2 := sum_of_bytes _ _ h1
    have h3 := sumL_eq _ _ (by
      intro b hb
      rcases List.mem_or_eq_of_mem_set hb with hb | rfl
      · exact hl b hb
      · exact hy) hl h2
    have h4 := crcL_set 4294967295 l i y (by decide) hl hil hy h3
    apply hne
    unfold sealL
    rw [List.getElem?_append_left hil, List.getElem?_eq_getElem hil, h4]
  · have e : (sealL l).set i y = l ++ [sumL l / 16777216, sumL l / 65536 % 256, sumL l / 256 % 256, sumL l % 256].set (i - l.length) y := by
      unfold sealL; rw [List.set_append_right _ _ hil]
    rw [e, List.take_left' rfl] at h
    have h1 := (List.append_inj (s₁ := l) (s₂ := l) h rfl).2
    apply hne
    unfold sealL
    rw [List.getElem?_append_right hil, h1, List.getElem?_set_self (by simp; omega)]
end Go.Proofs.Ytbbbfkcpkcfndaa
