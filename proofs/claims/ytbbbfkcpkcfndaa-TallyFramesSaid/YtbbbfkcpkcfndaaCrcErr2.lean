/- What is sealed, two near bytes spoilt: it isn't what would be sealed. -/
import Derived.Test.YtbbbfkcpkcfndaaCrcErr
import Derived.Test.YtbbbfkcpkcfndaaCrcTwo
namespace Go.Proofs.Ytbbbfkcpkcfndaa
open Go.RowKit Go.Proofs.Tm
set_option linter.unusedVariables false
set_option maxRecDepth 20000

theorem bad_zip (S : List Nat) (i k : Nat) (hi : i < S.length) (hk : k < S.length) :
    (if k = i then S.set i (S[i] ^^^ 85) else (S.set i (S[i] ^^^ 85)).set k (S[k] ^^^ 170)) = List.zipWith (· ^^^ ·) S (eL S.length i k) := by
  apply List.ext_getElem?
  intro j
  rcases Nat.lt_or_ge j S.length with hj | hj
  · have hr : (List.zipWith (· ^^^ ·) S (eL S.length i k))[j]? = some (S[j] ^^^ spoil i k j) := by
      rw [List.getElem?_zipWith, List.getElem?_eq_getElem hj]
      simp [eL, hj]
    rw [hr]
    unfold spoil
    by_cases hki : k = i
    · subst hki
      rw [if_pos rfl, List.getElem?_set]
      by_cases h : k = j
      · subst h; simp [hj]
      · rw [if_neg h, List.getElem?_eq_getElem hj, if_neg (Ne.symm h), if_neg (Ne.symm h)]; simp
    · rw [if_neg hki, List.getElem?_set]
      by_cases h : k = j
      · subst h; rw [if_neg hki]; simp [hk]
      · rw [if_neg h, List.getElem?_set]
        by_cases h' : i = j
        · subst h'; simp [hi]
        · rw [if_neg h', List.getElem?_eq_getElem hj, if_neg (Ne.symm h'), if_neg (Ne.symm h)]; simp
  · rw [List.getElem?_eq_none (by split <;> simpa using hj), List.getElem?_eq_none (by simp [eL]; omega)]

theorem zip_cancel (a b c : List Nat) (h1 : a.length = b.length) (h2 : a.length = c.length) (h : List.zipWith (· ^^^ ·) a b = List.zipWith (· ^^^ ·) a c) : b = c := by
  induction a generalizing b c with
  | nil =>
    rw [List.eq_nil_of_length_eq_zero h1.symm, List.eq_nil_of_length_eq_zero h2.symm]
  | cons x a ih =>
    cases b with
    | nil => simp at h1
    | cons y b =>
      cases c with
      | nil => simp at h2
      | cons z c =>
        simp only [List.zipWith_cons_cons, List.cons.injEq] at h
        have := congrArg (x ^^^ ·) h.1
        simp only [← Nat.xor_assoc, Nat.xor_self, Nat.zero_xor] at this
        rw [this, ih b c (by simpa using h1) (by simpa using h2) h.2]

theorem seal_two (l : List Nat) (i k : Nat) (hl : ∀ b ∈ l, b < 256) (hi : i < l.length + 4) (hk : k < l.length + 4) (h1 : k ≤ i + 3) (h2 : i ≤ k + 3) :
    sealL ((List.zipWith (· ^^^ ·) (sealL l) (eL (l.length + 4) i k)).take l.length) ≠ List.zipWith (· ^^^ ·) (sealL l) (eL (l.length + 4) i k) := by
  intro h
  have eS : ∀ m, sealL m = m ++ be4 (sumL m) := fun m => rfl
  have eE : eL (l.length + 4) i k = eL l.length i k ++ (List.range 4).map fun j => spoil i k (l.length + j) := by
    unfold eL; rw [List.range_add, List.map_append, List.map_map]; rfl
  have hle : l.length = (eL l.length i k).length := by simp [eL]
  rw [eS l, eE, List.zipWith_append hle, List.take_left' (by simp [eL]), eS] at h
  have h3 := (List.append_inj (s₁ := List.zipWith (· ^^^ ·) l (eL l.length i k)) (s₂ := List.zipWith (· ^^^ ·) l (eL l.length i k)) h rfl).2
  have lx := crcL_lt 4294967295 l (by decide) hl
  have ld : crcL 0 (eL l.length i k) < 4294967296 := crcL_lt 0 _ (by decide) (eL_lt _ _ _)
  have hs : sumL (List.zipWith (· ^^^ ·) l (eL l.length i k)) = sumL l ^^^ crcL 0 (eL l.length i k) := by
    have h := crcL_zip 4294967295 0 l (eL l.length i k) hle
    rw [Nat.xor_zero] at h
    unfold sumL
    rw [h, compl_xor _ (Nat.xor_lt_two_pow (n := 32) lx ld), compl_xor _ lx, Nat.xor_assoc, Nat.xor_assoc, Nat.xor_comm (crcL 0 (eL l.length i k))]
  rw [hs, be4_xor _ _ (sumL_lt _) ld] at h3
  exact two_ne l.length i k hi hk h1 h2 (zip_cancel _ _ _ (by simp [be4]) (by simp [be4]) h3)
end Go.Proofs.Ytbbbfkcpkcfndaa
