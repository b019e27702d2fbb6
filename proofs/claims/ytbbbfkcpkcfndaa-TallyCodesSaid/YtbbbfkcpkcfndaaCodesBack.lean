/- What was written is read back: the readers of layer 2 at the writers' bits (plain mathematics). -/
import Derived.Test.YtbbbfkcpkcfndaaCodesRefV
namespace Go.Proofs.Ytbbbfkcpkcfndaa
open Go.RowKit Go.Proofs.Tm
set_option linter.unusedVariables false
set_option maxRecDepth 20000

theorem drop_past {L M B : List Bool} {i : Nat} (hd : L.drop i = M ++ B) : L.drop (i + M.length) = B := by
  rw [← List.drop_drop, hd]; simp
theorem len_past {L M B : List Bool} {i : Nat} (hi : i ≤ L.length) (hd : L.drop i = M ++ B) : i + M.length ≤ L.length := by
  have := congrArg List.length hd
  simp at this; omega
theorem numL_at {L B : List Bool} {i m k : Nat} (hd : L.drop i = numBits m k ++ B) : numL L i k = m % 2 ^ k := by
  unfold numL
  rw [hd, List.take_left' (by simp), val_numBits]

theorem testBit_top (n : Nat) (h0 : n ≠ 0) : n.testBit (Nat.log2 n) = true := by
  obtain ⟨h1, h2⟩ := log2_bounds n h0
  rw [Nat.testBit_eq_decide_div_mod_eq]
  have hp := Nat.two_pow_pos (Nat.log2 n)
  have h4 : n / 2 ^ Nat.log2 n = 1 := by
    rw [Nat.pow_succ] at h2
    rw [Nat.div_eq_of_lt_le] <;> omega
  rw [h4]; rfl

theorem gamma_back {L B : List Bool} {i n : Nat} (hi : i ≤ L.length) (h0 : n ≠ 0) (hn : n < 18446744073709551616) (hd : L.drop i = gammaBits n ++ B) :
    gammaS L i = (n, i + (gammaBits n).length, 0) := by
  have hk := log2_lt64 n hn
  have hlt := (log2_bounds n h0).2
  have htop := testBit_top n h0
  have hlen := len_past hi hd
  rw [gammaBits_length] at hlen ⊢
  unfold gammaBits at hd
  generalize Nat.log2 n = k at *
  have hd2 : L.drop (i + k) = numBits n (k + 1) ++ B := by
    have := drop_past (M := numBits 0 k) (by rw [hd, List.append_assoc])
    simpa using this
  have hz : zrun L i = k := by
    refine zrun_eq L i k hi (by omega) (fun j hj => ?_) (fun _ => ?_)
    · rw [← getD_drop, hd, List.getD_eq_getElem?_getD, List.append_assoc, List.getElem?_append_left (by simpa using hj), numBits_getElem? _ _ _ hj]
      simp
    · have := getD_drop L (i + k) 0
      rw [Nat.add_zero] at this
      rw [← this, hd2, List.getD_eq_getElem?_getD, List.getElem?_append_left (by simp), numBits_getElem? _ _ _ (by omega)]
      simpa using htop
  unfold gammaS
  rw [hz, if_neg (by omega), if_neg (by omega), numL_at hd2, Nat.mod_eq_of_lt hlt]
  congr 2 <;> omega

theorem delta_back {L B : List Bool} {i n : Nat} (hi : i ≤ L.length) (h0 : n ≠ 0) (hn : n < 18446744073709551616) (hd : L.drop i = deltaBits n ++ B) :
    deltaS L i = (n, i + (deltaBits n).length, 0) := by
  have hk := log2_lt64 n hn
  obtain ⟨hb1, hb2⟩ := log2_bounds n h0
  have hlen := len_past hi hd
  unfold deltaBits at hd hlen ⊢
  generalize Nat.log2 n = k at *
  rw [List.append_assoc] at hd
  have hg := gamma_back hi (by omega) (by omega) hd
  have hd2 := drop_past hd
  rw [Nat.pow_succ] at hb2
  rw [List.length_append, numBits_length] at hlen ⊢
  unfold deltaS
  rw [hg]
  simp only [Nat.add_sub_cancel]
  rw [if_neg (by simp), if_neg (by omega), if_neg (by omega), numL_at hd2, Nat.mod_eq_of_lt (by omega)]
  congr 2
  · omega
  · omega

theorem var_back (f : Nat) : ∀ (L B : List Bool) (i k n a : Nat), i ≤ L.length → k + f = 10 → n < 128 ^ f → n * 2 ^ (7 * k) < 18446744073709551616 → (0 < k → n ≠ 0) →
    L.drop i = ((varG f n).flatMap fun g => numBits g 8) ++ B → varS L f k a i = (a + n * 2 ^ (7 * k), i + 8 * (varG f n).length, 0) := by
  induction f with
  | zero => intro L B i k n a _ hkf _ hn64 hk0 _; exfalso; obtain rfl : k = 10 := by omega
            have := hk0 (by omega)
            have : 1 * 2 ^ (7 * 10) ≤ n * 2 ^ (7 * 10) := Nat.mul_le_mul_right _ (by omega)
            omega
  | succ f ih =>
    intro L B i k n a hi hkf hn hn64 hk0 hd
    have hp := Nat.two_pow_pos (7 * k)
    have hk9 : k = 9 → n ≤ 1 := fun h => by subst h; omega
    rw [varS_step]
    by_cases h : n < 128
    · have e : varG (f + 1) n = [n] := by simp [varG, h]
      rw [e] at hd ⊢
      simp only [List.flatMap_cons, List.flatMap_nil, List.append_nil] at hd
      have hlen := len_past hi hd
      rw [numBits_length] at hlen
      rw [numL_at hd, show n % 2 ^ 8 = n by omega, if_neg (by omega), if_neg (by omega), if_pos h, show n % 128 = n by omega]
      rfl
    · have e : varG (f + 1) n = (128 + n % 128) :: varG f (n / 128) := by simp [varG, h]
      rw [e] at hd ⊢
      simp only [List.flatMap_cons, List.append_assoc] at hd
      have hlen := len_past hi hd
      have hd2 := drop_past hd
      rw [numBits_length] at hlen hd2
      have hn' : n / 128 < 128 ^ f := by rw [Nat.pow_succ] at hn; omega
      have hpw : 2 ^ (7 * (k + 1)) = 128 * 2 ^ (7 * k) := by rw [show 7 * (k + 1) = 7 * k + 7 by omega, Nat.pow_add, Nat.mul_comm]
      have hdm := Nat.div_add_mod n 128
      have hs : n % 128 * 2 ^ (7 * k) + n / 128 * 2 ^ (7 * (k + 1)) = n * 2 ^ (7 * k) := by
        rw [hpw, ← Nat.mul_assoc, ← Nat.add_mul]
        congr 1; omega
      have hr := ih L B (i + 8) (k + 1) (n / 128) (a + n % 128 * 2 ^ (7 * k)) hlen (by omega) hn' (by omega) (fun _ => by omega) hd2
      rw [numL_at hd, show (128 + n % 128) % 2 ^ 8 = 128 + n % 128 by omega, if_neg (by omega), if_neg (by omega), if_neg (by omega), show (128 + n % 128) % 128 = n % 128 by omega, hr, List.length_cons, Nat.add_assoc a, hs]
      congr 2
      omega

theorem varAll_back {L B : List Bool} {i n : Nat} (hi : i ≤ L.length) (hn : n < 18446744073709551616) (hd : L.drop i = varBits n ++ B) :
    varS L 10 0 0 i = (n, i + (varBits n).length, 0) := by
  have h := var_back 10 L B i 0 n 0 hi rfl (Nat.lt_of_lt_of_le hn (by decide)) (by simpa using hn) (by omega) hd
  rw [h, varBits_length]
  simp
end Go.Proofs.Ytbbbfkcpkcfndaa
