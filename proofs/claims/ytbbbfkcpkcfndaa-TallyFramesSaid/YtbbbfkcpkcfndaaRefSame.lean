/- The contract of the document's own answer Same (layer 1): two lists of bytes are held against one another. -/
import Derived.Test.YtbbbfkcpkcfndaaBitsRN
namespace Go.Proofs.Ytbbbfkcpkcfndaa
open Go.RowKit Go.Proofs.Tm
set_option linter.unusedVariables false
set_option maxRecDepth 20000

theorem sl_at {w : World} {v : Value} {xs : List Value} (h : Sl w v xs) (hx : xs ≠ []) : ∃ b o cap, v = .slice (some ⟨b, o, none⟩) xs.length cap ∧ ∀ i, i < xs.length → w.cell? ⟨b, o + i, none⟩ = xs[i]? := by
  obtain ⟨a, cap, rfl, _, _, h3⟩ := h
  obtain ⟨b, o, rfl, hc⟩ := h3 hx
  exact ⟨b, o, cap, rfl, hc⟩

set_option maxHeartbeats 400000 in
theorem same_len (av bv : Value) (xs ys : List Nat) (w : World) (ha : Sl w av (cu8 xs)) (hb : Sl w bv (cu8 ys)) (hne : xs.length ≠ ys.length) :
    Calls Try.prog 23 #[av, bv] w fun e w' => e = .returned (.bool false) ∧ w = w' := by
  obtain ⟨a, cap, rfl, h1, h2, _⟩ := ha
  obtain ⟨b, cap', rfl, h3, h4, _⟩ := hb
  simp only [cu8_length] at *
  have hn : (((xs.length : Nat) : Int) != ((ys.length : Nat) : Int)) = true := by rw [bne_iff_ne]; omega
  go_enter Try.func23, Try.ntmps23
  go_wp2
  go_ret
  exact ⟨rfl, rfl⟩

set_option maxHeartbeats 800000 in
theorem same_walk (b o cap b' o' cap' : Nat) (xs ys : List Nat) (w : World) (n : Nat) (hx : xs.length = n) (hy : ys.length = n) (hn : n ≤ 4611686018427387904)
   (ha : ∀ i, i < n → w.cell? ⟨b, o + i, none⟩ = some (.int .u8 ((xs.getD i 0 : Nat) : Int))) (hb : ∀ i, i < n → w.cell? ⟨b', o' + i, none⟩ = some (.int .u8 ((ys.getD i 0 : Nat) : Int))) :
    Calls Try.prog 23 #[.slice (some ⟨b, o, none⟩) n cap, .slice (some ⟨b', o', none⟩) n cap'] w fun e w' => e = .returned (.bool (decide (xs = ys))) ∧ ∃ m, w' = w.drewN m := by
  have HA := Lib.hid ha
  have HB := Lib.hid hb
  have HX := Lib.hid hx
  have HY := Lib.hid hy
  clear ha hb hx hy
  have hnn : ((n : Int) != (n : Int)) = false := by simp
  go_enter Try.func23, Try.ntmps23
  go_wp2
  go_loopw [5] (fun v5 wr => ∃ i : Nat, i ≤ n ∧ v5 = .int .i64 i ∧ Hid (∀ j, j < i → xs.getD j 0 = ys.getD j 0) ∧ ∃ m, wr = w.drewN m) (fun v5 _ => n - (intOf v5).toNat)
  case atStart => exact ⟨0, Nat.zero_le _, rfl, fun j h => by omega, 0, rfl⟩
  case round =>
    obtain ⟨i, hi, rfl, HE, m, rfl⟩ := hrel
    by_cases hlt : i < n
    · have k1 := HA.out i hlt
      have k2 := HB.out i hlt
      have i0 : (0 : Int) ≤ (i : Int) := by omega
      have i1 : (i : Int) < (n : Int) := by omega
      by_cases hxy : xs.getD i 0 = ys.getD i 0
      · have hq : (((xs.getD i 0 : Nat) : Int) != ((ys.getD i 0 : Nat) : Int)) = false := by rw [hxy]; simp
        have HQ := Lib.hid hxy
        clear hxy
        generalize hgx : xs.getD i 0 = x at k1 hq
        generalize hgy : ys.getD i 0 = y at k2 hq
        clear hgx hgy
        go_wp2
        go_quiet (fail)
        go_wp2
        go_roundw
        case rel => exact ⟨i + 1, by omega, by go_num, fun j hj => by
          rcases Nat.lt_or_ge j i with h | h
          · exact HE.out j h
          · obtain rfl : j = i := by omega
            exact HQ.out, _, rfl⟩
        case measure => simp [intOf]; omega
      · have hq : (((xs.getD i 0 : Nat) : Int) != ((ys.getD i 0 : Nat) : Int)) = true := by rw [bne_iff_ne]; omega
        have HQ := Lib.hid hxy
        clear hxy
        have HD : Hid (decide (xs = ys) = false) := by
          show _ = _
          simp only [decide_eq_false_iff_not]
          intro h; subst h; exact HQ.out rfl
        generalize hgx : xs.getD i 0 = x at k1 hq
        generalize hgy : ys.getD i 0 = y at k2 hq
        clear hgx hgy
        go_wp2
        go_quiet (fail)
        go_wp2
        go_ret
        exact ⟨ret_bool HD.out.symm, m + nq, World.drewN_drewN ..⟩
    · obtain rfl : i = n := by omega
      go_wp2
      go_ret
      refine ⟨ret_bool ?_, _, rfl⟩
      symm
      rw [decide_eq_true_eq]
      apply List.ext_getElem (by rw [HX.out, HY.out])
      intro j h1 h2
      have := HE.out j (by rw [← HX.out]; exact h1)
      simpa [h1, h2] using this

theorem same_nil (a b : Option Addr) (cap cap' : Nat) (w : World) :
    Calls Try.prog 23 #[.slice a 0 cap, .slice b 0 cap'] w fun e w' => e = .returned (.bool true) ∧ ∃ m, w' = w.drewN m := by
  have hnn : (((0 : Nat) : Int) != ((0 : Nat) : Int)) = false := by simp
  go_enter Try.func23, Try.ntmps23
  go_wp2
  refine wp_loop_rounds 1 ?_
  rw [rounds_succ]
  go_wp2
  go_ret
  exact ⟨rfl, 0, rfl⟩

theorem same_any (av bv : Value) (xs ys : List Nat) (w : World) (ha : Sl w av (cu8 xs)) (hb : Sl w bv (cu8 ys)) (hn : xs.length ≤ 4611686018427387904) :
    Calls Try.prog 23 #[av, bv] w fun e w' => e = .returned (.bool (decide (xs = ys))) ∧ ∃ m, w' = w.drewN m := by
  by_cases hl : xs.length = ys.length
  · by_cases h0 : xs.length = 0
    · obtain rfl : xs = [] := List.eq_nil_of_length_eq_zero h0
      obtain rfl : ys = [] := List.eq_nil_of_length_eq_zero (by rw [← hl]; rfl)
      obtain ⟨a, cap, rfl, h1, h2, _⟩ := ha
      obtain ⟨b, cap', rfl, h3, h4, _⟩ := hb
      simp only [cu8_length] at *
      exact same_nil a b cap cap' w
    · have hx0 : cu8 xs ≠ [] := by intro h; have := congrArg List.length h; simp at this; exact h0 (by simp [this])
      have hy0 : cu8 ys ≠ [] := by intro h; have := congrArg List.length h; simp at this; exact h0 (by simp [hl, this])
      obtain ⟨b, o, cap, rfl, hc⟩ := sl_at ha hx0
      obtain ⟨b', o', cap', rfl, hc'⟩ := sl_at hb hy0
      simp only [cu8_length] at *
      have := same_walk b o cap b' o' cap' xs ys w xs.length rfl hl.symm hn ?_ ?_
      · rw [← hl]; exact this
      · intro i hi; rw [hc i hi, cu8_getElem?]; simp [hi]
      · intro i hi; rw [hc' i (by omega), cu8_getElem?]; simp [show i < ys.length by omega]
  · refine (same_len av bv xs ys w ha hb hl).mono ?_
    rintro e w' ⟨rfl, rfl⟩
    refine ⟨ret_bool ?_, 0, rfl⟩
    symm
    rw [decide_eq_false_iff_not]
    rintro rfl; exact hl rfl
end Go.Proofs.Ytbbbfkcpkcfndaa
