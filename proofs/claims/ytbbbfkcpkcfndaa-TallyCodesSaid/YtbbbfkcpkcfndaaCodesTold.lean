/- told: a number's bits (law 02's own helper, which gets a function value); the beginnings of words (mathematics). -/
import Derived.Test.YtbbbfkcpkcfndaaLawCodesS
namespace Go.Proofs.Ytbbbfkcpkcfndaa
open Go.RowKit Go.Proofs.Tm
set_option linter.unusedVariables false
set_option maxRecDepth 20000

set_option maxHeartbeats 1600000 in
theorem told_any (F : Nat) (n : Int) (word : List Bool) (w : World) (hw : word.length ≤ 1000) (eg : ∀ args W, (callFunc F args).run Try.prog W = .ok (.enter F args) W)
    (HF : Hid (∀ p W, Wr W p none [] → Calls Try.prog F #[.pointer (some ⟨p, 0, none⟩), .int .u64 n] W fun e w' => e = .returned (.int .i64 0) ∧ WrMore p none [] W word w')) :
    Calls Try.prog 50 #[.int .u64 n, .func (.func F) #[] #[]] w fun e w' => ∃ a cap, e = .returned (.slice a word.length cap) ∧ Sl w' (.slice a word.length cap) (cb word) ∧ Upd [] w w' := by
  have HZ := Lib.hid (Wr.zero w)
  go_enter Try.func50, Try.ntmps50
  go_wp2_with fail
  refine (HF.out _ _ HZ.out).mono ?_
  rintro e w1 ⟨rfl, g', hwr, hup, hfr⟩
  rw [List.nil_append] at hwr
  have HU1 : Hid (Upd [] w w1) := ((Upd.refl [] w).alloc _).trans hup (by intro y hy; simp at hy; subst hy; right; exact Nat.le_refl _)
  have HW1 := Lib.hid hwr
  have HB := Lib.hid (bytes_any w.heap.size g' word w1 hwr (by omega))
  clear hup hfr hwr
  go_wp2_with fail
  refine HB.out.mono ?_
  rintro e w2 ⟨vb, rfl, ho2, hu2⟩
  have HR := Lib.hid (rbits_any vb (bytesOf word) w2 (Sl.own ho2) (by simp; omega) (by intro b hb; simp only [bytesOf, List.mem_map] at hb; obtain ⟨j, _, rfl⟩ := hb; exact byteAt_lt _ _))
  have HU2 := Lib.hid hu2
  clear ho2 hu2
  go_wp2_with fail
  refine HR.out.mono ?_
  rintro e w3 ⟨lv, rfl, ho3, hu3⟩
  have HL := Lib.hid (len_any w.heap.size g' word w3 (HW1.out.upd (HU2.out.trans0 hu3) (by simp) (by simp)))
  have HU3 := Lib.hid ((HU1.out.trans0 HU2.out).trans0 hu3)
  have hsl := Sl.own ho3
  obtain ⟨la, lcap, rfl, hlc, hlm, _⟩ := hsl.open
  have hlen : (cb (bitsOf (bytesOf word))).length = 8 * ((word.length + 7) / 8) := by simp
  rw [hlen] at hsl hlc ⊢
  obtain ⟨k, hk⟩ : ∃ k, k = word.length := ⟨_, rfl⟩
  obtain ⟨m, hm⟩ : ∃ m, m = 8 * ((word.length + 7) / 8) := ⟨_, rfl⟩
  rw [← hm] at hsl hlc ⊢
  rw [← hk] at HL
  have HK := Lib.hid hk
  have hkm : k ≤ m := by omega
  have hkc : k ≤ lcap := by omega
  have HFIN : Hid (Sl w3 (.slice la k lcap) (cb word)) := by
    have h := sl_take hsl k hkm
    have e : (cb (bitsOf (bytesOf word))).take k = cb word := by
      rw [bitsOf_bytesOf, cb, List.map_append, List.take_left' (by simp [hk])]
      rfl
    rw [e] at h; exact h
  unfold maxLen at hlm
  clear ho3 hu3 hsl hlen hk hm
  go_wp2_with fail
  refine HL.out.mono ?_
  rintro e w4 ⟨rfl, rfl⟩
  go_wp2
  go_ret
  exact ⟨la, lcap, by rw [← HK.out]; rfl, by rw [← HK.out]; exact HFIN.out, HU3.out⟩

set_option maxHeartbeats 400000 in
theorem putVarF_any (p : Nat) (n : Nat) (w : World) (h : Wr w p none []) (hn : n < 18446744073709551616) :
    Calls Try.prog 51 #[.pointer (some ⟨p, 0, none⟩), .int .u64 (n : Int)] w fun e w' => e = .returned (.int .i64 0) ∧ WrMore p none [] w (varBits n) w' := by
  have H := Lib.hid (putVar_any p none [] n w h (by decide) hn)
  clear h
  go_enter Try.func51, Try.ntmps51
  go_wp2_with fail
  refine H.out.mono ?_
  rintro e w1 ⟨rfl, hm⟩
  have HM := Lib.hid hm
  clear hm
  go_wp2
  go_ret
  exact ⟨rfl, HM.out⟩

/-- Of two words that agree as far as both go, the numbers are one. -/
theorem words_one (c : Int) (x y : Nat) (x0 : x ≠ 0) (y0 : y ≠ 0) (hx : x < 18446744073709551616) (hy : y < 18446744073709551616)
    (h : ∀ j, j < (wordS c x).length → j < (wordS c y).length → (wordS c x).getD j false = (wordS c y).getD j false) : x = y := by
  have key : ∀ a b : Nat, a ≠ 0 → b ≠ 0 → a < 18446744073709551616 → b < 18446744073709551616 → (wordS c a).length ≤ (wordS c b).length →
      (∀ j, j < (wordS c a).length → j < (wordS c b).length → (wordS c a).getD j false = (wordS c b).getD j false) → a = b := by
    intro a b a0 b0 ha hb hle hag
    have e : wordS c b = wordS c a ++ (wordS c b).drop (wordS c a).length := by
      have e2 : (wordS c b).take (wordS c a).length = wordS c a := by
        apply List.ext_getElem?
        intro j
        by_cases hj : j < (wordS c a).length
        · have := hag j hj (by omega)
          rw [List.getElem?_take_of_lt hj]
          simp only [List.getD_eq_getElem?_getD, List.getElem?_eq_getElem hj, List.getElem?_eq_getElem (show j < (wordS c b).length by omega), Option.getD_some] at this ⊢
          rw [this]
        · rw [List.getElem?_eq_none (by simp; omega), List.getElem?_eq_none (by omega)]
      conv => lhs; rw [← List.take_append_drop (wordS c a).length (wordS c b)]
      rw [e2]
    have h1 := specS_back (c := c) (L := wordS c b) (i := 0) (B := []) (by omega) b0 hb (by simp)
    have h2 := specS_back (c := c) (L := wordS c b) (i := 0) (x := a) (by omega) a0 ha (by rw [List.drop_zero]; exact e)
    rw [h1] at h2
    exact (congrArg Prod.fst h2).symm
  rcases Nat.le_total (wordS c x).length (wordS c y).length with hle | hle
  · exact key x y x0 y0 hx hy hle h
  · exact (key y x y0 x0 hy hx hle (fun j h1 h2 => (h j h2 h1).symm)).symm
end Go.Proofs.Ytbbbfkcpkcfndaa
