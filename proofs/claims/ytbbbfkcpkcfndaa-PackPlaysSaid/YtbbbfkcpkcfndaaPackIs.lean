/- The statements' own look at a Vector (is). -/
import Derived.Test.YtbbbfkcpkcfndaaPackRef
import Derived.Test.YtbbbfkcpkcfndaaLawCrcO
import Derived.Test.YtbbbfkcpkcfndaaOpen
namespace Go.Proofs.Ytbbbfkcpkcfndaa
open Go.RowKit Go.Proofs.Tm
set_option linter.unusedVariables false
set_option maxRecDepth 20000

set_option maxHeartbeats 800000 in
theorem is_any (p g wd : Nat) (l : List Nat) (lv : Value) (w : World) (h : Vec w p g wd l) (hl : Sl w lv (cu64 l)) (hx : ∀ x ∈ l, x < 18446744073709551616) :
    Calls Try.prog 58 #[.pointer (some ⟨p, 0, none⟩), lv] w fun e w' => e = .returned (.bool true) ∧ ∃ n, w' = w.drewN n := by
  have HV := Lib.hid h
  have HS := Lib.hid hl
  have hlen : l.length ≤ 256 := by obtain ⟨c, _, _, h3, _⟩ := h; exact h3
  obtain ⟨a, cap, rfl, _, _, _⟩ := hl
  rw [cu64_length] at HS ⊢
  clear h hx
  go_enter Try.func58, Try.ntmps58
  go_wp2
  go_loopw [15] (fun v15 wr => ∃ i : Nat, i ≤ l.length ∧ v15 = .int .i64 i ∧ ∃ m, wr = w.drewN m) (fun v15 _ => l.length - (intOf v15).toNat)
  case atStart => exact ⟨0, Nat.zero_le _, rfl, 0, rfl⟩
  case round =>
    obtain ⟨i, hi, rfl, m, rfl⟩ := hrel
    by_cases hlt : i < l.length
    · obtain ⟨b, o, cap', hv, hc⟩ := sl_at (HS.out.upd0 ((Upd.refl _ w).drewN m)) (by intro h; have := congrArg List.length h; simp at this; simp_all)
      obtain ⟨rfl, rfl⟩ : a = some ⟨b, o, none⟩ ∧ cap = cap' := by simpa using hv
      have hcell := hc i (by simpa using hlt)
      rw [cu64_getElem?, List.getElem?_eq_getElem hlt] at hcell
      simp only [Option.map_some] at hcell
      have HG := Lib.hid (vget_ok p g wd l (w.drewN m) i (HV.out.upd0 ((Upd.refl _ _).drewN m)) hlt)
      clear hc hv
      generalize l[i] = x at *
      have hne : ((x : Int) != (x : Int)) = false := by simp
      go_wp2_with fail
      refine HG.out.mono ?_
      rintro e w1 ⟨rfl, n, rfl⟩
      go_wp2
      go_roundw
      case rel => exact ⟨i + 1, by omega, by go_num, _, rfl⟩
      case measure => simp [intOf]; omega
    · obtain rfl : i = l.length := by omega
      have HG1 := Lib.hid (vget_bad p g wd l (w.drewN m) (-1) (HV.out.upd0 ((Upd.refl _ _).drewN m)) (.inl (by decide)))
      have HG2 := Lib.hid (vget_bad p g wd l (w.drewN m) (l.length : Int) (HV.out.upd0 ((Upd.refl _ _).drewN m)) (.inr (Int.le_refl _)))
      have HL := Lib.hid (vlen_any p g wd l (w.drewN m) (HV.out.upd0 ((Upd.refl _ _).drewN m)))
      go_wp2_with fail
      refine HG1.out.mono ?_
      rintro e w1 ⟨rfl, rfl⟩
      go_wp2_with fail
      refine HG2.out.mono ?_
      rintro e w1 ⟨rfl, rfl⟩
      go_wp2_with fail
      refine HL.out.mono ?_
      rintro e w1 ⟨rfl, rfl⟩
      go_wp2
      go_ret
      exact ⟨rfl, _, rfl⟩
end Go.Proofs.Ytbbbfkcpkcfndaa
