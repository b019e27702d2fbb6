/- Gamma, Delta, Var: the contracts; what errors there are. -/
import Derived.Test.YtbbbfkcpkcfndaaCodesWhole
import Derived.Test.YtbbbfkcpkcfndaaCodesGrp
namespace Go.Proofs.Ytbbbfkcpkcfndaa
open Go.RowKit Go.Proofs.Tm
set_option linter.unusedVariables false
set_option maxRecDepth 20000

theorem Gamma_any (p : Nat) (g : Option Nat) (bs : List Nat) (i : Nat) (w : World) (h : Rd w p g bs i) :
    Calls Try.prog 44 #[.pointer (some ⟨p, 0, none⟩)] w (WholeTo p g bs i w (gammaS (bitsOf bs) i)) := by
  have H := Lib.hid (whole_any 79 p g bs i _ w h (fun _ _ => enters_of Try.func79 (by kernel_rfl) rfl _ _) (Lib.hid fun q W hq => gamma_any q g bs i W hq))
  clear h
  go_enter Try.func44, Try.ntmps44
  go_wp2_with fail
  refine H.out.mono ?_
  rintro e w1 ⟨rfl, hr⟩
  have HR := Lib.hid hr
  clear hr
  go_wp2
  go_ret2
  exact ⟨rfl, HR.out⟩

theorem Delta_any (p : Nat) (g : Option Nat) (bs : List Nat) (i : Nat) (w : World) (h : Rd w p g bs i) :
    Calls Try.prog 46 #[.pointer (some ⟨p, 0, none⟩)] w (WholeTo p g bs i w (deltaS (bitsOf bs) i)) := by
  have H := Lib.hid (whole_any 80 p g bs i _ w h (fun _ _ => enters_of Try.func80 (by kernel_rfl) rfl _ _) (Lib.hid fun q W hq => delta_any q g bs i W hq))
  clear h
  go_enter Try.func46, Try.ntmps46
  go_wp2_with fail
  refine H.out.mono ?_
  rintro e w1 ⟨rfl, hr⟩
  have HR := Lib.hid hr
  clear hr
  go_wp2
  go_ret2
  exact ⟨rfl, HR.out⟩

theorem Var_any (p : Nat) (g : Option Nat) (bs : List Nat) (i : Nat) (w : World) (h : Rd w p g bs i) :
    Calls Try.prog 48 #[.pointer (some ⟨p, 0, none⟩)] w (WholeTo p g bs i w (varS (bitsOf bs) 10 0 0 i)) := by
  have H := Lib.hid (whole_any 81 p g bs i _ w h (fun _ _ => enters_of Try.func81 (by kernel_rfl) rfl _ _) (Lib.hid fun q W hq => groupwise_any q g bs i W hq))
  clear h
  go_enter Try.func48, Try.ntmps48
  go_wp2_with fail
  refine H.out.mono ?_
  rintro e w1 ⟨rfl, hr⟩
  have HR := Lib.hid hr
  clear hr
  go_wp2
  go_ret2
  exact ⟨rfl, HR.out⟩

/-- A number and a place within the bits; or one of two errors. -/
def Fine (L : List Bool) (r : Nat × Nat × Int) : Prop := (r.2.2 = 0 ∧ r.2.1 ≤ L.length) ∨ r.2.2 = 4 ∨ r.2.2 = 5

theorem gammaS_fine (L : List Bool) (i : Nat) : Fine L (gammaS L i) := by
  unfold Fine gammaS
  split
  · simp
  · split
    · simp
    · left; simp only; exact ⟨trivial, by omega⟩
theorem deltaS_fine (L : List Bool) (i : Nat) : Fine L (deltaS L i) := by
  have h := gammaS_fine L i
  unfold Fine deltaS at *
  split
  · rename_i hz
    rcases h with ⟨h, _⟩ | h | h
    · exact absurd h hz
    · right; left; exact h
    · right; right; exact h
  · split
    · simp
    · split
      · simp
      · left; simp only; exact ⟨trivial, by omega⟩
theorem varS_fine (L : List Bool) (f k n i : Nat) : Fine L (varS L f k n i) := by
  induction f generalizing k n i with
  | zero => simp [Fine, varS_done]
  | succ f ih =>
    rw [varS_step]
    split
    · simp [Fine]
    · split
      · simp [Fine]
      · split
        · left; simp only; exact ⟨trivial, by omega⟩
        · exact ih _ _ _
end Go.Proofs.Ytbbbfkcpkcfndaa
