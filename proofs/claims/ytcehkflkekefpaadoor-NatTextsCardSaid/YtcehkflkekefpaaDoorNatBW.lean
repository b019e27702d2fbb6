/- The contracts of a number's word and Zero. -/
import Derived.Test.YtcehkflkekefpaaDoorNatB
namespace Go.Proofs.YtcehkflkekefpaaDoor
open Go.RowKit Go.Proofs.Tm
set_option linter.unusedVariables false
set_option maxRecDepth 20000

/-- word i: above the highest one there are noughts. -/
theorem word_any (v : Value) (n i : Nat) (w : World) (h : NV w v n) (hi : i < 4611686018427387904) :
    Calls Tryd.prog 68 #[v, .int .i64 (i : Int)] w fun e w' => e = .returned (.int .u64 (((wds n).getD i 0 : Nat) : Int)) ∧ Upd [] w w' := by
  obtain ⟨a, cap, rfl, hl, hm⟩ := h.open
  have HS := Lib.hid h.sl
  unfold maxLen at hm
  clear h
  by_cases hlt : i < (wds n).length
  · obtain ⟨b, o, cap', hv, hc⟩ := sl_at HS.out (by rw [cu64_nil]; intro e; rw [e] at hlt; simp at hlt)
    obtain ⟨rfl, rfl⟩ : a = some ⟨b, o, none⟩ ∧ cap = cap' := by simp at hv; exact hv
    have hcell := hc i (by rw [cu64_length]; exact hlt)
    rw [cu64_getD _ _ hlt] at hcell
    have hlb := World.block_lt_of_cell? w _ hcell
    have hcell' : (w.alloc (.cells #[.slice (some ⟨b, o, none⟩) (wds n).length cap] 26)).cell? ⟨b, o + i, none⟩ = some (.int .u64 (((wds n).getD i 0 : Nat) : Int)) := (Below.cell ((Below.refl _ w).alloc (Nat.le_refl _) _) (p := ⟨b, o + i, none⟩) hlb).trans hcell
    have i3 : decide ((wds n).length ≤ i) = false := by simp; omega
    have i0 : (0 : Int) ≤ (i : Int) := by omega
    have i1 : (i : Int) < ((wds n).length : Int) := by omega
    clear hc hv hcell hlb
    generalize (wds n).getD i 0 = x at *
    generalize (wds n).length = m at *
    go_enter Tryd.func68, Tryd.ntmps68
    go_wp2
    go_ret
    exact ⟨rfl, (Upd.refl _ _).alloc _⟩
  · have i3 : decide ((wds n).length ≤ i) = true := by simp; omega
    have hz : (wds n).getD i 0 = 0 := by simp [show (wds n).length ≤ i by omega]
    rw [hz]
    clear hz
    generalize (wds n).length = m at *
    go_enter Tryd.func68, Tryd.ntmps68
    go_wp2
    go_ret
    exact ⟨rfl, (Upd.refl _ _).alloc _⟩

theorem zero_any (v : Value) (n : Nat) (w : World) (h : NV w v n) :
    Calls Tryd.prog 17 #[v] w fun e w' => e = .returned (.bool (decide (n = 0))) ∧ Upd [] w w' := by
  obtain ⟨a, cap, rfl, hl, hm⟩ := h.open
  unfold maxLen at hm
  clear h
  have HZ : Hid ((((wds n).length : Int) == 0) = decide (n = 0)) := by
    show _ = _
    rw [Bool.eq_iff_iff, beq_iff_eq, decide_eq_true_eq, ← wds_length_zero]; omega
  generalize (wds n).length = m at *
  go_enter Tryd.func17, Tryd.ntmps17
  go_wp2
  go_ret
  exact ⟨ret_bool HZ.out, (Upd.refl _ _).alloc _⟩

end Go.Proofs.YtcehkflkekefpaaDoor
