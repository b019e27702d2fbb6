/- The contract of nat.Bits. -/
import Derived.Test.YtoklmfmoblkfcaaDoorAa
import Derived.Test.YtoklmfmoblkfcaaDoorNatBitM
namespace Go.Proofs.YtoklmfmoblkfcaaDoor
open Go.RowKit Go.Proofs.Tm
set_option linter.unusedVariables false
set_option maxRecDepth 20000

set_option maxHeartbeats 800000 in
theorem bits_any (v : Value) (n : Nat) (w : World) (h : NV w v n) (hn : (wds n).length ≤ 1099511627776) :
    Calls Tryd.prog 54 #[v] w fun e w' => e = .returned (.int .i64 (nbits n : Int)) ∧ Upd [] w w' := by
  obtain ⟨a, cap, rfl, hl, hm⟩ := h.open
  unfold maxLen at hm
  by_cases h0 : n = 0
  · subst h0
    rw [wds_zero]
    clear h
    go_enter Tryd.func54, Tryd.ntmps54
    go_wp2
    go_ret
    exact ⟨rfl, (Upd.refl _ _).alloc _⟩
  · obtain ⟨hx0, hx1, hx2⟩ := nbits_words n h0
    have hlen : (wds n).length ≠ 0 := fun e => h0 (wds_length_zero.1 e)
    obtain ⟨k, hk⟩ : ∃ k, (wds n).length = k + 1 := ⟨(wds n).length - 1, by omega⟩
    rw [hk, Nat.add_sub_cancel] at hx0 hx1 hx2
    obtain ⟨b, o, rfl, hb, hc⟩ := h.at k (by omega)
    rw [hk] at hl hn h ⊢
    have hbl : nbits n ≤ 70368744177664 := by
      have := Lib.bitLenAux_le 64 ((wds n).getD k 0) 64 (by simpa using hx1)
      have e : Lib.bitLen ((wds n).getD k 0) = Lib.bitLenAux 64 ((wds n).getD k 0) := rfl
      omega
    have hcell : (w.alloc (.cells #[.slice (some ⟨b, o, none⟩) (k + 1) cap] 27)).cell? ⟨b, o + k, none⟩ = some (.int .u64 (((wds n).getD k 0 : Nat) : Int)) := (Below.cell ((Below.refl _ w).alloc (Nat.le_refl _) _) (p := ⟨b, o + k, none⟩) hb).trans hc
    have HX1 := Lib.hid hx1
    have HX2 := Lib.hid hx2
    clear hc hx0 hx2 hlen
    generalize (wds n).getD k 0 = x at *
    have i1 : (((k + 1 : Nat) : Int) == 0) = false := by simp; omega
    have i2 : ((k + 1 : Nat) : Int) - 1 = (k : Int) := by omega
    have i3 : IntKind.i64.wrap (((k + 1 : Nat) : Int) - 1) = (k : Int) := by rw [IntKind.wrap_i64]; omega
    have i4 : IntKind.i64.wrap ((k : Int) * 64) = ((k * 64 : Nat) : Int) := by rw [IntKind.wrap_i64]; omega
    go_enter Tryd.func54, Tryd.ntmps54
    go_wp2_with (go_at_call 77; refine (Tryd.bits_Len64 (x : Int) _ (by omega) (by have := HX1.out; omega)).mono ?_; rintro e w' ⟨rfl, rfl⟩)
    go_ret
    refine ⟨?_, (Upd.refl _ _).alloc _⟩
    exact ret_int (by have := HX2.out; show wrap64 _ = _; unfold wrap64; omega)
end Go.Proofs.YtoklmfmoblkfcaaDoor
