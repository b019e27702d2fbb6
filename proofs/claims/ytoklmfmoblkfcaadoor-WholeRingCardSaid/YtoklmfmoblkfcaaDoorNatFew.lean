/- The contract of layer 5's Few, and of a number made of few words. -/
import Derived.Test.YtoklmfmoblkfcaaDoorNatPow
namespace Go.Proofs.YtoklmfmoblkfcaaDoor
open Go.RowKit Go.Proofs.Tm Go.Shelf
set_option linter.unusedVariables false
set_option maxRecDepth 20000

/-- A slice that reads so is answered; nothing has turned. -/
def RFew (L : List Nat) (w : World) (e : Ending) (w' : World) : Prop := ∃ v, e = .returned v ∧ Sl w' v (cu64 L) ∧ w' = w

set_option maxHeartbeats 800000 in
theorem few_any (a : Option Addr) (cap : Nat) (L : List Nat) (k : Nat) (hk : k ≤ 100) (w : World) (h : Sl w (.slice a L.length cap) (cu64 L)) :
    Calls Tryd.prog 30 #[.slice a L.length cap, .int .i64 (k : Int)] w (RFew (L.take k) w) := by
  obtain ⟨a', cap', hv, hl, hm, _⟩ := h.open
  simp only [Value.slice.injEq] at hv
  obtain ⟨rfl, _, rfl⟩ := hv
  rw [cu64_length] at hl
  have HS := Lib.hid h
  clear h
  obtain ⟨n, hn⟩ : ∃ n, n = L.length := ⟨_, rfl⟩
  rw [← hn] at hl HS ⊢
  have HN := Lib.hid hn
  clear hn
  by_cases hlt : k < n
  · have hd : decide (k < n) = true := by simpa using hlt
    have HR : Hid (RFew (L.take k) w (.returned (.slice a k cap)) w) := ⟨_, rfl, by rw [cu64_take]; exact Sl.take HS.out k (by omega), rfl⟩
    go_enter Tryd.func30, Tryd.ntmps30
    go_wp2
    go_ret
    exact HR.out
  · have hd : decide (k < n) = false := by simpa using hlt
    have HR : Hid (RFew (L.take k) w (.returned (.slice a n cap)) w) := ⟨_, rfl, by rw [List.take_of_length_le (by have := HN.out; omega)]; exact HS.out, rfl⟩
    go_enter Tryd.func30, Tryd.ntmps30
    go_wp2
    go_ret
    exact HR.out
theorem few_len (L : List Nat) (k : Nat) (h : ∀ d ∈ L, d < 18446744073709551616) : (wds (wval (L.take k))).length ≤ k := by
  rw [wds_length_le_iff]
  have h1 := wval_lt (L.take k) (fun d hd => h d (List.mem_of_mem_take hd))
  refine Nat.lt_of_lt_of_le h1 (Nat.pow_le_pow_right (by decide) (by simp; omega))
end Go.Proofs.YtoklmfmoblkfcaaDoor
