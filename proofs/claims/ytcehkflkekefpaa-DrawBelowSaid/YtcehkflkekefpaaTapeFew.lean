/- Flip from any place; Few of layer 9's law. -/
import Derived.Test.YtcehkflkekefpaaTapeN
namespace Go.Proofs.Ytcehkflkekefpaa
open Go.RowKit Go.Proofs.Tm
set_option linter.unusedVariables false
set_option maxRecDepth 20000

/-- Flip, where k were asked for. -/
theorem tflip_at (p g : Nat) (l : List Bool) (k : Nat) (w : World) (h : Tp w p g l (min k l.length) (decide (l.length < k))) :
    Calls Try.prog 19 #[.pointer (some ⟨p, 0, none⟩)] w fun e w' => e = .returned (.tuple #[.bool (l.getD k false), .int .i64 (if k < l.length then 0 else 8)]) ∧ Tp w' p g l (min (k + 1) l.length) (decide (l.length < k + 1)) ∧ Upd [p] w w' := by
  by_cases hk : k < l.length
  · rw [show min k l.length = k by omega] at h
    refine (tflip_yes p g l k _ w h hk).mono ?_
    rintro e w' ⟨rfl, h1, h2⟩
    rw [if_pos hk]
    refine ⟨rfl, ?_, h2⟩
    rw [show min (k + 1) l.length = k + 1 by omega, decide_eq_false (by omega)]; exact h1
  · rw [show min k l.length = l.length by omega] at h
    refine (tflip_no p g l _ w h).mono ?_
    rintro e w' ⟨rfl, h1, h2⟩
    rw [if_neg hk]
    refine ⟨?_, ?_, h2⟩
    · rw [List.getD_eq_getElem?_getD, List.getElem?_eq_none (by omega)]; rfl
    · rw [show min (k + 1) l.length = l.length by omega, decide_eq_true (by omega)]; exact h1

theorem tsl_take {w : World} {a : Option Addr} {n cap : Nat} {xs : List Value} (h : Sl w (.slice a n cap) xs) (k : Nat) (hk : k ≤ n) : Sl w (.slice a k cap) (xs.take k) := by
  obtain ⟨a', cap', he, h1, h2, h3⟩ := h
  simp only [Value.slice.injEq] at he
  obtain ⟨rfl, hl, rfl⟩ := he
  have hlen : (xs.take k).length = k := by simp; omega
  refine ⟨a, cap, by rw [hlen], by rw [hlen]; omega, h2, fun hne => ?_⟩
  obtain ⟨b, o, rfl, hc⟩ := h3 (by rintro rfl; simp at hne)
  refine ⟨b, o, rfl, fun i hi => ?_⟩
  rw [hlen] at hi
  rw [hc i (by omega), List.getElem?_take, if_pos hi]

/-- At most so many coins. -/
def RFew9 (l : List Bool) (w : World) (e : Ending) (w' : World) : Prop := ∃ a cap, e = .returned (.slice a l.length cap) ∧ Sl w (.slice a l.length cap) (cb l) ∧ w = w'

set_option maxHeartbeats 400000 in
theorem few9 (v : Value) (l : List Bool) (n : Nat) (w : World) (hn : n ≤ 1000000) (h : Sl w v (cb l)) :
    Calls Try.prog 12 #[v, .int .i64 (n : Int)] w (RFew9 (l.take n) w) := by
  have HS := Lib.hid h
  obtain ⟨a, cap, rfl, h1, h2, _⟩ := h
  rw [cb_length] at h1 HS ⊢
  have hw := IntWalk.i64_in (l.length : Int) (by unfold maxLen at h2; omega)
  by_cases hl : n < l.length
  · have HT := Lib.hid (tsl_take HS.out n (by omega))
    have h63 := h2
    unfold maxLen at h63
    have hb : n ≤ cap := by omega
    have hc0 : (0 : Int) ≤ (n : Int) := by omega
    have hlt : decide ((n : Int) < (l.length : Int)) = true := by simp; omega
    go_enter Try.func12, Try.ntmps12
    go_wp2
    go_ret
    have hlen : (l.take n).length = n := by simp; omega
    refine ⟨_, _, by rw [hlen]; rfl, ?_, rfl⟩
    rw [hlen]
    have := HT.out
    simpa [cb, List.map_take] using this
  · have hlt : decide ((n : Int) < (l.length : Int)) = false := by simp; omega
    go_enter Try.func12, Try.ntmps12
    go_wp2
    go_ret
    rw [List.take_of_length_le (by omega)]
    exact ⟨_, _, rfl, HS.out, rfl⟩

end Go.Proofs.Ytcehkflkekefpaa
