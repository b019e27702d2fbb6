/- The walks of the laws of layer 1, out of the contracts. -/
import Derived.Test.YtbbbfkcpkcfndaaRefPut
import Derived.Test.YtbbbfkcpkcfndaaRefGet
namespace Go.Proofs.Ytbbbfkcpkcfndaa
open Go.RowKit Go.Proofs.Tm
set_option linter.unusedVariables false
set_option maxRecDepth 20000

theorem own_shape {w : World} {base : Nat} {e : TypeId} {v : Value} {n : Nat} {xs : List Value} (h : w.ownsRow base e 1 v n xs) (hn : 0 < n) : ∃ g cap, v = .slice (some ⟨g, 0, none⟩) n cap := by
  rcases h.2 with ⟨_, h0⟩ | ⟨g, cap', _, h, _⟩
  · omega
  · exact ⟨g, cap', h⟩

set_option maxHeartbeats 800000 in
theorem awake1 (w : World) : Calls Try.prog 19 #[] w fun e w' => e = .returned (.bool true) ∧ Upd [] w w' := by
  have HZ := Lib.hid (Wr.zero w)
  go_enter Try.func19, Try.ntmps19
  go_wp2_with fail
  refine (num_ok w.heap.size none [] 5 3 _ HZ.out (by decide) (by decide) (by decide)).mono ?_
  rintro e w1 ⟨rfl, g1, hwr1, hu1, hf1⟩
  have HW1 := Lib.hid hwr1
  have HU1 := Lib.hid hu1
  have HF1 := Lib.hid hf1
  clear hwr1 hu1 hf1
  go_wp2_with fail
  refine (bit_any w.heap.size g1 _ true _ HW1.out (by decide)).mono ?_
  rintro e w2 ⟨rfl, g2, hwr2, hu2, hf2⟩
  have HW2 := Lib.hid hwr2
  have HU2 := Lib.hid hu2
  have HF2 := Lib.hid hf2
  clear hwr2 hu2 hf2
  go_wp2_with fail
  refine (bytes_any w.heap.size g2 _ _ HW2.out (by decide)).mono ?_
  rintro e w3 ⟨v, rfl, ho3, hu3⟩
  obtain ⟨gb, capb, rfl⟩ := own_shape ho3 (by decide)
  have hc := ho3.cellAt 0 (by decide)
  have HU3 := Lib.hid hu3
  have HW3 := Lib.hid (HW2.out.upd hu3 (by simp) (by simp))
  have hL := Lib.hid (len_any w.heap.size g2 _ _ HW3.out)
  replace hc : w3.cell? ⟨gb, 0, none⟩ = some (.int .u8 176) := hc
  clear ho3 hu3
  go_wp2_with fail
  refine hL.out.mono ?_
  rintro e w4 ⟨rfl, rfl⟩
  go_wp2
  go_ret
  refine ⟨rfl, ?_⟩
  have e0 : Upd [] w (w.alloc (.cells #[.slice none 0 0, .int .i64 0] 26)) := (Upd.refl _ _).alloc _
  have e1 := e0.trans HU1.out (by intro x hx; simp at hx; subst hx; exact .inr (Nat.le_refl _))
  have e2 := e1.trans HU2.out (by
    intro x hx
    rcases List.mem_cons.1 hx with rfl | hx
    · exact .inr (Nat.le_refl _)
    · rcases HF1.out with h | ⟨k, h, hk⟩
      · rw [h] at hx; simp at hx
      · rw [h] at hx; simp at hx; subst hx; exact .inr (Nat.le_trans (by simp) hk))
  exact e2.trans0 HU3.out
end Go.Proofs.Ytbbbfkcpkcfndaa
