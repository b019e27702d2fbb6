/- The contracts of nat.from (layer 5): the 64 bits from a bit on; or as a sum. -/
import Derived.Test.YtoklmfmoblkfcaaDoorAa
namespace Go.Proofs.YtoklmfmoblkfcaaDoor
open Go.RowKit Go.Proofs.Tm
set_option linter.unusedVariables false
set_option linter.unusedSimpArgs false
set_option maxRecDepth 20000

theorem hi_mod (b t : Nat) (ht : t ≤ 64) : b * 2 ^ t % 18446744073709551616 = (b % 2 ^ (64 - t)) * 2 ^ t := by
  rw [W_two, show (2 : Nat) ^ 64 = 2 ^ (64 - t) * 2 ^ t by rw [← Nat.pow_add, Nat.sub_add_cancel ht], Nat.mul_mod_mul_right]
theorem or_lowf (a c t : Nat) (ha : a < 2 ^ t) : a ||| c * 2 ^ t = a + c * 2 ^ t := by
  rw [Nat.or_comm, ← Nat.shiftLeft_eq, ← Nat.shiftLeft_add_eq_or_of_lt ha, Nat.add_comm]
/-- Low bits, or others above them. -/
theorem or_parts (a b t : Nat) (ha : a < 2 ^ t) (ht : t ≤ 64) (ha2 : a < 18446744073709551616) :
    bits .or .u64 (a : Int) (IntKind.u64.wrap ((b : Int) * 2 ^ t)) = ((a + b * 2 ^ t % 18446744073709551616 : Nat) : Int) := by
  have hc : (b : Int) * 2 ^ t = ((b * 2 ^ t : Nat) : Int) := by simp
  have e1 : IntKind.u64.wrap ((b : Int) * 2 ^ t) = ((b * 2 ^ t % 18446744073709551616 : Nat) : Int) := by rw [hc, IntKind.wrap_u64]; rfl
  rw [e1]
  have hm : b * 2 ^ t % 18446744073709551616 < 18446744073709551616 := Nat.mod_lt _ (by decide)
  have hs : a ||| b * 2 ^ t % 18446744073709551616 = a + b * 2 ^ t % 18446744073709551616 := by rw [hi_mod b t ht]; exact or_lowf a _ t ha
  have hl : a ||| b * 2 ^ t % 18446744073709551616 < 18446744073709551616 := Nat.or_lt_two_pow (n := 64) ha2 hm
  generalize b * 2 ^ t % 18446744073709551616 = y at *
  show IntKind.u64.wrap ((BitVec.ofInt 64 (a : Int) ||| BitVec.ofInt 64 (y : Int)).toNat : Int) = _
  rw [BitVec.toNat_or, show (BitVec.ofInt 64 (a : Int)).toNat = a by simp; omega, show (BitVec.ofInt 64 (y : Int)).toNat = y by simp; omega, hs]
  rw [hs] at hl
  rw [IntKind.wrap_u64]; omega

set_option maxHeartbeats 800000 in
theorem from_any (u : Value) (n i : Nat) (w : World) (hu : NV w u n) (hi : i < 4611686018427387904) :
    Calls Tryd.prog 97 #[u, .int .i64 (i : Int)] w fun e w' => e = .returned (.int .u64 ((n / 2 ^ i % 18446744073709551616 : Nat) : Int)) ∧ Upd [] w w' := by
  obtain ⟨a, cap, rfl, _, _⟩ := hu.open
  obtain ⟨l, hl⟩ : ∃ l, l = (wds n).length := ⟨_, rfl⟩
  rw [← hl] at hu ⊢
  obtain ⟨q, hq⟩ : ∃ q, q = i / 64 := ⟨_, rfl⟩
  obtain ⟨s, hs⟩ : ∃ s, s = i % 64 := ⟨_, rfl⟩
  have hs64 : s < 64 := by omega
  have hqi : q < 72057594037927936 := by omega
  have i1 : (i : Int) / 64 = (q : Int) := by omega
  have i2 : (i : Int) % 64 = (s : Int) := by omega
  obtain ⟨w1, hw1⟩ : ∃ W, W = w.alloc (.cells #[.slice a l cap] 27) := ⟨_, rfl⟩
  obtain ⟨k, hk⟩ : ∃ k, k = w.heap.size := ⟨_, rfl⟩
  have hu1 : Upd [] w w1 := by rw [hw1]; exact (Upd.refl _ _).alloc _
  have hb1 : w1.heap[k]? = some (.cells #[.slice a l cap] 27 (0, 0)) := by rw [hw1, hk]; exact heap_alloc_new _ _
  have HC : Hid (∀ W, Upd [] w1 W → W.cell? ⟨k, 0, none⟩ = some (.slice a l cap) ∧ Upd [] w1 W) := fun W h => ⟨by rw [cell_of_row W _ 0 _ _ _ ((h.block k (Array.getElem?_eq_some_iff.1 hb1).1 (by simp)).trans hb1)]; rfl, h⟩
  have HWD : Hid (∀ (j : Nat) W, j < 72057594037927937 → Upd [] w1 W → Calls Tryd.prog 59 #[.agg #[.slice a l cap], .int .i64 (j : Int)] W fun e w' => e = .returned (.int .u64 ((n / 18446744073709551616 ^ j % 18446744073709551616 : Nat) : Int)) ∧ Upd [] W w') := fun j W hj h => by
    have := word_any (.agg #[.slice a l cap]) n j W ((hu.upd0 hu1).upd0 h) (by omega)
    rw [wds_getD] at this
    exact this
  have HU1 := Lib.hid hu1
  have HW1 := Lib.hid hw1
  have HK := Lib.hid hk
  have HF : Hid (bits .or .u64 (((n / 18446744073709551616 ^ q % 18446744073709551616 / 2 ^ s : Nat) : Int)) (IntKind.u64.wrap (((n / 18446744073709551616 ^ (q + 1) % 18446744073709551616 : Nat) : Int) * 2 ^ (64 - s))) = ((n / 2 ^ i % 18446744073709551616 : Nat) : Int)) := by
    show _ = _
    rw [or_parts _ _ _ ?_ (by omega) ?_]
    · have h := from_two (n / 18446744073709551616 ^ q) s hs64
      rw [Nat.div_div_eq_div_mul, ← Nat.pow_succ] at h
      rw [h, Nat.div_div_eq_div_mul, W_two, ← Nat.pow_mul, ← Nat.pow_add, show 64 * q + s = i by omega]
    · rw [Nat.div_lt_iff_lt_mul (Nat.two_pow_pos s), ← Nat.pow_add, show 64 - s + s = 64 by omega, ← W_two]
      exact Nat.mod_lt _ (by decide)
    · exact Nat.lt_of_le_of_lt (Nat.div_le_self _ _) (Nat.mod_lt _ (by decide))
  obtain ⟨t, ht⟩ : ∃ t, t = 64 - s := ⟨_, rfl⟩
  have i3 : IntKind.i64.wrap (64 - (s : Int)) = (t : Int) := by rw [IntKind.wrap_i64]; omega
  rw [← ht] at HF
  have HTM : Hid (min t 64 = t) := by show _ = _; omega
  clear hu hl hq hs hw1 hk hu1 hb1 ht
  obtain ⟨x, hx⟩ : ∃ x, x = n / 18446744073709551616 ^ q % 18446744073709551616 := ⟨_, rfl⟩
  obtain ⟨y, hy⟩ : ∃ y, y = n / 18446744073709551616 ^ (q + 1) % 18446744073709551616 := ⟨_, rfl⟩
  have H1 : Hid (∀ W, Upd [] w1 W → Calls Tryd.prog 59 #[.agg #[.slice a l cap], .int .i64 (q : Int)] W fun e w' => e = .returned (.int .u64 (x : Int)) ∧ Upd [] W w') := fun W h => by rw [hx]; exact HWD.out q W (by omega) h
  have H2 : Hid (∀ W, Upd [] w1 W → Calls Tryd.prog 59 #[.agg #[.slice a l cap], .int .i64 (IntKind.i64.wrap ((q : Int) + 1))] W fun e w' => e = .returned (.int .u64 (y : Int)) ∧ Upd [] W w') := fun W h => by
    rw [hy, show IntKind.i64.wrap ((q : Int) + 1) = ((q + 1 : Nat) : Int) by rw [IntKind.wrap_i64]; omega]; exact HWD.out (q + 1) W (by omega) h
  rw [← hx, ← hy] at HF
  clear hx hy HWD
  have hrf : Upd [] w1 w1 := Upd.refl _ _
  go_enter Tryd.func97, Tryd.ntmps97
  go_wp2
  rw [← HW1.out]
  rw [← HK.out]
  go_region_held3 (fun W => W.cell? ⟨k, 0, none⟩ = some (.slice a l cap) ∧ Upd [] w1 W)
    (first
      | exact HC.out _ huy
      | exact HC.out _ huy.drew
      | exact HC.out _ hrf.drew
      | exact HC.out _ hrf)
    (first
      | (go_at_call 59; (with_reducible refine (H1.out _ (by first | exact hrf.drew | exact hrf)).mono ?_); rintro e wy ⟨rfl, hu2⟩; have huy : Upd [] w1 wy := (by first | exact hrf.drew.trans0 hu2 | exact hrf.trans0 hu2); clear hu2)
      | (go_at_call 59; (with_reducible refine (H2.out _ huy).mono ?_); rintro e wz ⟨rfl, hu3⟩; have huz := huy.trans0 hu3; clear huy hu3; have huy := huz; clear huz))
  go_wp2
  go_ret
  exact ⟨congrArg Ending.returned (congrArg (Value.int .u64) (by rw [HTM.out, shr_nat]; exact HF.out)), HU1.out.trans0 huy⟩
end Go.Proofs.YtoklmfmoblkfcaaDoor
