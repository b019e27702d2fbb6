/- The contract of the document's Gcd (layer 5). -/
import Derived.Test.YtoklmfmoblkfcaaGreatDoorRefDiv
import Derived.Test.YtoklmfmoblkfcaaGreatDoorUniq
namespace Go.Proofs.YtoklmfmoblkfcaaGreatDoor
open Go.RowKit Go.Proofs.Tm
set_option linter.unusedVariables false
set_option maxRecDepth 20000

theorem digs_len_le {m n : Nat} (h : m ≤ n) : (digs m).length ≤ (digs n).length := digs_len _ m (Nat.lt_of_le_of_lt h (digs_lt_pow n))

set_option maxHeartbeats 1600000 in
theorem rgcd_any (u v : Value) (m n : Nat) (w : World) (hu : Sl w u (ci64 (digs m))) (hv : Sl w v (ci64 (digs n))) (hm : (digs m).length ≤ 1048576) (hn : (digs n).length ≤ 1048576) :
    Calls Tryz.prog 123 #[u, v] w (RDig (Nat.gcd m n) w) := by
  obtain ⟨a, ca, rfl, _, _⟩ := dig_open hu
  obtain ⟨b, cb, rfl, _, _⟩ := dig_open hv
  have HS : Hid (Sl w (.slice a (digs m).length ca) (ci64 (digs m)) ∧ Sl w (.slice b (digs n).length cb) (ci64 (digs n)) ∧ (digs m).length ≤ 1048576 ∧ (digs n).length ≤ 1048576) := ⟨hu, hv, hm, hn⟩
  clear hu hv hm hn
  go_enter Tryz.func123, Tryz.ntmps123
  go_wp2
  go_loopw [0, 1] (fun v0 v1 wr => ∃ (x y lx ly : Nat) (a b : Option Addr) (ca cb : Nat), v0 = .slice a lx ca ∧ v1 = .slice b ly cb ∧ Hid (Sl wr (.slice a lx ca) (ci64 (digs x)) ∧ Sl wr (.slice b ly cb) (ci64 (digs y)) ∧ lx = (digs x).length ∧ ly = (digs y).length ∧ lx ≤ 1048576 ∧ ly ≤ 1048576 ∧ Nat.gcd x y = Nat.gcd m n ∧ Upd [] w wr)) (fun _ v1 wr => digOf wr v1)
  case atStart => exact ⟨m, n, _, _, a, b, ca, cb, rfl, rfl, HS.out.1, HS.out.2.1, rfl, rfl, HS.out.2.2.1, HS.out.2.2.2, rfl, Upd.refl _ _⟩
  case round =>
    obtain ⟨x, y, lx, ly, a', b', ca', cb', rfl, rfl, HI⟩ := hrel
    clear HS
    by_cases hy : y = 0
    · have hl0 : ly = 0 := by rw [HI.out.2.2.2.1, hy, digs_zero]; rfl
      have hl : decide ((ly : Int) > 0) = false := by simp; omega
      have hl' : decide (0 < ly) = false := by simp; omega
      have HF : Hid (Sl wr (.slice a' lx ca') (ci64 (digs (Nat.gcd m n))) ∧ Upd [] w wr) := by
        refine ⟨?_, HI.out.2.2.2.2.2.2.2⟩
        rw [← HI.out.2.2.2.2.2.2.1, hy, Nat.gcd_zero_right]; exact HI.out.1
      clear hy hl0
      go_wp2
      go_ret
      exact ⟨_, rfl, HF.out.1, HF.out.2⟩
    · have hl0 : 0 < ly := by
        rw [HI.out.2.2.2.1]
        rcases Nat.eq_zero_or_pos (digs y).length with h | h
        · exfalso
          have := dval_digs y
          rw [List.eq_nil_of_length_eq_zero h] at this
          exact hy (by rw [← this]; rfl)
        · exact h
      have hl' : decide (0 < ly) = true := by simpa using hl0
      have HD := Lib.hid (rdivmod_any _ _ x y wr HI.out.1 HI.out.2.1 (by have := HI.out.2.2.1; have := HI.out.2.2.2.2.1; omega) (by have := HI.out.2.2.2.1; have := HI.out.2.2.2.2.2.1; omega) (by omega))
      have HY : Hid (y ≠ 0) := hy
      clear hy hl0
      go_wp2_with fail
      refine HD.out.mono ?_
      rintro e w2 ⟨v1, v2, rfl, hs1, hs2, hu2⟩
      obtain ⟨a2, c2, rfl, _, _⟩ := dig_open hs2
      have HI2 : Hid (Sl w2 (.slice b' ly cb') (ci64 (digs y)) ∧ Sl w2 (.slice a2 (digs (x % y)).length c2) (ci64 (digs (x % y))) ∧ ly = (digs y).length ∧ (digs (x % y)).length = (digs (x % y)).length ∧ ly ≤ 1048576 ∧ (digs (x % y)).length ≤ 1048576 ∧ Nat.gcd y (x % y) = Nat.gcd m n ∧ Upd [] w w2) := by
        obtain ⟨i1, i2, i3, i4, i5, i6, i7, i8⟩ := HI.out
        refine ⟨i2.upd0 hu2, hs2, i4, rfl, i6, ?_, ?_, i8.trans0 hu2⟩
        · have := digs_len_le (Nat.mod_le x y); omega
        · rw [← i7, Nat.gcd_comm x y, Nat.gcd_rec y x, Nat.gcd_comm]
      have HM : Hid (digOf w2 (.slice a2 (digs (x % y)).length c2) < digOf wr (.slice b' ly cb')) := by
        show _ < _
        rw [digOf_is hs2, digOf_is HI.out.2.1]
        exact Nat.mod_lt _ (Nat.pos_of_ne_zero HY.out)
      obtain ⟨l2, hl2⟩ : ∃ l, l = (digs (x % y)).length := ⟨_, rfl⟩
      have HL2 := Lib.hid hl2
      rw [← hl2] at HI2 HM ⊢
      clear hs1 hs2 hu2 hl2
      go_wp2
      go_roundw
      case rel => exact ⟨y, x % y, ly, l2, b', a2, cb', c2, rfl, rfl, HI2.out.1, HI2.out.2.1, HI2.out.2.2.1, HL2.out, HI2.out.2.2.2.2.1, HI2.out.2.2.2.2.2.1, HI2.out.2.2.2.2.2.2.1, HI2.out.2.2.2.2.2.2.2⟩
      case measure => exact HM.out
end Go.Proofs.YtoklmfmoblkfcaaGreatDoor
