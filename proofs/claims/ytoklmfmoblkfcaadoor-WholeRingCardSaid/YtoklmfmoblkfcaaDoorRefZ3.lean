/- The document's texts of whole numbers (layer 6) and of fractions (layer 7). -/
import Derived.Test.YtoklmfmoblkfcaaDoorRefZ2
namespace Go.Proofs.YtoklmfmoblkfcaaDoor
open Go.RowKit Go.Proofs.Tm
set_option linter.unusedVariables false
set_option linter.unusedSimpArgs false
set_option maxRecDepth 20000

theorem wds_digs (n : Nat) : (wds n).length ≤ (digs n).length := by
  rw [wds_length_le_iff]
  exact Nat.lt_of_lt_of_le (digs_lt_pow n) (Nat.pow_le_pow_left (by decide) _)

set_option maxHeartbeats 800000 in
theorem ztext_n (u : Value) (p m : Nat) (w : World) (hu : ZV w u p m) (hpl : (digs p).length ≤ 1048576) (hml : (digs m).length ≤ 1048576) (hn : (p : Int) - m < 0) :
    Calls Tryd.prog 40 #[u] w (fun e w' => e = .returned (.string ⟨(zTxt ((p : Int) - m)).toArray⟩) ∧ Upd [] w w') := by
  obtain ⟨a0, l0, c0, d0, m0, e0, rfl, hp, hm⟩ := hu.open
  have HNE : Hid (∀ W, Upd [] w W → Calls Tryd.prog 68 #[.agg #[.slice a0 l0 c0, .slice d0 m0 e0]] W (fun e w' => e = .returned (.bool (decide ((p : Int) - m < 0))) ∧ Upd [] W w')) := fun W h => zneg_any _ _ _ W (hu.upd0 h) hpl hml
  have HAB : Hid (∀ W, Upd [] w W → Calls Tryd.prog 21 #[.agg #[.slice a0 l0 c0, .slice d0 m0 e0]] W (RDig ((p : Int) - m).natAbs W)) := fun W h => zabs_any _ _ _ W (hu.upd0 h) hpl hml
  have hal : (digs ((p : Int) - m).natAbs).length ≤ 1048576 := by
    rcases Nat.le_total m p with h | h
    · exact Nat.le_trans (digs_len_le (by omega)) hpl
    · exact Nat.le_trans (digs_len_le (by omega)) hml
  have HTX : Hid (∀ W s, DV W s ((p : Int) - m).natAbs → Calls Tryd.prog 69 #[s] W (fun e w' => e = .returned (.string ⟨(Lib.decDigits ((p : Int) - m).natAbs).toArray⟩) ∧ Upd [] W w')) := fun W s hs => rtext_any _ _ W hs (by omega)
  have HE : Hid (zTxt ((p : Int) - m) = 45 :: Lib.decDigits ((p : Int) - m).natAbs) := if_pos hn
  have hs : ¬ 9223372036854775807 < 1 + (Lib.decDigits ((p : Int) - m).natAbs).length := by have h1 := dec_le ((p : Int) - m).natAbs; have h2 := wds_digs ((p : Int) - m).natAbs; omega
  rw [decide_eq_true hn] at HNE
  clear hu hp hm hpl hml hn hal
  generalize Lib.decDigits ((p : Int) - m).natAbs = d at *
  generalize ((p : Int) - m).natAbs = n at *
  obtain ⟨w0, hw0⟩ : ∃ W, W = (w.alloc (.cells #[.slice a0 l0 c0, .slice d0 m0 e0] 33)) := ⟨_, rfl⟩
  obtain ⟨S, hS⟩ : ∃ s, s = w.heap.size := ⟨_, rfl⟩
  obtain ⟨hu0, r0, hz0⟩ := rows1 w #[.slice a0 l0 c0, .slice d0 m0 e0] 33 w0 hw0 S hS
  have HU0 := Lib.hid hu0
  have HW0 := Lib.hid hw0
  have HS := Lib.hid hS
  have HZ0 := Lib.hid hz0
  have HR0 := Lib.hid r0
  have hp0 := r0.cell 0
  have hp1 := r0.cell 1
  clear hw0 hS hu0 r0 hz0
  go_enter Tryd.func40, Tryd.ntmps40
  go_wp2_with fail
  rw [← HW0.out]
  rw [← HS.out]
  refine (HNE.out _ HU0.out).mono ?_
  rintro e w1 ⟨rfl, hu1⟩
  have HU1 := Lib.hid (HU0.out.trans0 hu1)
  have q0 := (HR0.out.upd0 hu1).cell 0
  have q1 := (HR0.out.upd0 hu1).cell 1
  clear hu1 hp0 hp1
  go_wp2_with fail
  refine (HAB.out _ HU1.out).mono ?_
  rintro e w2 ⟨v2, rfl, hd2, hu2⟩
  have HU2 := Lib.hid (HU1.out.trans0 hu2)
  have HD := Lib.hid hd2
  clear hd2 hu2 q0 q1
  go_wp2_with fail
  refine (HTX.out _ _ HD.out).mono ?_
  rintro e w3 ⟨rfl, hu3⟩
  have HF := Lib.hid (HU2.out.trans0 hu3)
  clear hu3
  go_wp2
  go_ret
  exact ⟨by rw [HE.out]; exact congrArg (fun s => Ending.returned (.string s)) (bs_cons2 45 d), HF.out⟩

set_option maxHeartbeats 800000 in
theorem ztext_p (u : Value) (p m : Nat) (w : World) (hu : ZV w u p m) (hpl : (digs p).length ≤ 1048576) (hml : (digs m).length ≤ 1048576) (hn : ¬ (p : Int) - m < 0) :
    Calls Tryd.prog 40 #[u] w (fun e w' => e = .returned (.string ⟨(zTxt ((p : Int) - m)).toArray⟩) ∧ Upd [] w w') := by
  obtain ⟨a0, l0, c0, d0, m0, e0, rfl, hp, hm⟩ := hu.open
  have HNE : Hid (∀ W, Upd [] w W → Calls Tryd.prog 68 #[.agg #[.slice a0 l0 c0, .slice d0 m0 e0]] W (fun e w' => e = .returned (.bool (decide ((p : Int) - m < 0))) ∧ Upd [] W w')) := fun W h => zneg_any _ _ _ W (hu.upd0 h) hpl hml
  have HAB : Hid (∀ W, Upd [] w W → Calls Tryd.prog 21 #[.agg #[.slice a0 l0 c0, .slice d0 m0 e0]] W (RDig ((p : Int) - m).natAbs W)) := fun W h => zabs_any _ _ _ W (hu.upd0 h) hpl hml
  have hal : (digs ((p : Int) - m).natAbs).length ≤ 1048576 := by
    rcases Nat.le_total m p with h | h
    · exact Nat.le_trans (digs_len_le (by omega)) hpl
    · exact Nat.le_trans (digs_len_le (by omega)) hml
  have HTX : Hid (∀ W s, DV W s ((p : Int) - m).natAbs → Calls Tryd.prog 69 #[s] W (fun e w' => e = .returned (.string ⟨(Lib.decDigits ((p : Int) - m).natAbs).toArray⟩) ∧ Upd [] W w')) := fun W s hs => rtext_any _ _ W hs (by omega)
  have HE : Hid (zTxt ((p : Int) - m) = Lib.decDigits ((p : Int) - m).natAbs) := if_neg hn

  rw [decide_eq_false hn] at HNE
  clear hu hp hm hpl hml hn hal
  generalize Lib.decDigits ((p : Int) - m).natAbs = d at *
  generalize ((p : Int) - m).natAbs = n at *
  obtain ⟨w0, hw0⟩ : ∃ W, W = (w.alloc (.cells #[.slice a0 l0 c0, .slice d0 m0 e0] 33)) := ⟨_, rfl⟩
  obtain ⟨S, hS⟩ : ∃ s, s = w.heap.size := ⟨_, rfl⟩
  obtain ⟨hu0, r0, hz0⟩ := rows1 w #[.slice a0 l0 c0, .slice d0 m0 e0] 33 w0 hw0 S hS
  have HU0 := Lib.hid hu0
  have HW0 := Lib.hid hw0
  have HS := Lib.hid hS
  have HZ0 := Lib.hid hz0
  have HR0 := Lib.hid r0
  have hp0 := r0.cell 0
  have hp1 := r0.cell 1
  clear hw0 hS hu0 r0 hz0
  go_enter Tryd.func40, Tryd.ntmps40
  go_wp2_with fail
  rw [← HW0.out]
  rw [← HS.out]
  refine (HNE.out _ HU0.out).mono ?_
  rintro e w1 ⟨rfl, hu1⟩
  have HU1 := Lib.hid (HU0.out.trans0 hu1)
  have q0 := (HR0.out.upd0 hu1).cell 0
  have q1 := (HR0.out.upd0 hu1).cell 1
  clear hu1 hp0 hp1
  go_wp2_with fail
  refine (HAB.out _ HU1.out).mono ?_
  rintro e w2 ⟨v2, rfl, hd2, hu2⟩
  have HU2 := Lib.hid (HU1.out.trans0 hu2)
  have HD := Lib.hid hd2
  clear hd2 hu2 q0 q1
  go_wp2_with fail
  refine (HTX.out _ _ HD.out).mono ?_
  rintro e w3 ⟨rfl, hu3⟩
  have HF := Lib.hid (HU2.out.trans0 hu3)
  clear hu3
  go_wp2
  go_ret
  exact ⟨by rw [HE.out]; rfl, HF.out⟩

theorem ztext_any (u : Value) (p m : Nat) (w : World) (hu : ZV w u p m) (hpl : (digs p).length ≤ 1048576) (hml : (digs m).length ≤ 1048576) : Calls Tryd.prog 40 #[u] w (fun e w' => e = .returned (.string ⟨(zTxt ((p : Int) - m)).toArray⟩) ∧ Upd [] w w') := by
  by_cases h : (p : Int) - m < 0
  · exact ztext_n u p m w hu hpl hml h
  · exact ztext_p u p m w hu hpl hml h

end Go.Proofs.YtoklmfmoblkfcaaDoor
