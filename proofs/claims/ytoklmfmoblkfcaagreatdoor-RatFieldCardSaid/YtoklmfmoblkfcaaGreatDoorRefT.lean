/- The document's texts of whole numbers (layer 6) and of fractions (layer 7). -/
import Derived.Test.YtoklmfmoblkfcaaGreatDoorAa
import Derived.Test.YtoklmfmoblkfcaaGreatDoorRefZ2
import Derived.Test.YtoklmfmoblkfcaaGreatDoorRatL
namespace Go.Proofs.YtoklmfmoblkfcaaGreatDoor
open Go.RowKit Go.Proofs.Tm
set_option linter.unusedVariables false
set_option linter.unusedSimpArgs false
set_option maxRecDepth 20000

theorem wds_digs (n : Nat) : (wds n).length ≤ (digs n).length := by
  rw [wds_length_le_iff]
  exact Nat.lt_of_lt_of_le (digs_lt_pow n) (Nat.pow_le_pow_left (by decide) _)

set_option maxHeartbeats 800000 in
theorem ztext_n (u : Value) (p m : Nat) (w : World) (hu : ZV w u p m) (hpl : (digs p).length ≤ 1048576) (hml : (digs m).length ≤ 1048576) (hn : (p : Int) - m < 0) :
    Calls Tryz.prog 65 #[u] w (fun e w' => e = .returned (.string ⟨(zTxt ((p : Int) - m)).toArray⟩) ∧ Upd [] w w') := by
  obtain ⟨a0, l0, c0, d0, m0, e0, rfl, hp, hm⟩ := hu.open
  have HNE : Hid (∀ W, Upd [] w W → Calls Tryz.prog 18 #[.agg #[.slice a0 l0 c0, .slice d0 m0 e0]] W (fun e w' => e = .returned (.bool (decide ((p : Int) - m < 0))) ∧ Upd [] W w')) := fun W h => zneg_any _ _ _ W (hu.upd0 h) hpl hml
  have HAB : Hid (∀ W, Upd [] w W → Calls Tryz.prog 22 #[.agg #[.slice a0 l0 c0, .slice d0 m0 e0]] W (RDig ((p : Int) - m).natAbs W)) := fun W h => zabs_any _ _ _ W (hu.upd0 h) hpl hml
  have hal : (digs ((p : Int) - m).natAbs).length ≤ 1048576 := by
    rcases Nat.le_total m p with h | h
    · exact Nat.le_trans (digs_len_le (by omega)) hpl
    · exact Nat.le_trans (digs_len_le (by omega)) hml
  have HTX : Hid (∀ W s, DV W s ((p : Int) - m).natAbs → Calls Tryz.prog 21 #[s] W (fun e w' => e = .returned (.string ⟨(Lib.decDigits ((p : Int) - m).natAbs).toArray⟩) ∧ Upd [] W w')) := fun W s hs => rtext_any _ _ W hs (by omega)
  have HE : Hid (zTxt ((p : Int) - m) = 45 :: Lib.decDigits ((p : Int) - m).natAbs) := if_pos hn
  have hs : ¬ 9223372036854775807 < 1 + (Lib.decDigits ((p : Int) - m).natAbs).length := by have h1 := dec_le ((p : Int) - m).natAbs; have h2 := wds_digs ((p : Int) - m).natAbs; omega
  rw [decide_eq_true hn] at HNE
  clear hu hp hm hpl hml hn hal
  generalize Lib.decDigits ((p : Int) - m).natAbs = d at *
  generalize ((p : Int) - m).natAbs = n at *
  obtain ⟨w0, hw0⟩ : ∃ W, W = (w.alloc (.cells #[.slice a0 l0 c0, .slice d0 m0 e0] 33)) := ⟨_, rfl⟩
  obtain ⟨S, hS⟩ : ∃ s, s = w.heap.size := ⟨_, rfl⟩
  obtain ⟨hu0, r0, hz0⟩ := rows1 w #[.slice a0 l0 c0, .slice d0 m0 e0] 33 w0 hw0 S hS
  have HU0 := Lib.hid hu0
  have HW0 := Lib.hid hw0
  have HS := Lib.hid hS
  have HZ0 := Lib.hid hz0
  have HR0 := Lib.hid r0
  have hp0 := r0.cell 0
  have hp1 := r0.cell 1
  clear hw0 hS hu0 r0 hz0
  go_enter Tryz.func65, Tryz.ntmps65
  go_wp2_with fail
  rw [← HW0.out]
  rw [← HS.out]
  refine (HNE.out _ HU0.out).mono ?_
  rintro e w1 ⟨rfl, hu1⟩
  have HU1 := Lib.hid (HU0.out.trans0 hu1)
  have q0 := (HR0.out.upd0 hu1).cell 0
  have q1 := (HR0.out.upd0 hu1).cell 1
  clear hu1 hp0 hp1
  go_wp2_with fail
  refine (HAB.out _ HU1.out).mono ?_
  rintro e w2 ⟨v2, rfl, hd2, hu2⟩
  have HU2 := Lib.hid (HU1.out.trans0 hu2)
  have HD := Lib.hid hd2
  clear hd2 hu2 q0 q1
  go_wp2_with fail
  refine (HTX.out _ _ HD.out).mono ?_
  rintro e w3 ⟨rfl, hu3⟩
  have HF := Lib.hid (HU2.out.trans0 hu3)
  clear hu3
  go_wp2
  go_ret
  exact ⟨by rw [HE.out]; exact congrArg (fun s => Ending.returned (.string s)) (bs_cons2 45 d), HF.out⟩

set_option maxHeartbeats 800000 in
theorem ztext_p (u : Value) (p m : Nat) (w : World) (hu : ZV w u p m) (hpl : (digs p).length ≤ 1048576) (hml : (digs m).length ≤ 1048576) (hn : ¬ (p : Int) - m < 0) :
    Calls Tryz.prog 65 #[u] w (fun e w' => e = .returned (.string ⟨(zTxt ((p : Int) - m)).toArray⟩) ∧ Upd [] w w') := by
  obtain ⟨a0, l0, c0, d0, m0, e0, rfl, hp, hm⟩ := hu.open
  have HNE : Hid (∀ W, Upd [] w W → Calls Tryz.prog 18 #[.agg #[.slice a0 l0 c0, .slice d0 m0 e0]] W (fun e w' => e = .returned (.bool (decide ((p : Int) - m < 0))) ∧ Upd [] W w')) := fun W h => zneg_any _ _ _ W (hu.upd0 h) hpl hml
  have HAB : Hid (∀ W, Upd [] w W → Calls Tryz.prog 22 #[.agg #[.slice a0 l0 c0, .slice d0 m0 e0]] W (RDig ((p : Int) - m).natAbs W)) := fun W h => zabs_any _ _ _ W (hu.upd0 h) hpl hml
  have hal : (digs ((p : Int) - m).natAbs).length ≤ 1048576 := by
    rcases Nat.le_total m p with h | h
    · exact Nat.le_trans (digs_len_le (by omega)) hpl
    · exact Nat.le_trans (digs_len_le (by omega)) hml
  have HTX : Hid (∀ W s, DV W s ((p : Int) - m).natAbs → Calls Tryz.prog 21 #[s] W (fun e w' => e = .returned (.string ⟨(Lib.decDigits ((p : Int) - m).natAbs).toArray⟩) ∧ Upd [] W w')) := fun W s hs => rtext_any _ _ W hs (by omega)
  have HE : Hid (zTxt ((p : Int) - m) = Lib.decDigits ((p : Int) - m).natAbs) := if_neg hn

  rw [decide_eq_false hn] at HNE
  clear hu hp hm hpl hml hn hal
  generalize Lib.decDigits ((p : Int) - m).natAbs = d at *
  generalize ((p : Int) - m).natAbs = n at *
  obtain ⟨w0, hw0⟩ : ∃ W, W = (w.alloc (.cells #[.slice a0 l0 c0, .slice d0 m0 e0] 33)) := ⟨_, rfl⟩
  obtain ⟨S, hS⟩ : ∃ s, s = w.heap.size := ⟨_, rfl⟩
  obtain ⟨hu0, r0, hz0⟩ := rows1 w #[.slice a0 l0 c0, .slice d0 m0 e0] 33 w0 hw0 S hS
  have HU0 := Lib.hid hu0
  have HW0 := Lib.hid hw0
  have HS := Lib.hid hS
  have HZ0 := Lib.hid hz0
  have HR0 := Lib.hid r0
  have hp0 := r0.cell 0
  have hp1 := r0.cell 1
  clear hw0 hS hu0 r0 hz0
  go_enter Tryz.func65, Tryz.ntmps65
  go_wp2_with fail
  rw [← HW0.out]
  rw [← HS.out]
  refine (HNE.out _ HU0.out).mono ?_
  rintro e w1 ⟨rfl, hu1⟩
  have HU1 := Lib.hid (HU0.out.trans0 hu1)
  have q0 := (HR0.out.upd0 hu1).cell 0
  have q1 := (HR0.out.upd0 hu1).cell 1
  clear hu1 hp0 hp1
  go_wp2_with fail
  refine (HAB.out _ HU1.out).mono ?_
  rintro e w2 ⟨v2, rfl, hd2, hu2⟩
  have HU2 := Lib.hid (HU1.out.trans0 hu2)
  have HD := Lib.hid hd2
  clear hd2 hu2 q0 q1
  go_wp2_with fail
  refine (HTX.out _ _ HD.out).mono ?_
  rintro e w3 ⟨rfl, hu3⟩
  have HF := Lib.hid (HU2.out.trans0 hu3)
  clear hu3
  go_wp2
  go_ret
  exact ⟨by rw [HE.out]; rfl, HF.out⟩

theorem ztext_any (u : Value) (p m : Nat) (w : World) (hu : ZV w u p m) (hpl : (digs p).length ≤ 1048576) (hml : (digs m).length ≤ 1048576) : Calls Tryz.prog 65 #[u] w (fun e w' => e = .returned (.string ⟨(zTxt ((p : Int) - m)).toArray⟩) ∧ Upd [] w w') := by
  by_cases h : (p : Int) - m < 0
  · exact ztext_n u p m w hu hpl hml h
  · exact ztext_p u p m w hu hpl hml h

theorem qval_num {p m d : Nat} (hd : 0 < d) : (qval p m d).num.natAbs = ((p : Int) - m).natAbs / Nat.gcd ((p : Int) - m).natAbs d ∧ (qval p m d).den = d / Nat.gcd ((p : Int) - m).natAbs d ∧ ((qval p m d).num < 0 ↔ (p : Int) - m < 0) := by
  have hg : 0 < Nat.gcd ((p : Int) - m).natAbs d := Nat.gcd_pos_of_pos_right _ hd
  have hdv : Nat.gcd ((p : Int) - m).natAbs d ∣ ((p : Int) - m).natAbs := Nat.gcd_dvd_left _ _
  have e1 : (qval p m d).num = ((p : Int) - m) / (Nat.gcd ((p : Int) - m).natAbs d : Int) := by
    unfold qval
    rw [Rat.num_mkRat, if_neg (by omega), Nat.gcd_comm]
  refine ⟨?_, ?_, ?_⟩
  · rw [e1]; exact over_abs hg hdv
  · unfold qval; rw [Rat.den_mkRat, if_neg (by omega), Nat.gcd_comm]
  · rw [e1, ← over_eq _ _ hg hdv]
    split
    · next h =>
      have : 0 < ((p : Int) - m).natAbs / Nat.gcd ((p : Int) - m).natAbs d := Nat.div_pos (Nat.le_of_dvd (by omega) hdv) hg
      constructor <;> intro _ <;> omega
    · next h =>
      have : 0 ≤ ((((p : Int) - m).natAbs / Nat.gcd ((p : Int) - m).natAbs d : Nat) : Int) := Int.natCast_nonneg _
      constructor <;> intro _ <;> omega

set_option maxHeartbeats 1600000 in
theorem qtext_n1 (u : Value) (p m d : Nat) (w : World) (hu : QV w u p m d) (hpl : (digs p).length ≤ 1048576) (hml : (digs m).length ≤ 1048576) (hdl : (digs d).length ≤ 1048576) (hd0 : 0 < d) (hn : (p : Int) - m < 0) (hq : (qval p m d).den = 1) :
    Calls Tryz.prog 88 #[u] w (fun e w' => e = .returned (.string ⟨(ratTxt (qval p m d)).toArray⟩) ∧ Upd [] w w') := by
  obtain ⟨a0, l0, c0, d0, m0, e0, f0, g0, h0, rfl, hz, hd⟩ := hu.open
  obtain ⟨n1, n2, n3⟩ := qval_num (p := p) (m := m) hd0
  obtain ⟨A, hA⟩ : ∃ a, a = ((p : Int) - m).natAbs := ⟨_, rfl⟩
  rw [← hA] at n1 n2
  obtain ⟨g, hg⟩ : ∃ g, g = Nat.gcd A d := ⟨_, rfl⟩
  rw [← hg] at n1 n2
  have hgp : 0 < g := by rw [hg]; exact Nat.gcd_pos_of_pos_right _ hd0
  obtain ⟨P, hP⟩ : ∃ x, x = A / g := ⟨_, rfl⟩
  obtain ⟨Q, hQ⟩ : ∃ x, x = d / g := ⟨_, rfl⟩
  rw [← hP] at n1
  rw [← hQ] at n2
  have hQp : 0 < Q := by rw [← n2]; exact Rat.den_pos _
  have lA : (digs A).length ≤ 1048576 := by
    rw [hA]
    rcases Nat.le_total m p with h | h
    · exact Nat.le_trans (digs_len_le (by omega)) hpl
    · exact Nat.le_trans (digs_len_le (by omega)) hml
  have lP : (digs P).length ≤ 1048576 := Nat.le_trans (digs_len_le (by rw [hP]; exact Nat.div_le_self _ _)) lA
  have lQ : (digs Q).length ≤ 1048576 := Nat.le_trans (digs_len_le (by rw [hQ]; exact Nat.div_le_self _ _)) hdl
  have HAB : Hid (∀ W, Upd [] w W → Calls Tryz.prog 22 #[.agg #[.slice a0 l0 c0, .slice d0 m0 e0]] W (RDig A W)) := fun W h => by rw [hA]; exact zabs_any _ _ _ W (hz.upd0 h) hpl hml
  have HNE : Hid (∀ W, Upd [] w W → Calls Tryz.prog 18 #[.agg #[.slice a0 l0 c0, .slice d0 m0 e0]] W (fun e w' => e = .returned (.bool (decide ((p : Int) - m < 0))) ∧ Upd [] W w')) := fun W h => zneg_any _ _ _ W (hz.upd0 h) hpl hml
  have HDE : Hid (∀ W, Upd [] w W → DV W (.slice f0 g0 h0) d) := fun W h => hd.upd0 h
  have HGC : Hid (∀ W s t, DV W s A → DV W t d → Calls Tryz.prog 123 #[s, t] W (RDig g W)) := fun W s t hs ht => by rw [hg]; exact rgcd_any _ _ _ _ W hs ht (by omega) (by omega)
  have HD1 : Hid (∀ W s t, DV W s A → DV W t g → Calls Tryz.prog 124 #[s, t] W (RDig2 P (A % g) W)) := fun W s t hs ht => by rw [hP]; exact rdivmod_any _ _ _ _ W hs ht (by omega) (by have := digs_len_le (Nat.le_of_dvd hd0 (hg ▸ Nat.gcd_dvd_right A d)); omega) hgp
  have HD2 : Hid (∀ W s t, DV W s d → DV W t g → Calls Tryz.prog 124 #[s, t] W (RDig2 Q (d % g) W)) := fun W s t hs ht => by rw [hQ]; exact rdivmod_any _ _ _ _ W hs ht (by omega) (by have := digs_len_le (Nat.le_of_dvd hd0 (hg ▸ Nat.gcd_dvd_right A d)); omega) hgp
  obtain ⟨dp, hdp⟩ : ∃ l, l = Lib.decDigits P := ⟨_, rfl⟩
  obtain ⟨dq, hdq⟩ : ∃ l, l = Lib.decDigits Q := ⟨_, rfl⟩
  have HT1 : Hid (∀ W s, DV W s P → Calls Tryz.prog 21 #[s] W (fun e w' => e = .returned (.string ⟨(dp).toArray⟩) ∧ Upd [] W w')) := fun W s hs => by rw [hdp]; exact rtext_any _ _ W hs (by omega)
  have HT2 : Hid (∀ W s, DV W s Q → Calls Tryz.prog 21 #[s] W (fun e w' => e = .returned (.string ⟨(dq).toArray⟩) ∧ Upd [] W w')) := fun W s hs => by rw [hdq]; exact rtext_any _ _ W hs (by omega)
  have HSM : Hid (∀ W, Calls Tryz.prog 76 #[.int .i64 1] W (RDig 1 W)) := fun W => small_any 1 W (by decide)
  have HCM : Hid (∀ W s t, DV W s Q → DV W t 1 → Calls Tryz.prog 67 #[s, t] W (fun e w' => e = .returned (.int .i64 0) ∧ Upd [] W w')) := fun W s t hs ht => by
    have := dcmp hs ht (by omega) (Nat.le_trans (digs_len1 (by decide)) (by decide))
    have e : cmpN Q 1 = 0 := by unfold cmpN; rw [n2] at hq; rw [if_neg (by omega)]; rw [if_pos hq]
    rw [e] at this
    exact this
  have HE : Hid (ratTxt (qval p m d) = (45 :: dp)) := by
    show _ = _
    unfold ratTxt zTxt
    rw [n1, n2, if_pos (n3.2 hn), if_pos (n2 ▸ hq), List.append_nil, ← hdp]
  have hs1 : ¬ 9223372036854775807 < 1 + dp.length := by rw [hdp]; have h1 := dec_le P; have h2 := wds_digs P; omega
  rw [decide_eq_true hn] at HNE
  clear hu hz hd hpl hml hdl hd0 hn hq n1 n2 n3 hA hg hgp hP hQ hQp lA lP lQ hdp hdq
  generalize qval p m d = qv at *
  obtain ⟨w0, hw0⟩ : ∃ W, W = (w.alloc (.cells #[.slice a0 l0 c0, .slice d0 m0 e0, .slice f0 g0 h0] 55)) := ⟨_, rfl⟩
  obtain ⟨S, hS⟩ : ∃ s, s = w.heap.size := ⟨_, rfl⟩
  obtain ⟨hu0, r0, hz0⟩ := rows1 w #[.slice a0 l0 c0, .slice d0 m0 e0, .slice f0 g0 h0] 55 w0 hw0 S hS
  have HU0 := Lib.hid hu0
  have HW0 := Lib.hid hw0
  have HS := Lib.hid hS
  have HZ0 := Lib.hid hz0
  have HR0 := Lib.hid r0
  have hp0 := r0.cell 0
  have hp1 := r0.cell 1
  have hp2 := r0.cell 2
  clear hw0 hS hu0 r0 hz0
  go_enter Tryz.func88, Tryz.ntmps88
  go_wp2_with fail
  rw [← HW0.out]
  rw [← HS.out]
  refine (HAB.out _ HU0.out).mono ?_
  rintro e w1 ⟨v1, rfl, hd1, hu1⟩
  have HU1 := Lib.hid (HU0.out.trans0 hu1)
  have HV1 := Lib.hid hu1
  have HA1 := Lib.hid (DV.of hd1)
  have q2 := (HR0.out.upd0 hu1).cell 2
  clear hu1 hd1 hp0 hp1 hp2
  go_wp2_with fail
  refine (HGC.out _ _ _ HA1.out (HDE.out _ HU1.out)).mono ?_
  rintro e w2 ⟨v2, rfl, hd2, hu2⟩
  have HU2 := Lib.hid (HU1.out.trans0 hu2)
  have HV2 := Lib.hid (HV1.out.trans0 hu2)
  have HA2 := Lib.hid (HA1.out.upd0 hu2)
  have HG2 := Lib.hid (DV.of hd2)
  clear hu2 hd2 q2
  go_wp2_with fail
  refine (HD1.out _ _ _ HA2.out HG2.out).mono ?_
  rintro e w3 ⟨v3, v3', rfl, hd3, _, hu3⟩
  have HU3 := Lib.hid (HU2.out.trans0 hu3)
  have HV3 := Lib.hid (HV2.out.trans0 hu3)
  have HG3 := Lib.hid (HG2.out.upd0 hu3)
  have HP3 := Lib.hid (DV.of hd3)
  have q2 := (HR0.out.upd0 HV3.out).cell 2
  clear hu3 hd3
  go_wp2_with fail
  refine (HD2.out _ _ _ (HDE.out _ HU3.out) HG3.out).mono ?_
  rintro e w4 ⟨v4, v4', rfl, hd4, _, hu4⟩
  have HU4 := Lib.hid (HU3.out.trans0 hu4)
  have HV4 := Lib.hid (HV3.out.trans0 hu4)
  have HP4 := Lib.hid (HP3.out.upd0 hu4)
  have HQ4 := Lib.hid (DV.of hd4)
  clear hu4 hd4 q2
  go_wp2_with fail
  refine (HT1.out _ _ HP4.out).mono ?_
  rintro e w5 ⟨rfl, hu5⟩
  have HU5 := Lib.hid (HU4.out.trans0 hu5)
  have HV5 := Lib.hid (HV4.out.trans0 hu5)
  have HQ5 := Lib.hid (HQ4.out.upd0 hu5)
  have q0 := (HR0.out.upd0 HV5.out).cell 0
  have q1 := (HR0.out.upd0 HV5.out).cell 1
  clear hu5
  go_wp2_with fail
  refine (HNE.out _ HU5.out).mono ?_
  rintro e w6 ⟨rfl, hu6⟩
  have HU6 := Lib.hid (HU5.out.trans0 hu6)
  have HQ6 := Lib.hid (HQ5.out.upd0 hu6)
  clear hu6 q0 q1
  go_wp2_with fail
  refine (HSM.out _).mono ?_
  rintro e w7 ⟨v7, rfl, hd7, hu7⟩
  have HU7 := Lib.hid (HU6.out.trans0 hu7)
  have HQ7 := Lib.hid (HQ6.out.upd0 hu7)
  have HO7 := Lib.hid (DV.of hd7)
  clear hu7 hd7
  go_wp2_with fail
  refine (HCM.out _ _ _ HQ7.out HO7.out).mono ?_
  rintro e w8 ⟨rfl, hu8⟩
  have HU8 := Lib.hid (HU7.out.trans0 hu8)
  have HQ8 := Lib.hid (HQ7.out.upd0 hu8)
  clear hu8
  go_wp2
  go_ret
  exact ⟨by rw [HE.out]; exact congrArg (fun s => Ending.returned (.string s)) (bs_cons2 45 dp), HU8.out⟩

set_option maxHeartbeats 1600000 in
theorem qtext_nq (u : Value) (p m d : Nat) (w : World) (hu : QV w u p m d) (hpl : (digs p).length ≤ 1048576) (hml : (digs m).length ≤ 1048576) (hdl : (digs d).length ≤ 1048576) (hd0 : 0 < d) (hn : (p : Int) - m < 0) (hq : ¬ (qval p m d).den = 1) :
    Calls Tryz.prog 88 #[u] w (fun e w' => e = .returned (.string ⟨(ratTxt (qval p m d)).toArray⟩) ∧ Upd [] w w') := by
  obtain ⟨a0, l0, c0, d0, m0, e0, f0, g0, h0, rfl, hz, hd⟩ := hu.open
  obtain ⟨n1, n2, n3⟩ := qval_num (p := p) (m := m) hd0
  obtain ⟨A, hA⟩ : ∃ a, a = ((p : Int) - m).natAbs := ⟨_, rfl⟩
  rw [← hA] at n1 n2
  obtain ⟨g, hg⟩ : ∃ g, g = Nat.gcd A d := ⟨_, rfl⟩
  rw [← hg] at n1 n2
  have hgp : 0 < g := by rw [hg]; exact Nat.gcd_pos_of_pos_right _ hd0
  obtain ⟨P, hP⟩ : ∃ x, x = A / g := ⟨_, rfl⟩
  obtain ⟨Q, hQ⟩ : ∃ x, x = d / g := ⟨_, rfl⟩
  rw [← hP] at n1
  rw [← hQ] at n2
  have hQp : 0 < Q := by rw [← n2]; exact Rat.den_pos _
  have lA : (digs A).length ≤ 1048576 := by
    rw [hA]
    rcases Nat.le_total m p with h | h
    · exact Nat.le_trans (digs_len_le (by omega)) hpl
    · exact Nat.le_trans (digs_len_le (by omega)) hml
  have lP : (digs P).length ≤ 1048576 := Nat.le_trans (digs_len_le (by rw [hP]; exact Nat.div_le_self _ _)) lA
  have lQ : (digs Q).length ≤ 1048576 := Nat.le_trans (digs_len_le (by rw [hQ]; exact Nat.div_le_self _ _)) hdl
  have HAB : Hid (∀ W, Upd [] w W → Calls Tryz.prog 22 #[.agg #[.slice a0 l0 c0, .slice d0 m0 e0]] W (RDig A W)) := fun W h => by rw [hA]; exact zabs_any _ _ _ W (hz.upd0 h) hpl hml
  have HNE : Hid (∀ W, Upd [] w W → Calls Tryz.prog 18 #[.agg #[.slice a0 l0 c0, .slice d0 m0 e0]] W (fun e w' => e = .returned (.bool (decide ((p : Int) - m < 0))) ∧ Upd [] W w')) := fun W h => zneg_any _ _ _ W (hz.upd0 h) hpl hml
  have HDE : Hid (∀ W, Upd [] w W → DV W (.slice f0 g0 h0) d) := fun W h => hd.upd0 h
  have HGC : Hid (∀ W s t, DV W s A → DV W t d → Calls Tryz.prog 123 #[s, t] W (RDig g W)) := fun W s t hs ht => by rw [hg]; exact rgcd_any _ _ _ _ W hs ht (by omega) (by omega)
  have HD1 : Hid (∀ W s t, DV W s A → DV W t g → Calls Tryz.prog 124 #[s, t] W (RDig2 P (A % g) W)) := fun W s t hs ht => by rw [hP]; exact rdivmod_any _ _ _ _ W hs ht (by omega) (by have := digs_len_le (Nat.le_of_dvd hd0 (hg ▸ Nat.gcd_dvd_right A d)); omega) hgp
  have HD2 : Hid (∀ W s t, DV W s d → DV W t g → Calls Tryz.prog 124 #[s, t] W (RDig2 Q (d % g) W)) := fun W s t hs ht => by rw [hQ]; exact rdivmod_any _ _ _ _ W hs ht (by omega) (by have := digs_len_le (Nat.le_of_dvd hd0 (hg ▸ Nat.gcd_dvd_right A d)); omega) hgp
  obtain ⟨dp, hdp⟩ : ∃ l, l = Lib.decDigits P := ⟨_, rfl⟩
  obtain ⟨dq, hdq⟩ : ∃ l, l = Lib.decDigits Q := ⟨_, rfl⟩
  have HT1 : Hid (∀ W s, DV W s P → Calls Tryz.prog 21 #[s] W (fun e w' => e = .returned (.string ⟨(dp).toArray⟩) ∧ Upd [] W w')) := fun W s hs => by rw [hdp]; exact rtext_any _ _ W hs (by omega)
  have HT2 : Hid (∀ W s, DV W s Q → Calls Tryz.prog 21 #[s] W (fun e w' => e = .returned (.string ⟨(dq).toArray⟩) ∧ Upd [] W w')) := fun W s hs => by rw [hdq]; exact rtext_any _ _ W hs (by omega)
  have HSM : Hid (∀ W, Calls Tryz.prog 76 #[.int .i64 1] W (RDig 1 W)) := fun W => small_any 1 W (by decide)
  have HCM : Hid (∀ W s t, DV W s Q → DV W t 1 → Calls Tryz.prog 67 #[s, t] W (fun e w' => e = .returned (.int .i64 1) ∧ Upd [] W w')) := fun W s t hs ht => by
    have := dcmp hs ht (by omega) (Nat.le_trans (digs_len1 (by decide)) (by decide))
    have e : cmpN Q 1 = 1 := by unfold cmpN; rw [n2] at hq; rw [if_neg (by omega)]; rw [if_neg hq]
    rw [e] at this
    exact this
  have HE : Hid (ratTxt (qval p m d) = (45 :: dp) ++ (47 :: dq)) := by
    show _ = _
    unfold ratTxt zTxt
    rw [n1, n2, if_pos (n3.2 hn), if_neg (fun h => hq (n2.trans h)), ← hdp, ← hdq]
  have hs1 : ¬ 9223372036854775807 < 1 + dp.length := by rw [hdp]; have h1 := dec_le P; have h2 := wds_digs P; omega
  have hs2 : ¬ 9223372036854775807 < 1 + dp.length + 1 := by rw [hdp]; have h1 := dec_le P; have h2 := wds_digs P; omega
  have hs3 : ¬ 9223372036854775807 < 1 + dp.length + 1 + dq.length := by rw [hdp, hdq]; have h1 := dec_le P; have h2 := wds_digs P; have h3 := dec_le Q; have h4 := wds_digs Q; omega
  rw [decide_eq_true hn] at HNE
  clear hu hz hd hpl hml hdl hd0 hn hq n1 n2 n3 hA hg hgp hP hQ hQp lA lP lQ hdp hdq
  generalize qval p m d = qv at *
  obtain ⟨w0, hw0⟩ : ∃ W, W = (w.alloc (.cells #[.slice a0 l0 c0, .slice d0 m0 e0, .slice f0 g0 h0] 55)) := ⟨_, rfl⟩
  obtain ⟨S, hS⟩ : ∃ s, s = w.heap.size := ⟨_, rfl⟩
  obtain ⟨hu0, r0, hz0⟩ := rows1 w #[.slice a0 l0 c0, .slice d0 m0 e0, .slice f0 g0 h0] 55 w0 hw0 S hS
  have HU0 := Lib.hid hu0
  have HW0 := Lib.hid hw0
  have HS := Lib.hid hS
  have HZ0 := Lib.hid hz0
  have HR0 := Lib.hid r0
  have hp0 := r0.cell 0
  have hp1 := r0.cell 1
  have hp2 := r0.cell 2
  clear hw0 hS hu0 r0 hz0
  go_enter Tryz.func88, Tryz.ntmps88
  go_wp2_with fail
  rw [← HW0.out]
  rw [← HS.out]
  refine (HAB.out _ HU0.out).mono ?_
  rintro e w1 ⟨v1, rfl, hd1, hu1⟩
  have HU1 := Lib.hid (HU0.out.trans0 hu1)
  have HV1 := Lib.hid hu1
  have HA1 := Lib.hid (DV.of hd1)
  have q2 := (HR0.out.upd0 hu1).cell 2
  clear hu1 hd1 hp0 hp1 hp2
  go_wp2_with fail
  refine (HGC.out _ _ _ HA1.out (HDE.out _ HU1.out)).mono ?_
  rintro e w2 ⟨v2, rfl, hd2, hu2⟩
  have HU2 := Lib.hid (HU1.out.trans0 hu2)
  have HV2 := Lib.hid (HV1.out.trans0 hu2)
  have HA2 := Lib.hid (HA1.out.upd0 hu2)
  have HG2 := Lib.hid (DV.of hd2)
  clear hu2 hd2 q2
  go_wp2_with fail
  refine (HD1.out _ _ _ HA2.out HG2.out).mono ?_
  rintro e w3 ⟨v3, v3', rfl, hd3, _, hu3⟩
  have HU3 := Lib.hid (HU2.out.trans0 hu3)
  have HV3 := Lib.hid (HV2.out.trans0 hu3)
  have HG3 := Lib.hid (HG2.out.upd0 hu3)
  have HP3 := Lib.hid (DV.of hd3)
  have q2 := (HR0.out.upd0 HV3.out).cell 2
  clear hu3 hd3
  go_wp2_with fail
  refine (HD2.out _ _ _ (HDE.out _ HU3.out) HG3.out).mono ?_
  rintro e w4 ⟨v4, v4', rfl, hd4, _, hu4⟩
  have HU4 := Lib.hid (HU3.out.trans0 hu4)
  have HV4 := Lib.hid (HV3.out.trans0 hu4)
  have HP4 := Lib.hid (HP3.out.upd0 hu4)
  have HQ4 := Lib.hid (DV.of hd4)
  clear hu4 hd4 q2
  go_wp2_with fail
  refine (HT1.out _ _ HP4.out).mono ?_
  rintro e w5 ⟨rfl, hu5⟩
  have HU5 := Lib.hid (HU4.out.trans0 hu5)
  have HV5 := Lib.hid (HV4.out.trans0 hu5)
  have HQ5 := Lib.hid (HQ4.out.upd0 hu5)
  have q0 := (HR0.out.upd0 HV5.out).cell 0
  have q1 := (HR0.out.upd0 HV5.out).cell 1
  clear hu5
  go_wp2_with fail
  refine (HNE.out _ HU5.out).mono ?_
  rintro e w6 ⟨rfl, hu6⟩
  have HU6 := Lib.hid (HU5.out.trans0 hu6)
  have HQ6 := Lib.hid (HQ5.out.upd0 hu6)
  clear hu6 q0 q1
  go_wp2_with fail
  refine (HSM.out _).mono ?_
  rintro e w7 ⟨v7, rfl, hd7, hu7⟩
  have HU7 := Lib.hid (HU6.out.trans0 hu7)
  have HQ7 := Lib.hid (HQ6.out.upd0 hu7)
  have HO7 := Lib.hid (DV.of hd7)
  clear hu7 hd7
  go_wp2_with fail
  refine (HCM.out _ _ _ HQ7.out HO7.out).mono ?_
  rintro e w8 ⟨rfl, hu8⟩
  have HU8 := Lib.hid (HU7.out.trans0 hu8)
  have HQ8 := Lib.hid (HQ7.out.upd0 hu8)
  clear hu8
  go_wp2_with fail
  refine (HT2.out _ _ HQ8.out).mono ?_
  rintro e w9 ⟨rfl, hu9⟩
  have HF := Lib.hid (HU8.out.trans0 hu9)
  clear hu9
  go_wp2
  go_ret
  refine ⟨?_, HF.out⟩
  rw [HE.out]
  show Ending.returned (.string ((((⟨#[45]⟩ ++ ⟨dp.toArray⟩) : ByteArray) ++ ⟨#[47]⟩) ++ ⟨dq.toArray⟩)) = _
  rw [bs_cons2]
  rw [show (⟨#[47]⟩ : ByteArray) = ⟨[47].toArray⟩ from rfl, bs_app, bs_app, List.append_assoc]
  rfl

set_option maxHeartbeats 1600000 in
theorem qtext_p1 (u : Value) (p m d : Nat) (w : World) (hu : QV w u p m d) (hpl : (digs p).length ≤ 1048576) (hml : (digs m).length ≤ 1048576) (hdl : (digs d).length ≤ 1048576) (hd0 : 0 < d) (hn : ¬ (p : Int) - m < 0) (hq : (qval p m d).den = 1) :
    Calls Tryz.prog 88 #[u] w (fun e w' => e = .returned (.string ⟨(ratTxt (qval p m d)).toArray⟩) ∧ Upd [] w w') := by
  obtain ⟨a0, l0, c0, d0, m0, e0, f0, g0, h0, rfl, hz, hd⟩ := hu.open
  obtain ⟨n1, n2, n3⟩ := qval_num (p := p) (m := m) hd0
  obtain ⟨A, hA⟩ : ∃ a, a = ((p : Int) - m).natAbs := ⟨_, rfl⟩
  rw [← hA] at n1 n2
  obtain ⟨g, hg⟩ : ∃ g, g = Nat.gcd A d := ⟨_, rfl⟩
  rw [← hg] at n1 n2
  have hgp : 0 < g := by rw [hg]; exact Nat.gcd_pos_of_pos_right _ hd0
  obtain ⟨P, hP⟩ : ∃ x, x = A / g := ⟨_, rfl⟩
  obtain ⟨Q, hQ⟩ : ∃ x, x = d / g := ⟨_, rfl⟩
  rw [← hP] at n1
  rw [← hQ] at n2
  have hQp : 0 < Q := by rw [← n2]; exact Rat.den_pos _
  have lA : (digs A).length ≤ 1048576 := by
    rw [hA]
    rcases Nat.le_total m p with h | h
    · exact Nat.le_trans (digs_len_le (by omega)) hpl
    · exact Nat.le_trans (digs_len_le (by omega)) hml
  have lP : (digs P).length ≤ 1048576 := Nat.le_trans (digs_len_le (by rw [hP]; exact Nat.div_le_self _ _)) lA
  have lQ : (digs Q).length ≤ 1048576 := Nat.le_trans (digs_len_le (by rw [hQ]; exact Nat.div_le_self _ _)) hdl
  have HAB : Hid (∀ W, Upd [] w W → Calls Tryz.prog 22 #[.agg #[.slice a0 l0 c0, .slice d0 m0 e0]] W (RDig A W)) := fun W h => by rw [hA]; exact zabs_any _ _ _ W (hz.upd0 h) hpl hml
  have HNE : Hid (∀ W, Upd [] w W → Calls Tryz.prog 18 #[.agg #[.slice a0 l0 c0, .slice d0 m0 e0]] W (fun e w' => e = .returned (.bool (decide ((p : Int) - m < 0))) ∧ Upd [] W w')) := fun W h => zneg_any _ _ _ W (hz.upd0 h) hpl hml
  have HDE : Hid (∀ W, Upd [] w W → DV W (.slice f0 g0 h0) d) := fun W h => hd.upd0 h
  have HGC : Hid (∀ W s t, DV W s A → DV W t d → Calls Tryz.prog 123 #[s, t] W (RDig g W)) := fun W s t hs ht => by rw [hg]; exact rgcd_any _ _ _ _ W hs ht (by omega) (by omega)
  have HD1 : Hid (∀ W s t, DV W s A → DV W t g → Calls Tryz.prog 124 #[s, t] W (RDig2 P (A % g) W)) := fun W s t hs ht => by rw [hP]; exact rdivmod_any _ _ _ _ W hs ht (by omega) (by have := digs_len_le (Nat.le_of_dvd hd0 (hg ▸ Nat.gcd_dvd_right A d)); omega) hgp
  have HD2 : Hid (∀ W s t, DV W s d → DV W t g → Calls Tryz.prog 124 #[s, t] W (RDig2 Q (d % g) W)) := fun W s t hs ht => by rw [hQ]; exact rdivmod_any _ _ _ _ W hs ht (by omega) (by have := digs_len_le (Nat.le_of_dvd hd0 (hg ▸ Nat.gcd_dvd_right A d)); omega) hgp
  obtain ⟨dp, hdp⟩ : ∃ l, l = Lib.decDigits P := ⟨_, rfl⟩
  obtain ⟨dq, hdq⟩ : ∃ l, l = Lib.decDigits Q := ⟨_, rfl⟩
  have HT1 : Hid (∀ W s, DV W s P → Calls Tryz.prog 21 #[s] W (fun e w' => e = .returned (.string ⟨(dp).toArray⟩) ∧ Upd [] W w')) := fun W s hs => by rw [hdp]; exact rtext_any _ _ W hs (by omega)
  have HT2 : Hid (∀ W s, DV W s Q → Calls Tryz.prog 21 #[s] W (fun e w' => e = .returned (.string ⟨(dq).toArray⟩) ∧ Upd [] W w')) := fun W s hs => by rw [hdq]; exact rtext_any _ _ W hs (by omega)
  have HSM : Hid (∀ W, Calls Tryz.prog 76 #[.int .i64 1] W (RDig 1 W)) := fun W => small_any 1 W (by decide)
  have HCM : Hid (∀ W s t, DV W s Q → DV W t 1 → Calls Tryz.prog 67 #[s, t] W (fun e w' => e = .returned (.int .i64 0) ∧ Upd [] W w')) := fun W s t hs ht => by
    have := dcmp hs ht (by omega) (Nat.le_trans (digs_len1 (by decide)) (by decide))
    have e : cmpN Q 1 = 0 := by unfold cmpN; rw [n2] at hq; rw [if_neg (by omega)]; rw [if_pos hq]
    rw [e] at this
    exact this
  have HE : Hid (ratTxt (qval p m d) = (dp)) := by
    show _ = _
    unfold ratTxt zTxt
    rw [n1, n2, if_neg (fun h => hn (n3.1 h)), if_pos (n2 ▸ hq), List.append_nil, ← hdp]
  rw [decide_eq_false hn] at HNE
  clear hu hz hd hpl hml hdl hd0 hn hq n1 n2 n3 hA hg hgp hP hQ hQp lA lP lQ hdp hdq
  generalize qval p m d = qv at *
  obtain ⟨w0, hw0⟩ : ∃ W, W = (w.alloc (.cells #[.slice a0 l0 c0, .slice d0 m0 e0, .slice f0 g0 h0] 55)) := ⟨_, rfl⟩
  obtain ⟨S, hS⟩ : ∃ s, s = w.heap.size := ⟨_, rfl⟩
  obtain ⟨hu0, r0, hz0⟩ := rows1 w #[.slice a0 l0 c0, .slice d0 m0 e0, .slice f0 g0 h0] 55 w0 hw0 S hS
  have HU0 := Lib.hid hu0
  have HW0 := Lib.hid hw0
  have HS := Lib.hid hS
  have HZ0 := Lib.hid hz0
  have HR0 := Lib.hid r0
  have hp0 := r0.cell 0
  have hp1 := r0.cell 1
  have hp2 := r0.cell 2
  clear hw0 hS hu0 r0 hz0
  go_enter Tryz.func88, Tryz.ntmps88
  go_wp2_with fail
  rw [← HW0.out]
  rw [← HS.out]
  refine (HAB.out _ HU0.out).mono ?_
  rintro e w1 ⟨v1, rfl, hd1, hu1⟩
  have HU1 := Lib.hid (HU0.out.trans0 hu1)
  have HV1 := Lib.hid hu1
  have HA1 := Lib.hid (DV.of hd1)
  have q2 := (HR0.out.upd0 hu1).cell 2
  clear hu1 hd1 hp0 hp1 hp2
  go_wp2_with fail
  refine (HGC.out _ _ _ HA1.out (HDE.out _ HU1.out)).mono ?_
  rintro e w2 ⟨v2, rfl, hd2, hu2⟩
  have HU2 := Lib.hid (HU1.out.trans0 hu2)
  have HV2 := Lib.hid (HV1.out.trans0 hu2)
  have HA2 := Lib.hid (HA1.out.upd0 hu2)
  have HG2 := Lib.hid (DV.of hd2)
  clear hu2 hd2 q2
  go_wp2_with fail
  refine (HD1.out _ _ _ HA2.out HG2.out).mono ?_
  rintro e w3 ⟨v3, v3', rfl, hd3, _, hu3⟩
  have HU3 := Lib.hid (HU2.out.trans0 hu3)
  have HV3 := Lib.hid (HV2.out.trans0 hu3)
  have HG3 := Lib.hid (HG2.out.upd0 hu3)
  have HP3 := Lib.hid (DV.of hd3)
  have q2 := (HR0.out.upd0 HV3.out).cell 2
  clear hu3 hd3
  go_wp2_with fail
  refine (HD2.out _ _ _ (HDE.out _ HU3.out) HG3.out).mono ?_
  rintro e w4 ⟨v4, v4', rfl, hd4, _, hu4⟩
  have HU4 := Lib.hid (HU3.out.trans0 hu4)
  have HV4 := Lib.hid (HV3.out.trans0 hu4)
  have HP4 := Lib.hid (HP3.out.upd0 hu4)
  have HQ4 := Lib.hid (DV.of hd4)
  clear hu4 hd4 q2
  go_wp2_with fail
  refine (HT1.out _ _ HP4.out).mono ?_
  rintro e w5 ⟨rfl, hu5⟩
  have HU5 := Lib.hid (HU4.out.trans0 hu5)
  have HV5 := Lib.hid (HV4.out.trans0 hu5)
  have HQ5 := Lib.hid (HQ4.out.upd0 hu5)
  have q0 := (HR0.out.upd0 HV5.out).cell 0
  have q1 := (HR0.out.upd0 HV5.out).cell 1
  clear hu5
  go_wp2_with fail
  refine (HNE.out _ HU5.out).mono ?_
  rintro e w6 ⟨rfl, hu6⟩
  have HU6 := Lib.hid (HU5.out.trans0 hu6)
  have HQ6 := Lib.hid (HQ5.out.upd0 hu6)
  clear hu6 q0 q1
  go_wp2_with fail
  refine (HSM.out _).mono ?_
  rintro e w7 ⟨v7, rfl, hd7, hu7⟩
  have HU7 := Lib.hid (HU6.out.trans0 hu7)
  have HQ7 := Lib.hid (HQ6.out.upd0 hu7)
  have HO7 := Lib.hid (DV.of hd7)
  clear hu7 hd7
  go_wp2_with fail
  refine (HCM.out _ _ _ HQ7.out HO7.out).mono ?_
  rintro e w8 ⟨rfl, hu8⟩
  have HU8 := Lib.hid (HU7.out.trans0 hu8)
  have HQ8 := Lib.hid (HQ7.out.upd0 hu8)
  clear hu8
  go_wp2
  go_ret
  exact ⟨by rw [HE.out]; rfl, HU8.out⟩

set_option maxHeartbeats 1600000 in
theorem qtext_pq (u : Value) (p m d : Nat) (w : World) (hu : QV w u p m d) (hpl : (digs p).length ≤ 1048576) (hml : (digs m).length ≤ 1048576) (hdl : (digs d).length ≤ 1048576) (hd0 : 0 < d) (hn : ¬ (p : Int) - m < 0) (hq : ¬ (qval p m d).den = 1) :
    Calls Tryz.prog 88 #[u] w (fun e w' => e = .returned (.string ⟨(ratTxt (qval p m d)).toArray⟩) ∧ Upd [] w w') := by
  obtain ⟨a0, l0, c0, d0, m0, e0, f0, g0, h0, rfl, hz, hd⟩ := hu.open
  obtain ⟨n1, n2, n3⟩ := qval_num (p := p) (m := m) hd0
  obtain ⟨A, hA⟩ : ∃ a, a = ((p : Int) - m).natAbs := ⟨_, rfl⟩
  rw [← hA] at n1 n2
  obtain ⟨g, hg⟩ : ∃ g, g = Nat.gcd A d := ⟨_, rfl⟩
  rw [← hg] at n1 n2
  have hgp : 0 < g := by rw [hg]; exact Nat.gcd_pos_of_pos_right _ hd0
  obtain ⟨P, hP⟩ : ∃ x, x = A / g := ⟨_, rfl⟩
  obtain ⟨Q, hQ⟩ : ∃ x, x = d / g := ⟨_, rfl⟩
  rw [← hP] at n1
  rw [← hQ] at n2
  have hQp : 0 < Q := by rw [← n2]; exact Rat.den_pos _
  have lA : (digs A).length ≤ 1048576 := by
    rw [hA]
    rcases Nat.le_total m p with h | h
    · exact Nat.le_trans (digs_len_le (by omega)) hpl
    · exact Nat.le_trans (digs_len_le (by omega)) hml
  have lP : (digs P).length ≤ 1048576 := Nat.le_trans (digs_len_le (by rw [hP]; exact Nat.div_le_self _ _)) lA
  have lQ : (digs Q).length ≤ 1048576 := Nat.le_trans (digs_len_le (by rw [hQ]; exact Nat.div_le_self _ _)) hdl
  have HAB : Hid (∀ W, Upd [] w W → Calls Tryz.prog 22 #[.agg #[.slice a0 l0 c0, .slice d0 m0 e0]] W (RDig A W)) := fun W h => by rw [hA]; exact zabs_any _ _ _ W (hz.upd0 h) hpl hml
  have HNE : Hid (∀ W, Upd [] w W → Calls Tryz.prog 18 #[.agg #[.slice a0 l0 c0, .slice d0 m0 e0]] W (fun e w' => e = .returned (.bool (decide ((p : Int) - m < 0))) ∧ Upd [] W w')) := fun W h => zneg_any _ _ _ W (hz.upd0 h) hpl hml
  have HDE : Hid (∀ W, Upd [] w W → DV W (.slice f0 g0 h0) d) := fun W h => hd.upd0 h
  have HGC : Hid (∀ W s t, DV W s A → DV W t d → Calls Tryz.prog 123 #[s, t] W (RDig g W)) := fun W s t hs ht => by rw [hg]; exact rgcd_any _ _ _ _ W hs ht (by omega) (by omega)
  have HD1 : Hid (∀ W s t, DV W s A → DV W t g → Calls Tryz.prog 124 #[s, t] W (RDig2 P (A % g) W)) := fun W s t hs ht => by rw [hP]; exact rdivmod_any _ _ _ _ W hs ht (by omega) (by have := digs_len_le (Nat.le_of_dvd hd0 (hg ▸ Nat.gcd_dvd_right A d)); omega) hgp
  have HD2 : Hid (∀ W s t, DV W s d → DV W t g → Calls Tryz.prog 124 #[s, t] W (RDig2 Q (d % g) W)) := fun W s t hs ht => by rw [hQ]; exact rdivmod_any _ _ _ _ W hs ht (by omega) (by have := digs_len_le (Nat.le_of_dvd hd0 (hg ▸ Nat.gcd_dvd_right A d)); omega) hgp
  obtain ⟨dp, hdp⟩ : ∃ l, l = Lib.decDigits P := ⟨_, rfl⟩
  obtain ⟨dq, hdq⟩ : ∃ l, l = Lib.decDigits Q := ⟨_, rfl⟩
  have HT1 : Hid (∀ W s, DV W s P → Calls Tryz.prog 21 #[s] W (fun e w' => e = .returned (.string ⟨(dp).toArray⟩) ∧ Upd [] W w')) := fun W s hs => by rw [hdp]; exact rtext_any _ _ W hs (by omega)
  have HT2 : Hid (∀ W s, DV W s Q → Calls Tryz.prog 21 #[s] W (fun e w' => e = .returned (.string ⟨(dq).toArray⟩) ∧ Upd [] W w')) := fun W s hs => by rw [hdq]; exact rtext_any _ _ W hs (by omega)
  have HSM : Hid (∀ W, Calls Tryz.prog 76 #[.int .i64 1] W (RDig 1 W)) := fun W => small_any 1 W (by decide)
  have HCM : Hid (∀ W s t, DV W s Q → DV W t 1 → Calls Tryz.prog 67 #[s, t] W (fun e w' => e = .returned (.int .i64 1) ∧ Upd [] W w')) := fun W s t hs ht => by
    have := dcmp hs ht (by omega) (Nat.le_trans (digs_len1 (by decide)) (by decide))
    have e : cmpN Q 1 = 1 := by unfold cmpN; rw [n2] at hq; rw [if_neg (by omega)]; rw [if_neg hq]
    rw [e] at this
    exact this
  have HE : Hid (ratTxt (qval p m d) = (dp) ++ (47 :: dq)) := by
    show _ = _
    unfold ratTxt zTxt
    rw [n1, n2, if_neg (fun h => hn (n3.1 h)), if_neg (fun h => hq (n2.trans h)), ← hdp, ← hdq]
  have hs2 : ¬ 9223372036854775807 < dp.length + 1 := by rw [hdp]; have h1 := dec_le P; have h2 := wds_digs P; omega
  have hs3 : ¬ 9223372036854775807 < dp.length + 1 + dq.length := by rw [hdp, hdq]; have h1 := dec_le P; have h2 := wds_digs P; have h3 := dec_le Q; have h4 := wds_digs Q; omega
  rw [decide_eq_false hn] at HNE
  clear hu hz hd hpl hml hdl hd0 hn hq n1 n2 n3 hA hg hgp hP hQ hQp lA lP lQ hdp hdq
  generalize qval p m d = qv at *
  obtain ⟨w0, hw0⟩ : ∃ W, W = (w.alloc (.cells #[.slice a0 l0 c0, .slice d0 m0 e0, .slice f0 g0 h0] 55)) := ⟨_, rfl⟩
  obtain ⟨S, hS⟩ : ∃ s, s = w.heap.size := ⟨_, rfl⟩
  obtain ⟨hu0, r0, hz0⟩ := rows1 w #[.slice a0 l0 c0, .slice d0 m0 e0, .slice f0 g0 h0] 55 w0 hw0 S hS
  have HU0 := Lib.hid hu0
  have HW0 := Lib.hid hw0
  have HS := Lib.hid hS
  have HZ0 := Lib.hid hz0
  have HR0 := Lib.hid r0
  have hp0 := r0.cell 0
  have hp1 := r0.cell 1
  have hp2 := r0.cell 2
  clear hw0 hS hu0 r0 hz0
  go_enter Tryz.func88, Tryz.ntmps88
  go_wp2_with fail
  rw [← HW0.out]
  rw [← HS.out]
  refine (HAB.out _ HU0.out).mono ?_
  rintro e w1 ⟨v1, rfl, hd1, hu1⟩
  have HU1 := Lib.hid (HU0.out.trans0 hu1)
  have HV1 := Lib.hid hu1
  have HA1 := Lib.hid (DV.of hd1)
  have q2 := (HR0.out.upd0 hu1).cell 2
  clear hu1 hd1 hp0 hp1 hp2
  go_wp2_with fail
  refine (HGC.out _ _ _ HA1.out (HDE.out _ HU1.out)).mono ?_
  rintro e w2 ⟨v2, rfl, hd2, hu2⟩
  have HU2 := Lib.hid (HU1.out.trans0 hu2)
  have HV2 := Lib.hid (HV1.out.trans0 hu2)
  have HA2 := Lib.hid (HA1.out.upd0 hu2)
  have HG2 := Lib.hid (DV.of hd2)
  clear hu2 hd2 q2
  go_wp2_with fail
  refine (HD1.out _ _ _ HA2.out HG2.out).mono ?_
  rintro e w3 ⟨v3, v3', rfl, hd3, _, hu3⟩
  have HU3 := Lib.hid (HU2.out.trans0 hu3)
  have HV3 := Lib.hid (HV2.out.trans0 hu3)
  have HG3 := Lib.hid (HG2.out.upd0 hu3)
  have HP3 := Lib.hid (DV.of hd3)
  have q2 := (HR0.out.upd0 HV3.out).cell 2
  clear hu3 hd3
  go_wp2_with fail
  refine (HD2.out _ _ _ (HDE.out _ HU3.out) HG3.out).mono ?_
  rintro e w4 ⟨v4, v4', rfl, hd4, _, hu4⟩
  have HU4 := Lib.hid (HU3.out.trans0 hu4)
  have HV4 := Lib.hid (HV3.out.trans0 hu4)
  have HP4 := Lib.hid (HP3.out.upd0 hu4)
  have HQ4 := Lib.hid (DV.of hd4)
  clear hu4 hd4 q2
  go_wp2_with fail
  refine (HT1.out _ _ HP4.out).mono ?_
  rintro e w5 ⟨rfl, hu5⟩
  have HU5 := Lib.hid (HU4.out.trans0 hu5)
  have HV5 := Lib.hid (HV4.out.trans0 hu5)
  have HQ5 := Lib.hid (HQ4.out.upd0 hu5)
  have q0 := (HR0.out.upd0 HV5.out).cell 0
  have q1 := (HR0.out.upd0 HV5.out).cell 1
  clear hu5
  go_wp2_with fail
  refine (HNE.out _ HU5.out).mono ?_
  rintro e w6 ⟨rfl, hu6⟩
  have HU6 := Lib.hid (HU5.out.trans0 hu6)
  have HQ6 := Lib.hid (HQ5.out.upd0 hu6)
  clear hu6 q0 q1
  go_wp2_with fail
  refine (HSM.out _).mono ?_
  rintro e w7 ⟨v7, rfl, hd7, hu7⟩
  have HU7 := Lib.hid (HU6.out.trans0 hu7)
  have HQ7 := Lib.hid (HQ6.out.upd0 hu7)
  have HO7 := Lib.hid (DV.of hd7)
  clear hu7 hd7
  go_wp2_with fail
  refine (HCM.out _ _ _ HQ7.out HO7.out).mono ?_
  rintro e w8 ⟨rfl, hu8⟩
  have HU8 := Lib.hid (HU7.out.trans0 hu8)
  have HQ8 := Lib.hid (HQ7.out.upd0 hu8)
  clear hu8
  go_wp2_with fail
  refine (HT2.out _ _ HQ8.out).mono ?_
  rintro e w9 ⟨rfl, hu9⟩
  have HF := Lib.hid (HU8.out.trans0 hu9)
  clear hu9
  go_wp2
  go_ret
  refine ⟨?_, HF.out⟩
  rw [HE.out]
  show Ending.returned (.string (((⟨dp.toArray⟩ : ByteArray) ++ ⟨#[47]⟩) ++ ⟨dq.toArray⟩)) = _

  rw [show (⟨#[47]⟩ : ByteArray) = ⟨[47].toArray⟩ from rfl, bs_app, bs_app, List.append_assoc]
  rfl

theorem qtext_any (u : Value) (p m d : Nat) (w : World) (hu : QV w u p m d) (hpl : (digs p).length ≤ 1048576) (hml : (digs m).length ≤ 1048576) (hdl : (digs d).length ≤ 1048576) (hd0 : 0 < d) : Calls Tryz.prog 88 #[u] w (fun e w' => e = .returned (.string ⟨(ratTxt (qval p m d)).toArray⟩) ∧ Upd [] w w') := by
  by_cases h : (p : Int) - m < 0
  · by_cases hq : (qval p m d).den = 1
    · exact qtext_n1 u p m d w hu hpl hml hdl hd0 h hq
    · exact qtext_nq u p m d w hu hpl hml hdl hd0 h hq
  · by_cases hq : (qval p m d).den = 1
    · exact qtext_p1 u p m d w hu hpl hml hdl hd0 h hq
    · exact qtext_pq u p m d w hu hpl hml hdl hd0 h hq
end Go.Proofs.YtoklmfmoblkfcaaGreatDoor
