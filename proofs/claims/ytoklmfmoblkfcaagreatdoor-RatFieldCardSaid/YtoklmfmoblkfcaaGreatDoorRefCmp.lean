/- The document's own numbers of layer 5: contracts of Cmp and Sub. -/
import Derived.Test.YtoklmfmoblkfcaaGreatDoorRefAdd
namespace Go.Proofs.YtoklmfmoblkfcaaGreatDoor
open Go.RowKit Go.Proofs.Tm
set_option linter.unusedVariables false
set_option linter.unusedSimpArgs false
set_option maxRecDepth 20000

set_option maxHeartbeats 1600000 in
theorem rcmp_any (u v : Value) (m n : Nat) (w : World) (hu : Sl w u (ci64 (digs m))) (hv : Sl w v (ci64 (digs n))) (hm : (digs m).length ≤ 1099511627776) (hn : (digs n).length ≤ 1099511627776) :
    Calls Tryz.prog 67 #[u, v] w (fun e w' => e = .returned (.int .i64 (cmpN m n)) ∧ Upd [] w w') := by
  obtain ⟨a, cap, rfl, hl, hcm⟩ := dig_open hu
  obtain ⟨b, cap', rfl, hl', hcm'⟩ := dig_open hv
  unfold maxLen at hcm hcm'
  have HA := Lib.hid hu
  have HB := Lib.hid hv
  have HXL := Lib.hid (fun i => digs_getD_lt m i)
  have HYL := Lib.hid (fun i => digs_getD_lt n i)
  obtain ⟨la, hla⟩ : ∃ la, la = (digs m).length := ⟨_, rfl⟩
  obtain ⟨lb, hlb⟩ : ∃ lb, lb = (digs n).length := ⟨_, rfl⟩
  have HLA := Lib.hid hla
  have HLB := Lib.hid hlb
  rw [← hla] at hl hm HA ⊢
  rw [← hlb] at hl' hn HB ⊢
  clear hu hv hla hlb
  by_cases hne : la = lb
  · subst hne
    have e0 : ((la : Int) == (la : Int)) = true := by simp
    go_enter Tryz.func67, Tryz.ntmps67
    go_wp2
    go_loopw [5] (fun v5 wr => ∃ (i : Nat), i ≤ la ∧ v5 = .int .i64 ((i : Int) - 1) ∧ Hid ((digs m).drop i = (digs n).drop i) ∧ Upd [] w wr) (fun v5 _ => (intOf v5 + 1).toNat)
    case atStart => exact ⟨la, Nat.le_refl _, rfl, by show _ = _; rw [List.drop_of_length_le (by rw [← HLA.out]; exact Nat.le_refl _), List.drop_of_length_le (by rw [← HLB.out]; exact Nat.le_refl _)], Upd.refl _ _⟩
    case round =>
      obtain ⟨i, hi, rfl, HE, hu⟩ := hrel
      have HU := Lib.hid hu
      clear hu
      by_cases h0 : i = 0
      · have HF : Hid (m = n) := by
          show _ = _
          have := HE.out
          rw [h0, List.drop_zero, List.drop_zero] at this
          rw [← dval_digs m, this, dval_digs]
        subst h0
        go_wp2
        go_ret
        exact ⟨by unfold cmpN; rw [HF.out]; simp, HU.out⟩
      · obtain ⟨k, hk⟩ : ∃ k, i = k + 1 := ⟨i - 1, by omega⟩
        have hik : k < la := by omega
        obtain ⟨ba, oa, rfl, hba, hca⟩ := dig_at HA.out k (by rw [← HLA.out]; exact hik)
        obtain ⟨bb, ob, rfl, hbb, hcb⟩ := dig_at HB.out k (by rw [← HLB.out]; exact hik)
        have hca' : wr.cell? ⟨ba, oa + k, none⟩ = some (.int .i64 (((digs m).getD k 0 : Nat) : Int)) := (HU.out.cell (p := ⟨ba, oa + k, none⟩) hba (by simp)).trans hca
        have hcb' : wr.cell? ⟨bb, ob + k, none⟩ = some (.int .i64 (((digs n).getD k 0 : Nat) : Int)) := (HU.out.cell (p := ⟨bb, ob + k, none⟩) hbb (by simp)).trans hcb
        have hx := HXL.out k
        have hy := HYL.out k
        have hxe : (digs m)[k]? = some ((digs m).getD k 0) := by rw [List.getElem?_eq_getElem (by rw [← HLA.out]; exact hik)]; simp [show k < (digs m).length by rw [← HLA.out]; exact hik]
        have hye : (digs n)[k]? = some ((digs n).getD k 0) := by rw [List.getElem?_eq_getElem (by rw [← HLB.out]; exact hik)]; simp [show k < (digs n).length by rw [← HLB.out]; exact hik]
        have HLE : Hid ((digs m).length = (digs n).length) := by show _ = _; rw [← HLA.out, ← HLB.out]
        rw [hk] at HE
        have HXE := Lib.hid hxe
        have HYE := Lib.hid hye
        clear hca hcb hxe hye
        generalize (digs m).getD k 0 = x at *
        generalize (digs n).getD k 0 = y at *
        have i0 : (0 : Int) ≤ (k : Int) := by omega
        have i1 : (k : Int) < (la : Int) := by omega
        have i2 : ((i : Int) - 1) = (k : Int) := by omega
        rw [i2]
        clear hk i2
        rcases Nat.lt_trichotomy x y with hxy | hxy | hxy
        · have HC : Hid (cmpN m n = -1) := by
            have := dval_cmp (digs m) (digs n) k x y (digs_lt m) (digs_lt n) HLE.out HXE.out HYE.out hxy HE.out
            rw [dval_digs, dval_digs] at this
            show _ = _
            unfold cmpN; rw [if_pos this]
          have j1 : decide (x < y) = true := by simpa using hxy
          go_wp2
          go_quiet (fail)
          go_wp2
          go_ret
          exact ⟨by rw [HC.out]; rfl, HU.out.drewN _⟩
        · have HD : Hid ((digs m).drop k = (digs n).drop k) := by
            show _ = _
            have h1 := HXE.out
            have h2 := HYE.out
            have k1 : k < (digs m).length := by rw [← HLA.out]; exact hik
            have k2 : k < (digs n).length := by rw [← HLB.out]; exact hik
            rw [List.getElem?_eq_getElem k1] at h1
            rw [List.getElem?_eq_getElem k2] at h2
            rw [List.drop_eq_getElem_cons k1, List.drop_eq_getElem_cons k2, HE.out]
            simp at h1 h2
            rw [h1, h2, hxy]
          have j1 : decide (x < y) = false := by simp; omega
          have j2 : decide (y < x) = false := by simp; omega
          clear hxy
          go_wp2
          go_quiet (fail)
          go_wp2
          go_quiet (fail)
          go_wp2
          exact ⟨⟨k, by omega, rfl, HD.out, HU.out.drewN _⟩, by simp [intOf]⟩
        · have HC : Hid (cmpN m n = 1) := by
            have := dval_cmp (digs n) (digs m) k y x (digs_lt n) (digs_lt m) HLE.out.symm HYE.out HXE.out hxy HE.out.symm
            rw [dval_digs, dval_digs] at this
            show _ = _
            unfold cmpN; rw [if_neg (by omega), if_neg (by omega)]
          have j1 : decide (x < y) = false := by simp; omega
          have j2 : decide (y < x) = true := by simpa using hxy
          go_wp2
          go_quiet (fail)
          go_wp2
          go_quiet (fail)
          go_wp2
          go_ret
          exact ⟨by rw [HC.out]; rfl, (HU.out.drewN _).drewN _⟩
  · have e0 : ((la : Int) == (lb : Int)) = false := by simp; omega
    by_cases hlt : la < lb
    · have HC : Hid (cmpN m n = -1) := by
        have := digs_lt_of_length (m := m) (n := n) (by rw [← HLA.out, ← HLB.out]; exact hlt)
        show _ = _
        unfold cmpN; rw [if_pos this]
      have j1 : decide (la < lb) = true := by simpa using hlt
      rw [HC.out]
      clear HA HB HXL HYL HLA HLB
      go_enter Tryz.func67, Tryz.ntmps67
      go_wp2
      go_ret
      exact ⟨rfl, Upd.refl _ _⟩
    · have HC : Hid (cmpN m n = 1) := by
        have := digs_lt_of_length (m := n) (n := m) (by rw [← HLA.out, ← HLB.out]; omega)
        show _ = _
        unfold cmpN; rw [if_neg (by omega), if_neg (by omega)]
      have j1 : decide (la < lb) = false := by simp; omega
      rw [HC.out]
      clear HA HB HXL HYL HLA HLB
      go_enter Tryz.func67, Tryz.ntmps67
      go_wp2
      go_ret
      exact ⟨rfl, Upd.refl _ _⟩
end Go.Proofs.YtoklmfmoblkfcaaGreatDoor
