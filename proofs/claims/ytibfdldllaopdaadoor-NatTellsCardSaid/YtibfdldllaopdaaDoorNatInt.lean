/- The contracts of nat.Words, Int (layer 5). -/
import Derived.Test.YtibfdldllaopdaaDoorNatBW
import Derived.Test.YtibfdldllaopdaaDoorNatBox
import Derived.Test.YtibfdldllaopdaaDoorMinMax
import Derived.Test.YtibfdldllaopdaaDoorNatCl
namespace Go.Proofs.YtibfdldllaopdaaDoor
open Go.RowKit Go.Proofs.Tm
set_option linter.unusedVariables false
set_option linter.unusedSimpArgs false
set_option maxRecDepth 20000

set_option maxHeartbeats 800000 in
theorem words_any (u : Value) (m : Nat) (w : World) (hu : NV w u m) (hl : (wds m).length ≤ 1099511627776) :
    Calls Tryd.prog 17 #[u] w (fun e w' => ∃ v, e = .returned v ∧ w'.ownsRow w.heap.size 31 1 v (wds m).length (cu64 (wds m)) ∧ Upd [] w w') := by
  obtain ⟨a, cap, rfl, _, _⟩ := hu.open
  have HC := Lib.hid (fun W (h : Upd [] w W) => sclone_own _ _ W (hu.upd0 h).sl hl)
  obtain ⟨l, hl'⟩ : ∃ l, l = (wds m).length := ⟨_, rfl⟩
  rw [← hl'] at HC ⊢
  clear hu hl hl'
  go_enter Tryd.func17, Tryd.ntmps17
  go_wp2_with fail
  refine (HC.out _ ((Upd.refl _ _).alloc _)).mono ?_
  rintro e w1 ⟨v, rfl, ho, hu1⟩
  have HO := Lib.hid ho
  have HU := Lib.hid (((Upd.refl [] w).alloc _).trans0 hu1)
  clear ho hu1
  go_wp2
  go_ret
  exact ⟨v, rfl, ownsRow_base HO.out (by simp), HU.out⟩

set_option maxHeartbeats 800000 in
theorem int_any (u : Value) (m : Nat) (t : Int) (w : World) (hu : NV w u m) (ht : t ≤ 9223372036854775807) :
    Calls Tryd.prog 23 #[u, .int .i64 t] w fun e w' => e = .returned (.int .i64 ((min m t.toNat : Nat) : Int)) ∧ Upd [] w w' := by
  obtain ⟨a, cap, rfl, hlc, hcm⟩ := hu.open
  unfold maxLen at hcm
  obtain ⟨M, hM⟩ : ∃ M, M = t.toNat := ⟨_, rfl⟩
  have hM63 : M ≤ 9223372036854775807 := by omega
  have hmax := fun ts T W => maxi_is (P := Tryd.prog) (a := t) (b := 0) (c := (M : Int)) (by omega) ts T W
  have hwM : IntKind.u64.wrap (M : Int) = (M : Int) := by rw [IntKind.wrap_u64]; omega
  have HU := Lib.hid hu
  have HWD := Lib.hid (fun W (h : Upd [] w W) => word_any _ m 0 W (hu.upd0 h) (by decide))
  rw [← hM]
  have hcase : (1 < (wds m).length ∧ M ≤ m) ∨ ((wds m).length ≤ 1 ∧ (wds m).getD 0 0 = m) := by
    rcases Nat.lt_or_ge 1 (wds m).length with h | h
    · left
      refine ⟨h, ?_⟩
      rcases Nat.lt_or_ge m 18446744073709551616 with h2 | h2
      · have := (wds_length_le_iff m 1).2 (by simpa using h2); omega
      · omega
    · right
      have h2 := wds_length_one h
      refine ⟨h, ?_⟩
      rw [wds_getD]
      simp [Nat.mod_eq_of_lt h2]
  obtain ⟨l, hl⟩ : ∃ l, l = (wds m).length := ⟨_, rfl⟩
  rw [← hl] at hlc hcase HWD ⊢
  clear hu hM hl
  rcases hcase with ⟨h1, h2⟩ | ⟨h1, h2⟩
  · rw [Nat.min_eq_right h2]
    have hd : decide (1 < l) = true := by simpa using h1
    have hd' : decide ((1 : Int) < (l : Int)) = true := by simp; omega
    go_enter Tryd.func23, Tryd.ntmps23
    go_wp2
    go_ret
    exact ⟨rfl, (Upd.refl _ _).alloc _⟩
  · rw [h2] at HWD
    have hd' : decide ((1 : Int) < (l : Int)) = false := by simp; omega
    by_cases hm : M < m
    · rw [Nat.min_eq_right (by omega)]
      have hg : decide (M < m) = true := by simpa using hm
      go_enter Tryd.func23, Tryd.ntmps23
      go_wp2_with fail
      refine (HWD.out _ ((Upd.refl _ _).alloc _)).mono ?_
      rintro e w1 ⟨rfl, hu1⟩
      have HF := Lib.hid (((Upd.refl [] w).alloc _).trans0 hu1)
      clear hu1
      go_wp2
      go_ret
      exact ⟨rfl, HF.out⟩
    · rw [Nat.min_eq_left (by omega)]
      have hg : decide (M < m) = false := by simpa using hm
      have hwm : IntKind.i64.wrap (m : Int) = (m : Int) := IntWalk.i64_in _ (by omega)
      have hbx := fun W (h : Upd [] (w.alloc (.cells #[.slice a l cap] 26)) W) => ((Box.new w (.slice a l cap) 26).upd h).cell
      have HBX := Lib.hid hbx
      clear hbx hm
      go_enter Tryd.func23, Tryd.ntmps23
      go_wp2_with fail
      refine (HWD.out _ ((Upd.refl _ _).alloc _)).mono ?_
      rintro e w1 ⟨rfl, hu1⟩
      have k1 := HBX.out w1 hu1
      have HF := Lib.hid (((Upd.refl [] w).alloc _).trans0 hu1)
      clear hu1
      go_wp2_with fail
      refine (HWD.out _ HF.out).mono ?_
      rintro e w2 ⟨rfl, hu2⟩
      have HF2 := Lib.hid (HF.out.trans0 hu2)
      clear hu2 k1
      go_wp2
      go_ret
      exact ⟨rfl, HF2.out⟩
end Go.Proofs.YtibfdldllaopdaaDoor
