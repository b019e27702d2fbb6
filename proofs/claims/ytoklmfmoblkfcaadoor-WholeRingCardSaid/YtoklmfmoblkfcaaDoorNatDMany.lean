/- The contract of nat.DivMod (layer 5): by many words; whole. -/
import Derived.Test.YtoklmfmoblkfcaaDoorNatDM
import Derived.Test.YtoklmfmoblkfcaaDoorNatByWs
namespace Go.Proofs.YtoklmfmoblkfcaaDoor
open Go.RowKit Go.Proofs.Tm
set_option linter.unusedVariables false
set_option maxRecDepth 20000

set_option maxHeartbeats 1600000 in
theorem divmod_many (u v : Value) (m n : Nat) (w : World) (hu : NV w u m) (hv : NV w v n) (hmn : n ≤ m) (hn : 2 ≤ (wds n).length) (hlen : (wds m).length ≤ 1073741824) :
    Calls Tryd.prog 37 #[u, v] w (RNat2E (m / n) (m % n) 0 w) := by
  obtain ⟨a, cap, rfl, hl, hcm⟩ := hu.open
  obtain ⟨b, cap', rfl, hl', hcm'⟩ := hv.open
  have HZ := Lib.hid (zero_any _ _ _ (hv.upd0 (alloc4 w (.cells #[.slice a (wds m).length cap] 27) (.cells #[.slice b (wds n).length cap'] 27) (.cells #[.slice none 0 0] 27) (.cells #[.slice none 0 0] 27))))
  have HC : Hid (∀ W, Upd [] w W → Calls Tryd.prog 24 #[.agg #[.slice a (wds m).length cap], .agg #[.slice b (wds n).length cap']] W fun e w' => e = .returned (.int .i64 (cmpN m n)) ∧ Upd [] W w') := fun W h => cmp_any _ _ _ _ _ (hu.upd0 h) (hv.upd0 h) (by omega)
  have HD : Hid (∀ W, Upd [] w W → Calls Tryd.prog 61 #[.agg #[.slice a (wds m).length cap], .agg #[.slice b (wds n).length cap']] W (RNat2F (m / n) (m % n) W)) := fun W h => byWords_fresh _ _ _ _ _ (hu.upd0 h) (hv.upd0 h) hn hmn hlen
  have hge := cmpN_ge hmn
  have hn0 : n ≠ 0 := by rintro rfl; rw [wds_zero] at hn; simp at hn
  have hd : decide (n = 0) = false := by simpa using hn0
  rw [hd] at HZ
  obtain ⟨ln, hln⟩ : ∃ k, k = (wds n).length := ⟨_, rfl⟩
  rw [← hln] at HZ HC HD hn hl' ⊢
  have hl1 : ((ln : Int) == 1) = false := by simp; omega
  generalize (wds m).length = lm at *
  clear hu hv hmn hn0 hd hln
  go_enter Tryd.func37, Tryd.ntmps37
  go_wp2_with fail
  refine HZ.out.mono ?_
  rintro e w1 ⟨rfl, hu1⟩
  obtain ⟨hb0, hb1, hb2, hb3, hu0, hs0⟩ := box4 hu1
  have h0 : w1.cell? ⟨w.heap.size, 0, none⟩ = some (.slice a lm cap) := by rw [cell_of_row w1 _ 0 _ _ _ hb0]; rfl
  have h1 : w1.cell? ⟨w.heap.size + 1, 0, none⟩ = some (.slice b ln cap') := by rw [cell_of_row w1 _ 0 _ _ _ hb1]; rfl
  clear hu1
  go_wp2_with fail
  refine (HC.out _ hu0).mono ?_
  rintro e w2 ⟨rfl, hu2⟩
  have hb0' := (hu2.block _ (Array.getElem?_eq_some_iff.1 hb0).1 (by simp)).trans hb0
  have hb1' := (hu2.block _ (Array.getElem?_eq_some_iff.1 hb1).1 (by simp)).trans hb1
  have hb2' := (hu2.block _ (Array.getElem?_eq_some_iff.1 hb2).1 (by simp)).trans hb2
  have hb3' := (hu2.block _ (Array.getElem?_eq_some_iff.1 hb3).1 (by simp)).trans hb3
  have h0' : w2.cell? ⟨w.heap.size, 0, none⟩ = some (.slice a lm cap) := by rw [cell_of_row w2 _ 0 _ _ _ hb0']; rfl
  have h1' : w2.cell? ⟨w.heap.size + 1, 0, none⟩ = some (.slice b ln cap') := by rw [cell_of_row w2 _ 0 _ _ _ hb1']; rfl
  have hu02 := hu0.trans0 hu2
  have hsz : w.heap.size + 1 + 1 + 1 + 1 ≤ w2.heap.size := Nat.le_trans hs0 hu2.size
  have HB2 := Lib.hid hb2'
  have HB3 := Lib.hid hb3'
  have hcA : ∀ A, Upd [] w2 A → A.cell? ⟨w.heap.size + 1 + 1, 0, none⟩ = some (.slice none 0 0) := fun A h => by rw [h.cell (p := ⟨w.heap.size + 1 + 1, 0, none⟩) (by show w.heap.size + 1 + 1 < _; omega) (by simp), cell_of_row w2 _ 0 _ _ _ hb2']; rfl
  have hcB : ∀ A, Upd [] w2 A → A.cell? ⟨w.heap.size + 1 + 1 + 1, 0, none⟩ = some (.slice none 0 0) := fun A h => by rw [h.cell (p := ⟨w.heap.size + 1 + 1 + 1, 0, none⟩) (by show w.heap.size + 1 + 1 + 1 < _; omega) (by simp), cell_of_row w2 _ 0 _ _ _ hb3']; rfl
  have hfA : ∀ A, Upd [] w2 A → A.frozen? ⟨w.heap.size + 1 + 1, 0, none⟩ = false := fun A h => by rw [h.frozen (p := ⟨w.heap.size + 1 + 1, 0, none⟩) (by show w.heap.size + 1 + 1 < _; omega) (by simp)]; simp [World.frozen?, hb2']
  have hfB : ∀ A, Upd [] w2 A → A.frozen? ⟨w.heap.size + 1 + 1 + 1, 0, none⟩ = false := fun A h => by rw [h.frozen (p := ⟨w.heap.size + 1 + 1 + 1, 0, none⟩) (by show w.heap.size + 1 + 1 + 1 < _; omega) (by simp)]; simp [World.frozen?, hb3']
  have HKP : Hid (∀ A, Upd [w.heap.size + 1 + 1, w.heap.size + 1 + 1 + 1] w2 A → A.cell? ⟨w.heap.size, 0, none⟩ = some (.slice a lm cap) ∧ A.cell? ⟨w.heap.size + 1, 0, none⟩ = some (.slice b ln cap') ∧ Upd [w.heap.size + 1 + 1, w.heap.size + 1 + 1 + 1] w2 A) := fun A h =>
    ⟨(h.cell (p := ⟨w.heap.size, 0, none⟩) (by show w.heap.size < _; omega) (by simp; omega)).trans h0', (h.cell (p := ⟨w.heap.size + 1, 0, none⟩) (by show w.heap.size + 1 < _; omega) (by simp)).trans h1', h⟩
  have HST : Hid (∀ A, Upd [] w2 A → ∀ x y p q, NV A (.agg #[x]) p → NV A (.agg #[y]) q → Stored w (w.heap.size + 1 + 1) (w.heap.size + 1 + 1 + 1) 27 27 x y p q ((A.setCell ⟨w.heap.size + 1 + 1, 0, none⟩ x).setCell ⟨w.heap.size + 1 + 1 + 1, 0, none⟩ y)) := fun A h x y p q hx hy =>
    store2 (by omega) (by omega) (by omega) ((h.block _ (by omega) (by simp)).trans HB2.out) ((h.block _ (by omega) (by simp)).trans HB3.out) (hu02.trans0 h) hx hy
  have HD2 : Hid (∀ W, Upd [] w2 W → Calls Tryd.prog 61 #[.agg #[.slice a lm cap], .agg #[.slice b ln cap']] W (RNat2F (m / n) (m % n) W)) := fun W h => HD.out W (hu02.trans0 h)
  have hrf : Upd [] w2 w2 := Upd.refl _ _
  clear hb0 hb1 hb2 hb3 hu0 hu2 hb0' hb1' hb2' hb3' h0 h1 h0' h1' HB2 HB3 HC HD HZ
  have h0' := (HKP.out _ (hrf.mono (by simp))).1
  have h1' := (HKP.out _ (hrf.mono (by simp))).2.1
  go_wp2_with fail
  refine (HD2.out _ hrf).mono ?_
  rintro e wy ⟨v1, v2, rfl, hn1, hn2, huy, _⟩
  obtain ⟨a1, cap1, rfl, hl1', hm1⟩ := hn1.open
  obtain ⟨a2, cap2, rfl, hl2', hm2⟩ := hn2.open
  obtain ⟨q1, hq1⟩ : ∃ k, k = (wds (m / n)).length := ⟨_, rfl⟩
  obtain ⟨q2, hq2⟩ : ∃ k, k = (wds (m % n)).length := ⟨_, rfl⟩
  rw [← hq1] at hn1 ⊢
  rw [← hq2] at hn2 ⊢
  have hst := HST.out _ huy _ _ _ _ hn1 hn2
  have HST2 := Lib.hid hst
  clear hn1 hn2 hst hq1 hq2 hl1' hl2' hm1 hm2
  go_wp2_with fail
  obtain ⟨wf, hwf⟩ : ∃ wf, wf = (wy.setCell ⟨w.heap.size + 1 + 1, 0, none⟩ (.slice a1 q1 cap1)).setCell ⟨w.heap.size + 1 + 1 + 1, 0, none⟩ (.slice a2 q2 cap2) := ⟨_, rfl⟩
  rw [← hwf] at HST2 ⊢
  have k1 := HST2.out.c1
  have k2 := HST2.out.c2
  have f1 := HST2.out.f1
  have f2 := HST2.out.f2
  have HS2 := Lib.hid (store2 (by omega) (by omega) (by omega) HST2.out.b1 HST2.out.b2 HST2.out.u HST2.out.n1 HST2.out.n2)
  clear hwf hcA hcB hfA hfB huy
  go_region
  all_goals
    go_wp2
    have z1 := HS2.out.drew.c1
    have z2 := HS2.out.drew.c2
    refine bodyPost_ret (v := .tuple #[.agg #[.slice a1 q1 cap1], .agg #[.slice a2 q2 cap2], .int .i64 0]) (by simp [results, Tryd.results37, go_sem, z1, z2]) rfl ?_
    exact ⟨_, _, rfl, HS2.out.drew.n1, HS2.out.drew.n2, HS2.out.drew.u⟩

theorem divmod_any (u v : Value) (m n : Nat) (w : World) (hu : NV w u m) (hv : NV w v n) (h0 : 0 < n) (hlen : (wds m).length ≤ 1073741824) :
    Calls Tryd.prog 37 #[u, v] w (RNat2E (m / n) (m % n) 0 w) := by
  rcases Nat.lt_or_ge m n with h | h
  · have := divmod_less u v m n w hu hv h (by omega)
    rw [Nat.div_eq_of_lt h, Nat.mod_eq_of_lt h]
    exact this
  · rcases Nat.lt_or_ge n 18446744073709551616 with h1 | h1
    · exact divmod_word u v m n w hu hv h (by omega) h1 (by omega)
    · refine divmod_many u v m n w hu hv h ?_ hlen
      rcases Nat.lt_or_ge (wds n).length 2 with h2 | h2
      · have := (wds_length_le_iff n 1).1 (by omega)
        rw [Nat.pow_one] at this
        omega
      · exact h2
end Go.Proofs.YtoklmfmoblkfcaaDoor
