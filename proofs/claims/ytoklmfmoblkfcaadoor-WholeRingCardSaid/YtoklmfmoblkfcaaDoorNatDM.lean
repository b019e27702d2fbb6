/- The contract of nat.DivMod by nought, by a greater number, by a word. -/
import Derived.Test.YtoklmfmoblkfcaaDoorAa
import Derived.Test.YtoklmfmoblkfcaaDoorNatByW
import Derived.OneCell
namespace Go.Proofs.YtoklmfmoblkfcaaDoor
open Go.RowKit Go.Proofs.Tm Go.Shelf
set_option linter.unusedVariables false
set_option maxRecDepth 20000

set_option maxHeartbeats 800000 in
theorem divmod_zero (u v : Value) (m : Nat) (w : World) (hu : NV w u m) (hv : NV w v 0) :
    Calls Tryd.prog 37 #[u, v] w (RNat2E 0 0 7 w) := by
  obtain ⟨a, cap, rfl, hl, hcm⟩ := hu.open
  obtain ⟨b, cap', rfl, hl', hcm'⟩ := hv.open
  have HZ := Lib.hid (zero_any _ _ _ (hv.upd0 (alloc4 w (.cells #[.slice a (wds m).length cap] 27) (.cells #[.slice b (wds 0).length cap'] 27) (.cells #[.slice none 0 0] 27) (.cells #[.slice none 0 0] 27))))
  generalize (wds m).length = lm at *
  generalize (wds 0).length = ln at *
  clear hu hv
  go_enter Tryd.func37, Tryd.ntmps37
  go_wp2_with fail
  refine HZ.out.mono ?_
  rintro e w1 ⟨rfl, hu1⟩
  obtain ⟨hb0, hb1, hb2, hb3, hu0, hs0⟩ := box4 hu1
  have hst := store2 (w := w) (W := w1) (x := .slice none 0 0) (y := .slice none 0 0) (by omega) (by omega) (by omega) hb2 hb3 hu0 (NV.zero _) (NV.zero _)
  have hc2 : w1.cell? ⟨w.heap.size + 1 + 1, 0, none⟩ = some (.slice none 0 0) := by rw [cell_of_row w1 _ 0 _ _ _ hb2]; rfl
  have hf2 : w1.frozen? ⟨w.heap.size + 1 + 1, 0, none⟩ = false := by simp [World.frozen?, hb2]
  have hc3 : w1.cell? ⟨w.heap.size + 1 + 1 + 1, 0, none⟩ = some (.slice none 0 0) := by rw [cell_of_row w1 _ 0 _ _ _ hb3]; rfl
  have hf3 : w1.frozen? ⟨w.heap.size + 1 + 1 + 1, 0, none⟩ = false := by simp [World.frozen?, hb3]
  have HST := Lib.hid hst
  clear hu1 hb0 hb1 hb2 hb3 hu0 hst
  go_wp2
  have k1 := HST.out.c1
  have k2 := HST.out.c2
  refine bodyPost_ret (v := .tuple #[.agg #[.slice none 0 0], .agg #[.slice none 0 0], .int .i64 7]) (by simp [results, Tryd.results37, go_sem, k1, k2]) rfl ?_
  exact ⟨_, _, rfl, HST.out.n1, HST.out.n2, HST.out.u⟩

set_option maxHeartbeats 800000 in
theorem divmod_less (u v : Value) (m n : Nat) (w : World) (hu : NV w u m) (hv : NV w v n) (hmn : m < n) (hlen : (wds m).length ≤ 1099511627776) :
    Calls Tryd.prog 37 #[u, v] w (RNat2E 0 m 0 w) := by
  obtain ⟨a, cap, rfl, hl, hcm⟩ := hu.open
  obtain ⟨b, cap', rfl, hl', hcm'⟩ := hv.open
  have HZ := Lib.hid (zero_any _ _ _ (hv.upd0 (alloc4 w (.cells #[.slice a (wds m).length cap] 27) (.cells #[.slice b (wds n).length cap'] 27) (.cells #[.slice none 0 0] 27) (.cells #[.slice none 0 0] 27))))
  have HC : Hid (∀ W, Upd [] w W → Calls Tryd.prog 24 #[.agg #[.slice a (wds m).length cap], .agg #[.slice b (wds n).length cap']] W fun e w' => e = .returned (.int .i64 (cmpN m n)) ∧ Upd [] W w') := fun W h => cmp_any _ _ _ _ _ (hu.upd0 h) (hv.upd0 h) hlen
  have HL := Lib.hid hmn
  have HA := Lib.hid hu
  generalize (wds m).length = lm at *
  generalize (wds n).length = ln at *
  clear hu hv hmn
  go_enter Tryd.func37, Tryd.ntmps37
  go_wp2_with fail
  refine HZ.out.mono ?_
  rintro e w1 ⟨rfl, hu1⟩
  obtain ⟨hb0, hb1, hb2, hb3, hu0, hs0⟩ := box4 hu1
  have hd : decide (n = 0) = false := by have := HL.out; simp; omega
  rw [hd]
  have h0 : w1.cell? ⟨w.heap.size, 0, none⟩ = some (.slice a lm cap) := by rw [cell_of_row w1 _ 0 _ _ _ hb0]; rfl
  have h1 : w1.cell? ⟨w.heap.size + 1, 0, none⟩ = some (.slice b ln cap') := by rw [cell_of_row w1 _ 0 _ _ _ hb1]; rfl
  clear hu1 hd
  go_wp2_with fail
  refine (HC.out _ hu0).mono ?_
  rintro e w2 ⟨rfl, hu2⟩
  rw [cmpN_lt HL.out]
  have hb0' := (hu2.block _ (Array.getElem?_eq_some_iff.1 hb0).1 (by simp)).trans hb0
  have hb2' := (hu2.block _ (Array.getElem?_eq_some_iff.1 hb2).1 (by simp)).trans hb2
  have hb3' := (hu2.block _ (Array.getElem?_eq_some_iff.1 hb3).1 (by simp)).trans hb3
  have hst := store2 (w := w) (W := w2) (x := .slice none 0 0) (y := .slice a lm cap) (by omega) (by omega) (by omega) hb2' hb3' (hu0.trans0 hu2) (NV.zero _) (HA.out.upd0 (hu0.trans0 hu2))
  have h0' : w2.cell? ⟨w.heap.size, 0, none⟩ = some (.slice a lm cap) := by rw [cell_of_row w2 _ 0 _ _ _ hb0']; rfl
  have hc2 : w2.cell? ⟨w.heap.size + 1 + 1, 0, none⟩ = some (.slice none 0 0) := by rw [cell_of_row w2 _ 0 _ _ _ hb2']; rfl
  have hf2 : w2.frozen? ⟨w.heap.size + 1 + 1, 0, none⟩ = false := by simp [World.frozen?, hb2']
  have hc3 : w2.cell? ⟨w.heap.size + 1 + 1 + 1, 0, none⟩ = some (.slice none 0 0) := by rw [cell_of_row w2 _ 0 _ _ _ hb3']; rfl
  have hf3 : w2.frozen? ⟨w.heap.size + 1 + 1 + 1, 0, none⟩ = false := by simp [World.frozen?, hb3']
  have HST := Lib.hid hst
  clear hb0 hb1 hb2 hb3 hu0 hst hu2 hb0' hb2' hb3' h0 h1
  go_wp2_with fail
  go_region
  all_goals
    go_wp2
    have k1 := HST.out.drew.c1
    have k2 := HST.out.drew.c2
    refine bodyPost_ret (v := .tuple #[.agg #[.slice none 0 0], .agg #[.slice a lm cap], .int .i64 0]) (by simp [results, Tryd.results37, go_sem, k1, k2]) rfl ?_
    exact ⟨_, _, rfl, HST.out.drew.n1, HST.out.drew.n2, HST.out.drew.u⟩

set_option maxHeartbeats 1600000 in
theorem divmod_word (u v : Value) (m n : Nat) (w : World) (hu : NV w u m) (hv : NV w v n) (hmn : n ≤ m) (h0 : n ≠ 0) (hn : n < 18446744073709551616) (hlen : (wds m).length ≤ 1099511627776) :
    Calls Tryd.prog 37 #[u, v] w (RNat2E (m / n) (m % n) 0 w) := by
  obtain ⟨a, cap, rfl, hl, hcm⟩ := hu.open
  obtain ⟨b, cap', rfl, hl', hcm'⟩ := hv.open
  have HZ := Lib.hid (zero_any _ _ _ (hv.upd0 (alloc4 w (.cells #[.slice a (wds m).length cap] 27) (.cells #[.slice b (wds n).length cap'] 27) (.cells #[.slice none 0 0] 27) (.cells #[.slice none 0 0] 27))))
  have HC : Hid (∀ W, Upd [] w W → Calls Tryd.prog 24 #[.agg #[.slice a (wds m).length cap], .agg #[.slice b (wds n).length cap']] W fun e w' => e = .returned (.int .i64 (cmpN m n)) ∧ Upd [] W w') := fun W h => cmp_any _ _ _ _ _ (hu.upd0 h) (hv.upd0 h) hlen
  have HD : Hid (∀ W, Upd [] w W → Calls Tryd.prog 60 #[.agg #[.slice a (wds m).length cap], .int .u64 (n : Int)] W (RNat2 (m / n) (m % n) W)) := fun W h => byWord_any _ _ _ _ (hu.upd0 h) (by omega) hn hlen
  have hge := cmpN_ge hmn
  have e1 : wds n = [n] := wds_one n h0 hn
  obtain ⟨bb, oo, rfl, hbb, hcc⟩ := hv.at 0 (by rw [e1]; simp)
  rw [e1] at hcc hl' hv HC HZ ⊢
  have hcc' : w.cell? ⟨bb, oo, none⟩ = some (.int .u64 (n : Int)) := hcc
  have hcw : ∀ W, Upd [] w W → W.cell? ⟨bb, oo, none⟩ = some (.int .u64 (n : Int)) := fun W h => (h.cell (p := ⟨bb, oo, none⟩) hbb (by simp)).trans hcc'
  have HCW := Lib.hid hcw
  have hd : decide (n = 0) = false := by simpa using h0
  rw [hd] at HZ
  simp only [List.length_cons, List.length_nil, Nat.zero_add] at *
  have HH0 := Lib.hid h0
  have HHn := Lib.hid hn
  generalize (wds m).length = lm at *
  clear hu hv hmn hcc hcc' h0 hn e1 hd hcw
  go_enter Tryd.func37, Tryd.ntmps37
  go_wp2_with fail
  refine HZ.out.mono ?_
  rintro e w1 ⟨rfl, hu1⟩
  obtain ⟨hb0, hb1, hb2, hb3, hu0, hs0⟩ := box4 hu1
  have h0 : w1.cell? ⟨w.heap.size, 0, none⟩ = some (.slice a lm cap) := by rw [cell_of_row w1 _ 0 _ _ _ hb0]; rfl
  have h1 : w1.cell? ⟨w.heap.size + 1, 0, none⟩ = some (.slice (some ⟨bb, oo, none⟩) 1 cap') := by rw [cell_of_row w1 _ 0 _ _ _ hb1]; rfl
  clear hu1
  go_wp2_with fail
  refine (HC.out _ hu0).mono ?_
  rintro e w2 ⟨rfl, hu2⟩
  have hb0' := (hu2.block _ (Array.getElem?_eq_some_iff.1 hb0).1 (by simp)).trans hb0
  have hb1' := (hu2.block _ (Array.getElem?_eq_some_iff.1 hb1).1 (by simp)).trans hb1
  have hb2' := (hu2.block _ (Array.getElem?_eq_some_iff.1 hb2).1 (by simp)).trans hb2
  have hb3' := (hu2.block _ (Array.getElem?_eq_some_iff.1 hb3).1 (by simp)).trans hb3
  have h0' : w2.cell? ⟨w.heap.size, 0, none⟩ = some (.slice a lm cap) := by rw [cell_of_row w2 _ 0 _ _ _ hb0']; rfl
  have h1' : w2.cell? ⟨w.heap.size + 1, 0, none⟩ = some (.slice (some ⟨bb, oo, none⟩) 1 cap') := by rw [cell_of_row w2 _ 0 _ _ _ hb1']; rfl
  have hu02 := hu0.trans0 hu2
  have hcw2 := HCW.out _ hu02
  have hsz : w.heap.size + 1 + 1 + 1 + 1 ≤ w2.heap.size := Nat.le_trans hs0 hu2.size
  have HB2 := Lib.hid hb2'
  have HB3 := Lib.hid hb3'
  have hcA : ∀ A, Upd [] w2 A → A.cell? ⟨w.heap.size + 1 + 1, 0, none⟩ = some (.slice none 0 0) := fun A h => by rw [h.cell (p := ⟨w.heap.size + 1 + 1, 0, none⟩) (by show w.heap.size + 1 + 1 < _; omega) (by simp), cell_of_row w2 _ 0 _ _ _ hb2']; rfl
  have hcB : ∀ A, Upd [] w2 A → A.cell? ⟨w.heap.size + 1 + 1 + 1, 0, none⟩ = some (.slice none 0 0) := fun A h => by rw [h.cell (p := ⟨w.heap.size + 1 + 1 + 1, 0, none⟩) (by show w.heap.size + 1 + 1 + 1 < _; omega) (by simp), cell_of_row w2 _ 0 _ _ _ hb3']; rfl
  have hfA : ∀ A, Upd [] w2 A → A.frozen? ⟨w.heap.size + 1 + 1, 0, none⟩ = false := fun A h => by rw [h.frozen (p := ⟨w.heap.size + 1 + 1, 0, none⟩) (by show w.heap.size + 1 + 1 < _; omega) (by simp)]; simp [World.frozen?, hb2']
  have hfB : ∀ A, Upd [] w2 A → A.frozen? ⟨w.heap.size + 1 + 1 + 1, 0, none⟩ = false := fun A h => by rw [h.frozen (p := ⟨w.heap.size + 1 + 1 + 1, 0, none⟩) (by show w.heap.size + 1 + 1 + 1 < _; omega) (by simp)]; simp [World.frozen?, hb3']
  have HKP : Hid (∀ A, Upd [w.heap.size + 1 + 1, w.heap.size + 1 + 1 + 1] w2 A → A.cell? ⟨w.heap.size, 0, none⟩ = some (.slice a lm cap) ∧ A.cell? ⟨w.heap.size + 1, 0, none⟩ = some (.slice (some ⟨bb, oo, none⟩) 1 cap') ∧ A.cell? ⟨bb, oo, none⟩ = some (.int .u64 (n : Int)) ∧ Upd [w.heap.size + 1 + 1, w.heap.size + 1 + 1 + 1] w2 A) := fun A h =>
    ⟨(h.cell (p := ⟨w.heap.size, 0, none⟩) (by show w.heap.size < _; omega) (by simp; omega)).trans h0', (h.cell (p := ⟨w.heap.size + 1, 0, none⟩) (by show w.heap.size + 1 < _; omega) (by simp)).trans h1', (h.cell (p := ⟨bb, oo, none⟩) (by show bb < _; omega) (by simp; omega)).trans hcw2, h⟩
  have HST : Hid (∀ A, Upd [] w2 A → ∀ x y p q, NV A (.agg #[x]) p → NV A (.agg #[y]) q → Stored w (w.heap.size + 1 + 1) (w.heap.size + 1 + 1 + 1) 27 27 x y p q ((A.setCell ⟨w.heap.size + 1 + 1, 0, none⟩ x).setCell ⟨w.heap.size + 1 + 1 + 1, 0, none⟩ y)) := fun A h x y p q hx hy =>
    store2 (by omega) (by omega) (by omega) ((h.block _ (by omega) (by simp)).trans HB2.out) ((h.block _ (by omega) (by simp)).trans HB3.out) (hu02.trans0 h) hx hy
  have HD2 : Hid (∀ W, Upd [] w2 W → Calls Tryd.prog 60 #[.agg #[.slice a lm cap], .int .u64 (n : Int)] W (RNat2 (m / n) (m % n) W)) := fun W h => HD.out W (hu02.trans0 h)
  have hrf : Upd [] w2 w2 := Upd.refl _ _
  clear hb0 hb1 hb2 hb3 hu0 hu2 hb0' hb1' hb2' hb3' h0 h1 h0' h1' hcw2 HB2 HB3 HC HD HZ
  have h0' := (HKP.out _ (hrf.mono (by simp))).1
  have h1' := (HKP.out _ (hrf.mono (by simp))).2.1
  go_wp2_with fail
  go_region_held3 (fun A => A.cell? ⟨w.heap.size, 0, none⟩ = some (.slice a lm cap) ∧ A.cell? ⟨w.heap.size + 1, 0, none⟩ = some (.slice (some ⟨bb, oo, none⟩) 1 cap') ∧ A.cell? ⟨bb, oo, none⟩ = some (.int .u64 (n : Int)) ∧ Upd [w.heap.size + 1 + 1, w.heap.size + 1 + 1 + 1] w2 A)
    (first
      | exact HKP.out _ (huy.mono (by simp))
      | exact HKP.out _ (hrf.drew.mono (by simp))
      | exact HKP.out _ ((huy.mono (by simp)).setCell (.inl (by simp)) _)
      | exact HKP.out _ (((huy.mono (by simp)).setCell (.inl (by simp)) _).setCell (.inl (by simp)) _))
    (first
      | (go_at_call 60; refine (HD2.out _ (by first | exact hrf.drew | exact hrf)).mono ?_; rintro e wy ⟨v1, v2, rfl, hn1, hn2, hu1⟩; obtain ⟨a1, cap1, rfl, hl1, hm1⟩ := hn1.open; obtain ⟨a2, cap2, rfl, hl2, hm2⟩ := hn2.open; have HN1 := Lib.hid hn1; have HN2 := Lib.hid hn2; have huy : Upd [] w2 wy := Upd.trans0 (by first | exact hrf.drew | exact hrf) hu1; clear hn1 hn2 hu1))
  all_goals
    have HS1 := Lib.hid (HST.out _ huy _ _ _ _ HN1.out HN2.out)
    obtain ⟨wf, hwf⟩ : ∃ wf, wf = (wy.setCell ⟨w.heap.size + 1 + 1, 0, none⟩ (.slice a1 (wds (m / n)).length cap1)).setCell ⟨w.heap.size + 1 + 1 + 1, 0, none⟩ (.slice a2 (wds (m % n)).length cap2) := ⟨_, rfl⟩
    rw [← hwf] at HS1 ⊢
    have k1 := HS1.out.c1
    have k2 := HS1.out.c2
    have f1 := HS1.out.f1
    have f2 := HS1.out.f2
    have HS2 := Lib.hid (store2 (by omega) (by omega) (by omega) HS1.out.b1 HS1.out.b2 HS1.out.u HS1.out.n1 HS1.out.n2)
    clear hwf hcA hcB hfA hfB huy
    go_wp2_with fail
    go_region
    all_goals
      go_wp2
      have z1 := HS2.out.drew.c1
      have z2 := HS2.out.drew.c2
      refine bodyPost_ret (v := .tuple #[.agg #[.slice a1 (wds (m / n)).length cap1], .agg #[.slice a2 (wds (m % n)).length cap2], .int .i64 0]) (by simp [results, Tryd.results37, go_sem, z1, z2]) rfl ?_
      exact ⟨_, _, rfl, HS2.out.drew.n1, HS2.out.drew.n2, HS2.out.drew.u⟩
end Go.Proofs.YtoklmfmoblkfcaaDoor
