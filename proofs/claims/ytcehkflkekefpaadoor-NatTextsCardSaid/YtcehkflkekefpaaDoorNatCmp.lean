/- The contract of nat.Cmp (layer 5). -/
import Derived.Test.YtcehkflkekefpaaDoorNatBack
import Derived.Test.YtcehkflkekefpaaDoorNatBox
namespace Go.Proofs.YtcehkflkekefpaaDoor
open Go.RowKit Go.Proofs.Tm Go.Shelf
set_option linter.unusedVariables false
set_option maxRecDepth 20000
attribute [local go_sem] Oper.semAt_some


theorem cmp_len (u v : Value) (m n : Nat) (w : World) (hu : NV w u m) (hv : NV w v n) (hne : (wds m).length ≠ (wds n).length) :
    Calls Tryd.prog 20 #[u, v] w fun e w' => e = .returned (.int .i64 (cmpN m n)) ∧ Upd [] w w' := by
  obtain ⟨a, cap, rfl, hl, hcm⟩ := hu.open
  obtain ⟨b, cap', rfl, hl', hcm'⟩ := hv.open
  have HR : Hid (cmpN m n = if (wds n).length < (wds m).length then 1 else -1) := by
    show _ = _
    unfold cmpN
    rcases Nat.lt_or_ge (wds n).length (wds m).length with h | h
    · have := wds_lt_of_length h
      rw [if_pos h, if_neg (by omega), if_neg (by omega)]
    · have := wds_lt_of_length (show (wds m).length < (wds n).length by omega)
      rw [if_pos this, if_neg (by omega)]
  unfold maxLen at hcm hcm'
  rw [HR.out]
  generalize (wds m).length = lm at *
  generalize (wds n).length = ln at *
  have hn : (((lm : Nat) : Int) != ((ln : Nat) : Int)) = true := by rw [bne_iff_ne]; omega
  obtain ⟨z, hz⟩ : ∃ z : Bool, z = decide (ln < lm) := ⟨_, rfl⟩
  have HZ : Hid ((if ln < lm then (1 : Int) else -1) = if z then 1 else -1) := by show _ = _; rw [hz]; by_cases h : ln < lm <;> simp [h]
  rw [HZ.out]
  have hz' : decide (ln < lm) = z := hz.symm
  clear hu hv hne HR hz
  go_enter Tryd.func20, Tryd.ntmps20
  go_wp2_with fail
  refine (sign_any z _).mono ?_
  rintro e w1 ⟨rfl, rfl⟩
  go_wp2
  · refine bodyPost_ret (v := .int .i64 1) (by simp [results, Tryd.results20, go_sem]) rfl ?_
    exact ⟨rfl, (((Upd.refl _ _).alloc _).alloc _).alloc _⟩
  · refine bodyPost_ret (v := .int .i64 (-1)) (by simp [results, Tryd.results20, go_sem]) rfl ?_
    exact ⟨rfl, (((Upd.refl _ _).alloc _).alloc _).alloc _⟩

/-- Held against one another from above. -/
theorem cmp_above (m n k : Nat) (hl : (wds m).length = (wds n).length) (hk : k < (wds m).length) (he : ∀ j, k < j → j < (wds m).length → (wds m).getD j 0 = (wds n).getD j 0) (hne : (wds m).getD k 0 ≠ (wds n).getD k 0) :
    cmpN m n = if (wds n).getD k 0 < (wds m).getD k 0 then 1 else -1 := by
  have hd : (wds m).drop (k + 1) = (wds n).drop (k + 1) := by
    apply List.ext_getElem
    · simp [hl]
    · intro i h1 h2
      simp only [List.length_drop] at h1 h2
      have := he (k + 1 + i) (by omega) (by omega)
      rw [List.getElem_drop, List.getElem_drop]
      simpa [show k + 1 + i < (wds m).length by omega, show k + 1 + i < (wds n).length by omega] using this
  have g1 : (wds m)[k]? = some ((wds m).getD k 0) := by rw [List.getElem?_eq_getElem hk]; simp [hk]
  have hk2 : k < (wds n).length := by omega
  have g2 : (wds n)[k]? = some ((wds n).getD k 0) := by rw [List.getElem?_eq_getElem hk2]; simp [hk2]
  unfold cmpN
  rcases Nat.lt_or_ge ((wds n).getD k 0) ((wds m).getD k 0) with h | h
  · have := wval_cmp (wds n) (wds m) k _ _ (wds_lt n) (wds_lt m) hl.symm g2 g1 h hd.symm
    rw [wval_wds, wval_wds] at this
    rw [if_neg (by omega), if_neg (by omega), if_pos h]
  · have := wval_cmp (wds m) (wds n) k _ _ (wds_lt m) (wds_lt n) hl g1 g2 (by omega) hd
    rw [wval_wds, wval_wds] at this
    rw [if_pos this, if_neg (by omega)]
theorem cmp_all (m n : Nat) (hl : (wds m).length = (wds n).length) (he : ∀ j, j < (wds m).length → (wds m).getD j 0 = (wds n).getD j 0) : cmpN m n = 0 := by
  have : wds m = wds n := by
    apply List.ext_getElem hl
    intro i h1 h2
    simpa [h1, h2] using he i h1
  have := wds_inj this
  unfold cmpN
  rw [if_neg (by omega), if_pos this]

/-- Between two rounds of Cmp: so far all words were the same. -/
def CmpIn (m n : Nat) (w0 : World) (pre : List (Fin (wds m).length)) (W : World) : Prop :=
  (∀ x ∈ pre, gd (wds m) ((wds m).length - 1 - x.val) = gd (wds n) ((wds m).length - 1 - x.val)) ∧ Below w0.heap.size w0 W
/-- A round of Cmp has left: the last words were unlike, and the answer is laid. -/
def CmpOut (m n p : Nat) (w : World) (c : Code) (pre : List (Fin (wds m).length)) (W : World) : Prop :=
  (c = .ret ∧ ∃ ini last, pre = ini ++ [last] ∧ (∀ x ∈ ini, gd (wds m) ((wds m).length - 1 - x.val) = gd (wds n) ((wds m).length - 1 - x.val)) ∧ gd (wds m) ((wds m).length - 1 - last.val) ≠ gd (wds n) ((wds m).length - 1 - last.val) ∧
       W.cell? ⟨p, 0, none⟩ = some (.int .i64 (if gd (wds n) ((wds m).length - 1 - last.val) < gd (wds m) ((wds m).length - 1 - last.val) then 1 else -1))) ∧ Below w.heap.size w W

set_option maxRecDepth 100000 in
set_option maxHeartbeats 2000000 in
theorem cmp_same (u v : Value) (m n : Nat) (w : World) (hu : NV w u m) (hv : NV w v n) (heq : (wds m).length = (wds n).length) (hlen : (wds m).length ≤ 1099511627776) :
    Calls Tryd.prog 20 #[u, v] w fun e w' => e = .returned (.int .i64 (cmpN m n)) ∧ Upd [] w w' := by
  obtain ⟨a, cap, rfl, hl, hcm⟩ := hu.open
  obtain ⟨b, cap', rfl, hl', hcm'⟩ := hv.open
  unfold maxLen at hcm hcm'
  have HA := Lib.hid hu
  have HB := Lib.hid hv
  have HEQ := Lib.hid heq
  rw [← heq] at hl' HB ⊢
  have hln : (((wds m).length : Int) != ((wds m).length : Int)) = false := by simp
  clear hu hv heq
  refine (callsIn_wide (n := 3)).1 ?_
  refine callsIn_of_wp_marks Tryd.func20 rfl trivial ?_ rfl
  simp only [Tryd.ntmps20, List.size_toArray, List.length_cons, List.length_nil, Nat.reduceAdd, Nat.reduceSub, Array.replicate_succ, Array.replicate_zero, List.push_toArray, List.append_toArray, List.nil_append, List.cons_append]
  gi_wp2_with (refine ⟨trivial, ?_⟩; gi_at_call 66; refine (callsIn_wide.2 (backward_any _ _ _ _)).mono ?_; rintro e w' ⟨rfl, rfl⟩)
  obtain ⟨w0, hw0⟩ : ∃ w0, w0 = (((w.alloc (.cells #[.slice a (wds m).length cap] 26)).alloc (.cells #[.slice b (wds m).length cap'] 26)).alloc (.cells #[.int .i64 0] 3)).alloc (.cells #[.slice a (wds m).length cap] 22) := ⟨_, rfl⟩
  have hu1 : Upd [] (((w.alloc (.cells #[.slice a (wds m).length cap] 26)).alloc (.cells #[.slice b (wds m).length cap'] 26)).alloc (.cells #[.int .i64 0] 3)) w0 := by rw [hw0]; exact (Upd.refl _ _).alloc _
  obtain ⟨hb2, hb3, hb4, hu0, hs0⟩ := box3 hu1
  have hs1 : w0.heap.size = w.heap.size + 1 + 1 + 1 + 1 := by rw [hw0]; simp
  have hb5 : w0.cell? ⟨w.heap.size + 1 + 1 + 1, 0, none⟩ = some (.slice a (wds m).length cap) := by
    rw [hw0]; exact World.cell?_alloc_at _ _ _ _ (by simp)
  rw [← hw0]
  have HU0 := Lib.hid hu0
  have hc2 : w0.cell? ⟨w.heap.size, 0, none⟩ = some (.slice a (wds m).length cap) := by rw [cell_of_row w0 _ 0 _ _ _ hb2]; rfl
  have hc3 : w0.cell? ⟨w.heap.size + 1, 0, none⟩ = some (.slice b (wds m).length cap') := by rw [cell_of_row w0 _ 0 _ _ _ hb3]; rfl
  have hc4 : w0.cell? ⟨w.heap.size + 1 + 1, 0, none⟩ = some (.int .i64 0) := by rw [cell_of_row w0 _ 0 _ _ _ hb4]; rfl
  have hf4 : w0.frozen? ⟨w.heap.size + 1 + 1, 0, none⟩ = false := by simp [World.frozen?, hb4]
  have HW0 := Lib.hid hw0
  have HS1 := Lib.hid hs1
  have hs3 := Nat.le_of_eq hs1.symm
  clear hs1 hw0 hu1 hb2 hb3 hb4 hu0
  refine wpIn_rangeFunc_ownF rfl (by decide) (gf := 90) (lb := #[.pointer (some ⟨w.heap.size + 1 + 1 + 1, 0, none⟩)]) rfl trivial (enters_of Tryd.func90 (by kernel_rfl) rfl)
    (back_stops (Ks []) 2 (by decide) (w.heap.size + 1 + 1 + 1) w0.heap.size a cap (wds m) hlen w0 (by omega) (by simp [Ks]) (Nat.le_refl _) hb5 (HA.out.upd0 HU0.out).sl (fun hne k hk => ⟨(HA.out.upd0 HU0.out).blk hne k hk, by simp [Ks]⟩)) Kq.trans Kq.put (Below.refl _ _) (fun _ => rfl)
    (CmpIn m n w0) (CmpOut m n (w.heap.size + 1 + 1) w)
    (OwnFrom.and (Own.from (fun s A B row hs hg hr => hs) _) (ownFrom_below (Nat.le_refl _) (Nat.le_refl _)))
    (fun c => OwnFrom.and (Own.from (fun s A B row hs hg hr => by obtain ⟨hc, ini, last, e1, e2, e3, e4⟩ := hs; exact ⟨hc, ini, last, e1, e2, e3, cell_kept e4 hg hr⟩) _) (ownFrom_below (Nat.le_refl _) (by have := HS1.out; omega)))
    ⟨by simp, Below.refl _ _⟩
    ?a1 ?assign ?body ?done ?stop
  case assign =>
    intro l x W K hK
    simp only [encP]
    gi_wp2
    exact hK
  case body =>
    rintro l pre x W ⟨hp, hB⟩ hlt
    obtain ⟨j, hj⟩ : ∃ j, j = (wds m).length - 1 - x.val := ⟨_, rfl⟩
    have hjl : j < (wds m).length := by have := x.isLt; omega
    have HJ := Lib.hid hj
    have hU : Upd [] w0 W := Upd.of_below hB
    obtain ⟨bb, bo, rfl, hbb, hcb⟩ := HB.out.at j (by rw [← HEQ.out]; exact hjl)
    have hcb' : W.cell? ⟨bb, bo + j, none⟩ = some (.int .u64 ((gd (wds n) j : Nat) : Int)) := ((HU0.out.trans0 hU).cell (p := ⟨bb, bo + j, none⟩) hbb (by simp)).trans hcb
    have k3 : W.cell? ⟨w.heap.size + 1, 0, none⟩ = some (.slice (some ⟨bb, bo, none⟩) (wds m).length cap') := (hU.cell (p := ⟨w.heap.size + 1, 0, none⟩) (by show w.heap.size + 1 < _; omega) (by simp)).trans hc3
    have k4 : W.cell? ⟨w.heap.size + 1 + 1, 0, none⟩ = some (.int .i64 0) := (hU.cell (p := ⟨w.heap.size + 1 + 1, 0, none⟩) (by show w.heap.size + 1 + 1 < _; omega) (by simp)).trans hc4
    have f4 : W.frozen? ⟨w.heap.size + 1 + 1, 0, none⟩ = false := (hU.frozen (p := ⟨w.heap.size + 1 + 1, 0, none⟩) (by show w.heap.size + 1 + 1 < _; omega) (by simp)).trans hf4
    have i0 : (0 : Int) ≤ (j : Int) := by omega
    have i1 : (j : Int) < ((wds m).length : Int) := by omega
    rw [← hj]
    have HB2 := Lib.hid hB
    have HP := Lib.hid hp
    have HBW : Hid (Below w.heap.size w W) := (HU0.out.trans0 hU).below
    have HX : Hid (∀ y : Fin (wds m).length, y = x → (wds m).length - 1 - y.val = j) := fun y hy => by rw [hy]; exact hj.symm
    clear hj hp hB hcb hc2 hc3 hc4 hf4 hb5 hU hbb
    have HME : Hid (gd (wds m) j = gd (wds m) j) := rfl
    by_cases hne : gd (wds m) j = gd (wds n) j
    · have hd : (((gd (wds m) j : Nat) : Int) != ((gd (wds n) j : Nat) : Int)) = false := by rw [hne]; simp
      have HNE := Lib.hid hne
      have HI : Hid (CmpIn m n w0 (pre ++ [x]) W) := by
        refine ⟨fun y hy => ?_, HB2.out⟩
        rcases List.mem_append.1 hy with h | h
        · exact HP.out y h
        · rw [HX.out y (by simpa using h)]; exact hne
      clear hne
      generalize gd (wds m) j = xm at *
      generalize gd (wds n) j = xn at *
      gi_wp2
      exact ⟨KeepsOthers.refl _, Kq.refl _ _ _, HI.out⟩
    · have hd : (((gd (wds m) j : Nat) : Int) != ((gd (wds n) j : Nat) : Int)) = true := by rw [bne_iff_ne]; omega
      obtain ⟨z, hz⟩ : ∃ z : Bool, z = decide (gd (wds n) j < gd (wds m) j) := ⟨_, rfl⟩
      have hz' : decide (gd (wds n) j < gd (wds m) j) = z := hz.symm
      have HZ : Hid ((if gd (wds n) j < gd (wds m) j then (1 : Int) else -1) = if z then 1 else -1) := by show _ = _; rw [hz]; by_cases h : gd (wds n) j < gd (wds m) j <;> simp [h]
      have HNE := Lib.hid hne
      have HL : Hid (∀ A : World, A.cell? ⟨w.heap.size + 1 + 1, 0, none⟩ = some (.int .i64 (if z then 1 else -1)) → Below w.heap.size w A → CmpOut m n (w.heap.size + 1 + 1) w .ret (pre ++ [x]) A) := fun A h1 h2 =>
        ⟨⟨rfl, pre, x, rfl, HP.out, by rw [HX.out x rfl]; exact hne, by rw [HX.out x rfl, HZ.out]; exact h1⟩, h2⟩
      clear hne hz
      generalize gd (wds m) j = xm at *
      generalize gd (wds n) j = xn at *
      gi_wp2_with (refine ⟨trivial, ?_⟩; gi_at_call 65; refine (CallsIn.inRound l (callsIn_wide.2 (sign_any z _))).mono ?_; rintro e w' ⟨rfl, rfl⟩)
      · have hz3 : z = true := by assumption
        exact ⟨KeepsOthers.setCell _ _ _, HL.out _ (by rw [hz3]; exact set_cell k4) (HBW.out.setCell (p := ⟨w.heap.size + 1 + 1, 0, none⟩) (by show w.heap.size ≤ w.heap.size + 1 + 1; omega) _)⟩
      · have hz3 : z = false := by (first | assumption | (cases z <;> simp_all))
        exact ⟨KeepsOthers.setCell _ _ _, HL.out _ (by rw [hz3]; exact set_cell k4) (HBW.out.setCell (p := ⟨w.heap.size + 1 + 1, 0, none⟩) (by show w.heap.size ≤ w.heap.size + 1 + 1; omega) _)⟩
  case done =>
    rintro D ys W hD rfl ⟨hp, hB⟩ hK
    have hU : Upd [] w0 W := Upd.of_below hB
    have k4 : W.cell? ⟨w.heap.size + 1 + 1, 0, none⟩ = some (.int .i64 0) := (hU.cell (p := ⟨w.heap.size + 1 + 1, 0, none⟩) (by show w.heap.size + 1 + 1 < _; omega) (by simp)).trans hc4
    have f4 : W.frozen? ⟨w.heap.size + 1 + 1, 0, none⟩ = false := (hU.frozen (p := ⟨w.heap.size + 1 + 1, 0, none⟩) (by show w.heap.size + 1 + 1 < _; omega) (by simp)).trans hf4
    have HV : Hid (cmpN m n = 0) := cmp_all m n HEQ.out (fun j hj => by
      have := hp ⟨(wds m).length - 1 - j, by omega⟩ (by rw [upto_all]; simp)
      simp only [show (wds m).length - 1 - ((wds m).length - 1 - j) = j by omega] at this
      exact this)
    have HBW : Hid (Below w.heap.size w W) := (HU0.out.trans0 hU).below
    have HK := Lib.hid hK
    clear hp hB hU hc2 hc3 hc4 hf4 hb5 hK
    gi_wp2
    have hK' := (KeepsOthers.setCell W ⟨w.heap.size + 1 + 1, 0, none⟩ (.int .i64 0)).same D _ HK.out rfl
    refine ⟨by simp, .inl ⟨_, _, rfl, run_takeDeferred hK', ?_⟩⟩
    have hc5 := cell_kept (set_cell (y := .int .i64 0) k4) (grownBy_putObj' _ D (.deferred none)) (fun r e => by cases e; exact ⟨_, hK', rfl⟩)
    refine ⟨.int .i64 0, by simp [results, Tryd.f20, go_sem, hc5], by rw [HV.out], Upd.of_below ((HBW.out.setCell (p := ⟨w.heap.size + 1 + 1, 0, none⟩) (by show w.heap.size ≤ w.heap.size + 1 + 1; omega) _).trans (belowK_b (w := w) (Nat.le_refl _) _ D _ _ (by omega) hK' rfl rfl))⟩
  case stop =>
    rintro D c pre W hD ⟨k, hk, rfl⟩ ⟨⟨rfl, ini, last, e1, e2, e3, hcr⟩, hB⟩ hK
    have hg := good_upto (n := (wds m).length) hk
    rw [e1] at hg
    obtain ⟨⟨k', hk', rfl⟩, hlast⟩ := good_snoc hg
    rw [upto_length hk'] at hlast
    have hll := last.isLt
    have HV : Hid (cmpN m n = if gd (wds n) ((wds m).length - 1 - last.val) < gd (wds m) ((wds m).length - 1 - last.val) then 1 else -1) :=
      cmp_above m n ((wds m).length - 1 - last.val) HEQ.out (by omega) (fun j h1 h2 => by
        have := e2 ⟨(wds m).length - 1 - j, by omega⟩ (by
          unfold upto
          rw [List.mem_take_iff_getElem]
          exact ⟨(wds m).length - 1 - j, by simp; omega, by simp⟩)
        simp only [show (wds m).length - 1 - ((wds m).length - 1 - j) = j by omega] at this
        exact this) e3
    have HK := Lib.hid hK
    have HBW := Lib.hid hB
    have HCR := Lib.hid hcr
    clear hcr hK hB e1 e2 e3 hg hlast hc2 hc3 hc4 hf4 hb5
    gi_wp2
    refine ⟨by simp, .inl ⟨_, _, rfl, run_takeDeferred HK.out, ?_⟩⟩
    have hc5 := cell_kept HCR.out (grownBy_putObj' _ D (.deferred none)) (fun r e => by cases e; exact ⟨_, HK.out, rfl⟩)
    refine ⟨.int .i64 (if gd (wds n) ((wds m).length - 1 - last.val) < gd (wds m) ((wds m).length - 1 - last.val) then 1 else -1), by simp [results, Tryd.f20, go_sem, hc5], by rw [HV.out], Upd.of_below (HBW.out.trans (belowK_b (w := w) (Nat.le_refl _) W D _ _ (by omega) HK.out rfl rfl))⟩

/-- Cmp: -1, 0, 1. -/
theorem cmp_any (u v : Value) (m n : Nat) (w : World) (hu : NV w u m) (hv : NV w v n) (hlen : (wds m).length ≤ 1099511627776) :
    Calls Tryd.prog 20 #[u, v] w fun e w' => e = .returned (.int .i64 (cmpN m n)) ∧ Upd [] w w' := by
  by_cases h : (wds m).length = (wds n).length
  · exact cmp_same u v m n w hu hv h hlen
  · exact cmp_len u v m n w hu hv h

theorem cmpN_lt {m n : Nat} (h : m < n) : cmpN m n = -1 := by unfold cmpN; rw [if_pos h]
theorem cmpN_ge {m n : Nat} (h : n ≤ m) : decide (cmpN m n < 0) = false := by unfold cmpN; rw [if_neg (by omega)]; split <;> rfl

end Go.Proofs.YtcehkflkekefpaaDoor
