/- The fixed fact that each statement of layer 5 asks first. -/
import Derived.Test.YtcehkflkekefpaaDoorNatPow
import Derived.Test.YtcehkflkekefpaaDoorNatText
namespace Go.Proofs.YtcehkflkekefpaaDoor
open Go.RowKit Go.Proofs.Tm Go.Shelf
set_option linter.unusedVariables false
set_option linter.unusedSimpArgs false
set_option maxRecDepth 20000

theorem nv_len (n : Nat) (h : n < 2 ^ 255) : (wds n).length ≤ 4 := by
  rw [wds_length_le_iff]
  exact Nat.lt_of_lt_of_le h (by decide)

theorem pow10 (u : Value) (w : World) (hu : NV w u 10) : Calls Tryd.prog 56 #[u, .int .i64 20] w (RNatE 100000000000000000000 0 w) := by
  refine (pow_any u 10 20 w hu (Nat.le_trans (nv_len 10 (by decide)) (by decide)) (by decide)).mono ?_
  intro e w' h
  unfold PowPost at h
  rw [if_neg (by decide), if_neg (by decide), show nbits 10 = 4 from nbits_of (k := 3) (by decide) (by decide), if_neg (by decide)] at h
  exact h

theorem ofw (x : Nat) (z : Int) (hz : z = (x : Int)) (hx : x < 18446744073709551616) (v : Value) (W : World) (h : Sl W v [.int .u64 z]) : Calls Tryd.prog 14 #[v] W (RNat x W) := by
  subst hz
  have := of_any v [x] W h (by simp) (by simpa using hx)
  simpa [wval] using this

theorem upd_facts {X A : World} (u : Upd [] X A) : (∀ k, k < X.heap.size → A.cell? ⟨k, 0, none⟩ = X.cell? ⟨k, 0, none⟩) ∧ (∀ k, k < X.heap.size → A.frozen? ⟨k, 0, none⟩ = X.frozen? ⟨k, 0, none⟩) ∧ X.heap.size ≤ A.heap.size :=
  ⟨fun k hk => u.cell (p := ⟨k, 0, none⟩) hk (by simp), fun k hk => u.frozen (p := ⟨k, 0, none⟩) hk (by simp), u.size⟩
/-- A slice of one cell. -/
theorem sl_cell {W : World} {k : Nat} {x : Value} (h : W.cell? ⟨k, 0, none⟩ = some x) : Sl W (.slice (some ⟨k, 0, none⟩) 1 1) [x] :=
  ⟨_, 1, rfl, Nat.le_refl _, by simp [maxLen], fun _ => ⟨k, 0, rfl, fun i hi => by
    obtain rfl : i = 0 := by simpa using hi
    exact h⟩⟩
/-- A store into a cell that holds no word changes no number. -/
theorem NV.setc {W : World} {v : Value} {n k : Nat} (h : NV W v n) (hk : ∀ z, W.cell? ⟨k, 0, none⟩ ≠ some (.int .u64 z)) (x : Value) : NV (W.setCell ⟨k, 0, none⟩ x) v n := by
  obtain ⟨sv, rfl, a, cap, rfl, h1, h2, h3⟩ := h
  refine ⟨_, rfl, a, cap, rfl, h1, h2, fun hx => ?_⟩
  obtain ⟨b, o, rfl, hc⟩ := h3 hx
  refine ⟨b, o, rfl, fun i hi => ?_⟩
  have hci := hc i hi
  rw [cu64_length] at hi
  rw [← hci]
  refine World.cell?_setCell_other _ _ _ _ (fun e => ?_)
  rw [cu64_getD _ _ hi] at hci
  exact hk _ (by rw [e]; exact hci)
theorem NV.al {W : World} {v : Value} {n : Nat} (h : NV W v n) (o : Obj) : NV (W.alloc o) v n := h.upd0 ((Upd.refl _ _).alloc _)
theorem NV.dr {W : World} {v : Value} {n : Nat} (h : NV W v n) : NV W.drew v n := h.upd0 (Upd.refl _ _).drew

theorem text_is (u : Value) (n : Nat) (l : List UInt8) (hl : l ≠ []) (hd : l.all (fun c => 48 ≤ c.toNat ∧ c.toNat ≤ 57)) (h0 : l.length = 1 ∨ l.head? ≠ some 48) (hv : decVal l = n) (w : World) (hu : NV w u n) (ht : Tab w) (hlen : (wds n).length ≤ 4) :
    Calls Tryd.prog 33 #[u] w fun e w' => e = .returned (.string ⟨l.toArray⟩) ∧ Upd [] w w' := by
  have h := text_any u n w hu ht (by omega)
  rw [← hv, decDigits_decVal l (fun c hc => by simpa using List.all_eq_true.1 hd c hc) hl h0] at h
  exact h
theorem text100 (u : Value) (w : World) (hu : NV w u 100000000000000000000) (ht : Tab w) : Calls Tryd.prog 33 #[u] w fun e w' => e = .returned (.string ⟨#[49, 48, 48, 48, 48, 48, 48, 48, 48, 48, 48, 48, 48, 48, 48, 48, 48, 48, 48, 48, 48]⟩) ∧ Upd [] w w' :=
  text_is u _ [49, 48, 48, 48, 48, 48, 48, 48, 48, 48, 48, 48, 48, 48, 48, 48, 48, 48, 48, 48, 48] (by decide) (by decide) (by decide) (by decide) w hu ht (nv_len _ (by decide))
theorem text142 (u : Value) (w : World) (hu : NV w u 14285714285714285714) (ht : Tab w) : Calls Tryd.prog 33 #[u] w fun e w' => e = .returned (.string ⟨#[49, 52, 50, 56, 53, 55, 49, 52, 50, 56, 53, 55, 49, 52, 50, 56, 53, 55, 49, 52]⟩) ∧ Upd [] w w' :=
  text_is u _ [49, 52, 50, 56, 53, 55, 49, 52, 50, 56, 53, 55, 49, 52, 50, 56, 53, 55, 49, 52] (by decide) (by decide) (by decide) (by decide) w hu ht (nv_len _ (by decide))
theorem text2 (u : Value) (w : World) (hu : NV w u 2) (ht : Tab w) : Calls Tryd.prog 33 #[u] w fun e w' => e = .returned (.string ⟨#[50]⟩) ∧ Upd [] w w' :=
  text_is u _ [50] (by decide) (by decide) (by decide) (by decide) w hu ht (nv_len _ (by decide))

theorem div7 (u v : Value) (w : World) (hu : NV w u 100000000000000000000) (hv : NV w v 7) : Calls Tryd.prog 16 #[u, v] w (RNat2E 14285714285714285714 2 0 w) := by
  have := divmod_word u v 100000000000000000000 7 w hu hv (by decide) (by decide) (by decide) (Nat.le_trans (nv_len _ (by decide)) (by decide))
  simpa using this

set_option maxHeartbeats 1600000 in
theorem awake_any (w : World) (ht : Tab w) : Calls Tryd.prog 12 #[] w fun e w' => e = .returned (.bool true) ∧ Upd [] w w' := by
  have HT := Lib.hid ht
  clear ht
  go_enter Tryd.func12, Tryd.ntmps12
  go_wp2_with fail
  refine (of1 10 10 rfl (by decide) _ _ rfl).mono ?_
  rintro e w1 ⟨v1, rfl, hn1, hu1⟩
  obtain ⟨a1, c1, rfl, hl1, hm1⟩ := hn1.open
  generalize (wds 10).length = l1 at *
  have HU1 := Lib.hid (((Upd.refl [] w).alloc _).trans0 hu1)
  have HP := Lib.hid (pow10 _ _ hn1)
  clear hn1 hu1
  go_wp2_with fail
  refine HP.out.mono ?_
  rintro e w2 ⟨v2, rfl, hn2, hu2⟩
  obtain ⟨a2, c2, rfl, hl2, hm2⟩ := hn2.open
  generalize (wds 100000000000000000000).length = l2 at *
  have HU2 := Lib.hid (HU1.out.trans0 hu2)
  have HN2 := Lib.hid hn2
  clear hn2 hu2 HP
  go_wp2_with fail
  obtain ⟨w3, hw3⟩ : ∃ w3, w3 = w2.alloc (.cells #[.slice a2 l2 c2] 26) := ⟨_, rfl⟩
  obtain ⟨p, hp⟩ : ∃ p, p = w2.heap.size := ⟨_, rfl⟩
  rw [← hw3, ← hp]
  have hu3 : Upd [] w2 w3 := by rw [hw3]; exact (Upd.refl _ _).alloc _
  have hbp : w3.heap[p]? = some (.cells #[.slice a2 l2 c2] 26 (0, 0)) := by rw [hw3, hp]; exact heap_alloc_new w2 _
  have HU3 := Lib.hid (HU2.out.trans0 hu3)
  have HN3 := Lib.hid (HN2.out.upd0 hu3)
  have HBP := Lib.hid hbp
  have hpl : p < w3.heap.size := (Array.getElem?_eq_some_iff.1 hbp).1
  have cp := (cell1 hbp).1
  have HKP : Hid (∀ W, Upd [] w3 W → W.cell? ⟨p, 0, none⟩ = some (.slice a2 l2 c2) ∧ Upd [] w3 W) := fun W h => ⟨(h.cell (p := ⟨p, 0, none⟩) hpl (by simp)).trans (cell1 HBP.out).1, h⟩
  have hrf : Upd [] w3 w3 := Upd.refl _ _
  clear hw3 hp hu3 hbp
  go_upto_region 2 with fail
  go_cut [3, 4, 5] (fun v3 v4 v5 wx => ∃ (k3 k4 : Nat) (x y : Option Addr) (l c l' c' : Nat), v3 = .pointer (some ⟨k3, 0, none⟩) ∧ v4 = .pointer (some ⟨k4, 0, none⟩) ∧ v5 = .int .i64 0 ∧ Hid (wx.cell? ⟨k3, 0, none⟩ = some (.slice x l c)) ∧ Hid (wx.cell? ⟨k4, 0, none⟩ = some (.slice y l' c')) ∧ Hid (NV wx (.agg #[.slice x l c]) 14285714285714285714) ∧ Hid (NV wx (.agg #[.slice y l' c']) 2) ∧ Hid (Upd [] w3 wx))
  case first =>
    go_region_held3 (fun W => W.cell? ⟨p, 0, none⟩ = some (.slice a2 l2 c2) ∧ Upd [] w3 W)
      (first
        | (refine HKP.out _ ?_; repeat (first | exact huy | exact hrf | apply Upd.drew | apply Upd.alloc | (refine Upd.setCell ?_ (.inr (by simp <;> omega)) _))))
      (first
        | (go_at_call 14; refine (ofw 7 7 rfl (by decide) _ _ (sl_cell (by go_simp))).mono ?_; rintro e wy ⟨v4, rfl, hn4, hu4⟩; obtain ⟨hcy, hfy, hsz4⟩ := upd_facts hu4; (try simp only [World.size_alloc, World.size_drew] at hsz4); have huy : Upd [] w3 wy := Upd.trans0 (by repeat (first | exact hrf | apply Upd.drew | apply Upd.alloc)) hu4; have l0 : w3.heap.size < wy.heap.size := (by omega); have l0' := Nat.le_of_lt l0; (try have l1 : w3.heap.size + 1 < wy.heap.size := by omega); (try have l2 : w3.heap.size + 1 + 1 < wy.heap.size := by omega); obtain ⟨a4, c4, rfl, hl4, hm4⟩ := hn4.open; have HN4 := Lib.hid hn4; have HN3 := Lib.hid (HN3.out.upd0 huy); clear hn4)
        | (go_at_call 16; refine (div7 _ _ _ (by repeat (first | exact HN3.out | apply NV.dr | apply NV.al)) (by repeat (first | exact HN4.out | apply NV.dr | apply NV.al))).mono ?_; rintro e wz ⟨v5, v6, rfl, hn5, hn6, hu5⟩; obtain ⟨hcz, hfz, hsz5⟩ := upd_facts hu5; (try simp only [World.size_alloc, World.size_drew] at hsz5); have hry : Upd [] wy wy := Upd.refl _ _; have huz : Upd [] wy wz := Upd.trans0 (by repeat (first | exact hry | apply Upd.drew | apply Upd.alloc)) hu5; have huy : Upd [] w3 wz := huy.trans0 huz; have m0 : w3.heap.size < wz.heap.size := (by omega); have m0' := Nat.le_of_lt m0; (try have m1 : w3.heap.size + 1 < wz.heap.size := by omega); (try have m2 : w3.heap.size + 1 + 1 < wz.heap.size := by omega); (try have m3 : wy.heap.size < wz.heap.size := by omega); (try have m4 : wy.heap.size + 1 < wz.heap.size := by omega); obtain ⟨a5, c5, rfl, hl5, hm5⟩ := hn5.open; obtain ⟨a6, c6, rfl, hl6, hm6⟩ := hn6.open; have HN5 := Lib.hid hn5; have HN6 := Lib.hid hn6; clear hn5 hn6))
    all_goals
      go_wp2_with fail
      go_meet
      refine ⟨_, _, a5, a6, (wds 14285714285714285714).length, c5, (wds 2).length, c6, rfl, rfl, rfl, Lib.hid ?_, Lib.hid ?_, Lib.hid ?_, Lib.hid ?_, Lib.hid ?_⟩
      · go_simp <;> (refine set_cell (x := .slice none 0 0) ?_; go_simp)
      · go_simp <;> (refine set_cell (x := .slice none 0 0) ?_; go_simp)
      · repeat (first | exact HN5.out | apply NV.dr | apply NV.al | refine NV.setc ?_ (fun z => ?_) _)
        all_goals (go_simp <;> try simp)
      · repeat (first | exact HN6.out | apply NV.dr | apply NV.al | refine NV.setc ?_ (fun z => ?_) _)
        all_goals (go_simp <;> try simp)
      · repeat (first | exact huy | exact hrf | apply Upd.drew | apply Upd.alloc | (refine Upd.setCell ?_ (.inr (by simp <;> omega)) _))
  case rest =>
    obtain ⟨k3, k4, x, y, l, c, l', c', rfl, rfl, rfl, H3, H4, HN5, HN6, HU⟩ := hcut
    have hu := HU.out
    have hcpw := (hu.cell (p := ⟨p, 0, none⟩) hpl (by simp)).trans cp
    have h3 := H3.out
    have h4 := H4.out
    have HNW := Lib.hid (HN3.out.upd0 hu)
    have HTW := Lib.hid (HT.out.upd0 (HU3.out.trans0 hu))
    clear cp HKP hrf hu
    have hl3 := World.block_lt_of_cell? wc _ h3
    have hl4 := World.block_lt_of_cell? wc _ h4
    have HC3 : Hid (∀ A, Upd [] wc A → A.cell? ⟨k3, 0, none⟩ = some (.slice x l c)) := fun A h => (h.cell (p := ⟨k3, 0, none⟩) hl3 (by simp)).trans h3
    have HC4 : Hid (∀ A, Upd [] wc A → A.cell? ⟨k4, 0, none⟩ = some (.slice y l' c')) := fun A h => (h.cell (p := ⟨k4, 0, none⟩) hl4 (by simp)).trans h4
    clear h3 h4
    go_wp2_with fail
    refine (text100 _ _ HNW.out HTW.out).mono ?_
    rintro e w5 ⟨rfl, hu5⟩
    have h3 := HC3.out _ hu5
    have HU5 := Lib.hid hu5
    clear hu5
    go_wp2_with fail
    refine (text142 _ _ (HN5.out.upd0 HU5.out) (HTW.out.upd0 HU5.out)).mono ?_
    rintro e w6 ⟨rfl, hu6⟩
    have HU6 := Lib.hid (HU5.out.trans0 hu6)
    have h4 := HC4.out _ HU6.out
    clear hu6
    go_wp2_with fail
    refine (text2 _ _ (HN6.out.upd0 HU6.out) (HTW.out.upd0 HU6.out)).mono ?_
    rintro e w7 ⟨rfl, hu7⟩
    have HU7 := Lib.hid ((HU3.out.trans0 HU.out).trans0 (HU6.out.trans0 hu7))
    clear hu7
    go_wp2
    go_ret
    exact ⟨rfl, HU7.out⟩
end Go.Proofs.YtcehkflkekefpaaDoor
