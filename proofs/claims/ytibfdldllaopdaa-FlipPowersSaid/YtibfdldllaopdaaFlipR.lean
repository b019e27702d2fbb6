/- The contracts of flip.isChance, digits, Ratio, Power (layer 10). -/
import Derived.Test.YtibfdldllaopdaaFlipH
import Derived.Test.YtibfdldllaopdaaNatSub
import Derived.Test.YtibfdldllaopdaaNatSum
import Derived.Test.YtibfdldllaopdaaNatCmp
namespace Go.Proofs.Ytibfdldllaopdaa
open Go.RowKit Go.Proofs.Tm
set_option linter.unusedVariables false
set_option maxRecDepth 20000

theorem wds_mono {m n : Nat} (h : m ≤ n) : (wds m).length ≤ (wds n).length := by
  rw [wds_length_le_iff]
  exact Nat.lt_of_le_of_lt h ((wds_length_le_iff _ _).1 (Nat.le_refl _))
theorem wds_twice {m n : Nat} (h : m < n) : (wds (m + m)).length ≤ (wds n).length + 1 := by
  rw [wds_length_le_iff]
  have h1 := (wds_length_le_iff n (wds n).length).1 (Nat.le_refl _)
  rw [Nat.pow_succ]
  generalize 18446744073709551616 ^ (wds n).length = X at *
  omega

set_option maxHeartbeats 800000 in
theorem isChance_any (u v : Value) (P Q : Nat) (w : World) (hu : NV w u P) (hv : NV w v Q) (hl : (wds Q).length ≤ 1000000) (hq : Q ≠ 0) (hpq : P ≤ Q) :
    Calls Try.prog 43 #[u, v] w fun e w' => e = .returned (.bool true) ∧ Upd [] w w' := by
  have hlp := Nat.le_trans (wds_mono hpq) hl
  obtain ⟨a, cap, rfl, _, _⟩ := hu.open
  obtain ⟨b, cap', rfl, _, _⟩ := hv.open
  obtain ⟨w8, hw8⟩ : ∃ W, W = (w.alloc (.cells #[.slice a (wds P).length cap] 56)).alloc (.cells #[.slice b (wds Q).length cap'] 56) := ⟨_, rfl⟩
  obtain ⟨k, hk⟩ : ∃ k, k = w.heap.size := ⟨_, rfl⟩
  obtain ⟨hu8, hbx⟩ := two_boxes w _ _ _ _ w8 hw8 k hk
  have HBX := Lib.hid hbx
  have HU8 := Lib.hid hu8
  have HP := Lib.hid (fun W (h : Upd [] w8 W) => (hu.upd0 hu8).upd0 h)
  have HQ := Lib.hid (fun W (h : Upd [] w8 W) => (hv.upd0 hu8).upd0 h)
  have HW8 := Lib.hid hw8
  have HK := Lib.hid hk
  have HZ : Hid (decide (Q = 0) = false) := by show _ = _; simp; exact hq
  have HC : Hid (decide (cmpN P Q ≤ 0) = true) := by show _ = _; unfold cmpN; simp; split <;> (try split) <;> omega
  obtain ⟨b1, b2⟩ := hbx w8 (Upd.refl _ _)
  have HPL : Hid (∀ X, X = P → (wds X).length ≤ 1099511627776) := fun X h => by rw [h]; omega
  generalize (wds P).length = lp at *
  generalize (wds Q).length = lq at *
  rw [hk, hw8] at b1 b2
  clear hbx hu8 hu hv hw8 hk hq hpq hl hlp
  go_enter Try.func43, Try.ntmps43
  go_wp2_with fail
  rw [← HW8.out]
  rw [← HK.out]
  refine (zero_any _ _ _ (HQ.out _ (Upd.refl _ _))).mono ?_
  rintro e w9 ⟨rfl, hu9⟩
  rw [HZ.out]
  obtain ⟨b1', b2'⟩ := HBX.out _ hu9
  have HU9 := Lib.hid hu9
  clear hu9 b1 b2
  go_wp2_with fail
  refine (cmp_any _ _ _ _ _ (HP.out _ HU9.out) (HQ.out _ HU9.out) (HPL.out P rfl)).mono ?_
  rintro e w10 ⟨rfl, hu10⟩
  have HF := Lib.hid (HU8.out.trans0 (HU9.out.trans0 hu10))
  have hc := HC.out
  clear hu10
  generalize cmpN P Q = c at *
  go_wp2
  go_ret
  exact ⟨rfl, HF.out⟩

/-- A tape's own block holds no words. -/
theorem Tp.words {w : World} {p g : Nat} {l : List Bool} {i : Nat} {d : Bool} (h : Tp w p g l i d) {v : Value} {L : List Nat} (hs : Sl w v (cu64 L)) : cu64 L ≠ [] → ∀ k, v.ownBlock = some k → k ∉ [p] := by
  intro hne k hk
  obtain ⟨bs, cap, h1, _⟩ := h
  obtain ⟨b, o, c, rfl, hc⟩ := sl_at hs hne
  have hkb : b = k := by simpa [Value.ownBlock] using hk
  subst hkb
  have hpos : 0 < L.length := List.length_pos_iff.2 (cu64_nil.1 hne)
  have := hc 0 (by rw [cu64_length]; exact hpos)
  rw [cu64_getD _ _ hpos] at this
  simp only [List.mem_singleton]
  rintro rfl
  rw [cell_of_row w b _ _ _ _ h1] at this
  rcases o with _ | _ | _ | _ | o <;> simp at this
theorem NV.updp {w w' : World} {p g : Nat} {l : List Bool} {i : Nat} {d : Bool} {v : Value} {n : Nat} (h : NV w v n) (ht : Tp w p g l i d) (u : Upd [p] w w') : NV w' v n := by
  obtain ⟨sv, rfl, hs⟩ := h
  exact ⟨sv, rfl, hs.upd u (ht.words hs)⟩

/-- Within digits: block K holds what is left, R. -/
structure DigI (w w8 : World) (p g : Nat) (l : List Bool) (i P Q K j R : Nat) (W : World) : Prop where
  tp : Tp W p g l (i + j) false
  upd : Upd [p] w8 W
  blk : ∃ a c, W.heap[K]? = some (.cells #[.slice a (wds R).length c] 56 (0, 0)) ∧ NV W (.agg #[.slice a (wds R).length c]) R
  new : w8.heap.size ≤ K
  pos : 0 < R ∧ R < Q
  eq : digF Q P (l.drop i) = Came.more j (digF Q R (l.drop (i + j)))

/-- How far a tape is, read off memory. -/
def tapeAt (p : Nat) (W : World) : Nat := match W.cell? ⟨p, 0, none⟩ with | some (.int _ n) => n.toNat | _ => 0
theorem tapeAt_is {w : World} {p g : Nat} {l : List Bool} {i : Nat} {d : Bool} (h : Tp w p g l i d) : tapeAt p w = i := by
  unfold tapeAt; rw [h.cells.1]; simp

set_option maxHeartbeats 3200000 in
theorem digits_any (u v : Value) (P Q : Nat) (p g : Nat) (l : List Bool) (i : Nat) (w : World) (hu : NV w u P) (hv : NV w v Q) (hl : (wds Q).length ≤ 1000000) (hp : 0 < P) (hpq : P < Q) (ht : Tp w p g l i false) :
    Calls Try.prog 46 #[.pointer (some ⟨p, 0, none⟩), u, v] w (FPost (digF Q P) p g l i w) := by
  have HWL : Hid (∀ X, X < Q → (wds X).length ≤ 1099511627776 ∧ (wds (X + X)).length ≤ 1099511627776) := fun X h => ⟨by have := wds_mono (Nat.le_of_lt h); omega, by have := wds_twice h; omega⟩
  obtain ⟨a, cap, rfl, _, _⟩ := hu.open
  obtain ⟨b, cap', rfl, _, _⟩ := hv.open
  obtain ⟨w8, hw8⟩ : ∃ W, W = (w.alloc (.cells #[.slice a (wds P).length cap] 56)).alloc (.cells #[.slice b (wds Q).length cap'] 56) := ⟨_, rfl⟩
  obtain ⟨k, hk⟩ : ∃ k, k = w.heap.size := ⟨_, rfl⟩
  obtain ⟨hu8, hbx⟩ := two_boxes w _ _ _ _ w8 hw8 k hk
  have hpk : p < k := by rw [hk]; exact ht.lt
  have hgk : g < k := by rw [hk]; exact ht.glt
  have hs8 : w8.heap.size = k + 1 + 1 := by rw [hw8, hk]; simp
  have ht8 := ht.upd0 hu8
  have HQ : Hid (∀ W, Upd [p] w8 W → NV W (.agg #[.slice b (wds Q).length cap']) Q) := fun W h => (hv.upd0 hu8).updp ht8 h
  have HBX : Hid (∀ W, Upd [p] w8 W → W.cell? ⟨k + 1, 0, none⟩ = some (.slice b (wds Q).length cap')) := fun W h => (h.cell (p := ⟨k + 1, 0, none⟩) (by show k + 1 < _; omega) (by simp; omega)).trans (hbx w8 (Upd.refl _ _)).2
  have b1 := (hbx w8 (Upd.refl _ _)).1
  have hu9 : Upd [] w8 (w8.alloc (.cells #[.slice a (wds P).length cap] 56)) := (Upd.refl _ _).alloc _
  have H0 : Hid (DigI w w8 p g l i P Q (k + 1 + 1) 0 P (w8.alloc (.cells #[.slice a (wds P).length cap] 56))) :=
    ⟨ht8.upd0 hu9, hu9.mono (by simp), ⟨a, cap, by rw [← hs8]; exact heap_alloc_new w8 _, (hu.upd0 hu8).upd0 hu9⟩, by omega, ⟨hp, hpq⟩, by simp [Came.more]⟩
  have HU8 := Lib.hid hu8
  have HW8 := Lib.hid hw8
  have HK := Lib.hid hk
  have hpl := ht.le
  rw [hw8, hk] at b1
  generalize (wds P).length = lp at *
  generalize (wds Q).length = lq at *
  clear hu hv ht ht8 hu8 hbx hu9 hw8 hp hpq hl hk
  go_enter Try.func46, Try.ntmps46
  go_wp2
  rw [← HW8.out]
  rw [← HK.out]
  clear b1
  go_loopw [8] (fun v8 wr => ∃ K j R : Nat, v8 = .pointer (some ⟨K, 0, none⟩) ∧ Hid (DigI w w8 p g l i P Q K j R wr)) (fun _ wr => l.length - tapeAt p wr)
  case atStart => exact ⟨_, 0, P, rfl, H0⟩
  case round =>
    obtain ⟨K, j, R, rfl, HI⟩ := hrel
    clear H0
    have htp := HI.out.tp
    by_cases hil : i + j < l.length
    · have HEQ := HI.out.eq
      rw [drop_some hil] at HEQ
      obtain ⟨a1, c1, hb1, hn1⟩ := HI.out.blk
      have hKp : K ≠ p := by have := HI.out.new; omega
      have hKg : K ≠ g := by have := HI.out.new; omega
      have hKl := lt_of_block hb1
      have HB1 := Lib.hid hb1
      have HN1 := Lib.hid hn1
      have HPOS := Lib.hid HI.out.pos
      obtain ⟨lr, hlr⟩ : ∃ k, k = (wds R).length := ⟨_, rfl⟩
      rw [← hlr] at HB1 HN1
      clear hb1 hn1 hlr
      cases hx : l.getD (i + j) false
      · have HF := Lib.hid (tflip_is p g l (i + j) false false wr htp hil hx)
        rw [hx] at HEQ
        have HEE := Lib.hid HEQ
        clear HEQ hx htp hil
        go_wp2_with fail
        refine HF.out.mono ?_
        rintro e w2 ⟨rfl, ht, hu⟩
        have hb2 : w2.heap[K]? = some (.cells #[.slice a1 lr c1] 56 (0, 0)) := by rw [hu.block K hKl (by simp; exact hKp)]; exact HB1.out
        have HB2 := Lib.hid hb2
        have HT2 := Lib.hid ht
        have HN2 := Lib.hid (HN1.out.updp HI.out.tp hu)
        have HU2 := Lib.hid (HI.out.upd.trans hu (fun x hx => .inl hx))
        have k2 : w2.cell? ⟨K, 0, none⟩ = some (.slice a1 lr c1) := by rw [cell_of_row w2 K 0 _ _ _ hb2]; rfl
        clear ht hu hb2
        go_wp2_with fail
        refine (add_any _ _ R R _ HN2.out HN2.out (HWL.out R HPOS.out.2).1 (HWL.out R HPOS.out.2).1).mono ?_
        rintro e w3 ⟨y, rfl, hny, hu3⟩
        obtain ⟨a3, c3, rfl, _, _⟩ := hny.open
        obtain ⟨l3, hl3⟩ : ∃ k, k = (wds (R + R)).length := ⟨_, rfl⟩
        have HL3 := Lib.hid hl3
        rw [← hl3] at hny ⊢
        have hb3 : w3.heap[K]? = some (.cells #[.slice a1 lr c1] 56 (0, 0)) := by rw [hu3.block K (lt_of_block HB2.out) (by simp)]; exact HB2.out
        have f3 : w3.frozen? ⟨K, 0, none⟩ = false := frozen_of_row w3 K 0 _ _ hb3
        have k3 : w3.cell? ⟨K, 0, none⟩ = some (.slice a1 lr c1) := by rw [cell_of_row w3 K 0 _ _ _ hb3]; rfl
        obtain ⟨w4, hw4⟩ : ∃ W, W = w3.setCell ⟨K, 0, none⟩ (.slice a3 l3 c3) := ⟨_, rfl⟩
        have hu4 : Upd [K] w3 w4 := by rw [hw4]; exact (Upd.refl _ _).setCell (.inl (by simp)) _
        have hb4 : w4.heap[K]? = some (.cells #[.slice a3 l3 c3] 56 (0, 0)) := by rw [hw4]; exact one_setCell hb3
        have HB4 := Lib.hid hb4
        have HN4 : Hid (NV w4 (.agg #[.slice a3 l3 c3]) (R + R)) := by rw [hw4]; exact hny.store hb3 no_u64 _ rfl _
        have HT4 := Lib.hid ((HT2.out.upd0 hu3).upd hu4 (by simp; exact Ne.symm hKp) (by simp; exact Ne.symm hKg))
        have HU4 : Hid (Upd [p] w8 w4) := (HU2.out.trans hu3 (fun x hx => nomatch hx)).trans hu4 (fun x hx => by simp at hx; subst hx; exact .inr HI.out.new)
        have q4 := HBX.out w4 HU4.out
        have k4 : w4.cell? ⟨K, 0, none⟩ = some (.slice a3 l3 c3) := by rw [cell_of_row w4 K 0 _ _ _ hb4]; rfl
        have HW4 := Lib.hid hw4
        rw [hw4] at q4
        clear hny hu3 hu4 hb4 hl3 hb3 k2 hw4
        go_wp2_with fail
        rw [← HW4.out]
        clear q4 k3 f3 k4
        refine (cmp_any _ _ _ _ _ HN4.out (HQ.out _ HU4.out) (HWL.out R HPOS.out.2).2).mono ?_
        rintro e w5 ⟨rfl, hu5⟩
        have hb5 : w5.heap[K]? = some (.cells #[.slice a3 l3 c3] 56 (0, 0)) := by rw [hu5.block K (lt_of_block HB4.out) (by simp)]; exact HB4.out
        have HB5 := Lib.hid hb5
        have HN5 := Lib.hid (HN4.out.upd0 hu5)
        have HT5 := Lib.hid (HT4.out.upd0 hu5)
        have HU5 : Hid (Upd [p] w8 w5) := HU4.out.trans hu5 (fun x hx => nomatch hx)
        have q5 := HBX.out w5 HU5.out
        have k5 : w5.cell? ⟨K, 0, none⟩ = some (.slice a3 l3 c3) := by rw [cell_of_row w5 K 0 _ _ _ hb5]; rfl
        clear hu5 hb5
        by_cases hD : Q ≤ 2 * R
        · have HD := Lib.hid hD
          have hcm : decide ((0 : Int) ≤ cmpN (R + R) Q) = true := by
            unfold cmpN; simp; split <;> (try split) <;> omega
          clear hD
          generalize cmpN (R + R) Q = cc at *
          go_wp2_with fail
          refine (sub_any _ _ (R + R) Q _ HN5.out (HQ.out _ HU5.out) (HWL.out R HPOS.out.2).2 (by have := HD.out; omega)).mono ?_
          rintro e w6 ⟨y, rfl, hny, hu6⟩
          have hrest : R + R - Q = restF R Q := by have := HD.out; unfold restF; rw [if_pos this]; omega
          rw [hrest] at hny
          obtain ⟨R', hR'⟩ : ∃ k, k = restF R Q := ⟨_, rfl⟩
          rw [← hR'] at hny
          have HR := Lib.hid hR'
          have HRQ : Hid (R' < Q) := by rw [hR']; exact restF_lt HPOS.out.2
          obtain ⟨a6, c6, rfl, _, _⟩ := hny.open
          obtain ⟨l6, hl6⟩ : ∃ k, k = (wds R').length := ⟨_, rfl⟩
          have HL6 := Lib.hid hl6
          rw [← hl6] at hny ⊢
          have hb6 : w6.heap[K]? = some (.cells #[.slice a3 l3 c3] 56 (0, 0)) := by rw [hu6.block K (lt_of_block HB5.out) (by simp)]; exact HB5.out
          have f6 : w6.frozen? ⟨K, 0, none⟩ = false := frozen_of_row w6 K 0 _ _ hb6
          have k6 : w6.cell? ⟨K, 0, none⟩ = some (.slice a3 l3 c3) := by rw [cell_of_row w6 K 0 _ _ _ hb6]; rfl
          obtain ⟨w7, hw7⟩ : ∃ W, W = w6.setCell ⟨K, 0, none⟩ (.slice a6 l6 c6) := ⟨_, rfl⟩
          have hu7 : Upd [K] w6 w7 := by rw [hw7]; exact (Upd.refl _ _).setCell (.inl (by simp)) _
          have hb7 : w7.heap[K]? = some (.cells #[.slice a6 l6 c6] 56 (0, 0)) := by rw [hw7]; exact one_setCell hb6
          have HB7 := Lib.hid hb7
          have HN7 : Hid (NV w7 (.agg #[.slice a6 l6 c6]) R') := by rw [hw7]; exact hny.store hb6 no_u64 _ rfl _
          have HT7 := Lib.hid ((HT5.out.upd0 hu6).upd hu7 (by simp; exact Ne.symm hKp) (by simp; exact Ne.symm hKg))
          have HU7 : Hid (Upd [p] w8 w7) := (HU5.out.trans hu6 (fun x hx => nomatch hx)).trans hu7 (fun x hx => by simp at hx; subst hx; exact .inr HI.out.new)
          have k7 : w7.cell? ⟨K, 0, none⟩ = some (.slice a6 l6 c6) := by rw [cell_of_row w7 K 0 _ _ _ hb7]; rfl
          have HW7 := Lib.hid hw7
          have HS : Hid (w8.heap.size ≤ K) := HI.out.new
          rw [hw7] at k7
          clear hny hu6 hu7 hb7 hl6 hb6 q5 k5 hw7 hR' hrest
          go_wp2
          go_ret2
          rw [← HW7.out]
          refine FPost.of (k := j + 1) (d := false) ?_ rfl HT7.out ((HU8.out.mono (by simp)).trans HU7.out (fun x hx => .inl hx))
          rw [HEE.out, digF, if_neg (by rw [decide_eq_true HD.out]; decide), decide_eq_true HD.out]; rfl
        · have HD := Lib.hid hD
          have hcm : decide ((0 : Int) ≤ cmpN (R + R) Q) = false := by
            unfold cmpN; simp; split <;> (try split) <;> omega
          obtain ⟨R', hR'⟩ : ∃ k, k = restF R Q := ⟨_, rfl⟩
          have hrest : R + R = R' := by rw [hR']; unfold restF; rw [if_neg hD]; omega
          have HR := Lib.hid hR'
          have HRQ : Hid (R' < Q) := by rw [hR']; exact restF_lt HPOS.out.2
          have HN7 : Hid (NV w5 (.agg #[.slice a3 l3 c3]) R') := by rw [← hrest]; exact HN5.out
          have HL6 : Hid (l3 = (wds R').length) := by rw [← hrest]; exact HL3.out
          have HB7 := Lib.hid HB5.out
          have HT7 := Lib.hid HT5.out
          have HU7 := Lib.hid HU5.out
          have HS : Hid (w8.heap.size ≤ K) := HI.out.new
          clear hD hR' hrest q5
          generalize cmpN (R + R) Q = cc at *
          go_wp2_with fail
          refine (zero_any _ _ _ HN7.out).mono ?_
          rintro e w9 ⟨rfl, hu9⟩
          have hb9 : w9.heap[K]? = some (.cells #[.slice a3 l3 c3] 56 (0, 0)) := by rw [hu9.block K (lt_of_block HB7.out) (by simp)]; exact HB7.out
          have k9 : w9.cell? ⟨K, 0, none⟩ = some (.slice a3 l3 c3) := by rw [cell_of_row w9 K 0 _ _ _ hb9]; rfl
          have HT9 := Lib.hid (HT7.out.upd0 hu9)
          have HN9 := Lib.hid (HN7.out.upd0 hu9)
          have HU9 : Hid (Upd [p] w8 w9) := HU7.out.trans hu9 (fun x hx => nomatch hx)
          have HU9size : Hid (w5.heap.size ≤ w9.heap.size) := hu9.size
          clear hu9 hb9
          by_cases hR0 : R' = 0
          · have hz : decide (R' = 0) = true := decide_eq_true hR0
            have HZ := Lib.hid hR0
            rw [hz]
            clear hz hR0
            go_wp2
            go_ret2
            refine FPost.of (k := j + 1) (d := false) ?_ rfl HT9.out ((HU8.out.mono (by simp)).trans HU9.out (fun x hx => .inl hx))
            rw [HEE.out, digF, if_pos (by rw [decide_eq_false HD.out]), if_pos (by rw [← HR.out]; exact HZ.out)]; rfl
          · have hz : decide (R' = 0) = false := decide_eq_false hR0
            have HZ := Lib.hid hR0
            rw [hz]
            clear hz hR0
            go_wp2
            have hu10 : Upd [] w9 (w9.alloc (.cells #[.slice a3 l3 c3] 56)) := (Upd.refl _ _).alloc _
            go_roundw
            case rel =>
              refine ⟨_, j + 1, R', rfl, ⟨HT9.out.upd0 hu10, HU9.out.trans hu10 (fun x hx => nomatch hx), ⟨a3, c3, by rw [← HL6.out]; exact heap_alloc_new w9 _, by rw [← HL6.out]; exact HN9.out.upd0 hu10⟩, Nat.le_trans HS.out (Nat.le_trans (Nat.le_of_lt (lt_of_block HB7.out)) HU9size.out), ⟨by have := HZ.out; omega, HRQ.out⟩, ?_⟩⟩
              rw [HEE.out, digF, if_pos (by rw [decide_eq_false HD.out]), if_neg (by rw [← HR.out]; exact HZ.out), more_more, ← HR.out]; rfl
            case measure =>
              rw [tapeAt_is (HT9.out.upd0 hu10), tapeAt_is HI.out.tp]
              have := HT9.out.le
              omega
      · have HF := Lib.hid (tflip_is p g l (i + j) false true wr htp hil hx)
        rw [hx] at HEQ
        have HEE := Lib.hid HEQ
        clear HEQ hx htp hil
        go_wp2_with fail
        refine HF.out.mono ?_
        rintro e w2 ⟨rfl, ht, hu⟩
        have hb2 : w2.heap[K]? = some (.cells #[.slice a1 lr c1] 56 (0, 0)) := by rw [hu.block K hKl (by simp; exact hKp)]; exact HB1.out
        have HB2 := Lib.hid hb2
        have HT2 := Lib.hid ht
        have HN2 := Lib.hid (HN1.out.updp HI.out.tp hu)
        have HU2 := Lib.hid (HI.out.upd.trans hu (fun x hx => .inl hx))
        have k2 : w2.cell? ⟨K, 0, none⟩ = some (.slice a1 lr c1) := by rw [cell_of_row w2 K 0 _ _ _ hb2]; rfl
        clear ht hu hb2
        go_wp2_with fail
        refine (add_any _ _ R R _ HN2.out HN2.out (HWL.out R HPOS.out.2).1 (HWL.out R HPOS.out.2).1).mono ?_
        rintro e w3 ⟨y, rfl, hny, hu3⟩
        obtain ⟨a3, c3, rfl, _, _⟩ := hny.open
        obtain ⟨l3, hl3⟩ : ∃ k, k = (wds (R + R)).length := ⟨_, rfl⟩
        have HL3 := Lib.hid hl3
        rw [← hl3] at hny ⊢
        have hb3 : w3.heap[K]? = some (.cells #[.slice a1 lr c1] 56 (0, 0)) := by rw [hu3.block K (lt_of_block HB2.out) (by simp)]; exact HB2.out
        have f3 : w3.frozen? ⟨K, 0, none⟩ = false := frozen_of_row w3 K 0 _ _ hb3
        have k3 : w3.cell? ⟨K, 0, none⟩ = some (.slice a1 lr c1) := by rw [cell_of_row w3 K 0 _ _ _ hb3]; rfl
        obtain ⟨w4, hw4⟩ : ∃ W, W = w3.setCell ⟨K, 0, none⟩ (.slice a3 l3 c3) := ⟨_, rfl⟩
        have hu4 : Upd [K] w3 w4 := by rw [hw4]; exact (Upd.refl _ _).setCell (.inl (by simp)) _
        have hb4 : w4.heap[K]? = some (.cells #[.slice a3 l3 c3] 56 (0, 0)) := by rw [hw4]; exact one_setCell hb3
        have HB4 := Lib.hid hb4
        have HN4 : Hid (NV w4 (.agg #[.slice a3 l3 c3]) (R + R)) := by rw [hw4]; exact hny.store hb3 no_u64 _ rfl _
        have HT4 := Lib.hid ((HT2.out.upd0 hu3).upd hu4 (by simp; exact Ne.symm hKp) (by simp; exact Ne.symm hKg))
        have HU4 : Hid (Upd [p] w8 w4) := (HU2.out.trans hu3 (fun x hx => nomatch hx)).trans hu4 (fun x hx => by simp at hx; subst hx; exact .inr HI.out.new)
        have q4 := HBX.out w4 HU4.out
        have k4 : w4.cell? ⟨K, 0, none⟩ = some (.slice a3 l3 c3) := by rw [cell_of_row w4 K 0 _ _ _ hb4]; rfl
        have HW4 := Lib.hid hw4
        rw [hw4] at q4
        clear hny hu3 hu4 hb4 hl3 hb3 k2 hw4
        go_wp2_with fail
        rw [← HW4.out]
        clear q4 k3 f3 k4
        refine (cmp_any _ _ _ _ _ HN4.out (HQ.out _ HU4.out) (HWL.out R HPOS.out.2).2).mono ?_
        rintro e w5 ⟨rfl, hu5⟩
        have hb5 : w5.heap[K]? = some (.cells #[.slice a3 l3 c3] 56 (0, 0)) := by rw [hu5.block K (lt_of_block HB4.out) (by simp)]; exact HB4.out
        have HB5 := Lib.hid hb5
        have HN5 := Lib.hid (HN4.out.upd0 hu5)
        have HT5 := Lib.hid (HT4.out.upd0 hu5)
        have HU5 : Hid (Upd [p] w8 w5) := HU4.out.trans hu5 (fun x hx => nomatch hx)
        have q5 := HBX.out w5 HU5.out
        have k5 : w5.cell? ⟨K, 0, none⟩ = some (.slice a3 l3 c3) := by rw [cell_of_row w5 K 0 _ _ _ hb5]; rfl
        clear hu5 hb5
        by_cases hD : Q ≤ 2 * R
        · have HD := Lib.hid hD
          have hcm : decide ((0 : Int) ≤ cmpN (R + R) Q) = true := by
            unfold cmpN; simp; split <;> (try split) <;> omega
          clear hD
          generalize cmpN (R + R) Q = cc at *
          go_wp2_with fail
          refine (sub_any _ _ (R + R) Q _ HN5.out (HQ.out _ HU5.out) (HWL.out R HPOS.out.2).2 (by have := HD.out; omega)).mono ?_
          rintro e w6 ⟨y, rfl, hny, hu6⟩
          have hrest : R + R - Q = restF R Q := by have := HD.out; unfold restF; rw [if_pos this]; omega
          rw [hrest] at hny
          obtain ⟨R', hR'⟩ : ∃ k, k = restF R Q := ⟨_, rfl⟩
          rw [← hR'] at hny
          have HR := Lib.hid hR'
          have HRQ : Hid (R' < Q) := by rw [hR']; exact restF_lt HPOS.out.2
          obtain ⟨a6, c6, rfl, _, _⟩ := hny.open
          obtain ⟨l6, hl6⟩ : ∃ k, k = (wds R').length := ⟨_, rfl⟩
          have HL6 := Lib.hid hl6
          rw [← hl6] at hny ⊢
          have hb6 : w6.heap[K]? = some (.cells #[.slice a3 l3 c3] 56 (0, 0)) := by rw [hu6.block K (lt_of_block HB5.out) (by simp)]; exact HB5.out
          have f6 : w6.frozen? ⟨K, 0, none⟩ = false := frozen_of_row w6 K 0 _ _ hb6
          have k6 : w6.cell? ⟨K, 0, none⟩ = some (.slice a3 l3 c3) := by rw [cell_of_row w6 K 0 _ _ _ hb6]; rfl
          obtain ⟨w7, hw7⟩ : ∃ W, W = w6.setCell ⟨K, 0, none⟩ (.slice a6 l6 c6) := ⟨_, rfl⟩
          have hu7 : Upd [K] w6 w7 := by rw [hw7]; exact (Upd.refl _ _).setCell (.inl (by simp)) _
          have hb7 : w7.heap[K]? = some (.cells #[.slice a6 l6 c6] 56 (0, 0)) := by rw [hw7]; exact one_setCell hb6
          have HB7 := Lib.hid hb7
          have HN7 : Hid (NV w7 (.agg #[.slice a6 l6 c6]) R') := by rw [hw7]; exact hny.store hb6 no_u64 _ rfl _
          have HT7 := Lib.hid ((HT5.out.upd0 hu6).upd hu7 (by simp; exact Ne.symm hKp) (by simp; exact Ne.symm hKg))
          have HU7 : Hid (Upd [p] w8 w7) := (HU5.out.trans hu6 (fun x hx => nomatch hx)).trans hu7 (fun x hx => by simp at hx; subst hx; exact .inr HI.out.new)
          have k7 : w7.cell? ⟨K, 0, none⟩ = some (.slice a6 l6 c6) := by rw [cell_of_row w7 K 0 _ _ _ hb7]; rfl
          have HW7 := Lib.hid hw7
          have HS : Hid (w8.heap.size ≤ K) := HI.out.new
          rw [hw7] at k7
          clear hny hu6 hu7 hb7 hl6 hb6 q5 k5 hw7 hR' hrest
          go_wp2_with fail
          rw [← HW7.out]
          refine (zero_any _ _ _ HN7.out).mono ?_
          rintro e w9 ⟨rfl, hu9⟩
          have hb9 : w9.heap[K]? = some (.cells #[.slice a6 l6 c6] 56 (0, 0)) := by rw [hu9.block K (lt_of_block HB7.out) (by simp)]; exact HB7.out
          have k9 : w9.cell? ⟨K, 0, none⟩ = some (.slice a6 l6 c6) := by rw [cell_of_row w9 K 0 _ _ _ hb9]; rfl
          have HT9 := Lib.hid (HT7.out.upd0 hu9)
          have HN9 := Lib.hid (HN7.out.upd0 hu9)
          have HU9 : Hid (Upd [p] w8 w9) := HU7.out.trans hu9 (fun x hx => nomatch hx)
          have HU9size : Hid (w7.heap.size ≤ w9.heap.size) := hu9.size
          clear hu9 hb9
          by_cases hR0 : R' = 0
          · have hz : decide (R' = 0) = true := decide_eq_true hR0
            have HZ := Lib.hid hR0
            rw [hz]
            clear hz hR0
            go_wp2
            go_ret2
            refine FPost.of (k := j + 1) (d := false) ?_ rfl HT9.out ((HU8.out.mono (by simp)).trans HU9.out (fun x hx => .inl hx))
            rw [HEE.out, digF, if_pos (by rw [decide_eq_true HD.out]), if_pos (by rw [← HR.out]; exact HZ.out)]; rfl
          · have hz : decide (R' = 0) = false := decide_eq_false hR0
            have HZ := Lib.hid hR0
            rw [hz]
            clear hz hR0
            go_wp2
            have hu10 : Upd [] w9 (w9.alloc (.cells #[.slice a6 l6 c6] 56)) := (Upd.refl _ _).alloc _
            go_roundw
            case rel =>
              refine ⟨_, j + 1, R', rfl, ⟨HT9.out.upd0 hu10, HU9.out.trans hu10 (fun x hx => nomatch hx), ⟨a6, c6, by rw [← HL6.out]; exact heap_alloc_new w9 _, by rw [← HL6.out]; exact HN9.out.upd0 hu10⟩, Nat.le_trans HS.out (Nat.le_trans (Nat.le_of_lt (lt_of_block HB7.out)) HU9size.out), ⟨by have := HZ.out; omega, HRQ.out⟩, ?_⟩⟩
              rw [HEE.out, digF, if_pos (by rw [decide_eq_true HD.out]), if_neg (by rw [← HR.out]; exact HZ.out), more_more, ← HR.out]; rfl
            case measure =>
              rw [tapeAt_is (HT9.out.upd0 hu10), tapeAt_is HI.out.tp]
              have := HT9.out.le
              omega
        · have HD := Lib.hid hD
          have hcm : decide ((0 : Int) ≤ cmpN (R + R) Q) = false := by
            unfold cmpN; simp; split <;> (try split) <;> omega
          obtain ⟨R', hR'⟩ : ∃ k, k = restF R Q := ⟨_, rfl⟩
          have hrest : R + R = R' := by rw [hR']; unfold restF; rw [if_neg hD]; omega
          have HR := Lib.hid hR'
          have HRQ : Hid (R' < Q) := by rw [hR']; exact restF_lt HPOS.out.2
          have HN7 : Hid (NV w5 (.agg #[.slice a3 l3 c3]) R') := by rw [← hrest]; exact HN5.out
          have HL6 : Hid (l3 = (wds R').length) := by rw [← hrest]; exact HL3.out
          have HB7 := Lib.hid HB5.out
          have HT7 := Lib.hid HT5.out
          have HU7 := Lib.hid HU5.out
          have HS : Hid (w8.heap.size ≤ K) := HI.out.new
          clear hD hR' hrest q5
          generalize cmpN (R + R) Q = cc at *
          go_wp2
          go_ret2
          refine FPost.of (k := j + 1) (d := false) ?_ rfl HT7.out ((HU8.out.mono (by simp)).trans HU7.out (fun x hx => .inl hx))
          rw [HEE.out, digF, if_neg (by rw [decide_eq_false HD.out]; decide), decide_eq_false HD.out]; rfl
    · have hij : i + j = l.length := by have := htp.le; omega
      rw [hij] at htp
      have HF := Lib.hid (tflip_no p g l false wr htp)
      have HEE : Hid (digF Q P (l.drop i) = (false, j, true)) := by
        show _ = _
        rw [HI.out.eq, List.drop_eq_nil_of_le (by omega : l.length ≤ i + j)]; rfl
      have HIJ := Lib.hid hij
      clear hij htp
      go_wp2_with fail
      refine HF.out.mono ?_
      rintro e w2 ⟨rfl, ht, hu⟩
      have HT := Lib.hid ht
      have HU := Lib.hid ((HU8.out.mono (by simp)).trans (HI.out.upd.trans hu (fun x hx => .inl hx)) (fun x hx => .inl hx))
      clear ht hu
      go_wp2
      go_ret2
      exact FPost.of HEE.out rfl (by rw [HIJ.out]; exact HT.out) HU.out
end Go.Proofs.Ytibfdldllaopdaa
