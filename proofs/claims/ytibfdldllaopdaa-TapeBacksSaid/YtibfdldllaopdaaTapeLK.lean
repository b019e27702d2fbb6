/- The law TapeBacks (layer 9). -/
import Derived.Test.YtibfdldllaopdaaTapeAwk
namespace Go.Proofs.Ytibfdldllaopdaa
open Go.RowKit Go.Proofs.Tm
set_option linter.unusedVariables false
set_option maxRecDepth 20000

theorem getD_off (A : List Bool) (k : Nat) (h : A.length ≤ k) : A.getD k false = false := by
  rw [List.getD_eq_getElem?_getD, List.getElem?_eq_none h]; rfl

set_option maxHeartbeats 3200000 in
theorem tapeBacks_law (va : Value) (xs : List Bool) (n m : Int) (w : World) (ha : Sl w va (cb xs)) :
    Calls Try.prog 6 #[va, .int .i64 n, .int .i64 m] w fun e w' => e = .returned (.bool true) ∧ Upd [] w w' := by
  obtain ⟨A, hA⟩ : ∃ A, A = xs.take 200 := ⟨_, rfl⟩
  have hla : A.length ≤ 200 := by rw [hA, List.length_take]; omega
  have HFA : Hid (∀ W, Upd [] w W → Calls Try.prog 12 #[va, .int .i64 200] W (RFew9 A W)) := fun W hu => by rw [hA]; exact few9 va xs 200 W (by decide) (ha.upd0 hu)
  clear ha hA
  obtain ⟨N, hN⟩ : ∃ k, k = min n.toNat 300 := ⟨_, rfl⟩
  obtain ⟨M, hM⟩ : ∃ k, k = min m.toNat 300 := ⟨_, rfl⟩
  have hmin := fun ts t W => mini_is (P := Try.prog) (a := n) (b := 300) rfl ts t W
  have hmax := fun ts t W => maxi_is (P := Try.prog) (a := 0) (b := min n 300) (c := (N : Int)) (by omega) ts t W
  have hmin' := fun ts t W => mini_is (P := Try.prog) (a := m) (b := 300) rfl ts t W
  have hmax' := fun ts t W => maxi_is (P := Try.prog) (a := 0) (b := min m 300) (c := (M : Int)) (by omega) ts t W
  have hn5 : N ≤ 300 := by omega
  have hm5 : M ≤ 300 := by omega
  generalize min n 300 = nn at *
  generalize min m 300 = mm at *
  obtain ⟨la, hla'⟩ : ∃ k, k = A.length := ⟨_, rfl⟩
  have HLA := Lib.hid hla'
  have HTA : Hid (A.take 1048576 = A) := List.take_of_length_le (by omega)
  rw [← hla'] at hla
  have hmin2 := fun ts t W => mini_is (P := Try.prog) (a := (N : Int)) (b := (la : Int)) (c := ((min N la : Nat) : Int)) (by omega) ts t W
  clear hN hM hla'
  go_enter Try.func6, Try.ntmps6
  go_wp2_with fail
  refine (awake9 w).mono ?_
  rintro e w1 ⟨rfl, hu1⟩
  have HU1 := Lib.hid hu1
  clear hu1
  go_wp2_with fail
  refine (HFA.out _ HU1.out).mono ?_
  rintro e w2 ⟨a, cap, rfl, hsa, rfl⟩
  rw [← HLA.out] at hsa ⊢
  have HSA := Lib.hid hsa
  clear hsa
  go_wp2_with fail
  refine (tnew_any _ A w1 HSA.out).mono ?_
  rintro e w2 ⟨p, g, rfl, ht, hu2, hp, hg⟩
  rw [HTA.out] at ht
  have hp0 : w.heap.size ≤ p := Nat.le_trans HU1.out.size hp
  have hg0 : w.heap.size ≤ g := Nat.le_trans HU1.out.size hg
  have H0 : Hid (Tp w2 p g A (min 0 A.length) (decide (A.length < 0)) ∧ Upd [] w w2) := ⟨by rw [show min 0 A.length = 0 by omega]; exact ht, HU1.out.trans0 hu2⟩
  clear ht hu2 hp hg
  have STEP : Hid (∀ W i, Tp W p g A (min i A.length) (decide (A.length < i)) → Upd [] w W → Calls Try.prog 15 #[.pointer (some ⟨p, 0, none⟩)] W fun e w' => e = .returned (.tuple #[.bool (A.getD i false), .int .i64 (if i < A.length then 0 else 8)]) ∧ Tp w' p g A (min (i + 1) A.length) (decide (A.length < i + 1)) ∧ Upd [] w w' ∧ Upd [p] W w') := fun W i ht hu =>
    (tflip_at p g A i W ht).mono fun e w' ⟨he, h1, h2⟩ => ⟨he, h1, hu.trans h2 (by intro x hx; simp at hx; subst hx; exact .inr hp0), h2⟩
  go_wp2
  go_loopw [29] (fun v29 wr => ∃ i : Nat, i ≤ N ∧ v29 = .int .i64 i ∧ Hid (Tp wr p g A (min i A.length) (decide (A.length < i)) ∧ Upd [] w wr)) (fun v29 _ => N - (intOf v29).toNat)
  case atStart => exact ⟨0, Nat.zero_le _, rfl, H0⟩
  case round =>
    obtain ⟨i, hi, rfl, HI⟩ := hrel
    clear H0
    by_cases hlt : i < N
    · have HX := Lib.hid (STEP.out wr i HI.out.1 HI.out.2)
      go_wp2_with fail
      refine HX.out.mono ?_
      rintro e w6 ⟨rfl, ht6, hu6, _⟩
      have HI7 : Hid (Tp w6 p g A (min (i + 1) A.length) (decide (A.length < i + 1)) ∧ Upd [] w w6) := ⟨ht6, hu6⟩
      clear ht6 hu6
      go_wp2
      go_roundw
      case rel => exact ⟨i + 1, by omega, by go_num, HI7⟩
      case measure => simp [intOf]; omega
    · obtain rfl : i = N := by omega
      obtain ⟨w3, hw3⟩ : ∃ w3 : World, w3 = wr := ⟨_, rfl⟩
      rw [← hw3] at HI ⊢
      clear hw3
      obtain ⟨mk, hmk⟩ : ∃ k, k = min i la := ⟨_, rfl⟩
      have hmkA : min i A.length = mk := by rw [← HLA.out, hmk]
      have HMK := Lib.hid hmk
      have HMKA := Lib.hid hmkA
      have hmkl : mk ≤ la := by omega
      have hread := tread_any p g A _ _ w3 HI.out.1
      rw [hmkA] at hread
      -- Mark is Read's fellow
      have HMARK : Hid (Calls Try.prog 19 #[.pointer (some ⟨p, 0, none⟩)] w3 fun e w' => e = .returned (.int .i64 (mk : Int)) ∧ w3 = w') := by
        have h := HI.out.1
        rw [hmkA] at h
        obtain ⟨c0, _⟩ := h.cells
        clear h hread hmk hmkA hmin2
        go_enter Try.func19, Try.ntmps19
        go_wp2
        go_ret
        exact ⟨rfl, rfl⟩
      rw [← hmk] at hmin2
      clear hmk hmkA hread
      go_wp2_with fail
      refine HMARK.out.mono ?_
      rintro e w3' ⟨rfl, rfl⟩
      go_wp2
      -- the coins behind
      go_loopw [9, 37] (fun v9 v37 wr => ∃ j : Nat, j ≤ M ∧ v37 = .int .i64 j ∧ wr.ownsRow w.heap.size 4 1 v9 j (cb ((List.range j).map fun q => A.getD (i + q) false)) ∧ Hid (Tp wr p g A (min (i + j) A.length) (decide (A.length < i + j)) ∧ Upd [] w wr ∧ ∀ k, v9.ownBlock = some k → k ≠ p ∧ k ≠ g)) (fun _ v37 _ => M - (intOf v37).toNat)
      case atStart => exact ⟨0, Nat.zero_le _, rfl, World.ownsRow_nil _ _ _ _, HI.out.1, HI.out.2, by simp [Value.ownBlock]⟩
      case round =>
        obtain ⟨j, hj, rfl, hown, HJ⟩ := hrel
        have HO := Lib.hid hown
        clear hown
        by_cases hlt2 : j < M
        · have HX := Lib.hid (STEP.out wr (i + j) HJ.out.1 HJ.out.2.1)
          go_wp2_with fail
          refine HX.out.mono ?_
          rintro e w6 ⟨rfl, ht6, hu6, hup6⟩
          have HO6 := Lib.hid (ownsRow_upd HO.out hup6 (by intro k hk; have := (HJ.out.2.2 k hk).1; simpa using this))
          have HT6 := Lib.hid ht6
          have HU6 := Lib.hid hu6
          clear ht6 hu6 hup6
          obtain ⟨x, hx⟩ : ∃ x, x = A.getD (i + j) false := ⟨_, rfl⟩
          obtain ⟨f, hf⟩ : ∃ f : Int, f = (if i + j < A.length then 0 else 8) := ⟨_, rfl⟩
          rw [← hx, ← hf]
          clear hf
          have HXX := Lib.hid hx
          clear hx
          go_wp2_with (at_builtin; refine wpList_append_sl _ rfl (.tmp 44) (.tmp 46) 22 rfl w.heap.size 4 (.bool false) 1 Try.underlying22 infoBool rfl _ _ _ rfl (HO6.out.alloc _) _ _ rfl (Sl.lit1 w6 _ _) ?c1 ?c2 ?c3 ?c4 ?go)
          case c1 => intro u hu; simp at hu; subst hu; rfl
          case c2 => unfold maxLen; simp; omega
          case c3 => simp; omega
          case c4 => have := HU6.out.size; simp; omega
          case go =>
            intro v7 w7 ho7 hg7 hfr
            have HO7 : Hid (w7.ownsRow w.heap.size 4 1 v7 (j + 1) (cb ((List.range (j + 1)).map fun q => A.getD (i + q) false))) := by
              show World.ownsRow _ _ _ _ _ _ _
              rw [List.range_succ, List.map_append, cb_append]
              simp only [List.map_cons, List.map_nil]
              rw [← HXX.out]
              simpa [cb] using ho7
            have hug : Upd [] w6 (w6.alloc (.cells #[.bool x] 4)) := (Upd.refl _ _).alloc _
            have hp6 := HT6.out.lt
            have hg6 := HT6.out.glt
            have HI7 : Hid (Tp w7 p g A (min (i + (j + 1)) A.length) (decide (A.length < i + (j + 1))) ∧ Upd [] w w7 ∧ ∀ k, v7.ownBlock = some k → k ≠ p ∧ k ≠ g) := by
              refine ⟨?_, (HU6.out.alloc _).grown hg7 (fun k hk => .inr (HO.out.lt k hk).1), fun k hk => ?_⟩
              · have h1 := (HT6.out.upd0 hug).upd (Upd.of_grown hg7) (by cases hv : u9.ownBlock with
                  | none => simp
                  | some k => have := (HJ.out.2.2 k hv).1; simp; exact fun h => this h.symm) (by cases hv : u9.ownBlock with
                  | none => simp
                  | some k => have := (HJ.out.2.2 k hv).2; simp; exact fun h => this h.symm)
                rw [← Nat.add_assoc]; exact h1
              · rcases hfr with h | ⟨k', hk', hk2⟩
                · exact HJ.out.2.2 k (by rw [← h]; exact hk)
                · rw [hk] at hk'
                  simp at hk' hk2
                  omega
            clear ho7 hg7 hfr hug
            go_wp2
            go_roundw
            case rel => exact ⟨j + 1, by omega, by go_num, HO7.out, HI7⟩
            case measure => simp [intOf]; omega
        · obtain rfl : j = M := by omega
          obtain ⟨a9, c9, hv9⟩ := own_ex HO.out
          subst hv9
          have hmkl2 : mk ≤ min (i + j) A.length := by rw [HMK.out, HLA.out]; omega
          have HB := Lib.hid (tback_ok p g A _ mk _ wr HJ.out.1 hmkl2)
          have hw1 : IntKind.i64.wrap ((la : Int) - (mk : Int)) = ((la - mk : Nat) : Int) := by rw [IntWalk.i64_in _ (by omega)]; omega
          have hw2 : IntKind.i64.wrap ((mk : Int) + 1) = (mk : Int) + 1 := IntWalk.i64_in _ (by omega)
          clear hmkl2
          go_wp2_with fail
          refine HB.out.mono ?_
          rintro e w5 ⟨rfl, ht5, hu5⟩
          have HT5 := Lib.hid ht5
          have HU5 : Hid (Upd [] w w5) := HJ.out.2.1.trans hu5 (by intro x hx; simp at hx; subst hx; exact .inr hp0)
          have HO5 := Lib.hid (ownsRow_upd HO.out hu5 (by intro k hk; have := (HJ.out.2.2 k hk).1; simpa using this))
          have HD := Lib.hid (tdead_any p g A _ _ w5 ht5)
          have HRR := Lib.hid (tread_any p g A _ _ w5 ht5)
          have hll := tleft_any p g A mk false w5 ht5
          rw [← HLA.out] at hll
          have HLL := Lib.hid hll
          clear ht5 hu5 hll
          go_wp2_with fail
          refine HD.out.mono ?_
          rintro e w6 ⟨rfl, rfl⟩
          go_wp2_with fail
          refine HRR.out.mono ?_
          rintro e w6 ⟨rfl, rfl⟩
          go_wp2_with fail
          refine HLL.out.mono ?_
          rintro e w6 ⟨rfl, dn, rfl⟩
          have HBB := Lib.hid (tback_bad p g A mk ((mk : Int) + 1) false (w5.drewN dn) (HT5.out.drewN dn) (.inr (by omega)))
          go_wp2_with fail
          refine HBB.out.mono ?_
          rintro e w6 ⟨rfl, dn2, rfl⟩
          obtain ⟨w7, hw7⟩ : ∃ W, W = (w5.drewN dn).drewN dn2 := ⟨_, rfl⟩
          have H8 : Hid (Tp w7 p g A (min (mk + 0) A.length) (decide (A.length < mk + 0)) ∧ Upd [] w w7 ∧ w7.ownsRow w.heap.size 4 1 (.slice a9 j c9) j (cb ((List.range j).map fun q => A.getD (i + q) false))) := by
            rw [hw7]
            refine ⟨?_, (HU5.out.drewN dn).drewN dn2, ownsRow_upd HO5.out (((Upd.refl [] _).drewN dn).drewN dn2) (by simp)⟩
            have h := (HT5.out.drewN dn).drewN dn2
            have h9 := HMKA.out
            rw [decide_eq_false (by omega), show min (mk + 0) A.length = mk by omega]
            exact h
          rw [← hw7]
          have HNB : Hid (∀ k, (Value.slice a9 j c9).ownBlock = some k → k ≠ p ∧ k ≠ g) := HJ.out.2.2
          clear hw7
          go_wp2
          obtain ⟨w9, hw9⟩ : ∃ W, W = w7 := ⟨_, rfl⟩
          go_loopw [81] (fun v81 wr => ∃ q : Nat, q ≤ j ∧ v81 = .int .i64 q ∧ Hid (Tp wr p g A (min (mk + q) A.length) (decide (A.length < mk + q)) ∧ Upd [] w wr ∧ wr.ownsRow w.heap.size 4 1 (.slice a9 j c9) j (cb ((List.range j).map fun q => A.getD (i + q) false)))) (fun v81 _ => j - (intOf v81).toNat)
          case atStart => exact ⟨0, Nat.zero_le _, rfl, H8⟩
          case round =>
            obtain ⟨q, hq, rfl, HQ⟩ := hrel
            clear H8
            by_cases hlt3 : q < j
            · have HX := STEP.out wr (mk + q) HQ.out.1 HQ.out.2.1
              have hsame : A.getD (mk + q) false = A.getD (i + q) false := by
                have h1 := HMK.out
                have h2 := HLA.out
                rcases Nat.le_total i la with h | h
                · rw [show mk = i by omega]
                · rw [getD_off A (mk + q) (by omega), getD_off A (i + q) (by omega)]
              rw [hsame] at HX
              have HXX := Lib.hid HX
              obtain ⟨b, o, cap', hv, hcs⟩ := tsl_at (Sl.own HQ.out.2.2) (by intro h; have h2 := congrArg List.length h; rw [cb_length, List.length_map, List.length_range] at h2; have h4 : j = 0 := h2; omega)
              obtain ⟨rfl, rfl⟩ : a9 = some ⟨b, o, none⟩ ∧ c9 = cap' := by simp at hv; exact ⟨hv.1, hv.2⟩
              have hcell := hcs q (by simp; exact hlt3)
              rw [cb_getElem? _ q (by simp; exact hlt3)] at hcell
              have hget : ((List.range j).map fun q => A.getD (i + q) false).getD q false = A.getD (i + q) false := by simp [hlt3]
              rw [hget] at hcell
              have i0 : (0 : Int) ≤ (q : Int) := by omega
              have i1 : (q : Int) < (j : Int) := by omega
              clear hcs hv hget HX hsame
              obtain ⟨x, hx⟩ : ∃ x, x = A.getD (i + q) false := ⟨_, rfl⟩
              obtain ⟨f, hf⟩ : ∃ f : Int, f = (if mk + q < A.length then 0 else 8) := ⟨_, rfl⟩
              rw [← hx, ← hf] at HXX
              rw [← hx] at hcell
              have hxx : (x != x) = false := by simp
              clear hx hf
              go_wp2_with fail
              refine HXX.out.mono ?_
              rintro e w6 ⟨rfl, ht6, hu6, hup6⟩
              have HQ6 : Hid (Tp w6 p g A (min (mk + (q + 1)) A.length) (decide (A.length < mk + (q + 1))) ∧ Upd [] w w6 ∧ w6.ownsRow w.heap.size 4 1 (.slice (some ⟨b, o, none⟩) j c9) j (cb ((List.range j).map fun q => A.getD (i + q) false))) := ⟨by rw [← Nat.add_assoc]; exact ht6, hu6, ownsRow_upd HQ.out.2.2 hup6 (by intro k hk; have := (HNB.out k hk).1; simpa using this)⟩
              clear ht6 hu6 hup6
              go_wp2
              go_roundw
              case rel => exact ⟨q + 1, by omega, by go_num, HQ6⟩
              case measure => simp [intOf]; omega
            · obtain rfl : q = j := by omega
              have HF := Lib.hid HQ.out.2.1
              go_wp2
              go_ret
              exact ⟨rfl, HF.out⟩
end Go.Proofs.Ytibfdldllaopdaa
