/- The law TapeLonger (layer 9). -/
import Derived.Test.YtibfdldllaopdaaTapeAwk
namespace Go.Proofs.Ytibfdldllaopdaa
open Go.RowKit Go.Proofs.Tm
set_option linter.unusedVariables false
set_option maxRecDepth 20000

set_option maxHeartbeats 3200000 in
theorem tapeLonger_law (va vb : Value) (xs ys : List Bool) (n : Int) (w : World) (ha : Sl w va (cb xs)) (hb : Sl w vb (cb ys)) :
    Calls Try.prog 4 #[va, vb, .int .i64 n] w fun e w' => e = .returned (.bool true) ∧ Upd [] w w' := by
  obtain ⟨A, hA⟩ : ∃ A, A = xs.take 200 := ⟨_, rfl⟩
  obtain ⟨B, hB⟩ : ∃ B, B = ys.take 200 := ⟨_, rfl⟩
  have hla : A.length ≤ 200 := by rw [hA, List.length_take]; omega
  have hlb : B.length ≤ 200 := by rw [hB, List.length_take]; omega
  have HFA : Hid (∀ W, Upd [] w W → Calls Try.prog 12 #[va, .int .i64 200] W (RFew9 A W)) := fun W hu => by rw [hA]; exact few9 va xs 200 W (by decide) (ha.upd0 hu)
  have HFB : Hid (∀ W, Upd [] w W → Calls Try.prog 12 #[vb, .int .i64 200] W (RFew9 B W)) := fun W hu => by rw [hB]; exact few9 vb ys 200 W (by decide) (hb.upd0 hu)
  clear ha hb hA hB
  obtain ⟨m, hm⟩ : ∃ m, m = min n.toNat 500 := ⟨_, rfl⟩
  have hmin := fun ts t W => mini_is (P := Try.prog) (a := n) (b := 500) rfl ts t W
  have hmax := fun ts t W => maxi_is (P := Try.prog) (a := 0) (b := min n 500) (c := (m : Int)) (by omega) ts t W
  have hm5 : m ≤ 500 := by omega
  generalize min n 500 = mm at *
  obtain ⟨la, hla'⟩ : ∃ k, k = A.length := ⟨_, rfl⟩
  obtain ⟨lb, hlb'⟩ : ∃ k, k = B.length := ⟨_, rfl⟩
  have HLA := Lib.hid hla'
  have HLB := Lib.hid hlb'
  have HTA : Hid (A.take 1048576 = A) := List.take_of_length_le (by omega)
  have HTB : Hid ((A ++ B).take 1048576 = A ++ B) := List.take_of_length_le (by simp; omega)
  rw [← hla'] at hla
  rw [← hlb'] at hlb
  have hmin2 := fun ts t W => mini_is (P := Try.prog) (a := (m : Int)) (b := (la : Int)) (c := ((min m la : Nat) : Int)) (by omega) ts t W
  clear hm hla' hlb'
  go_enter Try.func4, Try.ntmps4
  go_wp2_with fail
  refine (awake9 w).mono ?_
  rintro e w1 ⟨rfl, hu1⟩
  have HU1 := Lib.hid hu1
  clear hu1
  go_wp2_with fail
  refine (HFA.out _ HU1.out).mono ?_
  rintro e w2 ⟨a, cap, rfl, hsa, rfl⟩
  go_wp2_with fail
  refine (HFB.out _ HU1.out).mono ?_
  rintro e w2 ⟨b, cap2, rfl, hsb, rfl⟩
  rw [← HLA.out] at hsa ⊢
  rw [← HLB.out] at hsb ⊢
  have HSA := Lib.hid hsa
  have HSB := Lib.hid hsb
  clear hsa hsb
  go_wp2_with fail
  refine (tnew_any _ A w1 HSA.out).mono ?_
  rintro e w2 ⟨p, g, rfl, ht, hu2, hp, hg⟩
  rw [HTA.out] at ht
  have hp0 : w.heap.size ≤ p := Nat.le_trans HU1.out.size hp
  have HT := Lib.hid ht
  have HU2 := Lib.hid (HU1.out.trans0 hu2)
  have HSA2 := Lib.hid (HSA.out.upd0 hu2)
  have HSB2 := Lib.hid (HSB.out.upd0 hu2)
  clear ht hu2 hp hg
  go_wp2_with (at_builtin; refine wpList_append_sl _ rfl (.tmp 24) (.tmp 25) 22 rfl w2.heap.size 4 (.bool false) 1 Try.underlying22 infoBool rfl _ _ _ rfl (own_lit w2 4 #[] (by decide)) _ (cb A) rfl (HSA2.out.upd0 ((Upd.refl _ _).alloc _)) (cb_one _) ?c2 ?c3 ?c4 ?go)
  case c2 => have := HLA.out; unfold maxLen; simp; omega
  case c3 => have := HLA.out; simp; omega
  case c4 => simp
  case go =>
    intro v3 w3 ho3 hg3 _
    have HO3 : Hid (w3.ownsRow w2.heap.size 4 1 v3 A.length (cb A)) := by show World.ownsRow _ _ _ _ _ _ _; simpa using ho3
    have HU3 : Hid (Upd [] w2 w3) := ((Upd.refl _ _).alloc _).grown hg3 (fun k hk => .inr (by simp [Value.ownBlock] at hk; omega))
    clear ho3 hg3
    go_wp2_with (at_builtin; refine wpList_append_sl _ rfl (.tmp 26) (.tmp 27) 22 rfl w2.heap.size 4 (.bool false) 1 Try.underlying22 infoBool rfl _ _ _ rfl HO3.out _ (cb B) rfl (HSB2.out.upd0 HU3.out) (cb_one _) ?d2 ?d3 ?d4 ?go2)
    case d2 => have := HLA.out; have := HLB.out; unfold maxLen; simp; omega
    case d3 => have := HLA.out; have := HLB.out; simp; omega
    case d4 => exact HU3.out.size
    case go2 =>
      intro v4 w4 ho4 hg4 _
      have HO4 : Hid (Sl w4 v4 (cb (A ++ B))) := by rw [cb_append]; exact Sl.own ho4
      have HU4 : Hid (Upd [] w2 w4) := HU3.out.grown hg4 (fun k hk => .inr (HO3.out.lt k hk).1)
      clear ho4 hg4
      have HN4 := Lib.hid (tnew_any v4 (A ++ B) w4 HO4.out)
      go_wp2_with fail
      refine HN4.out.mono ?_
      rintro e w5 ⟨q, h, rfl, ht5, hu5, hq, hh⟩
      rw [HTB.out] at ht5
      have hpq : p < q := Nat.lt_of_lt_of_le (Nat.lt_of_lt_of_le HT.out.lt HU4.out.size) hq
      have hgq : g < q := Nat.lt_of_lt_of_le (Nat.lt_of_lt_of_le HT.out.glt HU4.out.size) hq
      have hph : p < h := Nat.lt_of_lt_of_le (Nat.lt_of_lt_of_le HT.out.lt HU4.out.size) hh
      have hq0 : w.heap.size ≤ q := by omega
      have H0 : Hid (Tp w5 p g A (min 0 A.length) (decide (A.length < 0)) ∧ Tp w5 q h (A ++ B) (min 0 (A ++ B).length) (decide ((A ++ B).length < 0)) ∧ Upd [] w w5) := ⟨by rw [show min 0 A.length = 0 by omega]; exact (HT.out.upd0 HU4.out).upd0 hu5, by rw [show min 0 (A ++ B).length = 0 by omega]; exact ht5, HU2.out.trans0 (HU4.out.trans0 hu5)⟩
      clear ht5 hu5 hq hh
      go_wp2
      go_loopw [31] (fun v31 wr => ∃ i : Nat, i ≤ m ∧ v31 = .int .i64 i ∧ Hid (Tp wr p g A (min i A.length) (decide (A.length < i)) ∧ Tp wr q h (A ++ B) (min i (A ++ B).length) (decide ((A ++ B).length < i)) ∧ Upd [] w wr)) (fun v31 _ => m - (intOf v31).toNat)
      case atStart => exact ⟨0, Nat.zero_le _, rfl, H0⟩
      case round =>
        obtain ⟨i, hi, rfl, HI⟩ := hrel
        clear H0
        by_cases hlt : i < m
        · have HX := Lib.hid (tflip_at p g A i wr HI.out.1)
          have HXS : Hid (∀ W', Upd [p] wr W' → Tp W' q h (A ++ B) (min i (A ++ B).length) (decide ((A ++ B).length < i)) ∧ Upd [] w W') := fun W' hu => ⟨HI.out.2.1.upd hu (by simp; omega) (by simp; omega), HI.out.2.2.trans hu (by intro x hx; simp at hx; subst hx; exact .inr hp0)⟩
          go_wp2_with fail
          refine HX.out.mono ?_
          rintro e w6 ⟨rfl, ht6, hu6⟩
          have HT6 := Lib.hid ht6
          have HY6 := Lib.hid (HXS.out w6 hu6)
          clear ht6 hu6
          have HYF := Lib.hid (tflip_at q h (A ++ B) i w6 HY6.out.1)
          by_cases hia : i < la
          · have e1 : (if i < A.length then (0 : Int) else 8) = 0 := if_pos (by rw [← HLA.out]; exact hia)
            have e2 : (if i < (A ++ B).length then (0 : Int) else 8) = 0 := if_pos (by rw [List.length_append, ← HLA.out]; omega)
            have e3 : (A ++ B).getD i false = A.getD i false := by rw [List.getD_eq_getElem?_getD, List.getD_eq_getElem?_getD, List.getElem?_append_left (by rw [← HLA.out]; exact hia)]
            rw [e1]
            have HYF2 := HYF.out
            rw [e2, e3] at HYF2
            have HYF3 := Lib.hid HYF2
            clear e1 e2 e3 HYF2 HYF
            generalize A.getD i false = x at *
            have hxx : (x != x) = false := by simp
            go_wp2_with fail
            refine HYF3.out.mono ?_
            rintro e w7 ⟨rfl, ht7, hu7⟩
            have HI7 : Hid (Tp w7 p g A (min (i + 1) A.length) (decide (A.length < i + 1)) ∧ Tp w7 q h (A ++ B) (min (i + 1) (A ++ B).length) (decide ((A ++ B).length < i + 1)) ∧ Upd [] w w7) := ⟨HT6.out.upd hu7 (by simp; omega) (by simp; omega), ht7, HY6.out.2.trans hu7 (by intro x hx; simp at hx; subst hx; exact .inr hq0)⟩
            clear ht7 hu7
            go_wp2
            go_roundw
            case rel => exact ⟨i + 1, by omega, by go_num, HI7⟩
            case measure => simp [intOf]; omega
          · have e1 : (if i < A.length then (0 : Int) else 8) = 8 := if_neg (by rw [← HLA.out]; exact hia)
            rw [e1]
            clear e1
            generalize A.getD i false = x at *
            generalize (if i < (A ++ B).length then (0 : Int) else 8) = f at *
            generalize (A ++ B).getD i false = y at *
            go_wp2_with fail
            refine HYF.out.mono ?_
            rintro e w7 ⟨rfl, ht7, hu7⟩
            have HI7 : Hid (Tp w7 p g A (min (i + 1) A.length) (decide (A.length < i + 1)) ∧ Tp w7 q h (A ++ B) (min (i + 1) (A ++ B).length) (decide ((A ++ B).length < i + 1)) ∧ Upd [] w w7) := ⟨HT6.out.upd hu7 (by simp; omega) (by simp; omega), ht7, HY6.out.2.trans hu7 (by intro x hx; simp at hx; subst hx; exact .inr hq0)⟩
            clear ht7 hu7
            go_wp2
            go_roundw
            case rel => exact ⟨i + 1, by omega, by go_num, HI7⟩
            case measure => simp [intOf]; omega
        · obtain rfl : i = m := by omega
          have hd1 : decide (A.length < i) = decide (la < i) := by rw [HLA.out]
          have hd2 : decide ((A ++ B).length < i) = decide (la + lb < i) := by rw [List.length_append, HLA.out, HLB.out]
          have h1 := HI.out
          rw [hd1, hd2] at h1
          have hmn : min i A.length = min i la := by rw [HLA.out]
          have hw1 : IntKind.i64.wrap ((la : Int) + (lb : Int)) = ((la + lb : Nat) : Int) := by rw [IntWalk.i64_in _ (by omega)]; omega
          have HD1 := Lib.hid (tdead_any p g A _ _ wr h1.1)
          have HD2 := Lib.hid (tdead_any q h (A ++ B) _ _ wr h1.2.1)
          have HRD := tread_any p g A _ _ wr h1.1
          rw [hmn] at HRD
          have HR := Lib.hid HRD
          have HF := Lib.hid h1.2.2
          clear h1 hd1 hd2 HRD hmn
          go_wp2_with fail
          refine HD1.out.mono ?_
          rintro e w6 ⟨rfl, rfl⟩
          go_wp2_with fail
          refine HD2.out.mono ?_
          rintro e w6 ⟨rfl, rfl⟩
          go_wp2_with fail
          refine HR.out.mono ?_
          rintro e w6 ⟨rfl, rfl⟩
          go_wp2
          go_ret
          exact ⟨rfl, HF.out⟩
end Go.Proofs.Ytibfdldllaopdaa
