/- The law DrawPrefix (layer 11). -/
import Derived.Test.YtcehkflkekefpaaDrawPl
import Derived.Test.YtcehkflkekefpaaAnd1
import Derived.Deep.DeepCutAuto
import Derived.Deep.RegionHeld3
namespace Go.Proofs.Ytcehkflkekefpaa
open Go.RowKit Go.Proofs.Tm Go.Shelf
set_option linter.unusedVariables false
set_option maxRecDepth 20000

theorem BPostN.out {o : CameN} {w w' : World} {e : Ending} {x k : Nat} {d : Bool} (ho : o = (x, k, d)) (h : BPostN o w e w') : e = .returned (.tuple #[.int .u64 (x : Int), .int .i64 (if d then 8 else 0), .int .i64 (k : Int)]) ∧ Upd [] w w' := by
  subst ho; exact h
theorem seq_vals {n wd y : Nat} (hn : 0 < n) {l : List Bool} {v k : Nat} (h : seqN (fun a b => 256 * a + b) (belowF n wd) (binF y 0) l = (v, k, false)) : ∃ x z, v = 256 * x + z ∧ x < n ∧ z ≤ y := by
  unfold seqN at h
  split at h
  · rename_i h9; rw [h] at h9; simp at h9
  · simp only [Prod.mk.injEq] at h
    refine ⟨_, _, h.1.symm, belowF_lt hn wd l, ?_⟩
    have := binF_le y 0 (l.drop (belowF n wd l).2.1)
    omega
theorem and_255 (v : Nat) (h : v < 18446744073709551616) : bits .and .u64 (v : Int) 255 = ((v % 256 : Nat) : Int) := by
  have := u64_and_nat v 255 h (by decide)
  rw [show (255 : Nat) = 2 ^ 8 - 1 from rfl, Nat.and_two_pow_sub_one_eq_mod] at this
  exact this

set_option maxHeartbeats 3200000 in
theorem drawPrefix_law (va vb : Value) (xs ys : List Bool) (x y : Int) (w : World) (ha : Sl w va (cb xs)) (hb : Sl w vb (cb ys)) :
    Calls Try.prog 5 #[va, vb, .agg #[.int .i64 x, .int .i64 y]] w fun e w' => e = .returned (.bool true) ∧ Upd [] w w' := by
  obtain ⟨A, hA⟩ : ∃ A, A = xs.take 200 := ⟨_, rfl⟩
  obtain ⟨B, hB⟩ : ∃ B, B = ys.take 50 := ⟨_, rfl⟩
  have hla : A.length ≤ 200 := by rw [hA, List.length_take]; omega
  have hlb : B.length ≤ 50 := by rw [hB, List.length_take]; omega
  have HFA : Hid (∀ W, Upd [] w W → Calls Try.prog 12 #[va, .int .i64 200] W (RFew9 A W)) := fun W hu => by rw [hA]; exact few9 va xs 200 W (by decide) (ha.upd0 hu)
  have HFB : Hid (∀ W, Upd [] w W → Calls Try.prog 12 #[vb, .int .i64 50] W (RFew9 B W)) := fun W hu => by rw [hB]; exact few9 vb ys 50 W (by decide) (hb.upd0 hu)
  clear ha hb hA hB
  -- the numbers asked for
  have hand1 := i64_and15 y
  have hand0 := i64_and1048575 x
  obtain ⟨N, hN⟩ : ∃ N : Nat, (N : Int) = 1 + x % 1048576 := ⟨(1 + x % 1048576).toNat, by omega⟩
  have hN1 : 1 ≤ N ∧ N ≤ 1048576 := by omega
  obtain ⟨Y, hY⟩ : ∃ Y : Nat, (Y : Int) = y % 16 := ⟨(y % 16).toNat, by omega⟩
  have hY1 : Y ≤ 15 := by omega
  have hw0 : IntKind.i64.wrap (1 + x % 1048576) = (N : Int) := by rw [IntWalk.i64_in _ (by omega)]; omega
  have hw1 : IntKind.u64.wrap (N : Int) = (N : Int) := by rw [IntKind.wrap_u64]; omega
  have hw2 : y % 16 = (Y : Int) := hY.symm
  have hmf : ∀ (fn : Fn) (first cap : Array Value) (w : World), (Instr.makeFunc fn first cap).run Try.prog w = .ok (.func fn first cap) w := fun _ _ _ _ => rfl
  have eg : ∀ args W, (callFunc 13 args).run Try.prog W = .ok (.enter 13 args) W := enters_of Try.func13 (by kernel_rfl) rfl
  obtain ⟨F, hF⟩ : ∃ F, F = seqN (fun a b => 256 * a + b) (belowF N (Lib.bitLen (N - 1))) (binF Y 0) := ⟨_, rfl⟩
  have HPRE : Hid (PreN F) := by rw [hF]; exact PreN.seq _ (PreN.below _ _) (PreN.bin _ _)
  have HVAL : Hid (∀ l v k, F l = (v, k, false) → ∃ x z, v = 256 * x + z ∧ x < N ∧ z ≤ Y) := fun l v k h => by rw [hF] at h; exact seq_vals (by omega) h
  have HPLAY : Hid (∀ (v : Value) (l : List Bool) (bn by' : Nat) (w : World), Sl w v (cb l) → l.length ≤ 1000 → w.cell? ⟨bn, 0, none⟩ = some (.int .u64 (N : Int)) → w.cell? ⟨by', 0, none⟩ = some (.int .i64 (Y : Int)) →
      Calls Try.prog 13 #[v, .pointer (some ⟨bn, 0, none⟩), .pointer (some ⟨by', 0, none⟩)] w (BPostN (F l) w)) := fun v l bn by' w h1 h2 h3 h4 => by
    rw [hF]; exact play11 v l bn by' N Y w h1 h2 h3 h4 hN1.1 hN1.2 hY1
  obtain ⟨la, hla'⟩ : ∃ k, k = A.length := ⟨_, rfl⟩
  obtain ⟨lb, hlb'⟩ : ∃ k, k = B.length := ⟨_, rfl⟩
  have HLA := Lib.hid hla'
  have HLB := Lib.hid hlb'
  rw [← hla'] at hla
  rw [← hlb'] at hlb
  obtain ⟨wa, hwa⟩ : ∃ W, W = w.alloc (.cells #[.int .i64 x, .int .i64 y] 36) := ⟨_, rfl⟩
  have hba : wa.heap[w.heap.size]? = some (.cells #[.int .i64 x, .int .i64 y] 36 (0, 0)) := by rw [hwa]; exact heap_alloc_new w _
  have hua : Upd [] w wa := by rw [hwa]; exact (Upd.refl _ _).alloc _
  have HBA := Lib.hid hba
  have HUA := Lib.hid hua
  have HWA := Lib.hid hwa
  clear hla' hlb' hN hY hF hba hua hwa
  go_enter Try.func5, Try.ntmps5
  go_wp2_with fail
  rw [← HWA.out]
  refine (awake11 wa).mono ?_
  rintro e w1 ⟨rfl, hu1⟩
  have HU1 := Lib.hid (HUA.out.trans0 hu1)
  have hb1 : w1.heap[w.heap.size]? = some (.cells #[.int .i64 x, .int .i64 y] 36 (0, 0)) := by rw [hu1.block _ (lt_of_block HBA.out) (by simp)]; exact HBA.out
  have x0 : w1.cell? ⟨w.heap.size, 0, none⟩ = some (.int .i64 x) := by rw [cell_of_row w1 _ 0 _ _ _ hb1]; rfl
  have x1 : w1.cell? ⟨w.heap.size, 1, none⟩ = some (.int .i64 y) := by rw [cell_of_row w1 _ 1 _ _ _ hb1]; rfl
  have hlw := lt_of_block hb1
  clear hu1 hb1
  go_wp2_with fail
  refine (HFA.out _ HU1.out).mono ?_
  rintro e w2 ⟨a, cap, rfl, hsa, rfl⟩
  go_wp2_with fail
  refine (HFB.out _ HU1.out).mono ?_
  rintro e w2 ⟨b, cap2, rfl, hsb, rfl⟩
  rw [← HLA.out] at hsa ⊢
  rw [← HLB.out] at hsb ⊢
  have HSA := Lib.hid hsa
  have HSB := Lib.hid hsb
  clear hsa hsb
  have hlen1 : A.length ≤ 1000 := by rw [← HLA.out]; omega
  obtain ⟨s0, hs0⟩ : ∃ s, s = w.heap.size := ⟨_, rfl⟩
  rw [← hs0] at x0 x1 hlw ⊢
  have HXC : Hid (∀ W, Upd [] w1 W → W.cell? ⟨s0, 0, none⟩ = some (.int .i64 x) ∧ W.cell? ⟨s0, 1, none⟩ = some (.int .i64 y) ∧ Upd [] w1 W) := fun W h => ⟨(h.cell (p := ⟨s0, 0, none⟩) hlw (by simp)).trans x0, (h.cell (p := ⟨s0, 1, none⟩) hlw (by simp)).trans x1, h⟩
  have hrf1 : Upd [] w1 w1 := Upd.refl _ _
  have HLW := Lib.hid hlw
  clear hs0
  go_wp2_with fail
  go_cut [7, 8] (fun v7 v8 wx => ∃ bn by' : Nat, v7 = .pointer (some ⟨bn, 0, none⟩) ∧ v8 = .pointer (some ⟨by', 0, none⟩) ∧ Hid (wx.cell? ⟨bn, 0, none⟩ = some (.int .u64 (N : Int)) ∧ wx.cell? ⟨by', 0, none⟩ = some (.int .i64 (Y : Int)) ∧ Upd [] w1 wx))
  case first =>
    go_region
    · go_wp2_with fail
      go_meet
      obtain ⟨u8, hc⟩ := two_boxes w1 (.int .u64 (N : Int)) (.int .i64 (Y : Int)) 28 3 _ rfl _ rfl
      obtain ⟨h1, h2⟩ := hc _ (Upd.refl _ _).drew
      exact ⟨_, _, rfl, rfl, h1, h2, u8.drew⟩
    · go_wp2_with fail
      go_meet
      obtain ⟨u8, hc⟩ := two_boxes w1 (.int .i64 (Y : Int)) (.int .u64 (N : Int)) 3 28 _ rfl _ rfl
      obtain ⟨h1, h2⟩ := hc _ (Upd.refl _ _).drew
      exact ⟨_, _, rfl, rfl, h2, h1, u8.drew⟩
  case rest =>
    obtain ⟨bn, by', rfl, rfl, HWC⟩ := hcut
    obtain ⟨w4, hw4⟩ : ∃ W, W = wc := ⟨_, rfl⟩
    rw [← hw4] at HWC ⊢
    have hc4 := HWC.out
    have hu4 := HWC.out.2.2
    have HPL : Hid (∀ (W : World) (v : Value) (l : List Bool), Upd [] w4 W → Sl W v (cb l) → l.length ≤ 1000 → Calls Try.prog 13 #[v, .pointer (some ⟨bn, 0, none⟩), .pointer (some ⟨by', 0, none⟩)] W (BPostN (F l) W)) := fun W v l hu h1 h2 =>
      HPLAY.out v l _ _ W h1 h2 ((hu.cell (p := ⟨bn, 0, none⟩) (World.block_lt_of_cell? w4 _ hc4.1) (by simp)).trans hc4.1) ((hu.cell (p := ⟨by', 0, none⟩) (World.block_lt_of_cell? w4 _ hc4.2.1) (by simp)).trans hc4.2.1)
    have HCN : Hid (∀ W, Upd [] w4 W → W.cell? ⟨bn, 0, none⟩ = some (.int .u64 (N : Int)) ∧ W.cell? ⟨by', 0, none⟩ = some (.int .i64 (Y : Int))) := fun W hu => ⟨(hu.cell (p := ⟨bn, 0, none⟩) (World.block_lt_of_cell? w4 _ hc4.1) (by simp)).trans hc4.1, (hu.cell (p := ⟨by', 0, none⟩) (World.block_lt_of_cell? w4 _ hc4.2.1) (by simp)).trans hc4.2.1⟩
    have HSA4 := Lib.hid (HSA.out.upd0 hu4)
    have HSB4 := Lib.hid (HSB.out.upd0 hu4)
    have HU4 := Lib.hid (HU1.out.trans0 hu4)
    clear hu4 hc4 hw4 x0 x1 hlw HPLAY HSA HSB hw0 hand0 hand1 hrf1 HXC
    go_wp2_with fail
    have hpost := HPL.out w4 _ A (Upd.refl _ _) HSA4.out hlen1
    obtain ⟨o1, ho1⟩ : ∃ o, o = F A := ⟨_, rfl⟩
    rw [← ho1] at hpost
    obtain ⟨is1, k1, d1⟩ := o1
    have HP1 := Lib.hid hpost
    have HO1 := Lib.hid ho1
    clear hpost ho1
    refine HP1.out.mono ?_
    intro e w5 hpo
    obtain ⟨rfl, hu5⟩ := BPostN.out rfl hpo
    have HU5 := Lib.hid hu5
    have hcap : la ≤ cap ∧ cap ≤ 9223372036854775807 := by
      obtain ⟨a', c', he, h2, h3, _⟩ := HSA4.out
      simp only [Value.slice.injEq, cb_length] at he h2
      unfold maxLen at h3
      have := HLA.out
      omega
    have hk1 : k1 ≤ la := by have := HPRE.out.le A; rw [← HO1.out, ← HLA.out] at this; exact this
    clear hpo hu5 HP1
    cases d1 with
    | true =>
      have hkl : (k1 : Int) = (la : Int) := by have := HPRE.out.all A (by rw [← HO1.out]); rw [← HO1.out, ← HLA.out] at this; have h9 : k1 = la := this; rw [h9]
      have HF := Lib.hid (HU4.out.trans0 HU5.out)
      have hkl2 : ((k1 : Int) == (la : Int)) = true := by simp; omega
      clear hkl
      simp only [if_true]
      go_wp2
      go_ret
      exact ⟨rfl, HF.out⟩
    | false =>
      simp only [Bool.false_eq_true, if_false]
      have hk0 : (0 : Int) ≤ (k1 : Int) := by omega
      have hkc : (k1 : Int) ≤ (cap : Int) := by omega
      have HSK : Hid (Sl w5 (.slice a k1 cap) (cb (A.take k1))) := by
        show Sl _ _ _
        have := tsl_take (HSA4.out.upd0 HU5.out) k1 hk1
        simpa [cb, List.map_take] using this
      have hlk : (A.take k1).length = k1 := by rw [List.length_take, ← HLA.out]; omega
      have HLK := Lib.hid hlk
      clear hlk
      go_wp2_with (at_builtin; refine wpList_append_sl _ rfl (.tmp 53) (.tmp 56) 35 rfl w5.heap.size 4 (.bool false) 1 Try.underlying35 infoBool rfl _ _ _ rfl (own_lit w5 4 #[] (by decide)) _ (cb (A.take k1)) rfl (HSK.out.upd0 ((Upd.refl _ _).alloc _)) (cb_one _) ?c2 ?c3 ?c4 ?go)
      case c2 => have := HLK.out; unfold maxLen; rw [cb_length]; simp; omega
      case c3 => have := HLK.out; rw [cb_length]; simp; omega
      case c4 => simp
      case go =>
        intro v6 w6 ho6 hg6 _
        have HO6 : Hid (w6.ownsRow w5.heap.size 4 1 v6 k1 (cb (A.take k1))) := by
          show World.ownsRow _ _ _ _ _ _ _
          have := ho6
          have e9 : min k1 A.length = k1 := by have h9 := HLK.out; rw [List.length_take] at h9; exact h9
          simp only [e9] at this
          simpa using this
        have HU6 : Hid (Upd [] w5 w6) := ((Upd.refl _ _).alloc _).grown hg6 (fun k hk => .inr (by simp [Value.ownBlock] at hk; omega))
        clear ho6 hg6
        go_wp2_with (at_builtin; refine wpList_append_sl _ rfl (.tmp 57) (.tmp 58) 35 rfl w5.heap.size 4 (.bool false) 1 Try.underlying35 infoBool rfl _ _ _ rfl HO6.out _ (cb B) rfl ((HSB4.out.upd0 HU5.out).upd0 HU6.out) (cb_one _) ?d2 ?d3 ?d4 ?go2)
        case d2 => have := HLB.out; unfold maxLen; simp; omega
        case d3 => have := HLB.out; simp; omega
        case d4 => exact HU6.out.size
        case go2 =>
          intro v7 w7 ho7 hg7 _
          have HO7 : Hid (Sl w7 v7 (cb (A.take k1 ++ B))) := by rw [cb_append]; exact Sl.own ho7
          have HU7 : Hid (Upd [] w5 w7) := HU6.out.grown hg7 (fun k hk => .inr (HO6.out.lt k hk).1)
          clear ho7 hg7
          have hsame := HPRE.out.same A B (by rw [← HO1.out])
          rw [← HO1.out] at hsame
          have hpost := HPL.out w7 v7 (A.take k1 ++ B) (HU5.out.trans0 HU7.out) HO7.out (by have := HLK.out; have := HLB.out; rw [List.length_append]; omega)
          rw [hsame] at hpost
          have HP2 := Lib.hid hpost
          clear hpost hsame
          go_wp2_with fail
          refine HP2.out.mono ?_
          intro e w8 hpo
          obtain ⟨rfl, hu8⟩ := BPostN.out rfl hpo
          have HU8 := Lib.hid (HU5.out.trans0 (HU7.out.trans0 hu8))
          simp only [Bool.false_eq_true, if_false]
          have hii : ((is1 : Int) != (is1 : Int)) = false := by simp
          have hkk : ((k1 : Int) != (k1 : Int)) = false := by simp
          obtain ⟨X, Z, hv, hX, hZ⟩ := HVAL.out A is1 k1 HO1.out.symm
          obtain ⟨c8n, c8y⟩ := HCN.out w8 HU8.out
          have q1 : (is1 : Int) / 256 = (X : Int) := by omega
          have q2 : decide (N ≤ X) = false := by simp; omega
          have q3 : bits .and .u64 (is1 : Int) 255 = (Z : Int) := by rw [and_255 is1 (by omega), show is1 % 256 = Z by omega]
          have q4 : decide (Y < Z) = false := by simp; omega
          have q5 : IntKind.u64.wrap (Y : Int) = (Y : Int) := by rw [IntKind.wrap_u64]; omega
          clear hv hX hZ
          clear hpo hu8 HP2
          by_cases hpos : 0 < k1
          · obtain ⟨j, rfl⟩ : ∃ j, k1 = j + 1 := ⟨k1 - 1, by omega⟩
            have hj0 : (0 : Int) ≤ (j : Int) := by omega
            have hjc : (j : Int) ≤ (cap : Int) := by omega
            have hwj : IntKind.i64.wrap (((j + 1 : Nat) : Int) - 1) = (j : Int) := by rw [IntWalk.i64_in _ (by omega)] <;> omega
            have hgt : decide ((0 : Int) < ((j + 1 : Nat) : Int)) = true := by simp <;> omega
            have HSJ : Hid (Sl w8 (.slice a j cap) (cb (A.take j))) := by
              show Sl _ _ _
              have := tsl_take (HSA4.out.upd0 HU8.out) j (by omega)
              simpa [cb, List.map_take] using this
            have hless := HPRE.out.less A j (by rw [← HO1.out]) (by rw [← HO1.out]; simp)
            have hpost := HPL.out w8 _ (A.take j) HU8.out HSJ.out (by rw [List.length_take, ← HLA.out]; omega)
            obtain ⟨o3, ho3⟩ : ∃ o, o = F (A.take j) := ⟨_, rfl⟩
            rw [← ho3] at hpost hless
            obtain ⟨is3, k3, d3⟩ := o3
            obtain rfl : d3 = true := hless
            have HP3 := Lib.hid hpost
            clear hpost ho3
            go_wp2_with fail
            refine HP3.out.mono ?_
            intro e w9 hpo
            obtain ⟨rfl, hu9⟩ := BPostN.out rfl hpo
            have HF := Lib.hid (HU4.out.trans0 (HU8.out.trans0 hu9))
            simp only [if_true]
            clear hpo hu9 HP3
            go_wp2
            go_ret
            exact ⟨rfl, HF.out⟩
          · obtain rfl : k1 = 0 := by omega
            have HF := Lib.hid (HU4.out.trans0 HU8.out)
            go_wp2
            go_ret
            exact ⟨rfl, HF.out⟩
end Go.Proofs.Ytcehkflkekefpaa
