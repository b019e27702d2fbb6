/-
  For every two drawn whole numbers (words, a sign) WholeDivides answers true: a number is the quotient times the divisor, and a rest that is never below 0 and less than the divisor; a divisor of 0 is ErrDiv. Condition: when the call begins the three listed tables of the library hold what the card ties them to.
-/
import Derived.Test.YtoklmfmoblkfcaaDoorRows
import Derived.Test.YtoklmfmoblkfcaaDoorCards
import Derived.Test.YtoklmfmoblkfcaaDoorTie
import Derived.Test.YtoklmfmoblkfcaaDoorAa
import Derived.SevenTiedAt
import Derived.LaidMore
import Derived.Stop.Joined
import Derived.Test.YtoklmfmoblkfcaaDoorWholeDiv
import Derived.OpenShut
import Derived.WalkKit
import Derived.ProofKit
import Derived.OpenShut
import Derived.ChangeOld
import Derived.Below
import Derived.ChangeMaps5
namespace Go.Proofs.YtoklmfmoblkfcaaDoor.wholeDivides
open Go.ChangeShapes Go.WideShapes Go.ChangeAt Go.RowKit
set_option linter.unusedVariables false

theorem own : ownKnob Tryd.prog.godebug = none := by kernel_rfl
theorem laidOut : laidOutB Tryd.prog = true := by kernel_rfl

theorem walk (aa0 : Option Addr) (lena0 capa0 : Nat) (za0 : List Int) (fq0 : Bool) (aa1 : Option Addr) (lena1 capa1 : Nat) (za1 : List Int) (fq1 : Bool) (w : World) (ht : Tab w) (w0 : (za0.length = lena0 ∧ lena0 ≤ maxLen ∧ Tm.Sl w (.slice aa0 lena0 capa0) (za0.map (Value.int .u64)) ∧ ∀ n ∈ za0, (Lit.int .u64 n).wf = true)) (w1 : (za1.length = lena1 ∧ lena1 ≤ maxLen ∧ Tm.Sl w (.slice aa1 lena1 capa1) (za1.map (Value.int .u64)) ∧ ∀ n ∈ za1, (Lit.int .u64 n).wf = true)) :
    Calls Tryd.prog 4 #[.agg #[.slice aa0 lena0 capa0, .bool fq0], .agg #[.slice aa1 lena1 capa1, .bool fq1]] w fun e w' => e = .returned (.bool true) ∧ Below w.heap.size w w' := by
  obtain ⟨hl0, _, hs0, hw0⟩ := w0
  obtain ⟨p0, he0, _, hb0⟩ := u64_nats za0 hw0
  rw [he0] at hs0
  obtain ⟨hl1, _, hs1, hw1⟩ := w1
  obtain ⟨p1, he1, _, hb1⟩ := u64_nats za1 hw1
  rw [he1] at hs1
  exact (wholeDivides_law aa0 lena0 capa0 p0 fq0 aa1 lena1 capa1 p1 fq1 w ht hs0 hb0 hs1 hb1).mono fun e w' ⟨he, hu⟩ => ⟨he, hu.below⟩

set_option maxHeartbeats 3200000 in
set_option maxRecDepth 100000 in
theorem lifted (os : Os) (started : os.Started) (H : Type) (enc : TypeId × Value → H) :
    ReturnsInHanded {} Tryd.checked os 4 .any (fun w args => (Rows.wholeDividesSpec.pre enc Tryd.prog Tryd.f4 [] false w args ∧ laidMetH Tryd.prog laid3 w) ∧ sizedMet enc Tryd.prog Tryd.f4 (OpenSpec.ofChange Rows.wholeDividesSpec) false w args)
      (Rows.wholeDividesSpec.post enc Tryd.prog Tryd.f4 false true false false) := by
  refine returnsInHanded_of_change_and (C := Tryd.checked) (X := fun w _ => laidMetH Tryd.prog laid3 w) (fun _ _ _ hh h => h.of_heap hh) own started (by kernel_rfl) Tryd.func4
    (ChangeSpec.witness_shaped (enc := enc) (C := Tryd.checked) (os := os) (X := fun w _ => laidMetH Tryd.prog laid3 w) false (World.doorLaid Tryd.prog 400 os) #[.agg #[.slice none 0 0, .bool false], .agg #[.slice none 0 0, .bool false]] 8 rfl (World.shaped_of_RefB (by kernel_rfl) (by kernel_rfl)) (by kernel_rfl) (by kernel_rfl) (by kernel_rfl) (door_met os _)) ?_
  intro W base args ds gs before hval0 hW _ _ hL _
  have hval : ∀ (j : Nat) t v, Tryd.f4.params[j]? = some t → args[j]? = some v → Value.okWide Tryd.prog W .any base t v := hval0
  have hW' := hW
  obtain ⟨p, q, hA0, hV, rfl, hfz, hnd⟩ := hW
  have hA : DataW.TrodAll enc Tryd.prog W 0 (fun _ => true) true Tryd.f4.params.toList args.toList ds p := hA0
  rw [Tryd.params4] at hA hval
  obtain ⟨v0, vs0, d0, ds0, p0, q0, hargs, rfl, rfl, h0, r0⟩ := trodAll_cons hA
  obtain ⟨v1, vs1, d1, ds1, p1, q1, rfl, rfl, rfl, h1, r1⟩ := trodAll_cons r0
  obtain ⟨rfl, rfl, rfl⟩ := trodAll_nil r1
  obtain rfl : args = #[v0, v1] := by cases args; simp_all
  obtain ⟨rfl, rfl⟩ := trodVars_none hV
  have k0 := h0
  have lt0 : ∀ x ∈ p0, x.block < W.heap.size := by obtain ⟨m, hm⟩ := k0; exact DataW.trod_lt m _ _ _ hm
  obtain ⟨fa0, fq0, rfl, ⟨fua0, ya0, hfa0⟩⟩ := Tm.open_draw2 Tryd.underlying24 rfl rfl Tryd.underlying4 (by kernel_rfl) (by kernel_rfl) (by kernel_rfl) (hval 0 24 v0 rfl rfl) h0
  obtain ⟨aa0, lena0, capa0, za0, rfl, wa0⟩ : ∃ (sa : Option Addr) (sl sc : Nat) (zs : List Int), fa0 = .slice sa sl sc ∧ zs.length = sl ∧ sl ≤ maxLen ∧ Tm.Sl W (.slice sa sl sc) (zs.map (Value.int .u64)) ∧ ∀ n ∈ zs, (Lit.int .u64 n).wf = true := by
    rcases open_ints Tryd.underlying22 Tryd.underlying65 (by kernel_rfl) hfa0 with ⟨hcs, _⟩ | ⟨x, l, c, zs, hcs, _, hl, hm, hz, _, hcell, hwz⟩
    · simp only [List.cons.injEq, and_true] at hcs
      subst hcs
      obtain ⟨ys, hh⟩ := Tm.sl_of_isrow (k := .u64) (w := W) (a := none) (len := 0) (cap := 0) (zs := []) (.inl ⟨rfl, rfl, rfl, rfl⟩)
      exact ⟨none, 0, 0, ys, rfl, hh⟩
    · simp only [List.cons.injEq, and_true] at hcs
      subst hcs
      obtain ⟨ys, hh⟩ := Tm.sl_of_isrow (k := .u64) (w := W) (a := some x) (len := l) (cap := c) (zs := zs) (.inr ⟨_, rfl, hl, hm, by simpa using hz, hcell, hwz⟩)
      exact ⟨some x, l, c, ys, rfl, hh⟩
  have w0 := wa0
  have k1 := h1
  have lt1 : ∀ x ∈ p1, x.block < W.heap.size := by obtain ⟨m, hm⟩ := k1; exact DataW.trod_lt m _ _ _ hm
  obtain ⟨fa1, fq1, rfl, ⟨fua1, ya1, hfa1⟩⟩ := Tm.open_draw2 Tryd.underlying24 rfl rfl Tryd.underlying4 (by kernel_rfl) (by kernel_rfl) (by kernel_rfl) (hval 1 24 v1 rfl rfl) h1
  obtain ⟨aa1, lena1, capa1, za1, rfl, wa1⟩ : ∃ (sa : Option Addr) (sl sc : Nat) (zs : List Int), fa1 = .slice sa sl sc ∧ zs.length = sl ∧ sl ≤ maxLen ∧ Tm.Sl W (.slice sa sl sc) (zs.map (Value.int .u64)) ∧ ∀ n ∈ zs, (Lit.int .u64 n).wf = true := by
    rcases open_ints Tryd.underlying22 Tryd.underlying65 (by kernel_rfl) hfa1 with ⟨hcs, _⟩ | ⟨x, l, c, zs, hcs, _, hl, hm, hz, _, hcell, hwz⟩
    · simp only [List.cons.injEq, and_true] at hcs
      subst hcs
      obtain ⟨ys, hh⟩ := Tm.sl_of_isrow (k := .u64) (w := W) (a := none) (len := 0) (cap := 0) (zs := []) (.inl ⟨rfl, rfl, rfl, rfl⟩)
      exact ⟨none, 0, 0, ys, rfl, hh⟩
    · simp only [List.cons.injEq, and_true] at hcs
      subst hcs
      obtain ⟨ys, hh⟩ := Tm.sl_of_isrow (k := .u64) (w := W) (a := some x) (len := l) (cap := c) (zs := zs) (.inr ⟨_, rfl, hl, hm, by simpa using hz, hcell, hwz⟩)
      exact ⟨some x, l, c, ys, rfl, hh⟩
  have w1 := wa1
  clear hA0 hval0
  refine (walk aa0 lena0 capa0 za0 fq0 aa1 lena1 capa1 za1 fq1 W (tab_of_laid hL) w0 w1).mono fun e W' ⟨he, bel⟩ => ?_
  subst he
  exact ⟨_, rfl, _, _, _, [], _, [], hW', trodAll_mk1 (shut_bool Tryd.underlying4 _), (trodAll_cons_mk (Below.trod laidOut (by kernel_rfl) (of_decide_eq_true (by kernel_rfl)) k0 bel lt0) (trodAll_cons_mk (Below.trod laidOut (by kernel_rfl) (of_decide_eq_true (by kernel_rfl)) k1 bel lt1) trodAll_mk0)), rfl, bel.frame _, fun h => by cases h⟩

theorem over : Rows.wholeDividesRow.holds Tryd.pinned (OpenSpec.ofChange Rows.wholeDividesSpec) :=
  OpenClaim.holds_of_wide 4 Tryd.f4 rfl rfl rfl rfl rfl rfl rfl ⟨rfl, rfl, rfl, rfl, rfl⟩ rfl rfl rfl rfl rfl (by kernel_rfl) Tryd.func4 (by kernel_rfl)
    (of_decide_eq_true (by kernel_rfl)) (by unfold Func.isWrapper; first | (rw [if_pos (by decide +kernel)]; kernel_rfl) | (rw [if_neg (by decide +kernel)]; exact ⟨rfl, rfl⟩))
    (fun os started H enc _ => lifted os started H enc)

theorem proved : Rows.WholeDividesCardSaid :=
  Claim7.holds_tied_plain_at .later [] [.data, .data, .data] true (true, "7868bacb40b8572a3808e84dfa55bbde0e0cde1ebfb4e270de96ff7a2ef7fc0f") true
    over (fun _ h => by cases h) (by kernel_rfl) (fun _ h => by cases h) wholeDivides_row_tie rfl ⟨rfl, rfl⟩ (by kernel_rfl) rfl
    (fun f fn hf hfn => by
      obtain rfl : f = 4 := Option.some.inj ((show Tryd.prog.funcNamed "tallymark/tallymarklaw06.WholeDivides" = some 4 by kernel_rfl).symm.trans hf) |>.symm
      obtain rfl : fn = Tryd.f4 := (Option.some.inj (Tryd.func4.symm.trans hfn)).symm
      exact ⟨by kernel_rfl, fun j t ht => by
        rw [Tryd.params4] at ht
        have hm : t ∈ [24, 24] := by simpa using Array.mem_of_getElem? ht
        have hall : (([24, 24] : List TypeId).all fun u => !Tryd.prog.wantsStandIn u) = true := by kernel_rfl
        exact (show Tryd.prog.wantsStandIn t = false by simpa using List.all_eq_true.1 hall t hm)⟩)
    (by kernel_rfl)
end Go.Proofs.YtoklmfmoblkfcaaDoor.wholeDivides
