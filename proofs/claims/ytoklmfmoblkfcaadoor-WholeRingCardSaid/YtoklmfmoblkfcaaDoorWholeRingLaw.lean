/-
  For every three drawn whole numbers (words, a sign) WholeRing answers true: the program's sums, differences and products are those of a ring, and comparisons fit. Condition: when the call begins the three listed tables of the library hold what the card ties them to.
-/
import Derived.Test.YtoklmfmoblkfcaaDoorRows
import Derived.Test.YtoklmfmoblkfcaaDoorCards
import Derived.Test.YtoklmfmoblkfcaaDoorTie
import Derived.Test.YtoklmfmoblkfcaaDoorAa
import Derived.SevenTiedAt
import Derived.LaidMore
import Derived.Stop.Joined
import Derived.Test.YtoklmfmoblkfcaaDoorWholeRing
import Derived.OpenShut
import Derived.WalkKit
import Derived.ProofKit
import Derived.OpenShut
import Derived.ChangeOld
import Derived.Below
import Derived.ChangeMaps5
namespace Go.Proofs.YtoklmfmoblkfcaaDoor.wholeRing
open Go.ChangeShapes Go.WideShapes Go.ChangeAt Go.RowKit
set_option linter.unusedVariables false

theorem own : ownKnob Tryd.prog.godebug = none := by kernel_rfl
theorem laidOut : laidOutB Tryd.prog = true := by kernel_rfl

theorem walk (aa0 : Option Addr) (lena0 capa0 : Nat) (za0 : List Int) (fq0 : Bool) (aa1 : Option Addr) (lena1 capa1 : Nat) (za1 : List Int) (fq1 : Bool) (aa2 : Option Addr) (lena2 capa2 : Nat) (za2 : List Int) (fq2 : Bool) (w : World) (ht : Tab w) (w0 : (za0.length = lena0 ∧ lena0 ≤ maxLen ∧ Tm.Sl w (.slice aa0 lena0 capa0) (za0.map (Value.int .u64)) ∧ ∀ n ∈ za0, (Lit.int .u64 n).wf = true)) (w1 : (za1.length = lena1 ∧ lena1 ≤ maxLen ∧ Tm.Sl w (.slice aa1 lena1 capa1) (za1.map (Value.int .u64)) ∧ ∀ n ∈ za1, (Lit.int .u64 n).wf = true)) (w2 : (za2.length = lena2 ∧ lena2 ≤ maxLen ∧ Tm.Sl w (.slice aa2 lena2 capa2) (za2.map (Value.int .u64)) ∧ ∀ n ∈ za2, (Lit.int .u64 n).wf = true)) :
    Calls Tryd.prog 6 #[.agg #[.slice aa0 lena0 capa0, .bool fq0], .agg #[.slice aa1 lena1 capa1, .bool fq1], .agg #[.slice aa2 lena2 capa2, .bool fq2]] w fun e w' => e = .returned (.bool true) ∧ Below w.heap.size w w' := by
  obtain ⟨hl0, _, hs0, hw0⟩ := w0
  obtain ⟨p0, he0, _, hb0⟩ := u64_nats za0 hw0
  rw [he0] at hs0
  obtain ⟨hl1, _, hs1, hw1⟩ := w1
  obtain ⟨p1, he1, _, hb1⟩ := u64_nats za1 hw1
  rw [he1] at hs1
  obtain ⟨hl2, _, hs2, hw2⟩ := w2
  obtain ⟨p2, he2, _, hb2⟩ := u64_nats za2 hw2
  rw [he2] at hs2
  exact (wholeRing_law aa0 lena0 capa0 p0 fq0 aa1 lena1 capa1 p1 fq1 aa2 lena2 capa2 p2 fq2 w ht hs0 hb0 hs1 hb1 hs2 hb2).mono fun e w' ⟨he, hu⟩ => ⟨he, hu.below⟩

set_option maxHeartbeats 3200000 in
set_option maxRecDepth 100000 in
theorem lifted (os : Os) (started : os.Started) (H : Type) (enc : TypeId × Value → H) :
    ReturnsInHanded {} Tryd.checked os 6 .any (fun w args => (Rows.wholeRingSpec.pre enc Tryd.prog Tryd.f6 [] false w args ∧ laidMetH Tryd.prog laid3 w) ∧ sizedMet enc Tryd.prog Tryd.f6 (OpenSpec.ofChange Rows.wholeRingSpec) false w args)
      (Rows.wholeRingSpec.post enc Tryd.prog Tryd.f6 false true false false) := by
  refine returnsInHanded_of_change_and (C := Tryd.checked) (X := fun w _ => laidMetH Tryd.prog laid3 w) (fun _ _ _ hh h => h.of_heap hh) own started (by kernel_rfl) Tryd.func6
    (ChangeSpec.witness_shaped (enc := enc) (C := Tryd.checked) (os := os) (X := fun w _ => laidMetH Tryd.prog laid3 w) false (World.doorLaid Tryd.prog 400 os) #[.agg #[.slice none 0 0, .bool false], .agg #[.slice none 0 0, .bool false], .agg #[.slice none 0 0, .bool false]] 8 rfl (World.shaped_of_RefB (by kernel_rfl) (by kernel_rfl)) (by kernel_rfl) (by kernel_rfl) (by kernel_rfl) (door_met os _)) ?_
  intro W base args ds gs before hval0 hW _ _ hL _
  have hval : ∀ (j : Nat) t v, Tryd.f6.params[j]? = some t → args[j]? = some v → Value.okWide Tryd.prog W .any base t v := hval0
  have hW' := hW
  obtain ⟨p, q, hA0, hV, rfl, hfz, hnd⟩ := hW
  have hA : DataW.TrodAll enc Tryd.prog W 0 (fun _ => true) true Tryd.f6.params.toList args.toList ds p := hA0
  rw [Tryd.params6] at hA hval
  obtain ⟨v0, vs0, d0, ds0, p0, q0, hargs, rfl, rfl, h0, r0⟩ := trodAll_cons hA
  obtain ⟨v1, vs1, d1, ds1, p1, q1, rfl, rfl, rfl, h1, r1⟩ := trodAll_cons r0
  obtain ⟨v2, vs2, d2, ds2, p2, q2, rfl, rfl, rfl, h2, r2⟩ := trodAll_cons r1
  obtain ⟨rfl, rfl, rfl⟩ := trodAll_nil r2
  obtain rfl : args = #[v0, v1, v2] := by cases args; simp_all
  obtain ⟨rfl, rfl⟩ := trodVars_none hV
  have k0 := h0
  have lt0 : ∀ x ∈ p0, x.block < W.heap.size := by obtain ⟨m, hm⟩ := k0; exact DataW.trod_lt m _ _ _ hm
  obtain ⟨fa0, fq0, rfl, ⟨fua0, ya0, hfa0⟩⟩ := Tm.open_draw2 Tryd.underlying24 rfl rfl Tryd.underlying4 (by kernel_rfl) (by kernel_rfl) (by kernel_rfl) (hval 0 24 v0 rfl rfl) h0
  obtain ⟨aa0, lena0, capa0, za0, rfl, wa0⟩ : ∃ (sa : Option Addr) (sl sc : Nat) (zs : List Int), fa0 = .slice sa sl sc ∧ zs.length = sl ∧ sl ≤ maxLen ∧ Tm.Sl W (.slice sa sl sc) (zs.map (Value.int .u64)) ∧ ∀ n ∈ zs, (Lit.int .u64 n).wf = true := by
    rcases open_ints Tryd.underlying22 Tryd.underlying65 (by kernel_rfl) hfa0 with ⟨hcs, _⟩ | ⟨x, l, c, zs, hcs, _, hl, hm, hz, _, hcell, hwz⟩
    · simp only [List.cons.injEq, and_true] at hcs
      subst hcs
      obtain ⟨ys, hh⟩ := Tm.sl_of_isrow (k := .u64) (w := W) (a := none) (len := 0) (cap := 0) (zs := []) (.inl ⟨rfl, rfl, rfl, rfl⟩)
      exact ⟨none, 0, 0, ys, rfl, hh⟩
    · simp only [List.cons.injEq, and_true] at hcs
      subst hcs
      obtain ⟨ys, hh⟩ := Tm.sl_of_isrow (k := .u64) (w := W) (a := some x) (len := l) (cap := c) (zs := zs) (.inr ⟨_, rfl, hl, hm, by simpa using hz, hcell, hwz⟩)
      exact ⟨some x, l, c, ys, rfl, hh⟩
  have w0 := wa0
  have k1 := h1
  have lt1 : ∀ x ∈ p1, x.block < W.heap.size := by obtain ⟨m, hm⟩ := k1; exact DataW.trod_lt m _ _ _ hm
  obtain ⟨fa1, fq1, rfl, ⟨fua1, ya1, hfa1⟩⟩ := Tm.open_draw2 Tryd.underlying24 rfl rfl Tryd.underlying4 (by kernel_rfl) (by kernel_rfl) (by kernel_rfl) (hval 1 24 v1 rfl rfl) h1
  obtain ⟨aa1, lena1, capa1, za1, rfl, wa1⟩ : ∃ (sa : Option Addr) (sl sc : Nat) (zs : List Int), fa1 = .slice sa sl sc ∧ zs.length = sl ∧ sl ≤ maxLen ∧ Tm.Sl W (.slice sa sl sc) (zs.map (Value.int .u64)) ∧ ∀ n ∈ zs, (Lit.int .u64 n).wf = true := by
    rcases open_ints Tryd.underlying22 Tryd.underlying65 (by kernel_rfl) hfa1 with ⟨hcs, _⟩ | ⟨x, l, c, zs, hcs, _, hl, hm, hz, _, hcell, hwz⟩
    · simp only [List.cons.injEq, and_true] at hcs
      subst hcs
      obtain ⟨ys, hh⟩ := Tm.sl_of_isrow (k := .u64) (w := W) (a := none) (len := 0) (cap := 0) (zs := []) (.inl ⟨rfl, rfl, rfl, rfl⟩)
      exact ⟨none, 0, 0, ys, rfl, hh⟩
    · simp only [List.cons.injEq, and_true] at hcs
      subst hcs
      obtain ⟨ys, hh⟩ := Tm.sl_of_isrow (k := .u64) (w := W) (a := some x) (len := l) (cap := c) (zs := zs) (.inr ⟨_, rfl, hl, hm, by simpa using hz, hcell, hwz⟩)
      exact ⟨some x, l, c, ys, rfl, hh⟩
  have w1 := wa1
  have k2 := h2
  have lt2 : ∀ x ∈ p2, x.block < W.heap.size := by obtain ⟨m, hm⟩ := k2; exact DataW.trod_lt m _ _ _ hm
  obtain ⟨fa2, fq2, rfl, ⟨fua2, ya2, hfa2⟩⟩ := Tm.open_draw2 Tryd.underlying24 rfl rfl Tryd.underlying4 (by kernel_rfl) (by kernel_rfl) (by kernel_rfl) (hval 2 24 v2 rfl rfl) h2
  obtain ⟨aa2, lena2, capa2, za2, rfl, wa2⟩ : ∃ (sa : Option Addr) (sl sc : Nat) (zs : List Int), fa2 = .slice sa sl sc ∧ zs.length = sl ∧ sl ≤ maxLen ∧ Tm.Sl W (.slice sa sl sc) (zs.map (Value.int .u64)) ∧ ∀ n ∈ zs, (Lit.int .u64 n).wf = true := by
    rcases open_ints Tryd.underlying22 Tryd.underlying65 (by kernel_rfl) hfa2 with ⟨hcs, _⟩ | ⟨x, l, c, zs, hcs, _, hl, hm, hz, _, hcell, hwz⟩
    · simp only [List.cons.injEq, and_true] at hcs
      subst hcs
      obtain ⟨ys, hh⟩ := Tm.sl_of_isrow (k := .u64) (w := W) (a := none) (len := 0) (cap := 0) (zs := []) (.inl ⟨rfl, rfl, rfl, rfl⟩)
      exact ⟨none, 0, 0, ys, rfl, hh⟩
    · simp only [List.cons.injEq, and_true] at hcs
      subst hcs
      obtain ⟨ys, hh⟩ := Tm.sl_of_isrow (k := .u64) (w := W) (a := some x) (len := l) (cap := c) (zs := zs) (.inr ⟨_, rfl, hl, hm, by simpa using hz, hcell, hwz⟩)
      exact ⟨some x, l, c, ys, rfl, hh⟩
  have w2 := wa2
  clear hA0 hval0
  refine (walk aa0 lena0 capa0 za0 fq0 aa1 lena1 capa1 za1 fq1 aa2 lena2 capa2 za2 fq2 W (tab_of_laid hL) w0 w1 w2).mono fun e W' ⟨he, bel⟩ => ?_
  subst he
  exact ⟨_, rfl, _, _, _, [], _, [], hW', trodAll_mk1 (shut_bool Tryd.underlying4 _), (trodAll_cons_mk (Below.trod laidOut (by kernel_rfl) (of_decide_eq_true (by kernel_rfl)) k0 bel lt0) (trodAll_cons_mk (Below.trod laidOut (by kernel_rfl) (of_decide_eq_true (by kernel_rfl)) k1 bel lt1) (trodAll_cons_mk (Below.trod laidOut (by kernel_rfl) (of_decide_eq_true (by kernel_rfl)) k2 bel lt2) trodAll_mk0))), rfl, bel.frame _, fun h => by cases h⟩

theorem over : Rows.wholeRingRow.holds Tryd.pinned (OpenSpec.ofChange Rows.wholeRingSpec) :=
  OpenClaim.holds_of_wide 6 Tryd.f6 rfl rfl rfl rfl rfl rfl rfl ⟨rfl, rfl, rfl, rfl, rfl⟩ rfl rfl rfl rfl rfl (by kernel_rfl) Tryd.func6 (by kernel_rfl)
    (of_decide_eq_true (by kernel_rfl)) (by unfold Func.isWrapper; first | (rw [if_pos (by decide +kernel)]; kernel_rfl) | (rw [if_neg (by decide +kernel)]; exact ⟨rfl, rfl⟩))
    (fun os started H enc _ => lifted os started H enc)

theorem proved : Rows.WholeRingCardSaid :=
  Claim7.holds_tied_plain_at .later [] [.data, .data, .data] true (true, "7868bacb40b8572a3808e84dfa55bbde0e0cde1ebfb4e270de96ff7a2ef7fc0f") true
    over (fun _ h => by cases h) (by kernel_rfl) (fun _ h => by cases h) wholeRing_row_tie rfl ⟨rfl, rfl⟩ (by kernel_rfl) rfl
    (fun f fn hf hfn => by
      obtain rfl : f = 6 := Option.some.inj ((show Tryd.prog.funcNamed "tallymark/tallymarklaw06.WholeRing" = some 6 by kernel_rfl).symm.trans hf) |>.symm
      obtain rfl : fn = Tryd.f6 := (Option.some.inj (Tryd.func6.symm.trans hfn)).symm
      exact ⟨by kernel_rfl, fun j t ht => by
        rw [Tryd.params6] at ht
        have hm : t ∈ [24, 24, 24] := by simpa using Array.mem_of_getElem? ht
        have hall : (([24, 24, 24] : List TypeId).all fun u => !Tryd.prog.wantsStandIn u) = true := by kernel_rfl
        exact (show Tryd.prog.wantsStandIn t = false by simpa using List.all_eq_true.1 hall t hm)⟩)
    (by kernel_rfl)
end Go.Proofs.YtoklmfmoblkfcaaDoor.wholeRing
