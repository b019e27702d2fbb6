/-
  For every three drawn fractions (words above and below the line, a sign) RatField answers true: the program's sums, products and quotients are those of a field, and keep its order. Condition: when the call begins the three listed tables of the library hold what the card ties them to.
-/
import Derived.Test.YtoklmfmoblkfcaaGreatDoorRows
import Derived.Test.YtoklmfmoblkfcaaGreatDoorCards
import Derived.Test.YtoklmfmoblkfcaaGreatDoorTie
import Derived.Test.YtoklmfmoblkfcaaGreatDoorAa
import Derived.SevenTiedAt
import Derived.LaidMore
import Derived.Stop.Joined
import Derived.Test.YtoklmfmoblkfcaaGreatDoorRatField
import Derived.OpenShut
import Derived.WalkKit
import Derived.ProofKit
import Derived.OpenShut
import Derived.ChangeOld
import Derived.Below
import Derived.ChangeMaps5
namespace Go.Proofs.YtoklmfmoblkfcaaGreatDoor.ratField
open Go.ChangeShapes Go.WideShapes Go.ChangeAt Go.RowKit
set_option linter.unusedVariables false

theorem own : ownKnob Tryz.prog.godebug = none := by kernel_rfl
theorem laidOut : laidOutB Tryz.prog = true := by kernel_rfl

theorem walk (aa0 : Option Addr) (lena0 capa0 : Nat) (za0 : List Int) (ab0 : Option Addr) (lenb0 capb0 : Nat) (zb0 : List Int) (fq0 : Bool) (aa1 : Option Addr) (lena1 capa1 : Nat) (za1 : List Int) (ab1 : Option Addr) (lenb1 capb1 : Nat) (zb1 : List Int) (fq1 : Bool) (aa2 : Option Addr) (lena2 capa2 : Nat) (za2 : List Int) (ab2 : Option Addr) (lenb2 capb2 : Nat) (zb2 : List Int) (fq2 : Bool) (w : World) (ht : Tab w) (w0 : (za0.length = lena0 ∧ lena0 ≤ maxLen ∧ Tm.Sl w (.slice aa0 lena0 capa0) (za0.map (Value.int .u64)) ∧ ∀ n ∈ za0, (Lit.int .u64 n).wf = true) ∧ (zb0.length = lenb0 ∧ lenb0 ≤ maxLen ∧ Tm.Sl w (.slice ab0 lenb0 capb0) (zb0.map (Value.int .u64)) ∧ ∀ n ∈ zb0, (Lit.int .u64 n).wf = true)) (w1 : (za1.length = lena1 ∧ lena1 ≤ maxLen ∧ Tm.Sl w (.slice aa1 lena1 capa1) (za1.map (Value.int .u64)) ∧ ∀ n ∈ za1, (Lit.int .u64 n).wf = true) ∧ (zb1.length = lenb1 ∧ lenb1 ≤ maxLen ∧ Tm.Sl w (.slice ab1 lenb1 capb1) (zb1.map (Value.int .u64)) ∧ ∀ n ∈ zb1, (Lit.int .u64 n).wf = true)) (w2 : (za2.length = lena2 ∧ lena2 ≤ maxLen ∧ Tm.Sl w (.slice aa2 lena2 capa2) (za2.map (Value.int .u64)) ∧ ∀ n ∈ za2, (Lit.int .u64 n).wf = true) ∧ (zb2.length = lenb2 ∧ lenb2 ≤ maxLen ∧ Tm.Sl w (.slice ab2 lenb2 capb2) (zb2.map (Value.int .u64)) ∧ ∀ n ∈ zb2, (Lit.int .u64 n).wf = true)) :
    Calls Tryz.prog 8 #[.agg #[.slice aa0 lena0 capa0, .slice ab0 lenb0 capb0, .bool fq0], .agg #[.slice aa1 lena1 capa1, .slice ab1 lenb1 capb1, .bool fq1], .agg #[.slice aa2 lena2 capa2, .slice ab2 lenb2 capb2, .bool fq2]] w fun e w' => e = .returned (.bool true) ∧ Below w.heap.size w w' := by
  obtain ⟨⟨hl0, _, hs0, hw0⟩, hl1, _, hs1, hw1⟩ := w0
  obtain ⟨p0, he0, _, hb0⟩ := u64_nats za0 hw0
  obtain ⟨p1, he1, _, hb1⟩ := u64_nats zb0 hw1
  rw [he0] at hs0
  rw [he1] at hs1
  obtain ⟨⟨hl2, _, hs2, hw2⟩, hl3, _, hs3, hw3⟩ := w1
  obtain ⟨p2, he2, _, hb2⟩ := u64_nats za1 hw2
  obtain ⟨p3, he3, _, hb3⟩ := u64_nats zb1 hw3
  rw [he2] at hs2
  rw [he3] at hs3
  obtain ⟨⟨hl4, _, hs4, hw4⟩, hl5, _, hs5, hw5⟩ := w2
  obtain ⟨p4, he4, _, hb4⟩ := u64_nats za2 hw4
  obtain ⟨p5, he5, _, hb5⟩ := u64_nats zb2 hw5
  rw [he4] at hs4
  rw [he5] at hs5
  exact (ratField_law aa0 lena0 capa0 p0 ab0 lenb0 capb0 p1 fq0 aa1 lena1 capa1 p2 ab1 lenb1 capb1 p3 fq1 aa2 lena2 capa2 p4 ab2 lenb2 capb2 p5 fq2 w ht hs0 hb0 hs1 hb1 hs2 hb2 hs3 hb3 hs4 hb4 hs5 hb5).mono fun e w' ⟨he, hu⟩ => ⟨he, hu.below⟩

set_option maxHeartbeats 3200000 in
set_option maxRecDepth 100000 in
theorem lifted (os : Os) (started : os.Started) (H : Type) (enc : TypeId × Value → H) :
    ReturnsInHanded {} Tryz.checked os 8 .any (fun w args => (Rows.ratFieldSpec.pre enc Tryz.prog Tryz.f8 [] false w args ∧ laidMetH Tryz.prog laid3 w) ∧ sizedMet enc Tryz.prog Tryz.f8 (OpenSpec.ofChange Rows.ratFieldSpec) false w args)
      (Rows.ratFieldSpec.post enc Tryz.prog Tryz.f8 false true false false) := by
  refine returnsInHanded_of_change_and (C := Tryz.checked) (X := fun w _ => laidMetH Tryz.prog laid3 w) (fun _ _ _ hh h => h.of_heap hh) own started (by kernel_rfl) Tryz.func8
    (ChangeSpec.witness_shaped (enc := enc) (C := Tryz.checked) (os := os) (X := fun w _ => laidMetH Tryz.prog laid3 w) false (World.doorLaid Tryz.prog 400 os) #[.agg #[.slice none 0 0, .slice none 0 0, .bool false], .agg #[.slice none 0 0, .slice none 0 0, .bool false], .agg #[.slice none 0 0, .slice none 0 0, .bool false]] 8 rfl (World.shaped_of_RefB (by kernel_rfl) (by kernel_rfl)) (by kernel_rfl) (by kernel_rfl) (by kernel_rfl) (door_met os _)) ?_
  intro W base args ds gs before hval0 hW _ _ hL _
  have hval : ∀ (j : Nat) t v, Tryz.f8.params[j]? = some t → args[j]? = some v → Value.okWide Tryz.prog W .any base t v := hval0
  have hW' := hW
  obtain ⟨p, q, hA0, hV, rfl, hfz, hnd⟩ := hW
  have hA : DataW.TrodAll enc Tryz.prog W 0 (fun _ => true) true Tryz.f8.params.toList args.toList ds p := hA0
  rw [Tryz.params8] at hA hval
  obtain ⟨v0, vs0, d0, ds0, p0, q0, hargs, rfl, rfl, h0, r0⟩ := trodAll_cons hA
  obtain ⟨v1, vs1, d1, ds1, p1, q1, rfl, rfl, rfl, h1, r1⟩ := trodAll_cons r0
  obtain ⟨v2, vs2, d2, ds2, p2, q2, rfl, rfl, rfl, h2, r2⟩ := trodAll_cons r1
  obtain ⟨rfl, rfl, rfl⟩ := trodAll_nil r2
  obtain rfl : args = #[v0, v1, v2] := by cases args; simp_all
  obtain ⟨rfl, rfl⟩ := trodVars_none hV
  have k0 := h0
  have lt0 : ∀ x ∈ p0, x.block < W.heap.size := by obtain ⟨m, hm⟩ := k0; exact DataW.trod_lt m _ _ _ hm
  obtain ⟨fa0, fb0, fq0, rfl, ⟨fua0, ya0, hfa0⟩, ⟨fub0, yb0, hfb0⟩⟩ := Tm.open_draw3 Tryz.underlying51 rfl rfl rfl Tryz.underlying4 (by kernel_rfl) (by kernel_rfl) (by kernel_rfl) (by kernel_rfl) (hval 0 51 v0 rfl rfl) h0
  obtain ⟨aa0, lena0, capa0, za0, rfl, wa0⟩ : ∃ (sa : Option Addr) (sl sc : Nat) (zs : List Int), fa0 = .slice sa sl sc ∧ zs.length = sl ∧ sl ≤ maxLen ∧ Tm.Sl W (.slice sa sl sc) (zs.map (Value.int .u64)) ∧ ∀ n ∈ zs, (Lit.int .u64 n).wf = true := by
    rcases open_ints Tryz.underlying22 Tryz.underlying64 (by kernel_rfl) hfa0 with ⟨hcs, _⟩ | ⟨x, l, c, zs, hcs, _, hl, hm, hz, _, hcell, hwz⟩
    · simp only [List.cons.injEq, and_true] at hcs
      subst hcs
      obtain ⟨ys, hh⟩ := Tm.sl_of_isrow (k := .u64) (w := W) (a := none) (len := 0) (cap := 0) (zs := []) (.inl ⟨rfl, rfl, rfl, rfl⟩)
      exact ⟨none, 0, 0, ys, rfl, hh⟩
    · simp only [List.cons.injEq, and_true] at hcs
      subst hcs
      obtain ⟨ys, hh⟩ := Tm.sl_of_isrow (k := .u64) (w := W) (a := some x) (len := l) (cap := c) (zs := zs) (.inr ⟨_, rfl, hl, hm, by simpa using hz, hcell, hwz⟩)
      exact ⟨some x, l, c, ys, rfl, hh⟩
  obtain ⟨ab0, lenb0, capb0, zb0, rfl, wb0⟩ : ∃ (sa : Option Addr) (sl sc : Nat) (zs : List Int), fb0 = .slice sa sl sc ∧ zs.length = sl ∧ sl ≤ maxLen ∧ Tm.Sl W (.slice sa sl sc) (zs.map (Value.int .u64)) ∧ ∀ n ∈ zs, (Lit.int .u64 n).wf = true := by
    rcases open_ints Tryz.underlying22 Tryz.underlying64 (by kernel_rfl) hfb0 with ⟨hcs, _⟩ | ⟨x, l, c, zs, hcs, _, hl, hm, hz, _, hcell, hwz⟩
    · simp only [List.cons.injEq, and_true] at hcs
      subst hcs
      obtain ⟨ys, hh⟩ := Tm.sl_of_isrow (k := .u64) (w := W) (a := none) (len := 0) (cap := 0) (zs := []) (.inl ⟨rfl, rfl, rfl, rfl⟩)
      exact ⟨none, 0, 0, ys, rfl, hh⟩
    · simp only [List.cons.injEq, and_true] at hcs
      subst hcs
      obtain ⟨ys, hh⟩ := Tm.sl_of_isrow (k := .u64) (w := W) (a := some x) (len := l) (cap := c) (zs := zs) (.inr ⟨_, rfl, hl, hm, by simpa using hz, hcell, hwz⟩)
      exact ⟨some x, l, c, ys, rfl, hh⟩
  have w0 := And.intro wa0 wb0
  have k1 := h1
  have lt1 : ∀ x ∈ p1, x.block < W.heap.size := by obtain ⟨m, hm⟩ := k1; exact DataW.trod_lt m _ _ _ hm
  obtain ⟨fa1, fb1, fq1, rfl, ⟨fua1, ya1, hfa1⟩, ⟨fub1, yb1, hfb1⟩⟩ := Tm.open_draw3 Tryz.underlying51 rfl rfl rfl Tryz.underlying4 (by kernel_rfl) (by kernel_rfl) (by kernel_rfl) (by kernel_rfl) (hval 1 51 v1 rfl rfl) h1
  obtain ⟨aa1, lena1, capa1, za1, rfl, wa1⟩ : ∃ (sa : Option Addr) (sl sc : Nat) (zs : List Int), fa1 = .slice sa sl sc ∧ zs.length = sl ∧ sl ≤ maxLen ∧ Tm.Sl W (.slice sa sl sc) (zs.map (Value.int .u64)) ∧ ∀ n ∈ zs, (Lit.int .u64 n).wf = true := by
    rcases open_ints Tryz.underlying22 Tryz.underlying64 (by kernel_rfl) hfa1 with ⟨hcs, _⟩ | ⟨x, l, c, zs, hcs, _, hl, hm, hz, _, hcell, hwz⟩
    · simp only [List.cons.injEq, and_true] at hcs
      subst hcs
      obtain ⟨ys, hh⟩ := Tm.sl_of_isrow (k := .u64) (w := W) (a := none) (len := 0) (cap := 0) (zs := []) (.inl ⟨rfl, rfl, rfl, rfl⟩)
      exact ⟨none, 0, 0, ys, rfl, hh⟩
    · simp only [List.cons.injEq, and_true] at hcs
      subst hcs
      obtain ⟨ys, hh⟩ := Tm.sl_of_isrow (k := .u64) (w := W) (a := some x) (len := l) (cap := c) (zs := zs) (.inr ⟨_, rfl, hl, hm, by simpa using hz, hcell, hwz⟩)
      exact ⟨some x, l, c, ys, rfl, hh⟩
  obtain ⟨ab1, lenb1, capb1, zb1, rfl, wb1⟩ : ∃ (sa : Option Addr) (sl sc : Nat) (zs : List Int), fb1 = .slice sa sl sc ∧ zs.length = sl ∧ sl ≤ maxLen ∧ Tm.Sl W (.slice sa sl sc) (zs.map (Value.int .u64)) ∧ ∀ n ∈ zs, (Lit.int .u64 n).wf = true := by
    rcases open_ints Tryz.underlying22 Tryz.underlying64 (by kernel_rfl) hfb1 with ⟨hcs, _⟩ | ⟨x, l, c, zs, hcs, _, hl, hm, hz, _, hcell, hwz⟩
    · simp only [List.cons.injEq, and_true] at hcs
      subst hcs
      obtain ⟨ys, hh⟩ := Tm.sl_of_isrow (k := .u64) (w := W) (a := none) (len := 0) (cap := 0) (zs := []) (.inl ⟨rfl, rfl, rfl, rfl⟩)
      exact ⟨none, 0, 0, ys, rfl, hh⟩
    · simp only [List.cons.injEq, and_true] at hcs
      subst hcs
      obtain ⟨ys, hh⟩ := Tm.sl_of_isrow (k := .u64) (w := W) (a := some x) (len := l) (cap := c) (zs := zs) (.inr ⟨_, rfl, hl, hm, by simpa using hz, hcell, hwz⟩)
      exact ⟨some x, l, c, ys, rfl, hh⟩
  have w1 := And.intro wa1 wb1
  have k2 := h2
  have lt2 : ∀ x ∈ p2, x.block < W.heap.size := by obtain ⟨m, hm⟩ := k2; exact DataW.trod_lt m _ _ _ hm
  obtain ⟨fa2, fb2, fq2, rfl, ⟨fua2, ya2, hfa2⟩, ⟨fub2, yb2, hfb2⟩⟩ := Tm.open_draw3 Tryz.underlying51 rfl rfl rfl Tryz.underlying4 (by kernel_rfl) (by kernel_rfl) (by kernel_rfl) (by kernel_rfl) (hval 2 51 v2 rfl rfl) h2
  obtain ⟨aa2, lena2, capa2, za2, rfl, wa2⟩ : ∃ (sa : Option Addr) (sl sc : Nat) (zs : List Int), fa2 = .slice sa sl sc ∧ zs.length = sl ∧ sl ≤ maxLen ∧ Tm.Sl W (.slice sa sl sc) (zs.map (Value.int .u64)) ∧ ∀ n ∈ zs, (Lit.int .u64 n).wf = true := by
    rcases open_ints Tryz.underlying22 Tryz.underlying64 (by kernel_rfl) hfa2 with ⟨hcs, _⟩ | ⟨x, l, c, zs, hcs, _, hl, hm, hz, _, hcell, hwz⟩
    · simp only [List.cons.injEq, and_true] at hcs
      subst hcs
      obtain ⟨ys, hh⟩ := Tm.sl_of_isrow (k := .u64) (w := W) (a := none) (len := 0) (cap := 0) (zs := []) (.inl ⟨rfl, rfl, rfl, rfl⟩)
      exact ⟨none, 0, 0, ys, rfl, hh⟩
    · simp only [List.cons.injEq, and_true] at hcs
      subst hcs
      obtain ⟨ys, hh⟩ := Tm.sl_of_isrow (k := .u64) (w := W) (a := some x) (len := l) (cap := c) (zs := zs) (.inr ⟨_, rfl, hl, hm, by simpa using hz, hcell, hwz⟩)
      exact ⟨some x, l, c, ys, rfl, hh⟩
  obtain ⟨ab2, lenb2, capb2, zb2, rfl, wb2⟩ : ∃ (sa : Option Addr) (sl sc : Nat) (zs : List Int), fb2 = .slice sa sl sc ∧ zs.length = sl ∧ sl ≤ maxLen ∧ Tm.Sl W (.slice sa sl sc) (zs.map (Value.int .u64)) ∧ ∀ n ∈ zs, (Lit.int .u64 n).wf = true := by
    rcases open_ints Tryz.underlying22 Tryz.underlying64 (by kernel_rfl) hfb2 with ⟨hcs, _⟩ | ⟨x, l, c, zs, hcs, _, hl, hm, hz, _, hcell, hwz⟩
    · simp only [List.cons.injEq, and_true] at hcs
      subst hcs
      obtain ⟨ys, hh⟩ := Tm.sl_of_isrow (k := .u64) (w := W) (a := none) (len := 0) (cap := 0) (zs := []) (.inl ⟨rfl, rfl, rfl, rfl⟩)
      exact ⟨none, 0, 0, ys, rfl, hh⟩
    · simp only [List.cons.injEq, and_true] at hcs
      subst hcs
      obtain ⟨ys, hh⟩ := Tm.sl_of_isrow (k := .u64) (w := W) (a := some x) (len := l) (cap := c) (zs := zs) (.inr ⟨_, rfl, hl, hm, by simpa using hz, hcell, hwz⟩)
      exact ⟨some x, l, c, ys, rfl, hh⟩
  have w2 := And.intro wa2 wb2
  clear hA0 hval0
  refine (walk aa0 lena0 capa0 za0 ab0 lenb0 capb0 zb0 fq0 aa1 lena1 capa1 za1 ab1 lenb1 capb1 zb1 fq1 aa2 lena2 capa2 za2 ab2 lenb2 capb2 zb2 fq2 W (tab_of_laid hL) w0 w1 w2).mono fun e W' ⟨he, bel⟩ => ?_
  subst he
  exact ⟨_, rfl, _, _, _, [], _, [], hW', trodAll_mk1 (shut_bool Tryz.underlying4 _), (trodAll_cons_mk (Below.trod laidOut (by kernel_rfl) (of_decide_eq_true (by kernel_rfl)) k0 bel lt0) (trodAll_cons_mk (Below.trod laidOut (by kernel_rfl) (of_decide_eq_true (by kernel_rfl)) k1 bel lt1) (trodAll_cons_mk (Below.trod laidOut (by kernel_rfl) (of_decide_eq_true (by kernel_rfl)) k2 bel lt2) trodAll_mk0))), rfl, bel.frame _, fun h => by cases h⟩

theorem over : Rows.ratFieldRow.holds Tryz.pinned (OpenSpec.ofChange Rows.ratFieldSpec) :=
  OpenClaim.holds_of_wide 8 Tryz.f8 rfl rfl rfl rfl rfl rfl rfl ⟨rfl, rfl, rfl, rfl, rfl⟩ rfl rfl rfl rfl rfl (by kernel_rfl) Tryz.func8 (by kernel_rfl)
    (of_decide_eq_true (by kernel_rfl)) (by unfold Func.isWrapper; first | (rw [if_pos (by decide +kernel)]; kernel_rfl) | (rw [if_neg (by decide +kernel)]; exact ⟨rfl, rfl⟩))
    (fun os started H enc _ => lifted os started H enc)

theorem proved : Rows.RatFieldCardSaid :=
  Claim7.holds_tied_plain_at .later [] [.data, .data, .data] true (true, "92ef8b27d399cdbe00c8475594fa28e0277c63baa639b11894003ef8d49d01e1") true
    over (fun _ h => by cases h) (by kernel_rfl) (fun _ h => by cases h) ratField_row_tie rfl ⟨rfl, rfl⟩ (by kernel_rfl) rfl
    (fun f fn hf hfn => by
      obtain rfl : f = 8 := Option.some.inj ((show Tryz.prog.funcNamed "tallymark/tallymarklaw07.RatField" = some 8 by kernel_rfl).symm.trans hf) |>.symm
      obtain rfl : fn = Tryz.f8 := (Option.some.inj (Tryz.func8.symm.trans hfn)).symm
      exact ⟨by kernel_rfl, fun j t ht => by
        rw [Tryz.params8] at ht
        have hm : t ∈ [51, 51, 51] := by simpa using Array.mem_of_getElem? ht
        have hall : (([51, 51, 51] : List TypeId).all fun u => !Tryz.prog.wantsStandIn u) = true := by kernel_rfl
        exact (show Tryz.prog.wantsStandIn t = false by simpa using List.all_eq_true.1 hall t hm)⟩)
    (by kernel_rfl)
end Go.Proofs.YtoklmfmoblkfcaaGreatDoor.ratField
