/- The fixed fact of layer 11's law; the function values that its Tree is given. -/
import Derived.Test.YtcehkflkekefpaaDrawBel
import Derived.Test.YtcehkflkekefpaaDrawBin
import Derived.Test.YtcehkflkekefpaaDTreeA
import Derived.Test.YtcehkflkekefpaaTapeFew
namespace Go.Proofs.Ytcehkflkekefpaa
open Go.RowKit Go.Proofs.Tm
set_option linter.unusedVariables false
set_option maxRecDepth 20000

/-- What an asker leaves. -/
def AskPostN (o : CameN) (p : Nat) (w : World) (e : Ending) (w' : World) : Prop :=
  e = .returned (.tuple #[.int .i64 (o.1 : Int), .int .i64 (if o.2.2 then 8 else 0)]) ∧ Upd [p] w w'

set_option maxHeartbeats 800000 in
theorem ask_below (w0 : World) (bk n : Nat) (hk : w0.cell? ⟨bk, 0, none⟩ = some (.int .i64 (n : Int))) (hn : 1 ≤ n) (hn2 : n ≤ 16) : AsksN w0 8 #[.pointer (some ⟨bk, 0, none⟩)] (belowF n (Lib.bitLen (n - 1))) := by
  intro w p g l hu hp hl ht
  have e1 : (#[Value.pointer (some ⟨p, 0, none⟩)] ++ #[Value.pointer (some ⟨bk, 0, none⟩)] : Array Value) = #[.pointer (some ⟨p, 0, none⟩), .pointer (some ⟨bk, 0, none⟩)] := rfl
  rw [e1]
  show Calls _ _ _ w (AskPostN (belowF n (Lib.bitLen (n - 1)) l) p w)
  have k0 := (hu.cell (p := ⟨bk, 0, none⟩) (World.block_lt_of_cell? w0 _ hk) (by simp)).trans hk
  have HH := tbel_any p g l 0 n false w ht hn (by omega)
  have HF := Lib.hid HH
  have hw1 : IntKind.u64.wrap (n : Int) = (n : Int) := by rw [IntKind.wrap_u64]; omega
  have HLT : Hid ((belowF n (Lib.bitLen (n - 1)) l).1 < n) := belowF_lt (by omega) _ _
  clear e1 hu hp hl ht hk HH
  go_enter Try.func8, Try.ntmps8
  go_wp2_with fail
  refine HF.out.mono ?_
  intro e w4 hpo
  obtain ⟨x, t, d, hF, rfl, ht4, hu4⟩ := hpo.out
  rw [List.drop_zero] at hF
  have hx := HLT.out
  rw [hF] at hx
  simp only at hx
  have hw2 : IntKind.i64.wrap (x : Int) = (x : Int) := IntWalk.i64_in _ (by omega)
  have HFH := Lib.hid hF
  obtain ⟨f, hf⟩ : ∃ f : Int, f = (if d then 8 else 0) := ⟨_, rfl⟩
  rw [← hf]
  have HEQ := Lib.hid hf
  have HU4 := Lib.hid hu4
  clear hpo hF ht4 hu4 hf
  go_wp2
  go_ret2
  refine ⟨?_, HU4.out⟩
  rw [HFH.out]
  show _ = Ending.returned (.tuple #[.int .i64 (x : Int), .int .i64 (if d = true then 8 else 0)])
  rw [← HEQ.out]; rfl

set_option maxHeartbeats 800000 in
theorem ask_bin (w0 : World) (bk y : Nat) (hk : w0.cell? ⟨bk, 0, none⟩ = some (.int .i64 (y : Int))) (hy : y ≤ 1000) : AsksN w0 10 #[.pointer (some ⟨bk, 0, none⟩)] (binF y 0) := by
  intro w p g l hu hp hl ht
  have e1 : (#[Value.pointer (some ⟨p, 0, none⟩)] ++ #[Value.pointer (some ⟨bk, 0, none⟩)] : Array Value) = #[.pointer (some ⟨p, 0, none⟩), .pointer (some ⟨bk, 0, none⟩)] := rfl
  rw [e1]
  show Calls _ _ _ w (AskPostN (binF y 0 l) p w)
  have k0 := (hu.cell (p := ⟨bk, 0, none⟩) (World.block_lt_of_cell? w0 _ hk) (by simp)).trans hk
  have HH := tbin_any p g l 0 (y : Int) false w ht (by omega)
  rw [Int.toNat_natCast] at HH
  have HF := Lib.hid HH
  clear e1 hu hp hl ht hk HH
  go_enter Try.func10, Try.ntmps10
  go_wp2_with fail
  refine HF.out.mono ?_
  intro e w4 hpo
  obtain ⟨x, t, d, hF, rfl, ht4, hu4⟩ := hpo.out
  rw [List.drop_zero] at hF
  have HFH := Lib.hid hF
  obtain ⟨f, hf⟩ : ∃ f : Int, f = (if d then 8 else 0) := ⟨_, rfl⟩
  rw [← hf]
  have HEQ := Lib.hid hf
  have HU4 := Lib.hid hu4
  clear hpo hF ht4 hu4 hf
  go_wp2
  go_ret2
  refine ⟨?_, HU4.out⟩
  rw [HFH.out]
  show _ = Ending.returned (.tuple #[.int .i64 (x : Int), .int .i64 (if d = true then 8 else 0)])
  rw [← HEQ.out]; rfl

set_option maxHeartbeats 800000 in
theorem awake11 (w : World) : Calls Try.prog 6 #[] w fun e w' => e = .returned (.bool true) ∧ Upd [] w w' := by
  have HNEW : Hid (∀ W : World, Calls Try.prog 14 #[.slice (some ⟨W.heap.size, 0, none⟩) 4 4] (W.alloc (.cells #[.bool true, .bool true, .bool false, .bool true] 4)) (TNew [true, true, false, true] (W.alloc (.cells #[.bool true, .bool true, .bool false, .bool true] 4)))) := fun W => tnew_any _ [true, true, false, true] _ (lit_sl W [true, true, false, true] 4 (by simp [maxLen]))
  go_enter Try.func6, Try.ntmps6
  go_wp2_with fail
  refine (HNEW.out w).mono ?_
  rintro e w1 ⟨p, g, rfl, ht, hu, hp, hg⟩
  have hps : w.heap.size ≤ p := by have := hp; simp at this; omega
  have HB := Lib.hid (tbel_any p g [true, true, false, true] 0 3 false w1 ht (by decide) (by decide))
  have HU := Lib.hid (((Upd.refl [] w).alloc _).trans0 hu)
  clear ht hu hp hg
  go_wp2_with fail
  refine HB.out.mono ?_
  intro e w4 hpo
  obtain ⟨x, t, d, hF, rfl, ht4, hu4⟩ := hpo.out
  have hF2 : belowF 3 (Lib.bitLen (3 - 1)) (List.drop 0 [true, true, false, true]) = (1, 4, false) := by decide
  rw [hF2] at hF
  simp only [Prod.mk.injEq] at hF
  obtain ⟨rfl, rfl, rfl⟩ := hF
  have HU4 : Hid (Upd [] w w4) := HU.out.trans hu4 (by intro x hx; simp at hx; subst hx; exact .inr hps)
  have HR := Lib.hid (tread_any p g _ _ _ w4 ht4)
  clear hpo ht4 hu4 hF2
  simp only [Bool.false_eq_true, if_false]
  go_wp2_with fail
  refine HR.out.mono ?_
  rintro e w5 ⟨rfl, rfl⟩
  go_wp2
  go_ret
  exact ⟨rfl, HU4.out⟩
end Go.Proofs.Ytcehkflkekefpaa
