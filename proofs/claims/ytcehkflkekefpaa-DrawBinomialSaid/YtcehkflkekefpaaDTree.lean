/- The contract of Tree (layer 11's law): all tapes that bring something to an answer, gone through; the weight of each answer. -/
import Derived.Test.YtcehkflkekefpaaTreeB
import Derived.Test.YtcehkflkekefpaaTapeN
import Derived.Test.YtcehkflkekefpaaDrawMath
import Derived.Test.YtcehkflkekefpaaBox1
import Derived.BigRegion
import Derived.Deep.RegionHeld3
import Derived.Shelf.Abstract
namespace Go.Proofs.Ytcehkflkekefpaa
open Go.RowKit Go.Proofs.Tm Go.Shelf
set_option linter.unusedVariables false
set_option maxRecDepth 20000

/-- 64 weights, as cells. -/
def arrC (A : Nat → Nat) : Array Value := ((List.range 64).map fun i => Value.int .i64 (A i : Int)).toArray
theorem arrC_at (A : Nat → Nat) (i : Nat) (h : i < 64) : (arrC A)[i]? = some (.int .i64 (A i : Int)) := by
  simp [arrC, h]
theorem arrC_set (A : Nat → Nat) (i z : Nat) : (arrC A).setIfInBounds i (.int .i64 (z : Int)) = arrC (fun j => if j = i then z else A j) := by
  unfold arrC
  rw [List.setIfInBounds_toArray]
  congr 1
  apply List.ext_getElem?
  intro j
  rw [List.getElem?_set]
  by_cases hj : j < 64
  · by_cases h : i = j
    · subst h; simp [hj]
    · have h2 : ¬ j = i := fun e => h e.symm
      simp [hj, h, h2]
  · by_cases h : i = j
    · subst h; simp [hj]
    · simp [hj, h]

/-- The blocks of Tree's variables: what is asked, how many coins at most, the walk itself, the weights, what isn't done. -/
structure DEnv (w0 : World) (kf : Nat) (cap : Array Value) (ba bm bw bo br most : Nat) (A : Nat → Nat) (o : Nat) (W : World) : Prop where
  ask : W.cell? ⟨ba, 0, none⟩ = some (.func (.func kf) #[] cap)
  most : W.cell? ⟨bm, 0, none⟩ = some (.int .i64 (most : Int))
  walk : W.cell? ⟨bw, 0, none⟩ = some (.func (.func 16) #[] #[.pointer (some ⟨ba, 0, none⟩), .pointer (some ⟨bm, 0, none⟩), .pointer (some ⟨bw, 0, none⟩), .pointer (some ⟨bo, 0, none⟩), .pointer (some ⟨br, 0, none⟩)])
  arr : W.heap[br]? = some (.cells (arrC A) 23 (0, 0))
  opn : W.heap[bo]? = some (.cells #[.int .i64 (o : Int)] 3 (0, 0))
  upd : Upd [] w0 W

theorem DEnv.upd0 {w0 : World} {kf : Nat} {cap : Array Value} {ba bm bw bo br most : Nat} {A : Nat → Nat} {o : Nat} {W W' : World} (h : DEnv w0 kf cap ba bm bw bo br most A o W) (u : Upd [] W W') : DEnv w0 kf cap ba bm bw bo br most A o W' :=
  ⟨(u.cell (p := ⟨ba, 0, none⟩) (World.block_lt_of_cell? W _ h.ask) (by simp)).trans h.ask, (u.cell (p := ⟨bm, 0, none⟩) (World.block_lt_of_cell? W _ h.most) (by simp)).trans h.most, (u.cell (p := ⟨bw, 0, none⟩) (World.block_lt_of_cell? W _ h.walk) (by simp)).trans h.walk,
    (u.block _ (lt_of_block h.arr) (by simp)).trans h.arr, (u.block _ (lt_of_block h.opn) (by simp)).trans h.opn, h.upd.trans0 u⟩

theorem sl_snoc {w : World} {v : Value} {l : List Bool} {c : Bool} (h : Sl w v (cb l ++ [.bool c])) : Hid (Sl w v (cb (l ++ [c]))) := by
  show Sl _ _ _
  rw [cb_append]
  exact h

/-- Where Tree's blocks lie. -/
structure DLie (w0 : World) (ba bm bw bo br : Nat) : Prop where
  new : w0.heap.size ≤ bo ∧ w0.heap.size ≤ br
  diff : br ≠ bo
  d2 : ba ≠ br ∧ ba ≠ bo ∧ bm ≠ br ∧ bm ≠ bo ∧ bw ≠ br ∧ bw ≠ bo

section
variable {w0 : World} {kf : Nat} {cap : Array Value} {ba bm bw bo br most : Nat} {A : Nat → Nat} {o : Nat} {W : World}
theorem DEnv.setA (h : DEnv w0 kf cap ba bm bw bo br most A o W) (hl : DLie w0 ba bm bw bo br) (i z : Nat) : DEnv w0 kf cap ba bm bw bo br most (fun j => if j = i then z else A j) o (W.setCell ⟨br, i, none⟩ (.int .i64 (z : Int))) := by
  obtain ⟨h1, h2, h5⟩ := hl
  have u : Upd [br] W (W.setCell ⟨br, i, none⟩ (.int .i64 (z : Int))) := (Upd.refl _ _).setCell (.inl (by simp)) _
  exact ⟨(u.cell (p := ⟨ba, 0, none⟩) (World.block_lt_of_cell? W _ h.ask) (by simp; omega)).trans h.ask, (u.cell (p := ⟨bm, 0, none⟩) (World.block_lt_of_cell? W _ h.most) (by simp; omega)).trans h.most, (u.cell (p := ⟨bw, 0, none⟩) (World.block_lt_of_cell? W _ h.walk) (by simp; omega)).trans h.walk,
    by rw [heap_setCell_same W br i _ _ _ h.arr, arrC_set], (u.block _ (lt_of_block h.opn) (by simp; omega)).trans h.opn, h.upd.trans u (by intro x hx; simp at hx; subst hx; exact .inr h1.2)⟩
theorem DEnv.setO (h : DEnv w0 kf cap ba bm bw bo br most A o W) (hl : DLie w0 ba bm bw bo br) (z : Nat) : DEnv w0 kf cap ba bm bw bo br most A z (W.setCell ⟨bo, 0, none⟩ (.int .i64 (z : Int))) := by
  obtain ⟨h1, h2, h5⟩ := hl
  have u : Upd [bo] W (W.setCell ⟨bo, 0, none⟩ (.int .i64 (z : Int))) := (Upd.refl _ _).setCell (.inl (by simp)) _
  exact ⟨(u.cell (p := ⟨ba, 0, none⟩) (World.block_lt_of_cell? W _ h.ask) (by simp; omega)).trans h.ask, (u.cell (p := ⟨bm, 0, none⟩) (World.block_lt_of_cell? W _ h.most) (by simp; omega)).trans h.most, (u.cell (p := ⟨bw, 0, none⟩) (World.block_lt_of_cell? W _ h.walk) (by simp; omega)).trans h.walk,
    (u.block _ (lt_of_block h.arr) (by simp; omega)).trans h.arr, one_setCell h.opn, h.upd.trans u (by intro x hx; simp at hx; subst hx; exact .inr h1.1)⟩
end

/-- What Tree asks: what coins come to, by F. -/
def AsksN (w0 : World) (kf : Nat) (cap : Array Value) (F : List Bool → CameN) : Prop :=
  ∀ W p g l, Upd [] w0 W → w0.heap.size ≤ p → l.length ≤ 20 → Tp W p g l 0 false → Calls Try.prog kf (#[.pointer (some ⟨p, 0, none⟩)] ++ cap) W fun e w' => e = .returned (.tuple #[.int .i64 ((F l).1 : Int), .int .i64 (if (F l).2.2 then 8 else 0)]) ∧ Upd [p] W w'

/-- What the walk leaves. -/
def DPost (w0 : World) (kf : Nat) (cap : Array Value) (ba bm bw bo br most : Nat) (A : Nat → Nat) (o n : Nat) (F : List Bool → CameN) (W : World) (e : Ending) (w' : World) : Prop :=
  e = .returned (.tuple #[]) ∧ DEnv w0 kf cap ba bm bw bo br most (fun i => A i + cntN i n F) (o + opnN n F) w' ∧ Upd [br, bo] W w'

section
variable (w0 : World) (kf : Nat) (cap : Array Value) (F : List Bool → CameN) (ba bm bw bo br most : Nat)

set_option maxHeartbeats 1600000 in
/-- Where it is done. -/
theorem dwalk_done (hmost : most ≤ 20) (hlie : DLie w0 ba bm bw bo br) (eg : ∀ args W, (callFunc kf args).run Try.prog W = .ok (.enter kf args) W) (hask : AsksN w0 kf cap F) (hF64 : ∀ l, (F l).1 < 64)
    (n : Nat) (v : Value) (l : List Bool) (A : Nat → Nat) (o : Nat) (W : World) (hln : l.length + n = most) (hs : Sl W v (cb l)) (henv : DEnv w0 kf cap ba bm bw bo br most A o W) (hA : ∀ i, A i + 2 ^ n ≤ 4611686018427387904) (hd : (F l).2.2 = false ∨ ((F l).2.2 = true ∧ n = 0 ∧ o + 1 ≤ 4611686018427387904)) :
    Calls Try.prog 16 #[v, .pointer (some ⟨ba, 0, none⟩), .pointer (some ⟨bm, 0, none⟩), .pointer (some ⟨bw, 0, none⟩), .pointer (some ⟨bo, 0, none⟩), .pointer (some ⟨br, 0, none⟩)] W
      (DPost w0 kf cap ba bm bw bo br most A o n (fun m => F (l ++ m)) W) := by
  have HNEW := tnew_any v l W hs
  rw [List.take_of_length_le (by omega)] at HNEW
  have HN := Lib.hid HNEW
  have HE := Lib.hid henv
  have HLIE := Lib.hid hlie
  have HASK : Hid (AsksN w0 kf cap F) := hask
  obtain ⟨a, cp, rfl, hlc, _, _⟩ := hs
  rw [cb_length] at HN hlc ⊢
  have HL : Hid (l.length ≤ 20) := by show _ ≤ _; omega
  have hF0 : F (l ++ []) = F l := by rw [List.append_nil]
  obtain ⟨X, hX⟩ : ∃ X, X = F l := ⟨_, rfl⟩
  have h64 : X.1 < 64 := by rw [hX]; exact hF64 l
  have HTT : Hid (if X.2.2 then (∀ i, cntN i n (fun m => F (l ++ m)) = 0) ∧ opnN n (fun m => F (l ++ m)) = 1 else (∀ i, cntN i n (fun m => F (l ++ m)) = if X.1 = i then 2 ^ n else 0) ∧ opnN n (fun m => F (l ++ m)) = 0) := by
    show if X.2.2 then _ else _
    rcases hd with h | ⟨h, rfl, _⟩
    · rw [hX, h, if_neg (by simp)]
      exact ⟨fun i => by rw [cntN_done _ _ _ (by rw [hF0]; exact h), hF0], opnN_done _ _ (by rw [hF0]; exact h)⟩
    · rw [hX, h, if_pos rfl]
      exact ⟨fun i => cntN_zero _ _ (by rw [hF0]; exact h), opnN_zero _ (by rw [hF0]; exact h)⟩
  obtain ⟨ll, hll⟩ : ∃ k, k = l.length := ⟨_, rfl⟩
  rw [← hll] at hlc HN ⊢
  have hlm : IntKind.i64.wrap ((most : Int) - (ll : Int)) = (n : Int) := by rw [IntWalk.i64_in _ (by omega)]; omega
  have hn20 : n ≤ 20 := by omega
  have hsh : IntKind.i64.wrap ((2 : Int) ^ n) = ((2 ^ n : Nat) : Int) := by
    have h1 : 2 ^ n ≤ 1048576 := Nat.le_trans (Nat.pow_le_pow_right (by decide) hn20) (by decide)
    have h2 : (2 : Int) ^ n = ((2 ^ n : Nat) : Int) := by simp
    rw [h2]
    generalize 2 ^ n = X at *
    rw [IntWalk.i64_in _ (by omega)]
  rw [← hX] at hd
  have HX := Lib.hid hX
  have hltd : X.2.2 = true → decide (ll < most) = false := by intro h; rcases hd with h' | ⟨_, h', _⟩; simp [h'] at h; simp; omega
  have hod : X.2.2 = true → o + 1 ≤ 4611686018427387904 := by intro h; rcases hd with h' | ⟨_, _, h'⟩; simp [h'] at h; exact h'
  have hn0 : X.2.2 = true → n = 0 := by intro h; rcases hd with h' | ⟨_, h', _⟩; simp [h'] at h; exact h'
  have HA := Lib.hid hA
  clear henv HNEW hll hln hlie hmost hX hask hF0 hd hF64 hA
  go_enter Try.func16, Try.ntmps16
  go_wp2_with fail
  refine HN.out.mono ?_
  rintro e w1 ⟨p, g, rfl, ht, hu1, hp, hg⟩
  have HE1 := Lib.hid (HE.out.upd0 hu1)
  have hask := HASK.out w1 p g l HE1.out.upd (Nat.le_trans HE.out.upd.size hp) HL.out ht
  rw [← HX.out] at hask
  have HAK := Lib.hid hask
  have k1 := HE1.out.ask
  have HU1 := Lib.hid hu1
  have HP := Lib.hid hp
  clear ht hu1 hg hask hp
  go_wp2_with fail
  refine HAK.out.mono ?_
  rintro e w2 ⟨rfl, hu2⟩
  have HU2 : Hid (Upd [] W w2) := HU1.out.trans hu2 (by intro x hx; simp at hx; subst hx; exact .inr HP.out)
  have HE2 := Lib.hid (HE.out.upd0 HU2.out)
  have m2 := HE2.out.most
  have o2 : w2.cell? ⟨bo, 0, none⟩ = some (.int .i64 (o : Int)) := by rw [cell_of_row w2 _ 0 _ _ _ HE2.out.opn]; rfl
  have fo : w2.frozen? ⟨bo, 0, none⟩ = false := frozen_of_row w2 _ 0 _ _ HE2.out.opn
  clear hu2 k1 HAK
  obtain ⟨x, kk, d⟩ := X
  cases d with
  | true =>
    have hlt := hltd rfl
    have hn0' := hn0 rfl
    have hoo := hod rfl
    have hw : IntKind.i64.wrap ((o : Int) + ((2 ^ n : Nat) : Int)) = ((o + 1 : Nat) : Int) := by rw [hn0', IntWalk.i64_in _ (by omega)]; omega
    clear hltd hod hn0 hn0'
    obtain ⟨wt, hwt⟩ : ∃ k, k = 2 ^ n := ⟨_, rfl⟩
    rw [← hwt] at hsh hw
    clear hwt
    simp only [if_true]
    go_wp2_with fail
    go_end0
    refine ⟨rfl, ?_, (HU2.out.mono (by simp)).setCell (.inl (by simp)) _⟩
    obtain ⟨q1, q2⟩ := HTT.out
    rw [q2]
    simp only [q1, Nat.add_zero]
    exact HE2.out.setO HLIE.out (o + 1)
  | false =>
    simp only [Bool.false_eq_true, if_false]
    simp only at h64
    obtain ⟨z, hz⟩ : ∃ z, z = A x := ⟨_, rfl⟩
    have r2 : w2.cell? ⟨br, x, none⟩ = some (.int .i64 (z : Int)) := by rw [cell_of_row w2 _ x _ _ _ HE2.out.arr, arrC_at _ _ h64, hz]
    have fr : w2.frozen? ⟨br, x, none⟩ = false := frozen_of_row w2 _ x _ _ HE2.out.arr
    obtain ⟨wt, hwt⟩ : ∃ k, k = 2 ^ n := ⟨_, rfl⟩
    have hA2 := HA.out x
    rw [← hz] at hA2
    rw [← hwt] at hsh hA2
    have HWT := Lib.hid hwt
    have HZ := Lib.hid hz
    have hw : IntKind.i64.wrap ((z : Int) + (wt : Int)) = ((z + wt : Nat) : Int) := by rw [IntWalk.i64_in _ (by omega)]; omega
    have hx64 : (x : Int) < 64 := by omega
    clear hltd hod hn0 hwt hz hA2
    go_wp2_with fail
    go_end0
    have e1 : ((z : Int) + (wt : Int)) = ((z + wt : Nat) : Int) := by omega
    rw [e1]
    refine ⟨rfl, ?_, (HU2.out.mono (by simp)).setCell (.inl (by simp)) _⟩
    obtain ⟨q1, q2⟩ := (show (∀ (i : Nat), (cntN i n fun m => F (l ++ m)) = if x = i then 2 ^ n else 0) ∧ (opnN n fun m => F (l ++ m)) = 0 from HTT.out)
    rw [q2]
    have e2 : (fun i => A i + cntN i n fun m => F (l ++ m)) = (fun j => if j = x then z + wt else A j) := by
      funext i
      rw [q1 i]
      by_cases h : i = x
      · subst h; rw [if_pos rfl, if_pos rfl, HZ.out, HWT.out]
      · rw [if_neg h, if_neg (fun e => h e.symm)]; rfl
    rw [e2]
    exact HE2.out.setA HLIE.out x (z + wt)

set_option maxHeartbeats 3200000 in
/-- Where more coins are wanted. -/
theorem dwalk_more (hmost : most ≤ 20) (hlie : DLie w0 ba bm bw bo br) (eg : ∀ args W, (callFunc kf args).run Try.prog W = .ok (.enter kf args) W) (hask : AsksN w0 kf cap F)
    (n : Nat) (v : Value) (l : List Bool) (A : Nat → Nat) (o : Nat) (W : World) (hln : l.length + (n + 1) = most) (hs : Sl W v (cb l)) (hv : ∀ k, l ≠ [] → v.ownBlock = some k → k ≠ bo ∧ k ≠ br) (henv : DEnv w0 kf cap ba bm bw bo br most A o W) (hd : (F l).2.2 = true)
    (hA : ∀ i, A i + 2 ^ (n + 1) ≤ 4611686018427387904) (ho : o + 2 ^ (n + 1) ≤ 4611686018427387904)
    (IH : ∀ (c : Bool) (v : Value) (A : Nat → Nat) (o : Nat) (W : World), Sl W v (cb (l ++ [c])) → (∀ k, l ++ [c] ≠ [] → v.ownBlock = some k → k ≠ bo ∧ k ≠ br) → DEnv w0 kf cap ba bm bw bo br most A o W → (∀ i, A i + 2 ^ n ≤ 4611686018427387904) → o + 2 ^ n ≤ 4611686018427387904 →
      Calls Try.prog 16 #[v, .pointer (some ⟨ba, 0, none⟩), .pointer (some ⟨bm, 0, none⟩), .pointer (some ⟨bw, 0, none⟩), .pointer (some ⟨bo, 0, none⟩), .pointer (some ⟨br, 0, none⟩)] W
        (DPost w0 kf cap ba bm bw bo br most A o n (fun m => F (l ++ c :: m)) W)) :
    Calls Try.prog 16 #[v, .pointer (some ⟨ba, 0, none⟩), .pointer (some ⟨bm, 0, none⟩), .pointer (some ⟨bw, 0, none⟩), .pointer (some ⟨bo, 0, none⟩), .pointer (some ⟨br, 0, none⟩)] W
      (DPost w0 kf cap ba bm bw bo br most A o (n + 1) (fun m => F (l ++ m)) W) := by
  have HNEW := tnew_any v l W hs
  rw [List.take_of_length_le (by omega)] at HNEW
  have HN := Lib.hid HNEW
  have HE := Lib.hid henv
  have HLIE := Lib.hid hlie
  have HASK : Hid (AsksN w0 kf cap F) := hask
  have HIH := Lib.hid IH
  have HS := Lib.hid hs
  have HV := Lib.hid hv
  have hcp63 : ∃ a cp, v = .slice a l.length cp ∧ l.length ≤ cp ∧ cp ≤ 9223372036854775807 := by
    obtain ⟨a, cp, rfl, hlc, hm, _⟩ := hs
    rw [cb_length] at hlc
    unfold maxLen at hm
    exact ⟨a, cp, by rw [cb_length], hlc, by omega⟩
  obtain ⟨a, cp, rfl, hlc, hcm⟩ := hcp63
  have HL : Hid (l.length ≤ 20) := by show _ ≤ _; omega
  obtain ⟨T0, hT0⟩ : ∃ T : Nat → Nat, T = fun i => cntN i n (fun m => F (l ++ false :: m)) := ⟨_, rfl⟩
  obtain ⟨T1, hT1⟩ : ∃ T : Nat → Nat, T = fun i => cntN i n (fun m => F (l ++ true :: m)) := ⟨_, rfl⟩
  obtain ⟨O0, hO0⟩ : ∃ T : Nat, T = opnN n (fun m => F (l ++ false :: m)) := ⟨_, rfl⟩
  obtain ⟨O1, hO1⟩ : ∃ T : Nat, T = opnN n (fun m => F (l ++ true :: m)) := ⟨_, rfl⟩
  have HT : Hid ((∀ i, cntN i (n + 1) (fun m => F (l ++ m)) = T0 i + T1 i) ∧ opnN (n + 1) (fun m => F (l ++ m)) = O0 + O1) := by
    have h9 : (F (l ++ [])).2.2 = true := by rw [List.append_nil]; exact hd
    refine ⟨fun i => ?_, ?_⟩
    · rw [cntN_succ _ _ _ h9, hT0, hT1]
    · rw [opnN_succ _ _ h9, hO0, hO1]
  have HB0 : Hid ((∀ i, T0 i ≤ 2 ^ n) ∧ O0 ≤ 2 ^ n) := by rw [hT0, hO0]; exact ⟨fun i => (cntN_le i n _).1, (cntN_le 0 n _).2⟩
  have HT0 : Hid (∀ (A : Nat → Nat) (o : Nat) (W w' : World), DEnv w0 kf cap ba bm bw bo br most (fun i => A i + cntN i n fun m => F (l ++ false :: m)) (o + opnN n fun m => F (l ++ false :: m)) w' → DEnv w0 kf cap ba bm bw bo br most (fun i => A i + T0 i) (o + O0) w') := fun A o W w' h => by rw [hT0, hO0]; exact h
  have HT1 : Hid (∀ (A : Nat → Nat) (o : Nat) (W w' : World), DEnv w0 kf cap ba bm bw bo br most (fun i => A i + cntN i n fun m => F (l ++ true :: m)) (o + opnN n fun m => F (l ++ true :: m)) w' → DEnv w0 kf cap ba bm bw bo br most (fun i => A i + T1 i) (o + O1) w') := fun A o W w' h => by rw [hT1, hO1]; exact h
  have hp2 : 2 ^ (n + 1) = 2 ^ n + 2 ^ n := by rw [Nat.pow_succ]; omega
  rw [hp2] at hA ho
  have hpn : 0 < 2 ^ n := Nat.pow_pos (by decide)
  have HBD : Hid ((∀ i, A i + 2 ^ n ≤ 4611686018427387904) ∧ o + 2 ^ n ≤ 4611686018427387904) := ⟨fun i => by have := hA i; omega, by omega⟩
  have HBD2 : Hid ((∀ i, A i + T0 i + 2 ^ n ≤ 4611686018427387904) ∧ o + O0 + 2 ^ n ≤ 4611686018427387904) := ⟨fun i => by have := hA i; have := HB0.out.1 i; omega, by have := HB0.out.2; omega⟩
  clear hpn
  obtain ⟨ll, hll⟩ : ∃ k, k = l.length := ⟨_, rfl⟩
  have HLL := Lib.hid hll
  rw [← hll] at hlc HN HS HV ⊢
  obtain ⟨N1, hN1⟩ : ∃ k, k = n + 1 := ⟨_, rfl⟩
  have hlm : IntKind.i64.wrap ((most : Int) - (ll : Int)) = (N1 : Int) := by rw [IntWalk.i64_in _ (by omega)]; omega
  have hN20 : N1 ≤ 20 := by omega
  have hlt : decide (ll < most) = true := by simp; omega
  have hl20 : ll ≤ 20 := by omega
  obtain ⟨X, hX⟩ : ∃ X, X = F l := ⟨_, rfl⟩
  rw [← hX] at hd
  have HX := Lib.hid hX
  obtain ⟨x, kk, d⟩ := X
  simp only at hd
  subst hd
  clear henv HNEW hll hln hlie hmost hX hask IH hs hv hT0 hT1 hO0 hO1 hp2 hA ho hN1
  go_enter Try.func16, Try.ntmps16
  go_wp2_with fail
  refine HN.out.mono ?_
  rintro e w1 ⟨p, g, rfl, ht, hu1, hp, hg⟩
  have HE1 := Lib.hid (HE.out.upd0 hu1)
  have hask := HASK.out w1 p g l HE1.out.upd (Nat.le_trans HE.out.upd.size hp) HL.out ht
  rw [← HX.out] at hask
  have HA := Lib.hid hask
  have k1 := HE1.out.ask
  have HU1 := Lib.hid hu1
  have HP := Lib.hid hp
  clear ht hu1 hg hask hp
  go_wp2_with fail
  refine HA.out.mono ?_
  rintro e w2 ⟨rfl, hu2⟩
  have HU2 : Hid (Upd [] W w2) := HU1.out.trans hu2 (by intro x hx; simp at hx; subst hx; exact .inr HP.out)
  have HE2 := Lib.hid (HE.out.upd0 HU2.out)
  have HS2 := Lib.hid (HS.out.upd0 HU2.out)
  have m2 := HE2.out.most
  have b2 := HE2.out.walk
  clear hu2 k1 HA
  simp only [if_true]
  have eg57 : ∀ args W, (callFunc 16 args).run Try.prog W = .ok (.enter 16 args) W := enters_of Try.func16 (by kernel_rfl) rfl
  have hrf : Upd [] w2 w2 := Upd.refl _ _
  have HK2 : Hid (∀ W', Upd [] w2 W' → W'.cell? ⟨bw, 0, none⟩ = some (.func (.func 16) #[] #[.pointer (some ⟨ba, 0, none⟩), .pointer (some ⟨bm, 0, none⟩), .pointer (some ⟨bw, 0, none⟩), .pointer (some ⟨bo, 0, none⟩), .pointer (some ⟨br, 0, none⟩)]) ∧ Upd [] w0 W') := fun W' h => ⟨(HE2.out.upd0 h).walk, (HE2.out.upd0 h).upd⟩
  go_wp2_with fail
  go_region_held3 (fun W' => W'.cell? ⟨bw, 0, none⟩ = some (.func (.func 16) #[] #[.pointer (some ⟨ba, 0, none⟩), .pointer (some ⟨bm, 0, none⟩), .pointer (some ⟨bw, 0, none⟩), .pointer (some ⟨bo, 0, none⟩), .pointer (some ⟨br, 0, none⟩)]) ∧ Upd [] w0 W')
    (first
      | exact ⟨HZ5.out.walk, HZ5.out.upd⟩
      | (refine HK2.out _ ?_; repeat (first | exact hu4 | exact hrf | apply Upd.drew | apply Upd.alloc)))
    (first
      | (go_at_call 16; refine Calls.mono (HIH.out false _ A o _ ?_ HV4.out ?_ HBD.out.1 HBD.out.2) ?_; (focus (refine HS4.out.upd0 ?_; (repeat (first | exact hrf4 | apply Upd.drew | apply Upd.alloc)); done)); (focus (refine HE2.out.upd0 ?_; (repeat (first | exact hu4 | apply Upd.drew | apply Upd.alloc)); done)); intro e w5 hz; obtain ⟨rfl, hz1, hz2⟩ := hz; have hu5 : Upd [br, bo] w2 w5 := Upd.trans (S := [br, bo]) (Upd.mono (S := []) (by repeat (first | exact hu4 | apply Upd.drew | apply Upd.alloc)) (fun _ h => nomatch h)) hz2 (fun x hx => .inl hx); have HZ5 := Lib.hid (HT0.out _ _ w2 _ hz1); have HUZ5 := Lib.hid hu5; clear hz1 hz2 hu5)
      | (refine step_append_full _ (by rfl) _ _ _ (by rfl) 4 (.bool false) 1 Try.underlying35 infoBool rfl a ll (cb l) (by rfl) ⟨cp, HS2.out.upd0 ?_⟩ _ (.bool false) (by rfl) (sl_cell ?_) rfl (by unfold maxLen; omega) (by omega) ?_; (focus ((repeat (first | exact hrf | apply Upd.drew | apply Upd.alloc)); done)); (focus (go_simp; done)); intro v4 w4 ho4 hg4; have hu4 : Upd [] w2 w4 := Upd.trans0 (by repeat (first | exact hrf | apply Upd.drew | apply Upd.alloc)) hg4; have HS4 := sl_snoc (Sl.own ho4); have HV4 : Hid (∀ k, l ++ [false] ≠ [] → v4.ownBlock = some k → k ≠ bo ∧ k ≠ br) := (fun k _ hk => by (have h9 := (ho4.lt k hk).1; simp at h9; have b1 := lt_of_block HE2.out.opn; have b3 := lt_of_block HE2.out.arr; omega)); have hrf4 : Upd [] w4 w4 := Upd.refl _ _; clear ho4 hg4))
  have HS5 : Hid (Sl w5 (.slice a ll cp) (cb l)) := HS2.out.upd HUZ5.out (fun hne k hk => by
    have := HV.out k (by rintro rfl; simp [cb] at hne) hk
    simp; omega)
  clear hrf hu4 hrf4
  have hrf2 : Upd [] w5 w5 := Upd.refl _ _
  have HK5 : Hid (∀ W', Upd [] w5 W' → W'.cell? ⟨bw, 0, none⟩ = some (.func (.func 16) #[] #[.pointer (some ⟨ba, 0, none⟩), .pointer (some ⟨bm, 0, none⟩), .pointer (some ⟨bw, 0, none⟩), .pointer (some ⟨bo, 0, none⟩), .pointer (some ⟨br, 0, none⟩)]) ∧ Upd [] w0 W') := fun W' h => ⟨(HZ5.out.upd0 h).walk, (HZ5.out.upd0 h).upd⟩
  go_wp2_with fail
  go_region_held3 (fun W' => W'.cell? ⟨bw, 0, none⟩ = some (.func (.func 16) #[] #[.pointer (some ⟨ba, 0, none⟩), .pointer (some ⟨bm, 0, none⟩), .pointer (some ⟨bw, 0, none⟩), .pointer (some ⟨bo, 0, none⟩), .pointer (some ⟨br, 0, none⟩)]) ∧ Upd [] w0 W')
    (first
      | exact ⟨HZ7.out.walk, HZ7.out.upd⟩
      | (refine HK5.out _ ?_; repeat (first | exact hu6 | exact hrf2 | apply Upd.drew | apply Upd.alloc)))
    (first
      | (go_at_call 16; refine Calls.mono (HIH.out true _ (fun i => A i + T0 i) (o + O0) _ ?_ HV6.out ?_ HBD2.out.1 HBD2.out.2) ?_; (focus (refine HS6.out.upd0 ?_; (repeat (first | exact hrf6 | apply Upd.drew | apply Upd.alloc)); done)); (focus (refine HZ5.out.upd0 ?_; (repeat (first | exact hu6 | apply Upd.drew | apply Upd.alloc)); done)); intro e w7 hz; obtain ⟨rfl, hz1, hz2⟩ := hz; have hu7 : Upd [br, bo] w5 w7 := Upd.trans (S := [br, bo]) (Upd.mono (S := []) (by repeat (first | exact hu6 | apply Upd.drew | apply Upd.alloc)) (fun _ h => nomatch h)) hz2 (fun x hx => .inl hx); have HZ7 := Lib.hid (HT1.out _ _ w2 _ hz1); have HUZ7 := Lib.hid hu7; clear hz1 hz2 hu7)
      | (refine step_append_full _ (by rfl) _ _ _ (by rfl) 4 (.bool false) 1 Try.underlying35 infoBool rfl a ll (cb l) (by rfl) ⟨cp, HS5.out.upd0 ?_⟩ _ (.bool true) (by rfl) (sl_cell ?_) rfl (by unfold maxLen; omega) (by omega) ?_; (focus ((repeat (first | exact hrf2 | apply Upd.drew | apply Upd.alloc)); done)); (focus (go_simp; done)); intro v6 w6 ho4 hg4; have hu6 : Upd [] w5 w6 := Upd.trans0 (by repeat (first | exact hrf2 | apply Upd.drew | apply Upd.alloc)) hg4; have HS6 := sl_snoc (Sl.own ho4); have HV6 : Hid (∀ k, l ++ [true] ≠ [] → v6.ownBlock = some k → k ≠ bo ∧ k ≠ br) := (fun k _ hk => by (have h9 := (ho4.lt k hk).1; simp at h9; have b1 := lt_of_block HZ5.out.opn; have b3 := lt_of_block HZ5.out.arr; omega)); have hrf6 : Upd [] w6 w6 := Upd.refl _ _; clear ho4 hg4))
  clear hrf2 hu6 hrf6
  go_wp2_with fail
  go_end0
  refine ⟨rfl, ?_, ((HU2.out.mono (by simp)).trans HUZ5.out (fun x hx => .inl hx)).trans HUZ7.out (fun x hx => .inl hx)⟩
  rw [HT.out.2]
  simp only [HT.out.1, ← Nat.add_assoc]
  exact HZ7.out

theorem dwalk_any (hmost : most ≤ 20) (hlie : DLie w0 ba bm bw bo br) (eg : ∀ args W, (callFunc kf args).run Try.prog W = .ok (.enter kf args) W) (hask : AsksN w0 kf cap F) (hF64 : ∀ l, (F l).1 < 64) :
    ∀ (n : Nat) (v : Value) (l : List Bool) (A : Nat → Nat) (o : Nat) (W : World), l.length + n = most → Sl W v (cb l) → (∀ k, l ≠ [] → v.ownBlock = some k → k ≠ bo ∧ k ≠ br) → DEnv w0 kf cap ba bm bw bo br most A o W → (∀ i, A i + 2 ^ n ≤ 4611686018427387904) → o + 2 ^ n ≤ 4611686018427387904 →
      Calls Try.prog 16 #[v, .pointer (some ⟨ba, 0, none⟩), .pointer (some ⟨bm, 0, none⟩), .pointer (some ⟨bw, 0, none⟩), .pointer (some ⟨bo, 0, none⟩), .pointer (some ⟨br, 0, none⟩)] W
        (DPost w0 kf cap ba bm bw bo br most A o n (fun m => F (l ++ m)) W) := by
  intro n
  induction n with
  | zero =>
    intro v l A o W hln hs hv henv hA ho
    refine dwalk_done w0 kf cap F ba bm bw bo br most hmost hlie eg hask hF64 0 v l A o W hln hs henv hA ?_
    cases h : (F l).2.2 with
    | false => exact .inl rfl
    | true => exact .inr ⟨rfl, rfl, by simpa using ho⟩
  | succ n ih =>
    intro v l A o W hln hs hv henv hA ho
    cases h : (F l).2.2 with
    | false => exact dwalk_done w0 kf cap F ba bm bw bo br most hmost hlie eg hask hF64 (n + 1) v l A o W hln hs henv hA (.inl h)
    | true =>
      refine dwalk_more w0 kf cap F ba bm bw bo br most hmost hlie eg hask n v l A o W hln hs hv henv h hA ho (fun c v A o W h1 h2 h3 h4 h5 => ?_)
      have := ih v (l ++ [c]) A o W (by simp; omega) h1 h2 h3 h4 h5
      simpa using this
end
end Go.Proofs.Ytcehkflkekefpaa
