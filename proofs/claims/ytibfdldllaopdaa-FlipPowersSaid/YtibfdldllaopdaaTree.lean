/- The contract of Tree (layer 10's law): all tapes that bring something to an answer, gone through. -/
import Derived.Test.YtibfdldllaopdaaTreeB
import Derived.BigRegion
import Derived.Deep.RegionHeld3
namespace Go.Proofs.Ytibfdldllaopdaa
open Go.RowKit Go.Proofs.Tm
set_option linter.unusedVariables false
set_option maxRecDepth 20000

/-- The blocks of Tree's variables: what is asked, how many coins at most, the walk itself, the three weights. -/
structure TEnv (w0 : World) (kf : Nat) (cap : Array Value) (ba bm bw bo by' bn most : Nat) (y no o : Nat) (W : World) : Prop where
  ask : W.cell? ⟨ba, 0, none⟩ = some (.func (.func kf) #[] cap)
  most : W.cell? ⟨bm, 0, none⟩ = some (.int .i64 (most : Int))
  walk : W.cell? ⟨bw, 0, none⟩ = some (.func (.func 57) #[] #[.pointer (some ⟨ba, 0, none⟩), .pointer (some ⟨bm, 0, none⟩), .pointer (some ⟨bw, 0, none⟩), .pointer (some ⟨bo, 0, none⟩), .pointer (some ⟨by', 0, none⟩), .pointer (some ⟨bn, 0, none⟩)])
  yes : W.heap[by']? = some (.cells #[.int .i64 (y : Int)] 3 (0, 0))
  no : W.heap[bn]? = some (.cells #[.int .i64 (no : Int)] 3 (0, 0))
  opn : W.heap[bo]? = some (.cells #[.int .i64 (o : Int)] 3 (0, 0))
  upd : Upd [] w0 W

theorem TEnv.upd0 {w0 : World} {kf : Nat} {cap : Array Value} {ba bm bw bo by' bn most y no o : Nat} {W W' : World} (h : TEnv w0 kf cap ba bm bw bo by' bn most y no o W) (u : Upd [] W W') : TEnv w0 kf cap ba bm bw bo by' bn most y no o W' :=
  ⟨(u.cell (p := ⟨ba, 0, none⟩) (World.block_lt_of_cell? W _ h.ask) (by simp)).trans h.ask, (u.cell (p := ⟨bm, 0, none⟩) (World.block_lt_of_cell? W _ h.most) (by simp)).trans h.most, (u.cell (p := ⟨bw, 0, none⟩) (World.block_lt_of_cell? W _ h.walk) (by simp)).trans h.walk,
    (u.block _ (lt_of_block h.yes) (by simp)).trans h.yes, (u.block _ (lt_of_block h.no) (by simp)).trans h.no, (u.block _ (lt_of_block h.opn) (by simp)).trans h.opn, h.upd.trans0 u⟩

theorem sl_snoc {w : World} {v : Value} {l : List Bool} {c : Bool} (h : Sl w v (cb l ++ [.bool c])) : Hid (Sl w v (cb (l ++ [c]))) := by
  show Sl _ _ _
  rw [cb_append]
  exact h

/-- Where Tree's blocks lie. -/
structure TLie (w0 : World) (ba bm bw bo by' bn : Nat) : Prop where
  new : w0.heap.size ≤ bo ∧ w0.heap.size ≤ by' ∧ w0.heap.size ≤ bn
  diff : by' ≠ bn ∧ by' ≠ bo ∧ bn ≠ bo
  d2 : ba ≠ by' ∧ ba ≠ bn ∧ ba ≠ bo ∧ bm ≠ by' ∧ bm ≠ bn ∧ bm ≠ bo ∧ bw ≠ by' ∧ bw ≠ bn ∧ bw ≠ bo

section
variable {w0 : World} {kf : Nat} {cap : Array Value} {ba bm bw bo by' bn most y no o : Nat} {W : World}
theorem TEnv.setY (h : TEnv w0 kf cap ba bm bw bo by' bn most y no o W) (hl : TLie w0 ba bm bw bo by' bn) (z : Nat) : TEnv w0 kf cap ba bm bw bo by' bn most z no o (W.setCell ⟨by', 0, none⟩ (.int .i64 (z : Int))) := by
  obtain ⟨h1, ⟨h2, h3, h4⟩, h5⟩ := hl
  have u : Upd [by'] W (W.setCell ⟨by', 0, none⟩ (.int .i64 (z : Int))) := (Upd.refl _ _).setCell (.inl (by simp)) _
  exact ⟨(u.cell (p := ⟨ba, 0, none⟩) (World.block_lt_of_cell? W _ h.ask) (by simp; omega)).trans h.ask, (u.cell (p := ⟨bm, 0, none⟩) (World.block_lt_of_cell? W _ h.most) (by simp; omega)).trans h.most, (u.cell (p := ⟨bw, 0, none⟩) (World.block_lt_of_cell? W _ h.walk) (by simp; omega)).trans h.walk,
    one_setCell h.yes, (u.block _ (lt_of_block h.no) (by simp; omega)).trans h.no, (u.block _ (lt_of_block h.opn) (by simp; omega)).trans h.opn, h.upd.trans u (by intro x hx; simp at hx; subst hx; exact .inr h1.2.1)⟩
theorem TEnv.setN (h : TEnv w0 kf cap ba bm bw bo by' bn most y no o W) (hl : TLie w0 ba bm bw bo by' bn) (z : Nat) : TEnv w0 kf cap ba bm bw bo by' bn most y z o (W.setCell ⟨bn, 0, none⟩ (.int .i64 (z : Int))) := by
  obtain ⟨h1, ⟨h2, h3, h4⟩, h5⟩ := hl
  have u : Upd [bn] W (W.setCell ⟨bn, 0, none⟩ (.int .i64 (z : Int))) := (Upd.refl _ _).setCell (.inl (by simp)) _
  exact ⟨(u.cell (p := ⟨ba, 0, none⟩) (World.block_lt_of_cell? W _ h.ask) (by simp; omega)).trans h.ask, (u.cell (p := ⟨bm, 0, none⟩) (World.block_lt_of_cell? W _ h.most) (by simp; omega)).trans h.most, (u.cell (p := ⟨bw, 0, none⟩) (World.block_lt_of_cell? W _ h.walk) (by simp; omega)).trans h.walk,
    (u.block _ (lt_of_block h.yes) (by simp; omega)).trans h.yes, one_setCell h.no, (u.block _ (lt_of_block h.opn) (by simp; omega)).trans h.opn, h.upd.trans u (by intro x hx; simp at hx; subst hx; exact .inr h1.2.2)⟩
theorem TEnv.setO (h : TEnv w0 kf cap ba bm bw bo by' bn most y no o W) (hl : TLie w0 ba bm bw bo by' bn) (z : Nat) : TEnv w0 kf cap ba bm bw bo by' bn most y no z (W.setCell ⟨bo, 0, none⟩ (.int .i64 (z : Int))) := by
  obtain ⟨h1, ⟨h2, h3, h4⟩, h5⟩ := hl
  have u : Upd [bo] W (W.setCell ⟨bo, 0, none⟩ (.int .i64 (z : Int))) := (Upd.refl _ _).setCell (.inl (by simp)) _
  exact ⟨(u.cell (p := ⟨ba, 0, none⟩) (World.block_lt_of_cell? W _ h.ask) (by simp; omega)).trans h.ask, (u.cell (p := ⟨bm, 0, none⟩) (World.block_lt_of_cell? W _ h.most) (by simp; omega)).trans h.most, (u.cell (p := ⟨bw, 0, none⟩) (World.block_lt_of_cell? W _ h.walk) (by simp; omega)).trans h.walk,
    (u.block _ (lt_of_block h.yes) (by simp; omega)).trans h.yes, (u.block _ (lt_of_block h.no) (by simp; omega)).trans h.no, one_setCell h.opn, h.upd.trans u (by intro x hx; simp at hx; subst hx; exact .inr h1.1)⟩
end

/-- What Tree asks: what coins come to, by F. -/
def Asks (w0 : World) (kf : Nat) (cap : Array Value) (F : List Bool → Came) : Prop :=
  ∀ W p g l, Upd [] w0 W → w0.heap.size ≤ p → l.length ≤ 20 → Tp W p g l 0 false → Calls Try.prog kf (#[.pointer (some ⟨p, 0, none⟩)] ++ cap) W fun e w' => e = .returned (.tuple #[.bool (F l).1, .int .i64 (if (F l).2.2 then 8 else 0)]) ∧ Upd [p] W w'

/-- What the walk leaves. -/
def WPost (w0 : World) (kf : Nat) (cap : Array Value) (ba bm bw bo by' bn most y no o : Nat) (t : Nat × Nat × Nat) (W : World) (e : Ending) (w' : World) : Prop :=
  e = .returned (.tuple #[]) ∧ TEnv w0 kf cap ba bm bw bo by' bn most (y + t.1) (no + t.2.1) (o + t.2.2) w' ∧ Upd [by', bn, bo] W w'

section
variable (w0 : World) (kf : Nat) (cap : Array Value) (F : List Bool → Came) (ba bm bw bo by' bn most : Nat)

set_option maxHeartbeats 1600000 in
/-- Where it is done. -/
theorem walk_done (hmost : most ≤ 20) (hlie : TLie w0 ba bm bw bo by' bn) (eg : ∀ args W, (callFunc kf args).run Try.prog W = .ok (.enter kf args) W) (hask : Asks w0 kf cap F)
    (n : Nat) (v : Value) (l : List Bool) (y no o : Nat) (W : World) (hln : l.length + n = most) (hs : Sl W v (cb l)) (henv : TEnv w0 kf cap ba bm bw bo by' bn most y no o W) (hy : y + 2 ^ n ≤ 4611686018427387904) (hn : no + 2 ^ n ≤ 4611686018427387904) (hd : (F l).2.2 = false ∨ ((F l).2.2 = true ∧ n = 0 ∧ o + 1 ≤ 4611686018427387904)) :
    Calls Try.prog 57 #[v, .pointer (some ⟨ba, 0, none⟩), .pointer (some ⟨bm, 0, none⟩), .pointer (some ⟨bw, 0, none⟩), .pointer (some ⟨bo, 0, none⟩), .pointer (some ⟨by', 0, none⟩), .pointer (some ⟨bn, 0, none⟩)] W
      (WPost w0 kf cap ba bm bw bo by' bn most y no o (treeG n (fun m => F (l ++ m))) W) := by
  have HNEW := tnew_any v l W hs
  rw [List.take_of_length_le (by omega)] at HNEW
  have HN := Lib.hid HNEW
  have HE := Lib.hid henv
  have HLIE := Lib.hid hlie
  have HASK : Hid (Asks w0 kf cap F) := hask
  obtain ⟨a, cp, rfl, hlc, _, _⟩ := hs
  rw [cb_length] at HN hlc ⊢
  have HL : Hid (l.length ≤ 20) := by show _ ≤ _; omega
  obtain ⟨T, hT⟩ : ∃ T, T = treeG n (fun m => F (l ++ m)) := ⟨_, rfl⟩
  rw [← hT]
  have hF0 : F (l ++ []) = F l := by rw [List.append_nil]
  have hTT : T = if (F l).2.2 then (0, 0, 1) else if (F l).1 then (2 ^ n, 0, 0) else (0, 2 ^ n, 0) := by
    rw [hT]
    rcases hd with h | ⟨h, rfl, _⟩
    · rw [treeG_done _ _ (by rw [hF0]; exact h), hF0, h]; simp
    · rw [treeG_zero _ (by rw [hF0]; exact h), h]; simp
  obtain ⟨ll, hll⟩ : ∃ k, k = l.length := ⟨_, rfl⟩
  rw [← hll] at hlc HN ⊢
  have hlm : IntKind.i64.wrap ((most : Int) - (ll : Int)) = (n : Int) := by rw [IntWalk.i64_in _ (by omega)]; omega
  have hn20 : n ≤ 20 := by omega
  have hsh : IntKind.i64.wrap ((2 : Int) ^ n) = ((2 ^ n : Nat) : Int) := by
    have h1 : 2 ^ n ≤ 1048576 := Nat.le_trans (Nat.pow_le_pow_right (by decide) hn20) (by decide)
    have h2 : (2 : Int) ^ n = ((2 ^ n : Nat) : Int) := by simp
    rw [h2]
    generalize 2 ^ n = X at *
    rw [IntWalk.i64_in _ (by omega)]
  obtain ⟨X, hX⟩ : ∃ X, X = F l := ⟨_, rfl⟩
  rw [← hX] at hTT hd
  have HX := Lib.hid hX
  have hltd : X.2.2 = true → decide (ll < most) = false := by intro h; rcases hd with h' | ⟨_, h', _⟩; simp [h'] at h; simp; omega
  have hod : X.2.2 = true → o + 1 ≤ 4611686018427387904 := by intro h; rcases hd with h' | ⟨_, _, h'⟩; simp [h'] at h; exact h'
  have hn0 : X.2.2 = true → n = 0 := by intro h; rcases hd with h' | ⟨_, h', _⟩; simp [h'] at h; exact h'
  have HTT := Lib.hid hTT
  clear henv HNEW hll hln hlie hmost hT hX hask hF0 hd hTT
  go_enter Try.func57, Try.ntmps57
  go_wp2_with fail
  refine HN.out.mono ?_
  rintro e w1 ⟨p, g, rfl, ht, hu1, hp, hg⟩
  have HE1 := Lib.hid (HE.out.upd0 hu1)
  have hask := HASK.out w1 p g l HE1.out.upd (Nat.le_trans HE.out.upd.size hp) HL.out ht
  rw [← HX.out] at hask
  have HA := Lib.hid hask
  have k1 := HE1.out.ask
  have HU1 := Lib.hid hu1
  have HP := Lib.hid hp
  clear ht hu1 hg hask hp
  go_wp2_with fail
  refine HA.out.mono ?_
  rintro e w2 ⟨rfl, hu2⟩
  have HU2 : Hid (Upd [] W w2) := HU1.out.trans hu2 (by intro x hx; simp at hx; subst hx; exact .inr HP.out)
  have HE2 := Lib.hid (HE.out.upd0 HU2.out)
  have m2 := HE2.out.most
  have y2 : w2.cell? ⟨by', 0, none⟩ = some (.int .i64 (y : Int)) := by rw [cell_of_row w2 _ 0 _ _ _ HE2.out.yes]; rfl
  have n2 : w2.cell? ⟨bn, 0, none⟩ = some (.int .i64 (no : Int)) := by rw [cell_of_row w2 _ 0 _ _ _ HE2.out.no]; rfl
  have o2 : w2.cell? ⟨bo, 0, none⟩ = some (.int .i64 (o : Int)) := by rw [cell_of_row w2 _ 0 _ _ _ HE2.out.opn]; rfl
  have fy : w2.frozen? ⟨by', 0, none⟩ = false := frozen_of_row w2 _ 0 _ _ HE2.out.yes
  have fn : w2.frozen? ⟨bn, 0, none⟩ = false := frozen_of_row w2 _ 0 _ _ HE2.out.no
  have fo : w2.frozen? ⟨bo, 0, none⟩ = false := frozen_of_row w2 _ 0 _ _ HE2.out.opn
  clear hu2 k1 HA
  obtain ⟨x, kk, d⟩ := X
  cases d with
  | true =>
    have hlt := hltd rfl
    have hn0' := hn0 rfl
    have hoo := hod rfl
    have HT : Hid (T = (0, 0, 1)) := by show _ = _; have := HTT.out; simpa using this
    have hw : IntKind.i64.wrap ((o : Int) + ((2 ^ n : Nat) : Int)) = ((o + 1 : Nat) : Int) := by rw [hn0', IntWalk.i64_in _ (by omega)]; omega
    clear hltd hod hn0 hn0' hy hn
    obtain ⟨wt, hwt⟩ : ∃ k, k = 2 ^ n := ⟨_, rfl⟩
    rw [← hwt] at hsh hw
    clear hwt
    simp only [if_true]
    go_wp2_with fail
    go_end0
    refine ⟨rfl, ?_, HU2.out.mono (by simp) |>.setCell (.inl (by simp)) _⟩
    rw [HT.out]
    have := HE2.out.setO HLIE.out (o + 1)
    simpa using this
  | false =>
    simp only [Bool.false_eq_true, if_false]
    cases x with
    | true =>
      have HT : Hid (T = (2 ^ n, 0, 0)) := by show _ = _; have := HTT.out; simpa using this
      obtain ⟨wt, hwt⟩ : ∃ k, k = 2 ^ n := ⟨_, rfl⟩
      rw [← hwt] at hsh hy
      have HWT := Lib.hid hwt
      clear hwt
      have hw : IntKind.i64.wrap ((y : Int) + (wt : Int)) = ((y + wt : Nat) : Int) := by rw [IntWalk.i64_in _ (by omega)]; omega
      clear hltd hod hn0 hy hn
      go_wp2_with fail
      go_end0
      refine ⟨rfl, ?_, HU2.out.mono (by simp) |>.setCell (.inl (by simp)) _⟩
      rw [HT.out, ← HWT.out]
      have := HE2.out.setY HLIE.out (y + wt)
      simpa using this
    | false =>
      have HT : Hid (T = (0, 2 ^ n, 0)) := by show _ = _; have := HTT.out; simpa using this
      obtain ⟨wt, hwt⟩ : ∃ k, k = 2 ^ n := ⟨_, rfl⟩
      rw [← hwt] at hsh hn
      have HWT := Lib.hid hwt
      clear hwt
      have hw : IntKind.i64.wrap ((no : Int) + (wt : Int)) = ((no + wt : Nat) : Int) := by rw [IntWalk.i64_in _ (by omega)]; omega
      clear hltd hod hn0 hy hn
      go_wp2_with fail
      go_end0
      refine ⟨rfl, ?_, HU2.out.mono (by simp) |>.setCell (.inl (by simp)) _⟩
      rw [HT.out, ← HWT.out]
      have := HE2.out.setN HLIE.out (no + wt)
      simpa using this

set_option maxHeartbeats 3200000 in
/-- Where more coins are wanted. -/
theorem walk_more (hmost : most ≤ 20) (hlie : TLie w0 ba bm bw bo by' bn) (eg : ∀ args W, (callFunc kf args).run Try.prog W = .ok (.enter kf args) W) (hask : Asks w0 kf cap F)
    (n : Nat) (v : Value) (l : List Bool) (y no o : Nat) (W : World) (hln : l.length + (n + 1) = most) (hs : Sl W v (cb l)) (hv : ∀ k, l ≠ [] → v.ownBlock = some k → k ≠ bo ∧ k ≠ by' ∧ k ≠ bn) (henv : TEnv w0 kf cap ba bm bw bo by' bn most y no o W) (hd : (F l).2.2 = true)
    (hy : y + 2 ^ (n + 1) ≤ 4611686018427387904) (hn : no + 2 ^ (n + 1) ≤ 4611686018427387904) (ho : o + 2 ^ (n + 1) ≤ 4611686018427387904)
    (IH : ∀ (c : Bool) (v : Value) (y no o : Nat) (W : World), Sl W v (cb (l ++ [c])) → (∀ k, l ++ [c] ≠ [] → v.ownBlock = some k → k ≠ bo ∧ k ≠ by' ∧ k ≠ bn) → TEnv w0 kf cap ba bm bw bo by' bn most y no o W → y + 2 ^ n ≤ 4611686018427387904 → no + 2 ^ n ≤ 4611686018427387904 → o + 2 ^ n ≤ 4611686018427387904 →
      Calls Try.prog 57 #[v, .pointer (some ⟨ba, 0, none⟩), .pointer (some ⟨bm, 0, none⟩), .pointer (some ⟨bw, 0, none⟩), .pointer (some ⟨bo, 0, none⟩), .pointer (some ⟨by', 0, none⟩), .pointer (some ⟨bn, 0, none⟩)] W
        (WPost w0 kf cap ba bm bw bo by' bn most y no o (treeG n (fun m => F (l ++ c :: m))) W)) :
    Calls Try.prog 57 #[v, .pointer (some ⟨ba, 0, none⟩), .pointer (some ⟨bm, 0, none⟩), .pointer (some ⟨bw, 0, none⟩), .pointer (some ⟨bo, 0, none⟩), .pointer (some ⟨by', 0, none⟩), .pointer (some ⟨bn, 0, none⟩)] W
      (WPost w0 kf cap ba bm bw bo by' bn most y no o (treeG (n + 1) (fun m => F (l ++ m))) W) := by
  have HNEW := tnew_any v l W hs
  rw [List.take_of_length_le (by omega)] at HNEW
  have HN := Lib.hid HNEW
  have HE := Lib.hid henv
  have HLIE := Lib.hid hlie
  have HASK : Hid (Asks w0 kf cap F) := hask
  have HIH := Lib.hid IH
  have HS := Lib.hid hs
  have HV := Lib.hid hv
  have hcp63 : ∃ a cp, v = .slice a l.length cp ∧ l.length ≤ cp ∧ cp ≤ 9223372036854775807 := by
    obtain ⟨a, cp, rfl, hlc, hm, _⟩ := hs
    rw [cb_length] at hlc
    unfold maxLen at hm
    exact ⟨a, cp, by rw [cb_length], hlc, by omega⟩
  obtain ⟨a, cp, rfl, hlc, hcm⟩ := hcp63
  have HL : Hid (l.length ≤ 20) := by show _ ≤ _; omega
  obtain ⟨T0, hT0⟩ : ∃ T, T = treeG n (fun m => F (l ++ false :: m)) := ⟨_, rfl⟩
  obtain ⟨T1, hT1⟩ : ∃ T, T = treeG n (fun m => F (l ++ true :: m)) := ⟨_, rfl⟩
  have HT : Hid (treeG (n + 1) (fun m => F (l ++ m)) = (T0.1 + T1.1, T0.2.1 + T1.2.1, T0.2.2 + T1.2.2)) := by
    show _ = _
    rw [treeG_succ _ _ (by rw [List.append_nil]; exact hd), hT0, hT1]
  have HB0 : Hid (T0.1 ≤ 2 ^ n ∧ T0.2.1 ≤ 2 ^ n ∧ T0.2.2 ≤ 2 ^ n) := by rw [hT0]; exact treeG_le n _
  have HT0 := Lib.hid hT0
  have HT1 := Lib.hid hT1
  have hp2 : 2 ^ (n + 1) = 2 ^ n + 2 ^ n := by rw [Nat.pow_succ]; omega
  rw [hp2] at hy hn ho
  obtain ⟨M, hM⟩ : ∃ M, M = 2 ^ n := ⟨_, rfl⟩
  rw [← hM] at hy hn ho HB0
  have HM := Lib.hid hM
  have HY := Lib.hid hy
  have HNN := Lib.hid hn
  have HO := Lib.hid ho
  obtain ⟨ll, hll⟩ : ∃ k, k = l.length := ⟨_, rfl⟩
  have HLL := Lib.hid hll
  rw [← hll] at hlc HN HS HV ⊢
  obtain ⟨N1, hN1⟩ : ∃ k, k = n + 1 := ⟨_, rfl⟩
  have hlm : IntKind.i64.wrap ((most : Int) - (ll : Int)) = (N1 : Int) := by rw [IntWalk.i64_in _ (by omega)]; omega
  have hN20 : N1 ≤ 20 := by omega
  have hlt : decide (ll < most) = true := by simp; omega
  have hl20 : ll ≤ 20 := by omega
  obtain ⟨X, hX⟩ : ∃ X, X = F l := ⟨_, rfl⟩
  rw [← hX] at hd
  have HX := Lib.hid hX
  obtain ⟨x, kk, d⟩ := X
  simp only at hd
  subst hd
  clear henv HNEW hll hln hlie hmost hX hask IH hs hv hT0 hT1 hp2 hM hy hn ho hN1
  go_enter Try.func57, Try.ntmps57
  go_wp2_with fail
  refine HN.out.mono ?_
  rintro e w1 ⟨p, g, rfl, ht, hu1, hp, hg⟩
  have HE1 := Lib.hid (HE.out.upd0 hu1)
  have hask := HASK.out w1 p g l HE1.out.upd (Nat.le_trans HE.out.upd.size hp) HL.out ht
  rw [← HX.out] at hask
  have HA := Lib.hid hask
  have k1 := HE1.out.ask
  have HU1 := Lib.hid hu1
  have HP := Lib.hid hp
  clear ht hu1 hg hask hp
  go_wp2_with fail
  refine HA.out.mono ?_
  rintro e w2 ⟨rfl, hu2⟩
  have HU2 : Hid (Upd [] W w2) := HU1.out.trans hu2 (by intro x hx; simp at hx; subst hx; exact .inr HP.out)
  have HE2 := Lib.hid (HE.out.upd0 HU2.out)
  have HS2 := Lib.hid (HS.out.upd0 HU2.out)
  have m2 := HE2.out.most
  have b2 := HE2.out.walk
  clear hu2 k1 HA
  simp only [if_true]
  have eg57 : ∀ args W, (callFunc 57 args).run Try.prog W = .ok (.enter 57 args) W := enters_of Try.func57 (by kernel_rfl) rfl
  have HBD : Hid (y + 2 ^ n ≤ 4611686018427387904 ∧ no + 2 ^ n ≤ 4611686018427387904 ∧ o + 2 ^ n ≤ 4611686018427387904) := by
    show _ ∧ _ ∧ _
    rw [← HM.out]; have h1 := HY.out; have h2 := HNN.out; have h3 := HO.out; omega
  have HBD2 : Hid (y + T0.1 + 2 ^ n ≤ 4611686018427387904 ∧ no + T0.2.1 + 2 ^ n ≤ 4611686018427387904 ∧ o + T0.2.2 + 2 ^ n ≤ 4611686018427387904) := by
    show _ ∧ _ ∧ _
    rw [← HM.out]; have h1 := HY.out; have h2 := HNN.out; have h3 := HO.out; have h4 := HB0.out; omega
  have hrf : Upd [] w2 w2 := Upd.refl _ _
  have HK2 : Hid (∀ W', Upd [] w2 W' → W'.cell? ⟨bw, 0, none⟩ = some (.func (.func 57) #[] #[.pointer (some ⟨ba, 0, none⟩), .pointer (some ⟨bm, 0, none⟩), .pointer (some ⟨bw, 0, none⟩), .pointer (some ⟨bo, 0, none⟩), .pointer (some ⟨by', 0, none⟩), .pointer (some ⟨bn, 0, none⟩)]) ∧ Upd [] w0 W') := fun W' h => ⟨(HE2.out.upd0 h).walk, (HE2.out.upd0 h).upd⟩
  go_wp2_with fail
  go_region_held3 (fun W' => W'.cell? ⟨bw, 0, none⟩ = some (.func (.func 57) #[] #[.pointer (some ⟨ba, 0, none⟩), .pointer (some ⟨bm, 0, none⟩), .pointer (some ⟨bw, 0, none⟩), .pointer (some ⟨bo, 0, none⟩), .pointer (some ⟨by', 0, none⟩), .pointer (some ⟨bn, 0, none⟩)]) ∧ Upd [] w0 W')
    (first
      | exact ⟨HZ5.out.walk, HZ5.out.upd⟩
      | (refine HK2.out _ ?_; repeat (first | exact hu4 | exact hrf | apply Upd.drew | apply Upd.alloc)))
    (first
      | (go_at_call 57; refine Calls.mono (HIH.out false _ y no o _ ?_ HV4.out ?_ HBD.out.1 HBD.out.2.1 HBD.out.2.2) ?_; (focus (refine HS4.out.upd0 ?_; (repeat (first | exact hrf4 | apply Upd.drew | apply Upd.alloc)); done)); (focus (refine HE2.out.upd0 ?_; (repeat (first | exact hu4 | apply Upd.drew | apply Upd.alloc)); done)); intro e w5 hz; obtain ⟨rfl, hz1, hz2⟩ := hz; have hu5 : Upd [by', bn, bo] w2 w5 := Upd.trans (S := [by', bn, bo]) (Upd.mono (S := []) (by repeat (first | exact hu4 | apply Upd.drew | apply Upd.alloc)) (fun _ h => nomatch h)) hz2 (fun x hx => .inl hx); have HZ5 := Lib.hid hz1; have HUZ5 := Lib.hid hu5; clear hz1 hz2 hu5)
      | (refine step_append_full _ (by rfl) _ _ _ (by rfl) 4 (.bool false) 1 Try.underlying22 infoBool rfl a ll (cb l) (by rfl) ⟨cp, HS2.out.upd0 ?_⟩ _ (.bool false) (by rfl) (sl_cell ?_) rfl (by unfold maxLen; omega) (by omega) ?_; (focus ((repeat (first | exact hrf | apply Upd.drew | apply Upd.alloc)); done)); (focus (go_simp; done)); intro v4 w4 ho4 hg4; have hu4 : Upd [] w2 w4 := Upd.trans0 (by repeat (first | exact hrf | apply Upd.drew | apply Upd.alloc)) hg4; have HS4 := sl_snoc (Sl.own ho4); have HV4 : Hid (∀ k, l ++ [false] ≠ [] → v4.ownBlock = some k → k ≠ bo ∧ k ≠ by' ∧ k ≠ bn) := (fun k _ hk => by (have h9 := (ho4.lt k hk).1; simp at h9; have b1 := lt_of_block HE2.out.opn; have b3 := lt_of_block HE2.out.yes; have b4 := lt_of_block HE2.out.no; omega)); have hrf4 : Upd [] w4 w4 := Upd.refl _ _; clear ho4 hg4))
  rw [← HT0.out] at HZ5
  have HS5 : Hid (Sl w5 (.slice a ll cp) (cb l)) := HS2.out.upd HUZ5.out (fun hne k hk => by
    have := HV.out k (by rintro rfl; simp [cb] at hne) hk
    simp; omega)
  clear hrf hu4 hrf4
  have hrf2 : Upd [] w5 w5 := Upd.refl _ _
  have HK5 : Hid (∀ W', Upd [] w5 W' → W'.cell? ⟨bw, 0, none⟩ = some (.func (.func 57) #[] #[.pointer (some ⟨ba, 0, none⟩), .pointer (some ⟨bm, 0, none⟩), .pointer (some ⟨bw, 0, none⟩), .pointer (some ⟨bo, 0, none⟩), .pointer (some ⟨by', 0, none⟩), .pointer (some ⟨bn, 0, none⟩)]) ∧ Upd [] w0 W') := fun W' h => ⟨(HZ5.out.upd0 h).walk, (HZ5.out.upd0 h).upd⟩
  go_wp2_with fail
  go_region_held3 (fun W' => W'.cell? ⟨bw, 0, none⟩ = some (.func (.func 57) #[] #[.pointer (some ⟨ba, 0, none⟩), .pointer (some ⟨bm, 0, none⟩), .pointer (some ⟨bw, 0, none⟩), .pointer (some ⟨bo, 0, none⟩), .pointer (some ⟨by', 0, none⟩), .pointer (some ⟨bn, 0, none⟩)]) ∧ Upd [] w0 W')
    (first
      | exact ⟨HZ7.out.walk, HZ7.out.upd⟩
      | (refine HK5.out _ ?_; repeat (first | exact hu6 | exact hrf2 | apply Upd.drew | apply Upd.alloc)))
    (first
      | (go_at_call 57; refine Calls.mono (HIH.out true _ (y + T0.1) (no + T0.2.1) (o + T0.2.2) _ ?_ HV6.out ?_ HBD2.out.1 HBD2.out.2.1 HBD2.out.2.2) ?_; (focus (refine HS6.out.upd0 ?_; (repeat (first | exact hrf6 | apply Upd.drew | apply Upd.alloc)); done)); (focus (refine HZ5.out.upd0 ?_; (repeat (first | exact hu6 | apply Upd.drew | apply Upd.alloc)); done)); intro e w7 hz; obtain ⟨rfl, hz1, hz2⟩ := hz; have hu7 : Upd [by', bn, bo] w5 w7 := Upd.trans (S := [by', bn, bo]) (Upd.mono (S := []) (by repeat (first | exact hu6 | apply Upd.drew | apply Upd.alloc)) (fun _ h => nomatch h)) hz2 (fun x hx => .inl hx); have HZ7 := Lib.hid hz1; have HUZ7 := Lib.hid hu7; clear hz1 hz2 hu7)
      | (refine step_append_full _ (by rfl) _ _ _ (by rfl) 4 (.bool false) 1 Try.underlying22 infoBool rfl a ll (cb l) (by rfl) ⟨cp, HS5.out.upd0 ?_⟩ _ (.bool true) (by rfl) (sl_cell ?_) rfl (by unfold maxLen; omega) (by omega) ?_; (focus ((repeat (first | exact hrf2 | apply Upd.drew | apply Upd.alloc)); done)); (focus (go_simp; done)); intro v6 w6 ho4 hg4; have hu6 : Upd [] w5 w6 := Upd.trans0 (by repeat (first | exact hrf2 | apply Upd.drew | apply Upd.alloc)) hg4; have HS6 := sl_snoc (Sl.own ho4); have HV6 : Hid (∀ k, l ++ [true] ≠ [] → v6.ownBlock = some k → k ≠ bo ∧ k ≠ by' ∧ k ≠ bn) := (fun k _ hk => by (have h9 := (ho4.lt k hk).1; simp at h9; have b1 := lt_of_block HZ5.out.opn; have b3 := lt_of_block HZ5.out.yes; have b4 := lt_of_block HZ5.out.no; omega)); have hrf6 : Upd [] w6 w6 := Upd.refl _ _; clear ho4 hg4))
  rw [← HT1.out] at HZ7
  clear hrf2 hu6 hrf6
  go_wp2_with fail
  go_end0
  refine ⟨rfl, ?_, ((HU2.out.mono (by simp)).trans HUZ5.out (fun x hx => .inl hx)).trans HUZ7.out (fun x hx => .inl hx)⟩
  rw [HT.out]
  simp only [← Nat.add_assoc]
  exact HZ7.out

theorem walk_any (hmost : most ≤ 20) (hlie : TLie w0 ba bm bw bo by' bn) (eg : ∀ args W, (callFunc kf args).run Try.prog W = .ok (.enter kf args) W) (hask : Asks w0 kf cap F) :
    ∀ (n : Nat) (v : Value) (l : List Bool) (y no o : Nat) (W : World), l.length + n = most → Sl W v (cb l) → (∀ k, l ≠ [] → v.ownBlock = some k → k ≠ bo ∧ k ≠ by' ∧ k ≠ bn) → TEnv w0 kf cap ba bm bw bo by' bn most y no o W → y + 2 ^ n ≤ 4611686018427387904 → no + 2 ^ n ≤ 4611686018427387904 → o + 2 ^ n ≤ 4611686018427387904 →
      Calls Try.prog 57 #[v, .pointer (some ⟨ba, 0, none⟩), .pointer (some ⟨bm, 0, none⟩), .pointer (some ⟨bw, 0, none⟩), .pointer (some ⟨bo, 0, none⟩), .pointer (some ⟨by', 0, none⟩), .pointer (some ⟨bn, 0, none⟩)] W
        (WPost w0 kf cap ba bm bw bo by' bn most y no o (treeG n (fun m => F (l ++ m))) W) := by
  intro n
  induction n with
  | zero =>
    intro v l y no o W hln hs hv henv hy hn ho
    refine walk_done w0 kf cap F ba bm bw bo by' bn most hmost hlie eg hask 0 v l y no o W hln hs henv hy hn ?_
    cases h : (F l).2.2 with
    | false => exact .inl rfl
    | true => exact .inr ⟨rfl, rfl, by simpa using ho⟩
  | succ n ih =>
    intro v l y no o W hln hs hv henv hy hn ho
    cases h : (F l).2.2 with
    | false => exact walk_done w0 kf cap F ba bm bw bo by' bn most hmost hlie eg hask (n + 1) v l y no o W hln hs henv hy hn (.inl h)
    | true =>
      refine walk_more w0 kf cap F ba bm bw bo by' bn most hmost hlie eg hask n v l y no o W hln hs hv henv h hy hn ho (fun c v y no o W h1 h2 h3 h4 h5 h6 => ?_)
      have := ih v (l ++ [c]) y no o W (by simp; omega) h1 h2 h3 h4 h5 h6
      simpa using this
end
end Go.Proofs.Ytibfdldllaopdaa
