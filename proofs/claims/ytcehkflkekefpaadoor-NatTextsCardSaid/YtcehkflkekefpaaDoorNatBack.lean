/- slices.Backward over words: the iterator's contract (from the highest place down). -/
import Derived.Test.YtcehkflkekefpaaDoorNatB
import Derived.RangeFuncNested
import Derived.RangeFuncBound
import Derived.RangeFuncCalls
import Derived.RangeFuncLeaves
import Derived.RangeFuncBox
import Derived.Shelf.Abstract
import Derived.Shelf.RegionOpen
import Derived.WalkKit
import Derived.OwnWalkIn
import Derived.TacticsInMore
import Derived.LoopNIn
import Derived.LoopIn
namespace Go.Proofs.YtcehkflkekefpaaDoor
open Go.RowKit Go.Proofs.Tm Go.Shelf
set_option linter.unusedVariables false
set_option maxRecDepth 20000
attribute [local go_sem] Oper.semAt_some

/-- What has come when k rounds are over: the rounds' numbers 0, .., k - 1. -/
def upto (n k : Nat) : List (Fin n) := (List.finRange n).take k
theorem upto_succ {n k : Nat} (h : k < n) : upto n (k + 1) = upto n k ++ [⟨k, h⟩] := by
  unfold upto
  rw [List.take_succ_eq_append_getElem (by simpa using h)]
  simp
theorem upto_length {n k : Nat} (h : k ≤ n) : (upto n k).length = k := by simp [upto]; omega
theorem upto_all (n : Nat) : upto n n = List.finRange n := by unfold upto; rw [List.take_of_length_le (by simp)]

/-- The rounds came in their order. -/
def Good {n : Nat} (pre : List (Fin n)) : Prop := ∃ k, k ≤ n ∧ pre = upto n k
theorem good_snoc {n : Nat} {pre : List (Fin n)} {x : Fin n} (h : Good (pre ++ [x])) : Good pre ∧ x.val = pre.length := by
  obtain ⟨k, hk, he⟩ := h
  have hl := congrArg List.length he
  rw [upto_length hk] at hl
  simp at hl
  obtain ⟨j, rfl⟩ : ∃ j, k = j + 1 := ⟨k - 1, by omega⟩
  rw [upto_succ (by omega)] at he
  obtain ⟨h1, h2⟩ := List.append_inj' he rfl
  refine ⟨⟨j, by omega, h1⟩, ?_⟩
  simp only [List.cons.injEq, and_true] at h2
  rw [h2]
  show j = _
  omega
theorem good_upto {n k : Nat} (hk : k ≤ n) : Good (upto n k) := ⟨k, hk, rfl⟩

/-- The word at a place, under a name that no walk opens. -/
def gd (L : List Nat) (j : Nat) : Nat := L.getD j 0

/-- What a round keeps: of the blocks below n those of which Q says so. -/
structure Kq (Q : Nat → Prop) (n : Nat) (w w' : World) : Prop where
  size : w.heap.size ≤ w'.heap.size
  block : ∀ k, k < n → Q k → w'.heap[k]? = w.heap[k]?
theorem Kq.refl (Q : Nat → Prop) (n : Nat) (w : World) : Kq Q n w w := ⟨Nat.le_refl _, fun _ _ _ => rfl⟩
theorem Kq.trans {Q : Nat → Prop} {n : Nat} {A B C : World} (h : Kq Q n A B) (k : Kq Q n B C) : Kq Q n A C := ⟨Nat.le_trans h.size k.size, fun i h1 h2 => (k.block i h1 h2).trans (h.block i h1 h2)⟩
theorem Kq.put {Q : Nat → Prop} {w : World} (W : World) (l : Nat) (o o' : Obj) (hl : w.heap.size ≤ l) (h : W.heap[l]? = some o) (_ : o.isCells = false) (_ : o.isWalk = false) : Kq Q w.heap.size W (W.putObj l o') :=
  ⟨by simp, fun k hk _ => World.putObj_heap_other (by omega)⟩
theorem Kq.cell {Q : Nat → Prop} {n : Nat} {A B : World} (h : Kq Q n A B) {p : Addr} (hp : p.block < n) (hn : Q p.block) : B.cell? p = A.cell? p := World.cell?_of_block (w := A) (h.block p.block hp hn)
/-- .. all but those in S. -/
def Ks (S : List Nat) (k : Nat) : Prop := k ∉ S
theorem Kq.of_upd {S : List Nat} {n : Nat} {A B : World} (u : Upd S A B) (hn : n ≤ A.heap.size) : Kq (Ks S) n A B := ⟨u.size, fun k hk hs => u.block k (by omega) hs⟩

/-- What yield is handed in round x: the place and its word. -/
def encP (ws : List Nat) (x : Fin ws.length) : Array Value := #[Value.int .i64 ((ws.length - 1 - x.val : Nat) : Int), Value.int .u64 ((gd ws (ws.length - 1 - x.val) : Nat) : Int)]

set_option maxRecDepth 100000 in
set_option maxHeartbeats 2000000 in
theorem back1_in (Q : Nat → Prop) (n : Nat) (hn : 1 ≤ n) (l Bs n₀ b off cap : Nat) (ws : List Nat) (hreach : ws.length ≤ 1099511627776) (hb : b < n₀) (hbS : Q b) (hBS : Q Bs) (J Jx : List (Fin ws.length) → World → Prop)
    (hY : ∀ pre x W, J pre W → pre.length < ws.length → YieldAt Fence.wide (n - 1) Tryd.prog l (encP ws x) W fun e W' =>
      (e = .returned (.bool true) ∧ J (pre ++ [x]) W' ∧ Kq Q n₀ W W') ∨ (e = .returned (.bool false) ∧ Jx (pre ++ [x]) W'))
    (W : World) (hBs : W.cell? ⟨Bs, 0, none⟩ = some (.slice (some ⟨b, off, none⟩) ws.length cap)) (hBn : Bs < n₀) (hc : ∀ j, j < ws.length → W.cell? ⟨b, off + j, none⟩ = some (.int .u64 ((gd ws j : Nat) : Int))) (h0 : J [] W) :
    CallsIn Fence.wide n Tryd.prog 90 #[.func (.yield l) #[] #[], .pointer (some ⟨Bs, 0, none⟩)] W fun e W' => (∃ v, e = .returned v) ∧
      ((∃ ys, ys = upto ws.length ws.length ∧ J ys W') ∨ (∃ pre, (∃ k, k ≤ ws.length ∧ pre = upto ws.length k) ∧ Jx pre W')) := by
  refine callsIn_of_wp Tryd.func90 rfl trivial ?_ rfl
  simp only [Tryd.ntmps90, List.size_toArray, List.length_cons, List.length_nil, Nat.reduceAdd, Nat.reduceSub, Array.replicate_succ, Array.replicate_zero, List.push_toArray, List.append_toArray, List.nil_append, List.cons_append]
  gi_wp2
  gi_loopw [3] (fun i wr => ∃ k : Nat, k ≤ ws.length ∧ i = .int .i64 ((ws.length : Int) - 1 - k) ∧ J (upto ws.length k) wr ∧ Kq Q n₀ W wr)
    (fun i _ => (intOf i + 1).toNat)
  case atStart => exact ⟨0, Nat.zero_le _, by simp, h0, Kq.refl _ _ _⟩
  case round =>
    obtain ⟨k, hk, rfl, hJs, hnx⟩ := hrel
    have hcx : k < ws.length → wr.cell? ⟨b, off + (ws.length - 1 - k), none⟩ = some (.int .u64 ((gd ws (ws.length - 1 - k) : Nat) : Int)) := fun h => (hnx.cell (p := ⟨b, off + (ws.length - 1 - k), none⟩) hb hbS).trans (hc _ (by omega))
    have hbx : wr.cell? ⟨Bs, 0, none⟩ = some (.slice (some ⟨b, off, none⟩) ws.length cap) := (hnx.cell (p := ⟨Bs, 0, none⟩) hBn hBS).trans hBs
    by_cases hlt : k < ws.length
    · obtain ⟨j, hj⟩ : ∃ j, j = ws.length - 1 - k := ⟨_, rfl⟩
      obtain ⟨fn, tmps, assign, body, hy, hR⟩ := hY _ ⟨k, by omega⟩ wr hJs (by rw [upto_length (by omega)]; exact hlt)
      have hdp : upto ws.length (k + 1) = upto ws.length k ++ [⟨k, by omega⟩] := upto_succ (by omega)
      simp only [encP, ← hj] at hy
      have hcx' := hcx hlt
      rw [← hj] at hcx'
      have hjc : (ws.length : Int) - 1 - k = (j : Int) := by omega
      rw [hjc]
      have hjl : j < ws.length := by omega
      generalize gd ws j = x at *
      have HJ := Lib.hid hj
      have HD := Lib.hid hdp
      have HCX := Lib.hid hcx
      have HC := Lib.hid hc
      clear hj hdp hcx hc hBs hjc
      gi_wp2
      refine hR.mono ?_
      rintro e W3 (⟨rfl, hJ3, hk3⟩ | ⟨rfl, hJx3⟩)
      · gi_wp2
        go_roundw
        case rel => refine ⟨k + 1, by omega, congrArg (Value.int IntKind.i64) ?_, by rw [HD.out]; exact hJ3, hnx.trans hk3⟩; have := HJ.out; omega
        case measure => simp [intOf]
      · gi_wp2
        refine bodyPost_ret (results_none rfl _ _ _) rfl ?_
        exact ⟨⟨_, rfl⟩, .inr ⟨_, ⟨k + 1, by omega, HD.out.symm⟩, hJx3⟩⟩
    · have hk' : k = ws.length := by omega
      have hm1 : (ws.length : Int) - 1 - k = -1 := by omega
      rw [hk'] at hJs
      clear hk'
      rw [hm1]
      gi_wp2
      go_end0
      exact ⟨⟨_, rfl⟩, .inl ⟨_, rfl, hJs⟩⟩

set_option maxRecDepth 100000 in
set_option maxHeartbeats 1000000 in
theorem back1_nil_in (n : Nat) (l Bs cap : Nat) (a : Option Addr) (m : Nat) (J : List (Fin m) → World → Prop) (W : World) (hBs : W.cell? ⟨Bs, 0, none⟩ = some (.slice a 0 cap)) (h0 : J [] W) :
    CallsIn Fence.wide n Tryd.prog 90 #[.func (.yield l) #[] #[], .pointer (some ⟨Bs, 0, none⟩)] W fun e W' => (∃ v, e = .returned v) ∧ J [] W' := by
  refine callsIn_of_wp Tryd.func90 rfl trivial ?_ rfl
  simp only [Tryd.ntmps90, List.size_toArray, List.length_cons, List.length_nil, Nat.reduceAdd, Nat.reduceSub, Array.replicate_succ, Array.replicate_zero, List.push_toArray, List.append_toArray, List.nil_append, List.cons_append]
  gi_wp2
  gi_loopw [3] (fun i wr => i = .int .i64 (-1) ∧ J [] wr) (fun _ _ => 0)
  case atStart => exact ⟨rfl, h0⟩
  case round =>
    obtain ⟨rfl, hJs⟩ := hrel
    gi_wp2
    go_end0
    exact ⟨⟨_, rfl⟩, hJs⟩

set_option maxHeartbeats 1000000 in
/-- slices.Backward(s): the slice value is boxed; the function value captures the box. -/
theorem backward_any (a : Option Addr) (len cap : Nat) (w : World) :
    Calls Tryd.prog 66 #[.slice a len cap] w fun e w' => e = .returned (.func (.func 90) #[] #[.pointer (some ⟨w.heap.size, 0, none⟩)]) ∧ w' = w.alloc (.cells #[.slice a len cap] 22) := by
  go_enter Tryd.func66, Tryd.ntmps66
  go_wp2
  go_ret
  exact ⟨rfl, rfl⟩

/-- The value that it hands back goes through all the words from above, or a part of the way. -/
theorem back_stops (Q : Nat → Prop) (n : Nat) (hn : 1 ≤ n) (Bs n₀ : Nat) (a : Option Addr) (cap : Nat) (ws : List Nat) (hreach : ws.length ≤ 1099511627776) (w : World) (hBs : Bs < n₀) (hBS : Q Bs) (hn₀ : n₀ ≤ w.heap.size)
    (hc : w.cell? ⟨Bs, 0, none⟩ = some (.slice a ws.length cap)) (hI : Sl w (.slice a ws.length cap) (cu64 ws)) (hblk : ws ≠ [] → ∀ k, (Value.slice a ws.length cap).ownBlock = some k → k < n₀ ∧ Q k) :
    SeqStopsK Fence.wide n Tryd.prog 90 #[.pointer (some ⟨Bs, 0, none⟩)] (encP ws) (Kq Q n₀) (fun ys => ys = upto ws.length ws.length)
      (fun pre => ∃ k, k ≤ ws.length ∧ pre = upto ws.length k) ws.length w := fun l J Jx W hW _ _ hY h0 => by
  have hc' := (hW.cell (p := ⟨Bs, 0, none⟩) (by show Bs < _; omega)).trans hc
  by_cases hne : ws = []
  · subst hne
    exact (back1_nil_in n l Bs cap a _ J W hc' h0).mono fun e W' ⟨he, hj⟩ => ⟨he, .inl ⟨_, rfl, hj⟩⟩
  · obtain ⟨b, off, cap', hv, hcs⟩ := sl_at hI (cu64_nil.2 hne)
    simp only [Value.slice.injEq] at hv
    obtain ⟨rfl, _, rfl⟩ := hv
    have hb := hblk hne b rfl
    refine back1_in Q n hn l Bs n₀ b off cap ws hreach hb.1 hb.2 hBS J Jx hY W hc' hBs (fun j hj => ?_) h0
    have := hcs j (by rw [cu64_length]; exact hj)
    rw [cu64_getD _ _ hj] at this
    exact (hW.cell (p := ⟨b, off + j, none⟩) (by show b < _; have := hb.1; omega)).trans this
end Go.Proofs.YtcehkflkekefpaaDoor
