/- Texts that belong together, joined: NatBack NatCmp Whole WholeM NatA64 NatMul NatMul2 WholeX RatV NatRound NatHalf NatDiv64 NatByW NatDM NatBackI NatS64 NatTake DivMath NatDig NatDigF NatFrom NatUp NatBitM NatBits. -/
import Derived.Test.YtoklmfmoblkfcaaGreatDoorAa
import Derived.RangeFuncNested
import Derived.RangeFuncBound
import Derived.RangeFuncCalls
import Derived.RangeFuncLeaves
import Derived.RangeFuncBox
import Derived.Shelf.Abstract
import Derived.Shelf.RegionOpen
import Derived.WalkKit
import Derived.OwnWalkIn
import Derived.TacticsInMore
import Derived.LoopNIn
import Derived.LoopIn
import Derived.Deep.RegionWith
import Derived.Deep.RegionHeld3
import Derived.Laws.Externs
import Derived.Shelf.Bits.Mul64
import Derived.Lib.Mul64
import Derived.OrdersIn
import Derived.OrdersHeld
import Derived.TacticsIn
import Derived.Deep.CutBlock
import Derived.Deep.DeepCutAuto
import Derived.Deep.QuietTactic
import Derived.BigQuiet
import Derived.OneCell
import Derived.Lib.ItoaNum
/- slices.Backward over words: the iterator's contract (from the highest place down). -/
namespace Go.Proofs.YtoklmfmoblkfcaaGreatDoor
open Go.RowKit Go.Proofs.Tm Go.Shelf
set_option linter.unusedVariables false
set_option maxRecDepth 20000
attribute [local go_sem] Oper.semAt_some

/-- What has come when k rounds are over: the rounds' numbers 0, .., k - 1. -/
def upto (n k : Nat) : List (Fin n) := (List.finRange n).take k
theorem upto_succ {n k : Nat} (h : k < n) : upto n (k + 1) = upto n k ++ [⟨k, h⟩] := by
  unfold upto
  rw [List.take_succ_eq_append_getElem (by simpa using h)]
  simp
theorem upto_length {n k : Nat} (h : k ≤ n) : (upto n k).length = k := by simp [upto]; omega
theorem upto_all (n : Nat) : upto n n = List.finRange n := by unfold upto; rw [List.take_of_length_le (by simp)]

/-- The rounds came in their order. -/
def Good {n : Nat} (pre : List (Fin n)) : Prop := ∃ k, k ≤ n ∧ pre = upto n k
theorem good_snoc {n : Nat} {pre : List (Fin n)} {x : Fin n} (h : Good (pre ++ [x])) : Good pre ∧ x.val = pre.length := by
  obtain ⟨k, hk, he⟩ := h
  have hl := congrArg List.length he
  rw [upto_length hk] at hl
  simp at hl
  obtain ⟨j, rfl⟩ : ∃ j, k = j + 1 := ⟨k - 1, by omega⟩
  rw [upto_succ (by omega)] at he
  obtain ⟨h1, h2⟩ := List.append_inj' he rfl
  refine ⟨⟨j, by omega, h1⟩, ?_⟩
  simp only [List.cons.injEq, and_true] at h2
  rw [h2]
  show j = _
  omega
theorem good_upto {n k : Nat} (hk : k ≤ n) : Good (upto n k) := ⟨k, hk, rfl⟩

/-- The word at a place, under a name that no walk opens. -/
def gd (L : List Nat) (j : Nat) : Nat := L.getD j 0

/-- What a round keeps: of the blocks below n those of which Q says so. -/
structure Kq (Q : Nat → Prop) (n : Nat) (w w' : World) : Prop where
  size : w.heap.size ≤ w'.heap.size
  block : ∀ k, k < n → Q k → w'.heap[k]? = w.heap[k]?
theorem Kq.refl (Q : Nat → Prop) (n : Nat) (w : World) : Kq Q n w w := ⟨Nat.le_refl _, fun _ _ _ => rfl⟩
theorem Kq.trans {Q : Nat → Prop} {n : Nat} {A B C : World} (h : Kq Q n A B) (k : Kq Q n B C) : Kq Q n A C := ⟨Nat.le_trans h.size k.size, fun i h1 h2 => (k.block i h1 h2).trans (h.block i h1 h2)⟩
theorem Kq.put {Q : Nat → Prop} {w : World} (W : World) (l : Nat) (o o' : Obj) (hl : w.heap.size ≤ l) (h : W.heap[l]? = some o) (_ : o.isCells = false) (_ : o.isWalk = false) : Kq Q w.heap.size W (W.putObj l o') :=
  ⟨by simp, fun k hk _ => World.putObj_heap_other (by omega)⟩
theorem Kq.cell {Q : Nat → Prop} {n : Nat} {A B : World} (h : Kq Q n A B) {p : Addr} (hp : p.block < n) (hn : Q p.block) : B.cell? p = A.cell? p := World.cell?_of_block (w := A) (h.block p.block hp hn)
/-- .. all but those in S. -/
def Ks (S : List Nat) (k : Nat) : Prop := k ∉ S
theorem Kq.of_upd {S : List Nat} {n : Nat} {A B : World} (u : Upd S A B) (hn : n ≤ A.heap.size) : Kq (Ks S) n A B := ⟨u.size, fun k hk hs => u.block k (by omega) hs⟩

/-- What yield is handed in round x: the place and its word. -/
def encP (ws : List Nat) (x : Fin ws.length) : Array Value := #[Value.int .i64 ((ws.length - 1 - x.val : Nat) : Int), Value.int .u64 ((gd ws (ws.length - 1 - x.val) : Nat) : Int)]

set_option maxRecDepth 100000 in
set_option maxHeartbeats 2000000 in
theorem back1_in (Q : Nat → Prop) (n : Nat) (hn : 1 ≤ n) (l Bs n₀ b off cap : Nat) (ws : List Nat) (hreach : ws.length ≤ 1099511627776) (hb : b < n₀) (hbS : Q b) (hBS : Q Bs) (J Jx : List (Fin ws.length) → World → Prop)
    (hY : ∀ pre x W, J pre W → pre.length < ws.length → YieldAt Fence.wide (n - 1) Tryz.prog l (encP ws x) W fun e W' =>
      (e = .returned (.bool true) ∧ J (pre ++ [x]) W' ∧ Kq Q n₀ W W') ∨ (e = .returned (.bool false) ∧ Jx (pre ++ [x]) W'))
    (W : World) (hBs : W.cell? ⟨Bs, 0, none⟩ = some (.slice (some ⟨b, off, none⟩) ws.length cap)) (hBn : Bs < n₀) (hc : ∀ j, j < ws.length → W.cell? ⟨b, off + j, none⟩ = some (.int .u64 ((gd ws j : Nat) : Int))) (h0 : J [] W) :
    CallsIn Fence.wide n Tryz.prog 113 #[.func (.yield l) #[] #[], .pointer (some ⟨Bs, 0, none⟩)] W fun e W' => (∃ v, e = .returned v) ∧
      ((∃ ys, ys = upto ws.length ws.length ∧ J ys W') ∨ (∃ pre, (∃ k, k ≤ ws.length ∧ pre = upto ws.length k) ∧ Jx pre W')) := by
  refine callsIn_of_wp Tryz.func113 rfl trivial ?_ rfl
  simp only [Tryz.ntmps113, List.size_toArray, List.length_cons, List.length_nil, Nat.reduceAdd, Nat.reduceSub, Array.replicate_succ, Array.replicate_zero, List.push_toArray, List.append_toArray, List.nil_append, List.cons_append]
  gi_wp2
  gi_loopw [3] (fun i wr => ∃ k : Nat, k ≤ ws.length ∧ i = .int .i64 ((ws.length : Int) - 1 - k) ∧ J (upto ws.length k) wr ∧ Kq Q n₀ W wr)
    (fun i _ => (intOf i + 1).toNat)
  case atStart => exact ⟨0, Nat.zero_le _, by simp, h0, Kq.refl _ _ _⟩
  case round =>
    obtain ⟨k, hk, rfl, hJs, hnx⟩ := hrel
    have hcx : k < ws.length → wr.cell? ⟨b, off + (ws.length - 1 - k), none⟩ = some (.int .u64 ((gd ws (ws.length - 1 - k) : Nat) : Int)) := fun h => (hnx.cell (p := ⟨b, off + (ws.length - 1 - k), none⟩) hb hbS).trans (hc _ (by omega))
    have hbx : wr.cell? ⟨Bs, 0, none⟩ = some (.slice (some ⟨b, off, none⟩) ws.length cap) := (hnx.cell (p := ⟨Bs, 0, none⟩) hBn hBS).trans hBs
    by_cases hlt : k < ws.length
    · obtain ⟨j, hj⟩ : ∃ j, j = ws.length - 1 - k := ⟨_, rfl⟩
      obtain ⟨fn, tmps, assign, body, hy, hR⟩ := hY _ ⟨k, by omega⟩ wr hJs (by rw [upto_length (by omega)]; exact hlt)
      have hdp : upto ws.length (k + 1) = upto ws.length k ++ [⟨k, by omega⟩] := upto_succ (by omega)
      simp only [encP, ← hj] at hy
      have hcx' := hcx hlt
      rw [← hj] at hcx'
      have hjc : (ws.length : Int) - 1 - k = (j : Int) := by omega
      rw [hjc]
      have hjl : j < ws.length := by omega
      generalize gd ws j = x at *
      have HJ := Lib.hid hj
      have HD := Lib.hid hdp
      have HCX := Lib.hid hcx
      have HC := Lib.hid hc
      clear hj hdp hcx hc hBs hjc
      gi_wp2
      refine hR.mono ?_
      rintro e W3 (⟨rfl, hJ3, hk3⟩ | ⟨rfl, hJx3⟩)
      · gi_wp2
        go_roundw
        case rel => refine ⟨k + 1, by omega, congrArg (Value.int IntKind.i64) ?_, by rw [HD.out]; exact hJ3, hnx.trans hk3⟩; have := HJ.out; omega
        case measure => simp [intOf]
      · gi_wp2
        refine bodyPost_ret (results_none rfl _ _ _) rfl ?_
        exact ⟨⟨_, rfl⟩, .inr ⟨_, ⟨k + 1, by omega, HD.out.symm⟩, hJx3⟩⟩
    · have hk' : k = ws.length := by omega
      have hm1 : (ws.length : Int) - 1 - k = -1 := by omega
      rw [hk'] at hJs
      clear hk'
      rw [hm1]
      gi_wp2
      go_end0
      exact ⟨⟨_, rfl⟩, .inl ⟨_, rfl, hJs⟩⟩

set_option maxRecDepth 100000 in
set_option maxHeartbeats 1000000 in
theorem back1_nil_in (n : Nat) (l Bs cap : Nat) (a : Option Addr) (m : Nat) (J : List (Fin m) → World → Prop) (W : World) (hBs : W.cell? ⟨Bs, 0, none⟩ = some (.slice a 0 cap)) (h0 : J [] W) :
    CallsIn Fence.wide n Tryz.prog 113 #[.func (.yield l) #[] #[], .pointer (some ⟨Bs, 0, none⟩)] W fun e W' => (∃ v, e = .returned v) ∧ J [] W' := by
  refine callsIn_of_wp Tryz.func113 rfl trivial ?_ rfl
  simp only [Tryz.ntmps113, List.size_toArray, List.length_cons, List.length_nil, Nat.reduceAdd, Nat.reduceSub, Array.replicate_succ, Array.replicate_zero, List.push_toArray, List.append_toArray, List.nil_append, List.cons_append]
  gi_wp2
  gi_loopw [3] (fun i wr => i = .int .i64 (-1) ∧ J [] wr) (fun _ _ => 0)
  case atStart => exact ⟨rfl, h0⟩
  case round =>
    obtain ⟨rfl, hJs⟩ := hrel
    gi_wp2
    go_end0
    exact ⟨⟨_, rfl⟩, hJs⟩

set_option maxHeartbeats 1000000 in
/-- slices.Backward(s): the slice value is boxed; the function value captures the box. -/
theorem backward_any (a : Option Addr) (len cap : Nat) (w : World) :
    Calls Tryz.prog 71 #[.slice a len cap] w fun e w' => e = .returned (.func (.func 113) #[] #[.pointer (some ⟨w.heap.size, 0, none⟩)]) ∧ w' = w.alloc (.cells #[.slice a len cap] 22) := by
  go_enter Tryz.func71, Tryz.ntmps71
  go_wp2
  go_ret
  exact ⟨rfl, rfl⟩

/-- The value that it hands back goes through all the words from above, or a part of the way. -/
theorem back_stops (Q : Nat → Prop) (n : Nat) (hn : 1 ≤ n) (Bs n₀ : Nat) (a : Option Addr) (cap : Nat) (ws : List Nat) (hreach : ws.length ≤ 1099511627776) (w : World) (hBs : Bs < n₀) (hBS : Q Bs) (hn₀ : n₀ ≤ w.heap.size)
    (hc : w.cell? ⟨Bs, 0, none⟩ = some (.slice a ws.length cap)) (hI : Sl w (.slice a ws.length cap) (cu64 ws)) (hblk : ws ≠ [] → ∀ k, (Value.slice a ws.length cap).ownBlock = some k → k < n₀ ∧ Q k) :
    SeqStopsK Fence.wide n Tryz.prog 113 #[.pointer (some ⟨Bs, 0, none⟩)] (encP ws) (Kq Q n₀) (fun ys => ys = upto ws.length ws.length)
      (fun pre => ∃ k, k ≤ ws.length ∧ pre = upto ws.length k) ws.length w := fun l J Jx W hW _ _ hY h0 => by
  have hc' := (hW.cell (p := ⟨Bs, 0, none⟩) (by show Bs < _; omega)).trans hc
  by_cases hne : ws = []
  · subst hne
    exact (back1_nil_in n l Bs cap a _ J W hc' h0).mono fun e W' ⟨he, hj⟩ => ⟨he, .inl ⟨_, rfl, hj⟩⟩
  · obtain ⟨b, off, cap', hv, hcs⟩ := sl_at hI (cu64_nil.2 hne)
    simp only [Value.slice.injEq] at hv
    obtain ⟨rfl, _, rfl⟩ := hv
    have hb := hblk hne b rfl
    refine back1_in Q n hn l Bs n₀ b off cap ws hreach hb.1 hb.2 hBS J Jx hY W hc' hBs (fun j hj => ?_) h0
    have := hcs j (by rw [cu64_length]; exact hj)
    rw [cu64_getD _ _ hj] at this
    exact (hW.cell (p := ⟨b, off + j, none⟩) (by show b < _; have := hb.1; omega)).trans this
end Go.Proofs.YtoklmfmoblkfcaaGreatDoor

/- The contract of nat.Cmp (layer 5). -/
namespace Go.Proofs.YtoklmfmoblkfcaaGreatDoor
open Go.RowKit Go.Proofs.Tm Go.Shelf
set_option linter.unusedVariables false
set_option maxRecDepth 20000
attribute [local go_sem] Oper.semAt_some


theorem cmp_len (u v : Value) (m n : Nat) (w : World) (hu : NV w u m) (hv : NV w v n) (hne : (wds m).length ≠ (wds n).length) :
    Calls Tryz.prog 52 #[u, v] w fun e w' => e = .returned (.int .i64 (cmpN m n)) ∧ Upd [] w w' := by
  obtain ⟨a, cap, rfl, hl, hcm⟩ := hu.open
  obtain ⟨b, cap', rfl, hl', hcm'⟩ := hv.open
  have HR : Hid (cmpN m n = if (wds n).length < (wds m).length then 1 else -1) := by
    show _ = _
    unfold cmpN
    rcases Nat.lt_or_ge (wds n).length (wds m).length with h | h
    · have := wds_lt_of_length h
      rw [if_pos h, if_neg (by omega), if_neg (by omega)]
    · have := wds_lt_of_length (show (wds m).length < (wds n).length by omega)
      rw [if_pos this, if_neg (by omega)]
  unfold maxLen at hcm hcm'
  rw [HR.out]
  generalize (wds m).length = lm at *
  generalize (wds n).length = ln at *
  have hn : (((lm : Nat) : Int) != ((ln : Nat) : Int)) = true := by rw [bne_iff_ne]; omega
  obtain ⟨z, hz⟩ : ∃ z : Bool, z = decide (ln < lm) := ⟨_, rfl⟩
  have HZ : Hid ((if ln < lm then (1 : Int) else -1) = if z then 1 else -1) := by show _ = _; rw [hz]; by_cases h : ln < lm <;> simp [h]
  rw [HZ.out]
  have hz' : decide (ln < lm) = z := hz.symm
  clear hu hv hne HR hz
  go_enter Tryz.func52, Tryz.ntmps52
  go_wp2_with fail
  refine (sign_any z _).mono ?_
  rintro e w1 ⟨rfl, rfl⟩
  go_wp2
  · refine bodyPost_ret (v := .int .i64 1) (by simp [results, Tryz.results52, go_sem]) rfl ?_
    exact ⟨rfl, (((Upd.refl _ _).alloc _).alloc _).alloc _⟩
  · refine bodyPost_ret (v := .int .i64 (-1)) (by simp [results, Tryz.results52, go_sem]) rfl ?_
    exact ⟨rfl, (((Upd.refl _ _).alloc _).alloc _).alloc _⟩

/-- Held against one another from above. -/
theorem cmp_above (m n k : Nat) (hl : (wds m).length = (wds n).length) (hk : k < (wds m).length) (he : ∀ j, k < j → j < (wds m).length → (wds m).getD j 0 = (wds n).getD j 0) (hne : (wds m).getD k 0 ≠ (wds n).getD k 0) :
    cmpN m n = if (wds n).getD k 0 < (wds m).getD k 0 then 1 else -1 := by
  have hd : (wds m).drop (k + 1) = (wds n).drop (k + 1) := by
    apply List.ext_getElem
    · simp [hl]
    · intro i h1 h2
      simp only [List.length_drop] at h1 h2
      have := he (k + 1 + i) (by omega) (by omega)
      rw [List.getElem_drop, List.getElem_drop]
      simpa [show k + 1 + i < (wds m).length by omega, show k + 1 + i < (wds n).length by omega] using this
  have g1 : (wds m)[k]? = some ((wds m).getD k 0) := by rw [List.getElem?_eq_getElem hk]; simp [hk]
  have hk2 : k < (wds n).length := by omega
  have g2 : (wds n)[k]? = some ((wds n).getD k 0) := by rw [List.getElem?_eq_getElem hk2]; simp [hk2]
  unfold cmpN
  rcases Nat.lt_or_ge ((wds n).getD k 0) ((wds m).getD k 0) with h | h
  · have := wval_cmp (wds n) (wds m) k _ _ (wds_lt n) (wds_lt m) hl.symm g2 g1 h hd.symm
    rw [wval_wds, wval_wds] at this
    rw [if_neg (by omega), if_neg (by omega), if_pos h]
  · have := wval_cmp (wds m) (wds n) k _ _ (wds_lt m) (wds_lt n) hl g1 g2 (by omega) hd
    rw [wval_wds, wval_wds] at this
    rw [if_pos this, if_neg (by omega)]
theorem cmp_all (m n : Nat) (hl : (wds m).length = (wds n).length) (he : ∀ j, j < (wds m).length → (wds m).getD j 0 = (wds n).getD j 0) : cmpN m n = 0 := by
  have : wds m = wds n := by
    apply List.ext_getElem hl
    intro i h1 h2
    simpa [h1, h2] using he i h1
  have := wds_inj this
  unfold cmpN
  rw [if_neg (by omega), if_pos this]

/-- Between two rounds of Cmp: so far all words were the same. -/
def CmpIn (m n : Nat) (w0 : World) (pre : List (Fin (wds m).length)) (W : World) : Prop :=
  (∀ x ∈ pre, gd (wds m) ((wds m).length - 1 - x.val) = gd (wds n) ((wds m).length - 1 - x.val)) ∧ Below w0.heap.size w0 W
/-- A round of Cmp has left: the last words were unlike, and the answer is laid. -/
def CmpOut (m n p : Nat) (w : World) (c : Code) (pre : List (Fin (wds m).length)) (W : World) : Prop :=
  (c = .ret ∧ ∃ ini last, pre = ini ++ [last] ∧ (∀ x ∈ ini, gd (wds m) ((wds m).length - 1 - x.val) = gd (wds n) ((wds m).length - 1 - x.val)) ∧ gd (wds m) ((wds m).length - 1 - last.val) ≠ gd (wds n) ((wds m).length - 1 - last.val) ∧
       W.cell? ⟨p, 0, none⟩ = some (.int .i64 (if gd (wds n) ((wds m).length - 1 - last.val) < gd (wds m) ((wds m).length - 1 - last.val) then 1 else -1))) ∧ Below w.heap.size w W

set_option maxRecDepth 100000 in
set_option maxHeartbeats 2000000 in
theorem cmp_same (u v : Value) (m n : Nat) (w : World) (hu : NV w u m) (hv : NV w v n) (heq : (wds m).length = (wds n).length) (hlen : (wds m).length ≤ 1099511627776) :
    Calls Tryz.prog 52 #[u, v] w fun e w' => e = .returned (.int .i64 (cmpN m n)) ∧ Upd [] w w' := by
  obtain ⟨a, cap, rfl, hl, hcm⟩ := hu.open
  obtain ⟨b, cap', rfl, hl', hcm'⟩ := hv.open
  unfold maxLen at hcm hcm'
  have HA := Lib.hid hu
  have HB := Lib.hid hv
  have HEQ := Lib.hid heq
  rw [← heq] at hl' HB ⊢
  have hln : (((wds m).length : Int) != ((wds m).length : Int)) = false := by simp
  clear hu hv heq
  refine (callsIn_wide (n := 3)).1 ?_
  refine callsIn_of_wp_marks Tryz.func52 rfl trivial ?_ rfl
  simp only [Tryz.ntmps52, List.size_toArray, List.length_cons, List.length_nil, Nat.reduceAdd, Nat.reduceSub, Array.replicate_succ, Array.replicate_zero, List.push_toArray, List.append_toArray, List.nil_append, List.cons_append]
  gi_wp2_with (refine ⟨trivial, ?_⟩; gi_at_call 71; refine (callsIn_wide.2 (backward_any _ _ _ _)).mono ?_; rintro e w' ⟨rfl, rfl⟩)
  obtain ⟨w0, hw0⟩ : ∃ w0, w0 = (((w.alloc (.cells #[.slice a (wds m).length cap] 27)).alloc (.cells #[.slice b (wds m).length cap'] 27)).alloc (.cells #[.int .i64 0] 3)).alloc (.cells #[.slice a (wds m).length cap] 22) := ⟨_, rfl⟩
  have hu1 : Upd [] (((w.alloc (.cells #[.slice a (wds m).length cap] 27)).alloc (.cells #[.slice b (wds m).length cap'] 27)).alloc (.cells #[.int .i64 0] 3)) w0 := by rw [hw0]; exact (Upd.refl _ _).alloc _
  obtain ⟨hb2, hb3, hb4, hu0, hs0⟩ := box3 hu1
  have hs1 : w0.heap.size = w.heap.size + 1 + 1 + 1 + 1 := by rw [hw0]; simp
  have hb5 : w0.cell? ⟨w.heap.size + 1 + 1 + 1, 0, none⟩ = some (.slice a (wds m).length cap) := by
    rw [hw0]; exact World.cell?_alloc_at _ _ _ _ (by simp)
  rw [← hw0]
  have HU0 := Lib.hid hu0
  have hc2 : w0.cell? ⟨w.heap.size, 0, none⟩ = some (.slice a (wds m).length cap) := by rw [cell_of_row w0 _ 0 _ _ _ hb2]; rfl
  have hc3 : w0.cell? ⟨w.heap.size + 1, 0, none⟩ = some (.slice b (wds m).length cap') := by rw [cell_of_row w0 _ 0 _ _ _ hb3]; rfl
  have hc4 : w0.cell? ⟨w.heap.size + 1 + 1, 0, none⟩ = some (.int .i64 0) := by rw [cell_of_row w0 _ 0 _ _ _ hb4]; rfl
  have hf4 : w0.frozen? ⟨w.heap.size + 1 + 1, 0, none⟩ = false := by simp [World.frozen?, hb4]
  have HW0 := Lib.hid hw0
  have HS1 := Lib.hid hs1
  have hs3 := Nat.le_of_eq hs1.symm
  clear hs1 hw0 hu1 hb2 hb3 hb4 hu0
  refine wpIn_rangeFunc_ownF rfl (by decide) (gf := 113) (lb := #[.pointer (some ⟨w.heap.size + 1 + 1 + 1, 0, none⟩)]) rfl trivial (enters_of Tryz.func113 (by kernel_rfl) rfl)
    (back_stops (Ks []) 2 (by decide) (w.heap.size + 1 + 1 + 1) w0.heap.size a cap (wds m) hlen w0 (by omega) (by simp [Ks]) (Nat.le_refl _) hb5 (HA.out.upd0 HU0.out).sl (fun hne k hk => ⟨(HA.out.upd0 HU0.out).blk hne k hk, by simp [Ks]⟩)) Kq.trans Kq.put (Below.refl _ _) (fun _ => rfl)
    (CmpIn m n w0) (CmpOut m n (w.heap.size + 1 + 1) w)
    (OwnFrom.and (Own.from (fun s A B row hs hg hr => hs) _) (ownFrom_below (Nat.le_refl _) (Nat.le_refl _)))
    (fun c => OwnFrom.and (Own.from (fun s A B row hs hg hr => by obtain ⟨hc, ini, last, e1, e2, e3, e4⟩ := hs; exact ⟨hc, ini, last, e1, e2, e3, cell_kept e4 hg hr⟩) _) (ownFrom_below (Nat.le_refl _) (by have := HS1.out; omega)))
    ⟨by simp, Below.refl _ _⟩
    ?a1 ?assign ?body ?done ?stop
  case assign =>
    intro l x W K hK
    simp only [encP]
    gi_wp2
    exact hK
  case body =>
    rintro l pre x W ⟨hp, hB⟩ hlt
    obtain ⟨j, hj⟩ : ∃ j, j = (wds m).length - 1 - x.val := ⟨_, rfl⟩
    have hjl : j < (wds m).length := by have := x.isLt; omega
    have HJ := Lib.hid hj
    have hU : Upd [] w0 W := Upd.of_below hB
    obtain ⟨bb, bo, rfl, hbb, hcb⟩ := HB.out.at j (by rw [← HEQ.out]; exact hjl)
    have hcb' : W.cell? ⟨bb, bo + j, none⟩ = some (.int .u64 ((gd (wds n) j : Nat) : Int)) := ((HU0.out.trans0 hU).cell (p := ⟨bb, bo + j, none⟩) hbb (by simp)).trans hcb
    have k3 : W.cell? ⟨w.heap.size + 1, 0, none⟩ = some (.slice (some ⟨bb, bo, none⟩) (wds m).length cap') := (hU.cell (p := ⟨w.heap.size + 1, 0, none⟩) (by show w.heap.size + 1 < _; omega) (by simp)).trans hc3
    have k4 : W.cell? ⟨w.heap.size + 1 + 1, 0, none⟩ = some (.int .i64 0) := (hU.cell (p := ⟨w.heap.size + 1 + 1, 0, none⟩) (by show w.heap.size + 1 + 1 < _; omega) (by simp)).trans hc4
    have f4 : W.frozen? ⟨w.heap.size + 1 + 1, 0, none⟩ = false := (hU.frozen (p := ⟨w.heap.size + 1 + 1, 0, none⟩) (by show w.heap.size + 1 + 1 < _; omega) (by simp)).trans hf4
    have i0 : (0 : Int) ≤ (j : Int) := by omega
    have i1 : (j : Int) < ((wds m).length : Int) := by omega
    rw [← hj]
    have HB2 := Lib.hid hB
    have HP := Lib.hid hp
    have HBW : Hid (Below w.heap.size w W) := (HU0.out.trans0 hU).below
    have HX : Hid (∀ y : Fin (wds m).length, y = x → (wds m).length - 1 - y.val = j) := fun y hy => by rw [hy]; exact hj.symm
    clear hj hp hB hcb hc2 hc3 hc4 hf4 hb5 hU hbb
    have HME : Hid (gd (wds m) j = gd (wds m) j) := rfl
    by_cases hne : gd (wds m) j = gd (wds n) j
    · have hd : (((gd (wds m) j : Nat) : Int) != ((gd (wds n) j : Nat) : Int)) = false := by rw [hne]; simp
      have HNE := Lib.hid hne
      have HI : Hid (CmpIn m n w0 (pre ++ [x]) W) := by
        refine ⟨fun y hy => ?_, HB2.out⟩
        rcases List.mem_append.1 hy with h | h
        · exact HP.out y h
        · rw [HX.out y (by simpa using h)]; exact hne
      clear hne
      generalize gd (wds m) j = xm at *
      generalize gd (wds n) j = xn at *
      gi_wp2
      exact ⟨KeepsOthers.refl _, Kq.refl _ _ _, HI.out⟩
    · have hd : (((gd (wds m) j : Nat) : Int) != ((gd (wds n) j : Nat) : Int)) = true := by rw [bne_iff_ne]; omega
      obtain ⟨z, hz⟩ : ∃ z : Bool, z = decide (gd (wds n) j < gd (wds m) j) := ⟨_, rfl⟩
      have hz' : decide (gd (wds n) j < gd (wds m) j) = z := hz.symm
      have HZ : Hid ((if gd (wds n) j < gd (wds m) j then (1 : Int) else -1) = if z then 1 else -1) := by show _ = _; rw [hz]; by_cases h : gd (wds n) j < gd (wds m) j <;> simp [h]
      have HNE := Lib.hid hne
      have HL : Hid (∀ A : World, A.cell? ⟨w.heap.size + 1 + 1, 0, none⟩ = some (.int .i64 (if z then 1 else -1)) → Below w.heap.size w A → CmpOut m n (w.heap.size + 1 + 1) w .ret (pre ++ [x]) A) := fun A h1 h2 =>
        ⟨⟨rfl, pre, x, rfl, HP.out, by rw [HX.out x rfl]; exact hne, by rw [HX.out x rfl, HZ.out]; exact h1⟩, h2⟩
      clear hne hz
      generalize gd (wds m) j = xm at *
      generalize gd (wds n) j = xn at *
      gi_wp2_with (refine ⟨trivial, ?_⟩; gi_at_call 101; refine (CallsIn.inRound l (callsIn_wide.2 (sign_any z _))).mono ?_; rintro e w' ⟨rfl, rfl⟩)
      · have hz3 : z = true := by assumption
        exact ⟨KeepsOthers.setCell _ _ _, HL.out _ (by rw [hz3]; exact set_cell k4) (HBW.out.setCell (p := ⟨w.heap.size + 1 + 1, 0, none⟩) (by show w.heap.size ≤ w.heap.size + 1 + 1; omega) _)⟩
      · have hz3 : z = false := by (first | assumption | (cases z <;> simp_all))
        exact ⟨KeepsOthers.setCell _ _ _, HL.out _ (by rw [hz3]; exact set_cell k4) (HBW.out.setCell (p := ⟨w.heap.size + 1 + 1, 0, none⟩) (by show w.heap.size ≤ w.heap.size + 1 + 1; omega) _)⟩
  case done =>
    rintro D ys W hD rfl ⟨hp, hB⟩ hK
    have hU : Upd [] w0 W := Upd.of_below hB
    have k4 : W.cell? ⟨w.heap.size + 1 + 1, 0, none⟩ = some (.int .i64 0) := (hU.cell (p := ⟨w.heap.size + 1 + 1, 0, none⟩) (by show w.heap.size + 1 + 1 < _; omega) (by simp)).trans hc4
    have f4 : W.frozen? ⟨w.heap.size + 1 + 1, 0, none⟩ = false := (hU.frozen (p := ⟨w.heap.size + 1 + 1, 0, none⟩) (by show w.heap.size + 1 + 1 < _; omega) (by simp)).trans hf4
    have HV : Hid (cmpN m n = 0) := cmp_all m n HEQ.out (fun j hj => by
      have := hp ⟨(wds m).length - 1 - j, by omega⟩ (by rw [upto_all]; simp)
      simp only [show (wds m).length - 1 - ((wds m).length - 1 - j) = j by omega] at this
      exact this)
    have HBW : Hid (Below w.heap.size w W) := (HU0.out.trans0 hU).below
    have HK := Lib.hid hK
    clear hp hB hU hc2 hc3 hc4 hf4 hb5 hK
    gi_wp2
    have hK' := (KeepsOthers.setCell W ⟨w.heap.size + 1 + 1, 0, none⟩ (.int .i64 0)).same D _ HK.out rfl
    refine ⟨by simp, .inl ⟨_, _, rfl, run_takeDeferred hK', ?_⟩⟩
    have hc5 := cell_kept (set_cell (y := .int .i64 0) k4) (grownBy_putObj' _ D (.deferred none)) (fun r e => by cases e; exact ⟨_, hK', rfl⟩)
    refine ⟨.int .i64 0, by simp [results, Tryz.f52, go_sem, hc5], by rw [HV.out], Upd.of_below ((HBW.out.setCell (p := ⟨w.heap.size + 1 + 1, 0, none⟩) (by show w.heap.size ≤ w.heap.size + 1 + 1; omega) _).trans (belowK_b (w := w) (Nat.le_refl _) _ D _ _ (by omega) hK' rfl rfl))⟩
  case stop =>
    rintro D c pre W hD ⟨k, hk, rfl⟩ ⟨⟨rfl, ini, last, e1, e2, e3, hcr⟩, hB⟩ hK
    have hg := good_upto (n := (wds m).length) hk
    rw [e1] at hg
    obtain ⟨⟨k', hk', rfl⟩, hlast⟩ := good_snoc hg
    rw [upto_length hk'] at hlast
    have hll := last.isLt
    have HV : Hid (cmpN m n = if gd (wds n) ((wds m).length - 1 - last.val) < gd (wds m) ((wds m).length - 1 - last.val) then 1 else -1) :=
      cmp_above m n ((wds m).length - 1 - last.val) HEQ.out (by omega) (fun j h1 h2 => by
        have := e2 ⟨(wds m).length - 1 - j, by omega⟩ (by
          unfold upto
          rw [List.mem_take_iff_getElem]
          exact ⟨(wds m).length - 1 - j, by simp; omega, by simp⟩)
        simp only [show (wds m).length - 1 - ((wds m).length - 1 - j) = j by omega] at this
        exact this) e3
    have HK := Lib.hid hK
    have HBW := Lib.hid hB
    have HCR := Lib.hid hcr
    clear hcr hK hB e1 e2 e3 hg hlast hc2 hc3 hc4 hf4 hb5
    gi_wp2
    refine ⟨by simp, .inl ⟨_, _, rfl, run_takeDeferred HK.out, ?_⟩⟩
    have hc5 := cell_kept HCR.out (grownBy_putObj' _ D (.deferred none)) (fun r e => by cases e; exact ⟨_, HK.out, rfl⟩)
    refine ⟨.int .i64 (if gd (wds n) ((wds m).length - 1 - last.val) < gd (wds m) ((wds m).length - 1 - last.val) then 1 else -1), by simp [results, Tryz.f52, go_sem, hc5], by rw [HV.out], Upd.of_below (HBW.out.trans (belowK_b (w := w) (Nat.le_refl _) W D _ _ (by omega) HK.out rfl rfl))⟩

/-- Cmp: -1, 0, 1. -/
theorem cmp_any (u v : Value) (m n : Nat) (w : World) (hu : NV w u m) (hv : NV w v n) (hlen : (wds m).length ≤ 1099511627776) :
    Calls Tryz.prog 52 #[u, v] w fun e w' => e = .returned (.int .i64 (cmpN m n)) ∧ Upd [] w w' := by
  by_cases h : (wds m).length = (wds n).length
  · exact cmp_same u v m n w hu hv h hlen
  · exact cmp_len u v m n w hu hv h

theorem cmpN_lt {m n : Nat} (h : m < n) : cmpN m n = -1 := by unfold cmpN; rw [if_pos h]
theorem cmpN_ge {m n : Nat} (h : n ≤ m) : decide (cmpN m n < 0) = false := by unfold cmpN; rw [if_neg (by omega)]; split <;> rfl

end Go.Proofs.YtoklmfmoblkfcaaGreatDoor

/- Whole numbers (layer 6): what stands for one; Neg, Abs, Cmp, Make, Minus. -/
namespace Go.Proofs.YtoklmfmoblkfcaaGreatDoor
open Go.RowKit Go.Proofs.Tm
set_option linter.unusedVariables false
set_option linter.unusedSimpArgs false
set_option maxRecDepth 20000

/-- v is the whole number z. -/
def WV (w : World) (v : Value) (z : Int) : Prop := ∃ s, v = .agg #[.bool (decide (z < 0)), s] ∧ NV w (.agg #[s]) z.natAbs
theorem WV.upd0 {w w' : World} {v : Value} {z : Int} (h : WV w v z) (u : Upd [] w w') : WV w' v z := by
  obtain ⟨s, rfl, hn⟩ := h
  exact ⟨s, rfl, hn.upd0 u⟩
theorem WV.open {w : World} {v : Value} {z : Int} (h : WV w v z) : ∃ a l c, v = .agg #[.bool (decide (z < 0)), .slice a l c] ∧ NV w (.agg #[.slice a l c]) z.natAbs := by
  obtain ⟨s, rfl, hn⟩ := h
  obtain ⟨a, c, h, _, _⟩ := hn.open
  simp only [Value.agg.injEq, Array.mk.injEq, List.cons.injEq, and_true] at h
  subst h
  exact ⟨a, _, c, rfl, hn⟩
def RWhole (z : Int) (w : World) (e : Ending) (w' : World) : Prop := ∃ v, e = .returned v ∧ WV w' v z ∧ Upd [] w w'

theorem two_boxesM (w : World) (x : Array Value) (y : Value) (t t' : TypeId) (W : World) (h : W = (w.alloc (.cells x t)).alloc (.cells #[y] t')) :
    Upd [] w W ∧ W.cell? ⟨w.heap.size + 1, 0, none⟩ = some y := by
  subst h
  refine ⟨((Upd.refl _ _).alloc _).alloc _, ?_⟩
  have b2 : Box ((w.alloc (.cells x t)).alloc (.cells #[y] t')) (w.heap.size + 1) y t' := by have := Box.new (w.alloc (.cells x t)) y t'; simpa using this
  exact b2.cell

set_option maxHeartbeats 400000 in
theorem wneg_any (v : Value) (z : Int) (w : World) (h : WV w v z) : Calls Tryz.prog 17 #[v] w fun e w' => e = .returned (.bool (decide (z < 0))) ∧ Upd [] w w' := by
  obtain ⟨a, l, c, rfl, hn⟩ := h.open
  generalize decide (z < 0) = b at *
  clear h hn
  go_enter Tryz.func17, Tryz.ntmps17
  go_wp2
  go_ret
  exact ⟨rfl, (Upd.refl _ _).alloc _⟩

set_option maxHeartbeats 400000 in
theorem wabs_any (v : Value) (z : Int) (w : World) (h : WV w v z) : Calls Tryz.prog 19 #[v] w (RNat z.natAbs w) := by
  obtain ⟨a, l, c, rfl, hn⟩ := h.open
  have HN := Lib.hid hn
  generalize decide (z < 0) = b at *
  clear h hn
  go_enter Tryz.func19, Tryz.ntmps19
  go_wp2
  have hu : Upd [] w ((w.alloc (.cells #[.bool b, .slice a l c] 29)).alloc (.cells #[.slice a l c] 27)) := ((Upd.refl _ _).alloc _).alloc _
  have hrow : ((w.alloc (.cells #[.bool b, .slice a l c] 29)).alloc (.cells #[.slice a l c] 27)).cell? ⟨w.heap.size + 1, 0, none⟩ = some (.slice a l c) := (two_boxesM w #[.bool b, .slice a l c] (.slice a l c) _ _ _ rfl).2
  refine bodyPost_ret (v := .agg #[.slice a l c]) (by simp [results, Tryz.results19, go_sem, hrow]) rfl ?_
  exact ⟨_, rfl, HN.out.upd0 hu, hu⟩

set_option maxHeartbeats 800000 in
theorem wcmp_any (u v : Value) (x y : Int) (w : World) (hu : WV w u x) (hv : WV w v y) (hlx : (wds x.natAbs).length ≤ 1099511627776) (hly : (wds y.natAbs).length ≤ 1099511627776) :
    Calls Tryz.prog 23 #[u, v] w fun e w' => e = .returned (.int .i64 (cmpZ x y)) ∧ Upd [] w w' := by
  obtain ⟨a, l, c, rfl, hn⟩ := hu.open
  obtain ⟨a', l', c', rfl, hn'⟩ := hv.open
  have HC1 : Hid (∀ W, Upd [] w W → Calls Tryz.prog 52 #[.agg #[.slice a l c], .agg #[.slice a' l' c']] W fun e w' => e = .returned (.int .i64 (cmpN x.natAbs y.natAbs)) ∧ Upd [] W w') := fun W h => cmp_any _ _ _ _ W (hn.upd0 h) (hn'.upd0 h) hlx
  have HC2 : Hid (∀ W, Upd [] w W → Calls Tryz.prog 52 #[.agg #[.slice a' l' c'], .agg #[.slice a l c]] W fun e w' => e = .returned (.int .i64 (cmpN y.natAbs x.natAbs)) ∧ Upd [] W w') := fun W h => cmp_any _ _ _ _ W (hn'.upd0 h) (hn.upd0 h) hly
  obtain ⟨w0, hw0⟩ : ∃ W, W = (w.alloc (.cells #[.bool (decide (x < 0)), .slice a l c] 29)).alloc (.cells #[.bool (decide (y < 0)), .slice a' l' c'] 29) := ⟨_, rfl⟩
  have HU0 : Hid (Upd [] w w0) := by rw [hw0]; exact ((Upd.refl _ _).alloc _).alloc _
  have HW0 := Lib.hid hw0
  clear hu hv hn hn' hlx hly hw0
  by_cases hx : x < 0
  · by_cases hy : y < 0
    · have HE : Hid (cmpN y.natAbs x.natAbs = cmpZ x y) := by
        show _ = _
        unfold cmpN cmpZ
        repeat' split
        all_goals omega
      rw [decide_eq_true hx, decide_eq_true hy] at HW0 ⊢
      clear hx hy
      go_enter Tryz.func23, Tryz.ntmps23
      go_wp2_with fail
      rw [← HW0.out]
      refine (HC2.out _ HU0.out).mono ?_
      rintro e w1 ⟨rfl, hu1⟩
      have HF := Lib.hid (HU0.out.trans0 hu1)
      clear hu1
      go_wp2
      go_ret
      exact ⟨by rw [HE.out]; rfl, HF.out⟩
    · have HE : Hid (cmpZ x y = -1) := by show _ = _; unfold cmpZ; rw [if_pos (by omega)]
      rw [decide_eq_true hx, decide_eq_false hy] at HW0 ⊢
      clear hx hy
      go_enter Tryz.func23, Tryz.ntmps23
      go_wp2
      go_ret
      exact ⟨by rw [HE.out]; rfl, by rw [← HW0.out]; exact HU0.out⟩
  · by_cases hy : y < 0
    · have HE : Hid (cmpZ x y = 1) := by show _ = _; unfold cmpZ; rw [if_neg (by omega), if_neg (by omega)]
      rw [decide_eq_false hx, decide_eq_true hy] at HW0 ⊢
      clear hx hy
      go_enter Tryz.func23, Tryz.ntmps23
      go_wp2
      go_ret
      exact ⟨by rw [HE.out]; rfl, by rw [← HW0.out]; exact HU0.out⟩
    · have HE : Hid (cmpN x.natAbs y.natAbs = cmpZ x y) := by
        show _ = _
        unfold cmpN cmpZ
        repeat' split
        all_goals omega
      rw [decide_eq_false hx, decide_eq_false hy] at HW0 ⊢
      clear hx hy
      go_enter Tryz.func23, Tryz.ntmps23
      go_wp2_with fail
      rw [← HW0.out]
      refine (HC1.out _ HU0.out).mono ?_
      rintro e w1 ⟨rfl, hu1⟩
      have HF := Lib.hid (HU0.out.trans0 hu1)
      clear hu1
      go_wp2
      go_ret
      exact ⟨by rw [HE.out]; rfl, HF.out⟩
end Go.Proofs.YtoklmfmoblkfcaaGreatDoor

/- Whole numbers (layer 6): Make, Minus. -/
namespace Go.Proofs.YtoklmfmoblkfcaaGreatDoor
open Go.RowKit Go.Proofs.Tm
set_option linter.unusedVariables false
set_option linter.unusedSimpArgs false
set_option maxRecDepth 20000

set_option maxHeartbeats 1600000 in
theorem wmake_any (b : Bool) (v : Value) (n : Nat) (w : World) (h : NV w v n) : Calls Tryz.prog 35 #[.bool b, v] w (RWhole (if b then -(n : Int) else n) w) := by
  obtain ⟨a, c, rfl, _, _⟩ := h.open
  obtain ⟨l, hl⟩ : ∃ l, l = (wds n).length := ⟨_, rfl⟩
  rw [← hl] at h ⊢
  obtain ⟨w0, hw0⟩ : ∃ W, W = (w.alloc (.cells #[.slice a l c] 27)).alloc (.cells #[.bool false, .slice none 0 0] 29) := ⟨_, rfl⟩
  obtain ⟨S, hS⟩ : ∃ s, s = w.heap.size := ⟨_, rfl⟩
  have hu0 : Upd [] w w0 := by rw [hw0]; exact ((Upd.refl _ _).alloc _).alloc _
  have HN : Hid (∀ W, Upd [] w W → NV W (.agg #[.slice a l c]) n) := fun W hh => h.upd0 hh
  have hr0 : w0.heap[S]? = some (.cells #[.slice a l c] 27 (0, 0)) := by rw [hw0, hS, Below.heap_alloc _ _ _ (by simp <;> omega)]; exact heap_alloc_new w _
  have hr1 : w0.heap[S + 1]? = some (.cells #[.bool false, .slice none 0 0] 29 (0, 0)) := by rw [hw0, hS]; have := heap_alloc_new (w.alloc (.cells #[.slice a l c] 27)) (.cells #[.bool false, .slice none 0 0] 29); simpa using this
  have HC : Hid (∀ W, Upd [] w0 W → W.cell? ⟨S, 0, none⟩ = some (.slice a l c) ∧ W.cell? ⟨S + 1, 0, none⟩ = some (.bool false) ∧ W.cell? ⟨S + 1, 1, none⟩ = some (.slice none 0 0) ∧ W.frozen? ⟨S + 1, 0, none⟩ = false ∧ W.frozen? ⟨S + 1, 1, none⟩ = false) := fun W hh =>
    have e0 := (hh.block _ (lt_of_block hr0) (by simp)).trans hr0
    have e1 := (hh.block _ (lt_of_block hr1) (by simp)).trans hr1
    ⟨by rw [cell_of_row W _ 0 _ _ _ e0]; rfl, by rw [cell_of_row W _ 0 _ _ _ e1]; rfl, by rw [cell_of_row W _ 1 _ _ _ e1]; rfl, frozen_of_row W _ 0 _ _ e1, frozen_of_row W _ 1 _ _ e1⟩
  have HR1 := Lib.hid hr1
  have HW0 := Lib.hid hw0
  have HS := Lib.hid hS
  have HU0 := Lib.hid hu0
  have HZ : Hid (∀ W, Upd [] w W → Calls Tryz.prog 56 #[.agg #[.slice a l c]] W fun e w' => e = .returned (.bool (decide (n = 0))) ∧ Upd [] W w') := fun W hh => zero_any _ n W (HN.out W hh)
  obtain ⟨d0, d1, d2, e1, e2⟩ := HC.out _ (Upd.refl _ w0)
  have hrf : Upd [] w0 w0 := Upd.refl _ _
  clear h hl hw0 hS hu0 hr0 hr1
  have HFIN : Hid (∀ W (q : Bool) (z : Int), Upd [] w0 W → q = decide (z < 0) → z.natAbs = n → (((W.setCell ⟨S + 1, 0, none⟩ (.bool q)).setCell ⟨S + 1, 1, none⟩ (.slice a l c)).cell? ⟨S + 1, 0, none⟩ = some (.bool q) ∧ ((W.setCell ⟨S + 1, 0, none⟩ (.bool q)).setCell ⟨S + 1, 1, none⟩ (.slice a l c)).cell? ⟨S + 1, 1, none⟩ = some (.slice a l c) ∧ ∀ W', Upd [] ((W.setCell ⟨S + 1, 0, none⟩ (.bool q)).setCell ⟨S + 1, 1, none⟩ (.slice a l c)) W' → RWhole z w (.returned (.agg #[.bool q, .slice a l c])) W')) := fun W q z hh hq hz => by
    have e1 := (hh.block _ (lt_of_block HR1.out) (by simp)).trans HR1.out
    have hrow : ((W.setCell ⟨S + 1, 0, none⟩ (.bool q)).setCell ⟨S + 1, 1, none⟩ (.slice a l c)).heap[S + 1]? = some (.cells #[.bool q, .slice a l c] 29 (0, 0)) := by
      have h1 := heap_setCell_same W (S + 1) 0 _ _ (.bool q) e1
      rw [heap_setCell_same _ (S + 1) 1 _ _ (.slice a l c) h1]
      rfl
    have hS1 : w.heap.size ≤ S + 1 := by have := HS.out; omega
    refine ⟨by rw [cell_of_row _ _ 0 _ _ _ hrow]; rfl, by rw [cell_of_row _ _ 1 _ _ _ hrow]; rfl, fun W' hw' => ?_⟩
    have huw : Upd [] w W' := (((HU0.out.trans0 hh).setCell (p := ⟨S + 1, 0, none⟩) (.inr hS1) _).setCell (p := ⟨S + 1, 1, none⟩) (.inr hS1) _).trans0 hw'
    exact ⟨_, rfl, ⟨_, by rw [hq], by rw [hz]; exact HN.out _ huw⟩, huw⟩
  cases b
  · go_enter Tryz.func35, Tryz.ntmps35
    go_wp2_with fail
    rw [← HW0.out]
    rw [← HS.out]
    go_region
    all_goals
      have HX := HFIN.out w0 false n hrf (by simp) (by simp)
      have z0 := HX.1
      have z1 := HX.2.1
      have HY := Lib.hid (HX.2.2 _ (Upd.refl _ _).drew)
      clear HX
      go_wp2
      refine bodyPost_ret (v := .agg #[.bool false, .slice a l c]) (by simp [results, Tryz.results35, go_sem, z0, z1]) rfl ?_
      exact HY.out
  · obtain ⟨q, hq⟩ : ∃ q, q = !decide (n = 0) := ⟨_, rfl⟩
    have HQ := Lib.hid hq
    have hqn : (!decide (n = 0)) = q := hq.symm
    have hcA : ∀ W, Upd [] w0 W → W.cell? ⟨S + 1, 0, none⟩ = some (.bool false) ∧ W.cell? ⟨S + 1, 1, none⟩ = some (.slice none 0 0) ∧ W.frozen? ⟨S + 1, 0, none⟩ = false ∧ W.frozen? ⟨S + 1, 1, none⟩ = false := fun W hh => (HC.out W hh).2
    have HKP : Hid (∀ W, Upd [S + 1] w0 W → W.cell? ⟨S, 0, none⟩ = some (.slice a l c) ∧ Upd [S + 1] w0 W) := fun W hh => ⟨(hh.cell (p := ⟨S, 0, none⟩) (World.block_lt_of_cell? w0 _ d0) (by simp)).trans d0, hh⟩
    clear hq
    go_enter Tryz.func35, Tryz.ntmps35
    go_wp2_with fail
    rw [← HW0.out]
    rw [← HS.out]
    go_region_held3 (fun W => W.cell? ⟨S, 0, none⟩ = some (.slice a l c) ∧ Upd [S + 1] w0 W)
      (first
        | exact HKP.out _ (huy.mono (by simp))
        | exact HKP.out _ (hrf.drew.mono (by simp))
        | exact HKP.out _ (hrf.mono (by simp))
        | exact HKP.out _ (((huy.mono (by simp)).setCell (.inl (by simp)) _).setCell (.inl (by simp)) _))
      (first
        | (go_at_call 56; (with_reducible refine (HZ.out _ (HU0.out.trans0 (by first | exact hrf.drew | exact hrf))).mono ?_); rintro e wz ⟨rfl, hu20⟩; have huy : Upd [] w0 wz := (by first | exact hrf.drew.trans0 hu20 | exact hrf.trans0 hu20); clear hu20; obtain ⟨x1, x2, x3, x4⟩ := hcA _ huy))
    all_goals
      have HX := HFIN.out wz q (-(n : Int)) huy (by rw [HQ.out]; by_cases h0 : n = 0 <;> simp [h0] <;> omega) (by simp)
      have z0 := HX.1
      have z1 := HX.2.1
      have HY := Lib.hid (HX.2.2 _ (Upd.refl _ _))
      clear HX
      go_wp2
      refine bodyPost_ret (v := .agg #[.bool q, .slice a l c]) (by simp [results, Tryz.results35, go_sem, z0, z1]) rfl ?_
      exact HY.out

theorem no_u64w {b : Bool} {a : Option Addr} {l c : Nat} (j : Nat) (z : Int) : (#[Value.bool b, Value.slice a l c] : Array Value)[j]? ≠ some (.int .u64 z) := by
  rcases j with _ | _ | j <;> simp

/-- A whole number is stored into a block of the call's own. -/
structure WPut (w : World) (i : Nat) (q : Bool) (a : Option Addr) (l c : Nat) (z : Int) (W : World) : Prop where
  c0 : W.cell? ⟨i, 0, none⟩ = some (.bool q)
  c1 : W.cell? ⟨i, 1, none⟩ = some (.slice a l c)
  v : WV W (.agg #[.bool q, .slice a l c]) z
  u : Upd [] w W

theorem wv_put {w W : World} {i : Nat} {b q : Bool} {z : Int} {a a' : Option Addr} {l c l' c' : Nat} (hi : w.heap.size ≤ i) (hr : W.heap[i]? = some (.cells #[.bool b, .slice a' l' c'] 29 (0, 0))) (hu : Upd [] w W) (hv : WV W (.agg #[.bool q, .slice a l c]) z) :
    WPut w i q a l c z ((W.setCell ⟨i, 0, none⟩ (.bool q)).setCell ⟨i, 1, none⟩ (.slice a l c)) := by
  have h1 := heap_setCell_same W i 0 _ _ (.bool q) hr
  have hrow := heap_setCell_same _ i 1 _ _ (.slice a l c) h1
  refine ⟨by rw [cell_of_row _ _ 0 _ _ _ hrow]; rfl, by rw [cell_of_row _ _ 1 _ _ _ hrow]; rfl, ?_, (hu.setCell (p := ⟨i, 0, none⟩) (.inr hi) _).setCell (p := ⟨i, 1, none⟩) (.inr hi) _⟩
  obtain ⟨s, he, hn⟩ := hv
  exact ⟨s, he, (hn.store hr no_u64w _ rfl _).store h1 (by intro j z; rcases j with _ | _ | j <;> simp) _ rfl _⟩

set_option maxHeartbeats 400000 in
theorem wminus_any (v : Value) (z : Int) (w : World) (h : WV w v z) : Calls Tryz.prog 79 #[v] w (RWhole (-z) w) := by
  obtain ⟨a, l, c, rfl, hn⟩ := h.open
  have HM : Hid (∀ W, Upd [] w W → Calls Tryz.prog 35 #[.bool (!decide (z < 0)), .agg #[.slice a l c]] W (RWhole (-z) W)) := fun W hh => by
    have := wmake_any (!decide (z < 0)) _ _ W (hn.upd0 hh)
    have e : (if (!decide (z < 0)) = true then -((z.natAbs : Nat) : Int) else (z.natAbs : Nat)) = -z := by
      by_cases hz : z < 0 <;> simp [hz] <;> omega
    rw [e] at this
    exact this
  generalize decide (z < 0) = b at *
  obtain ⟨w0, hw0⟩ : ∃ W, W = (w.alloc (.cells #[.bool b, .slice a l c] 29)).alloc (.cells #[.bool false, .slice none 0 0] 29) := ⟨_, rfl⟩
  have HU0 : Hid (Upd [] w w0) := by rw [hw0]; exact ((Upd.refl _ _).alloc _).alloc _
  have HW0 := Lib.hid hw0
  clear h hn hw0
  go_enter Tryz.func79, Tryz.ntmps79
  go_wp2_with fail
  rw [← HW0.out]
  refine (HM.out _ HU0.out).mono ?_
  rintro e w1 ⟨v1, rfl, hv1, hu1⟩
  obtain ⟨a1, l1, c1, rfl, _⟩ := hv1.open
  have hr1 : w1.heap[w.heap.size + 1]? = some (.cells #[.bool false, .slice none 0 0] 29 (0, 0)) := by
    have h0 : w0.heap[w.heap.size + 1]? = some (.cells #[.bool false, .slice none 0 0] 29 (0, 0)) := by rw [HW0.out]; have := heap_alloc_new (w.alloc (.cells #[.bool b, .slice a l c] 29)) (.cells #[.bool false, .slice none 0 0] 29); simpa using this
    exact (hu1.block _ (lt_of_block h0) (by simp)).trans h0
  have HP := Lib.hid (wv_put (by omega) hr1 (HU0.out.trans0 hu1) hv1)
  clear hv1
  generalize decide (-z < 0) = q at *
  have d0 : w1.cell? ⟨w.heap.size + 1, 0, none⟩ = some (.bool false) := by rw [cell_of_row w1 _ 0 _ _ _ hr1]; rfl
  have d1 : w1.cell? ⟨w.heap.size + 1, 1, none⟩ = some (.slice none 0 0) := by rw [cell_of_row w1 _ 1 _ _ _ hr1]; rfl
  have e0 : w1.frozen? ⟨w.heap.size + 1, 0, none⟩ = false := frozen_of_row w1 _ 0 _ _ hr1
  have e1 : w1.frozen? ⟨w.heap.size + 1, 1, none⟩ = false := frozen_of_row w1 _ 1 _ _ hr1
  clear hr1 hu1
  go_wp2
  have z0 := HP.out.c0
  have z1 := HP.out.c1
  refine bodyPost_ret (v := .agg #[.bool q, .slice a1 l1 c1]) (by simp [results, Tryz.results79, go_sem, z0, z1]) rfl ?_
  exact ⟨_, rfl, HP.out.v, HP.out.u⟩
end Go.Proofs.YtoklmfmoblkfcaaGreatDoor

/- Add64, in the walk's own form; sums on the way. -/
namespace Go.Proofs.YtoklmfmoblkfcaaGreatDoor
open Go.RowKit Go.Proofs.Tm
set_option linter.unusedVariables false
set_option linter.unusedSimpArgs false
set_option maxRecDepth 20000

/-- Add64, in the walk's own form. -/
theorem add64_run (x y c : Nat) (hx : x < 18446744073709551616) (hy : y < 18446744073709551616) (hc : c ≤ 1) :
    ∃ s c' : Nat, s < 18446744073709551616 ∧ c' ≤ 1 ∧ s + 18446744073709551616 * c' = x + y + c ∧
      ∀ W, (callFunc 130 #[.int .u64 (x : Int), .int .u64 (y : Int), .int .u64 (c : Int)]).run Tryz.prog W = .ok (.value (.tuple #[.int .u64 (s : Int), .int .u64 (c' : Int)])) W := by
  refine ⟨(x + y + c) % 18446744073709551616, (x + y + c) / 18446744073709551616, Nat.mod_lt _ (by decide), by omega, by omega, fun W => ?_⟩
  rw [run_callFunc_extern Tryz.func130 (by kernel_rfl) (by kernel_rfl) (by kernel_rfl) (e := add64Entry) (by kernel_rfl), run_add64 x y c (by omega) (by omega) (by omega) (by omega)]
  simp only [Result.andThen]
  congr 5 <;> omega

/-- .. with nothing carried in. -/
theorem add64_run0 (x y : Nat) (hx : x < 18446744073709551616) (hy : y < 18446744073709551616) :
    ∃ s c' : Nat, s < 18446744073709551616 ∧ c' ≤ 1 ∧ s + 18446744073709551616 * c' = x + y ∧
      ∀ W, (callFunc 130 #[.int .u64 (x : Int), .int .u64 (y : Int), .int .u64 0]).run Tryz.prog W = .ok (.value (.tuple #[.int .u64 (s : Int), .int .u64 (c' : Int)])) W := by
  obtain ⟨s, c, h1, h2, h3, h4⟩ := add64_run x y 0 hx hy (by decide)
  exact ⟨s, c, h1, h2, h3, fun W => h4 W⟩
/-- What holds at each round of a sum, a difference: the row's words. -/
structure SumInv (w w1 : World) (k g len : Nat) (L : List Nat) (wr : World) : Prop where
  own : wr.ownsRow (w.heap.size) 64 1 (.slice (some ⟨g, 0, none⟩) len len) len (cu64 L)
  len : L.length = len
  zero : ∀ j, k ≤ j → L.getD j 0 = 0
  lt : ∀ d ∈ L, d < 18446744073709551616
  upd : Upd [g] w1 wr

theorem SumInv.start {w w1 : World} {g len : Nat} (h : w1.ownsRow w.heap.size 64 1 (.slice (some ⟨g, 0, none⟩) len len) len (List.replicate len (.int .u64 0))) : SumInv w w1 0 g len (List.replicate len 0) w1 :=
  ⟨by rw [cu64_zero]; exact h, by simp, fun j _ => by simp [List.getD_eq_getElem?_getD, List.getElem?_replicate]; split <;> rfl, fun d hd => by rw [List.eq_of_mem_replicate hd]; decide, Upd.refl _ _⟩

theorem SumInv.set {w w1 wr wq : World} {i g len : Nat} {L : List Nat} (h : SumInv w w1 i g len L wr) (u : Upd [] wr wq) (s : Nat) (hs : s < 18446744073709551616) : SumInv w w1 (i + 1) g len (L.set i s) (wq.setCell ⟨g, i, none⟩ (.int .u64 (s : Int))) := by
  have ho := ownsRow_upd h.own u (by simp)
  refine ⟨by rw [cu64_set]; exact (ho.stored i _).1, by rw [List.length_set]; exact h.len, fun j hj => ?_, fun d hd => ?_, (h.upd.trans u (by simp)).setCell (.inl (by simp)) _⟩
  · have := h.zero j (by omega)
    rw [List.getD_eq_getElem?_getD, List.getElem?_set_ne (by omega), ← List.getD_eq_getElem?_getD]; exact this
  · rcases List.mem_or_eq_of_mem_set hd with hd | rfl
    · exact h.lt d hd
    · exact hs
end Go.Proofs.YtoklmfmoblkfcaaGreatDoor

/- The contracts of nat.timesPlus, addTimes, takeTimes (layer 5). -/
namespace Go.Proofs.YtoklmfmoblkfcaaGreatDoor
open Go.RowKit Go.Proofs.Tm
set_option linter.unusedVariables false
set_option maxRecDepth 20000

theorem timesPlus_any (x n m : Nat) (w : World) (hx : x < 18446744073709551616) (hn : n < 18446744073709551616) (hm : m < 18446744073709551616) :
    Calls Tryz.prog 144 #[.int .u64 (x : Int), .int .u64 (n : Int), .int .u64 (m : Int)] w fun e w' =>
      e = .returned (.tuple #[.int .u64 (((x * n + m) / 18446744073709551616 : Nat) : Int), .int .u64 (((x * n + m) % 18446744073709551616 : Nat) : Int)]) ∧ w = w' := by
  obtain ⟨s, c, hs, hc, hsum, hadd⟩ := add64_run0 (x * n % 18446744073709551616) m (Nat.mod_lt _ (by decide)) hm
  have hlt := tp_lt x n m hx hn hm
  have HMUL := Lib.hid (fun W => Tryz.bits_Mul64 x n hx hn W)
  have HH : Hid ((x * n + m) / 18446744073709551616 = x * n / 18446744073709551616 + c ∧ (x * n + m) % 18446744073709551616 = s) := by
    constructor <;> omega
  have hwr : IntKind.u64.wrap (((x * n / 18446744073709551616 : Nat) : Int) + (c : Int)) = ((x * n / 18446744073709551616 + c : Nat) : Int) := by
    have := HH.out.1
    rw [IntKind.wrap_u64]; omega
  rw [HH.out.1, HH.out.2]
  clear hsum hlt hs hc
  generalize x * n / 18446744073709551616 = h at *
  generalize x * n % 18446744073709551616 = l at *
  have HWR := Lib.hid hwr
  clear hwr
  go_enter Tryz.func144, Tryz.ntmps144
  go_wp2_with fail
  refine (HMUL.out w).mono ?_
  rintro e w' ⟨rfl, rfl⟩
  go_wp2
  go_ret2
  refine ⟨?_, rfl⟩
  rw [HWR.out]
  rfl

/-- A row of words of which those from f on, k of them, may have turned. -/
structure ARow (base g len cap f k : Nat) (L0 L : List Nat) (w wr : World) : Prop where
  own : wr.ownsRow base 64 1 (.slice (some ⟨g, 0, none⟩) len cap) len (cu64 L)
  len : L.length = len
  lt : ∀ d ∈ L, d < 18446744073709551616
  out : ∀ j, j < f ∨ f + k ≤ j → L.getD j 0 = L0.getD j 0
  upd : Upd [g] w wr

theorem ARow.start {base g len cap f : Nat} {L : List Nat} {w : World} (h : w.ownsRow base 64 1 (.slice (some ⟨g, 0, none⟩) len cap) len (cu64 L)) (hL : L.length = len) (hlt : ∀ d ∈ L, d < 18446744073709551616) : ARow base g len cap f 0 L L w w :=
  ⟨h, hL, hlt, fun _ _ => rfl, Upd.refl _ _⟩

theorem ARow.set {base g len cap f k : Nat} {L0 L : List Nat} {w wr : World} (h : ARow base g len cap f k L0 L w wr) (s : Nat) (hs : s < 18446744073709551616) : ARow base g len cap f (k + 1) L0 (L.set (f + k) s) w (wr.setCell ⟨g, f + k, none⟩ (.int .u64 (s : Int))) := by
  refine ⟨by rw [cu64_set]; exact (h.own.stored (f + k) _).1, by rw [List.length_set]; exact h.len, fun d hd => ?_, fun j hj => ?_, h.upd.setCell (.inl (by simp)) _⟩
  · rcases List.mem_or_eq_of_mem_set hd with hd | rfl
    · exact h.lt d hd
    · exact hs
  · rw [List.getD_eq_getElem?_getD, List.getElem?_set_ne (by omega), ← List.getD_eq_getElem?_getD]
    exact h.out j (by omega)

theorem getD_lt {L : List Nat} (h : ∀ d ∈ L, d < 18446744073709551616) (i : Nat) : L.getD i 0 < 18446744073709551616 := by
  rcases Nat.lt_or_ge i L.length with hi | hi
  · have : L.getD i 0 = L[i] := by simp [hi]
    rw [this]; exact h _ (List.getElem_mem hi)
  · have : L.getD i 0 = 0 := by simp [hi]
    rw [this]; decide

/-- What addTimes leaves. -/
def AddTPost (base g len cap f : Nat) (B : List Nat) (n : Nat) (L : List Nat) (w : World) (e : Ending) (w' : World) : Prop :=
  ∃ (o : Nat) (L' : List Nat), e = .returned (.int .u64 (o : Int)) ∧ ARow base g len cap f B.length L L' w w' ∧ o ≤ n ∧ wval L' + 18446744073709551616 ^ (f + B.length) * o = wval L + 18446744073709551616 ^ f * (n * wval B)

set_option maxHeartbeats 800000 in
theorem addTimes_any (base g len cap f ln cp n : Nat) (bv : Value) (B L : List Nat) (w : World) (ho : w.ownsRow base 64 1 (.slice (some ⟨g, 0, none⟩) len cap) len (cu64 L)) (hL : L.length = len) (hlt : ∀ d ∈ L, d < 18446744073709551616)
   (hB : Sl w bv (cu64 B)) (hBlt : ∀ d ∈ B, d < 18446744073709551616) (hbg : B ≠ [] → ∀ k, bv.ownBlock = some k → k ≠ g) (hf : f + B.length ≤ len) (hln : B.length ≤ ln) (hn : n < 18446744073709551616) (hlen : len ≤ 1099511627776) :
    Calls Tryz.prog 125 #[.slice (some ⟨g, f, none⟩) ln cp, bv, .int .u64 (n : Int)] w (AddTPost base g len cap f B n L w) := by
  have H0 := Lib.hid (ARow.start (f := f) ho hL hlt)
  have HB := Lib.hid hB
  have HBLT := Lib.hid hBlt
  have HBG := Lib.hid hbg
  obtain ⟨a, cb, rfl, hlc, hcm, _⟩ := hB
  simp only [cu64_length] at *
  obtain ⟨lb, hlb⟩ : ∃ k, k = B.length := ⟨_, rfl⟩
  have HLB := Lib.hid hlb
  rw [← hlb] at hf hln hlc HB
  rw [← hlb]
  unfold maxLen at hcm
  clear ho hL hlt hBlt hbg hlb
  go_enter Tryz.func125, Tryz.ntmps125
  go_wp2
  go_loopw [7, 13] (fun v7 v13 wr => ∃ (k o : Nat) (L' : List Nat), k ≤ lb ∧ v13 = .int .i64 k ∧ v7 = .int .u64 (o : Int) ∧ o ≤ n ∧ Hid (wval L' + 18446744073709551616 ^ (f + k) * o = wval L + 18446744073709551616 ^ f * (n * wval (B.take k))) ∧ ARow base g len cap f k L L' w wr) (fun _ v13 _ => lb - (intOf v13).toNat)
  case atStart => exact ⟨0, 0, L, Nat.zero_le _, rfl, rfl, Nat.zero_le _, by show _ = _; simp [wval], H0.out⟩
  case round =>
    obtain ⟨k, o, L', hk, rfl, rfl, hon, HE, hinv⟩ := hrel
    have HI := Lib.hid hinv
    clear hinv H0
    by_cases hlt : k < lb
    · have hwr := HI.out.upd
      obtain ⟨b, ob, cb', hv, hc⟩ := sl_at HB.out (by rw [cu64_nil]; rintro rfl; have := HLB.out; simp at this; omega)
      obtain ⟨rfl, rfl⟩ : a = some ⟨b, ob, none⟩ ∧ cb = cb' := by simp at hv; exact ⟨hv.1, hv.2.2⟩
      have hcell := hc k (by rw [cu64_length, ← HLB.out]; exact hlt)
      rw [cu64_getD _ _ (by rw [← HLB.out]; exact hlt)] at hcell
      have hbw := World.block_lt_of_cell? w _ hcell
      have hne := HBG.out (by rintro rfl; have := HLB.out; simp at this; omega) b rfl
      have hcb : wr.cell? ⟨b, ob + k, none⟩ = some (.int .u64 ((B.getD k 0 : Nat) : Int)) := (hwr.cell (p := ⟨b, ob + k, none⟩) hbw (by simpa using hne)).trans hcell
      have hcl := HI.out.own.cellAt (f + k) (by omega)
      rw [cu64_getD _ _ (by rw [HI.out.len]; omega)] at hcl
      have hfz := HI.out.own.frozenAt (f + k)
      have hx := getD_lt HBLT.out k
      have hl := getD_lt HI.out.lt (f + k)
      have HT := Lib.hid (fun W => timesPlus_any (B.getD k 0) n o W hx hn (by omega))
      obtain ⟨s, c, hs, hc1, hsum, hadd⟩ := add64_run0 (L'.getD (f + k) 0) ((B.getD k 0 * n + o) % 18446744073709551616) hl (Nat.mod_lt _ (by decide))
      have HSUM : Hid (s + 18446744073709551616 * ((B.getD k 0 * n + o) / 18446744073709551616 + c) = L'.getD (f + k) 0 + (B.getD k 0 * n + o)) := by show _ = _; omega
      have hov := over_le HSUM.out hl hx hon
      have HST := Lib.hid (waddt_step B L' f k n o s _ _ (by rw [HI.out.len]; omega) HE.out HSUM.out)
      have hwrap : IntKind.u64.wrap ((((B.getD k 0 * n + o) / 18446744073709551616 : Nat) : Int) + (c : Int)) = (((B.getD k 0 * n + o) / 18446744073709551616 + c : Nat) : Int) := by rw [IntKind.wrap_u64]; omega
      have HW := Lib.hid hwrap
      have HAR := Lib.hid (HI.out.set s hs)
      have i0 : (0 : Int) ≤ (k : Int) := by omega
      have i1 : (k : Int) < (lb : Int) := by omega
      have i2 : (k : Int) < (ln : Int) := by omega
      clear hc hv hcell hx hl hsum hwrap
      generalize B.getD k 0 = x at *
      generalize (x * n + o) % 18446744073709551616 = lo at *
      generalize (x * n + o) / 18446744073709551616 = hi at *
      generalize L'.getD (f + k) 0 = y at *
      go_wp2_with fail
      refine (HT.out wr).mono ?_
      rintro e w' ⟨rfl, rfl⟩
      go_wp2
      refine ⟨⟨k + 1, hi + c, L'.set (f + k) s, by omega, by go_num, by go_num, hov, HST.out, HAR.out⟩, by simp [intOf]; omega⟩
    · obtain rfl : k = lb := by omega
      go_wp2
      go_ret
      have h := HE.out
      rw [List.take_of_length_le (by have := HLB.out; omega)] at h
      exact ⟨o, L', rfl, by rw [← HLB.out]; exact HI.out, hon, by rw [← HLB.out]; exact h⟩
end Go.Proofs.YtoklmfmoblkfcaaGreatDoor

/- The contract of nat.Mul (layer 5). -/
namespace Go.Proofs.YtoklmfmoblkfcaaGreatDoor
open Go.RowKit Go.Proofs.Tm
set_option linter.unusedVariables false
set_option maxRecDepth 20000

theorem SumInv.of_arow {w w1 wr wq wy : World} {k g len f kk : Nat} {L L' : List Nat} (h : SumInv w w1 k g len L wr) (u : Upd [] wr wq) (hA : ARow w.heap.size g len len f kk L L' wq wy) (hk : f + kk ≤ k) : SumInv w w1 k g len L' wy :=
  ⟨hA.own, hA.len, fun j hj => by rw [hA.out j (by omega)]; exact h.zero j hj, hA.lt, (h.upd.trans u (by simp)).trans hA.upd (by simp)⟩

/-- A round of a product. -/
theorem mul_round (a : List Nat) (n lb i x o : Nat) (L L' : List Nat) (hx : a.getD i 0 = x) (h : wval L = wval (a.take i) * n) (h2 : wval L' + 18446744073709551616 ^ (i + lb) * o = wval L + 18446744073709551616 ^ i * (x * n)) (hj : i + lb < L'.length) (hz : L'.getD (i + lb) 0 = 0) :
    wval (L'.set (i + lb) o) = wval (a.take (i + 1)) * n := by
  have h3 := wval_set L' (i + lb) o hj
  rw [hz] at h3
  rw [wval_take_succ, hx, Nat.add_mul, ← h, Nat.mul_assoc]
  omega

def MulCall (w w1 : World) (g long i ln x n : Nat) (L : List Nat) (e : Ending) (wy : World) : Prop :=
  ∃ (o : Nat) (L' : List Nat), e = .returned (.int .u64 (o : Int)) ∧ SumInv w w1 (i + ln) g long L' wy ∧ o ≤ x ∧ wval L' + 18446744073709551616 ^ (i + ln) * o = wval L + 18446744073709551616 ^ i * (x * n)

set_option maxHeartbeats 1600000 in
theorem mul_any (u v : Value) (m n : Nat) (w : World) (hu : NV w u m) (hv : NV w v n) (hm : (wds m).length ≤ 274877906944) (hn : (wds n).length ≤ 274877906944) :
    Calls Tryz.prog 92 #[u, v] w (RNat (m * n) w) := by
  obtain ⟨a, cap, rfl, hl, hcm⟩ := hu.open
  obtain ⟨b, cap', rfl, hl', hcm'⟩ := hv.open
  have HA := Lib.hid hu
  have HB := Lib.hid hv
  unfold maxLen at hcm hcm'
  obtain ⟨lm, hlm⟩ : ∃ k, k = (wds m).length := ⟨_, rfl⟩
  obtain ⟨ln, hln⟩ : ∃ k, k = (wds n).length := ⟨_, rfl⟩
  rw [← hlm] at hl hm HA ⊢
  rw [← hln] at hl' hn HB ⊢
  have HLM := Lib.hid hlm
  have HLN := Lib.hid hln
  obtain ⟨long, hlong⟩ : ∃ k, k = lm + ln := ⟨_, rfl⟩
  have h1 : long ≤ 549755813888 := by omega
  have hsum : (lm : Int) + (ln : Int) = (long : Int) := by omega
  have HLONG := Lib.hid hlong
  clear hu hv hlm hln hlong
  go_enter Tryz.func92, Tryz.ntmps92
  go_wp2_with (at_make; refine wpList_make_lc _ rfl (.tmp 14) (.tmp 14) 22 rfl 64 (.int .u64 0) 8 Tryz.underlying22 infoU64 rfl .i64 .i64 _ _ long long rfl rfl (by omega) (by omega) (by omega) (by omega) (by unfold maxLen; omega) ?_)
  intro w1 ho hu1 hw1
  obtain ⟨hb2, hb3, hb4, hu0, hs0⟩ := box3 hu1
  have hgl : w.heap.size + 1 + 1 + 1 < w1.heap.size := by simpa using hw1
  obtain ⟨g, hg⟩ : ∃ g, g = w.heap.size + 1 + 1 + 1 := ⟨_, rfl⟩
  have H0 : Hid (SumInv w w1 0 g long (List.replicate long 0) w1) := SumInv.start (by rw [hg]; exact ownsRow_base ho (base' := w.heap.size) (by omega))
  have HA1 := Lib.hid (HA.out.upd0 hu0)
  have HB1 := Lib.hid (HB.out.upd0 hu0)
  have HU1 := Lib.hid hu0
  have HC : Hid (∀ W, Upd [g] w1 W → W.cell? ⟨w.heap.size, 0, none⟩ = some (.slice a lm cap) ∧ W.cell? ⟨w.heap.size + 1, 0, none⟩ = some (.slice b ln cap') ∧ Upd [g] w1 W) := fun W h =>
    ⟨by rw [h.cell (p := ⟨w.heap.size, 0, none⟩) (by show w.heap.size < _; omega) (by simp; omega), cell_of_row w1 _ 0 _ _ _ hb2]; rfl, by rw [h.cell (p := ⟨w.heap.size + 1, 0, none⟩) (by show w.heap.size + 1 < _; omega) (by simp; omega), cell_of_row w1 _ 0 _ _ _ hb3]; rfl, h⟩
  have HB4 := Lib.hid hb4
  have hg' := Nat.le_of_eq hg
  have hg'' := Nat.le_of_eq hg.symm
  rw [← hg]
  obtain ⟨hk2, hk3, _⟩ := HC.out w1 (Upd.refl _ _)
  have HBLK : Hid (wds n ≠ [] → ∀ k, (Value.slice b ln cap').ownBlock = some k → k ≠ g) := fun hne k hk => by
    have := HB.out.blk hne k hk; omega
  clear hg ho hu1 hw1 hb2 hb3 hb4 hu0
  go_wp2_with fail
  go_loopw [19] (fun v19 wr => ∃ (i : Nat) (L : List Nat), i ≤ lm ∧ v19 = .int .i64 i ∧ Hid (wval L = wval ((wds m).take i) * n) ∧ SumInv w w1 (i + ln) g long L wr) (fun v19 _ => lm - (intOf v19).toNat)
  case atStart => exact ⟨0, _, Nat.zero_le _, rfl, by show _ = _; rw [wval_zeros _ (fun d hd => List.eq_of_mem_replicate hd)]; simp [wval], H0.out.own, H0.out.len, fun j _ => H0.out.zero j (Nat.zero_le _), H0.out.lt, H0.out.upd⟩
  case round =>
    obtain ⟨i, L, hi, rfl, HE, hinv⟩ := hrel
    have HI := Lib.hid hinv
    clear hinv H0 hk2 hk3
    have hwr := HI.out.upd
    obtain ⟨hk2, hk3, _⟩ := HC.out wr hwr
    by_cases hlt : i < lm
    · obtain ⟨ab, ao, rfl, hab, hca⟩ := HA.out.at i (by rw [← HLM.out]; exact hlt)
      have HUW : Hid (Upd [] w wr) := HU1.out.trans hwr (by simp; omega)
      have hcw : wr.cell? ⟨ab, ao + i, none⟩ = some (.int .u64 (((wds m).getD i 0 : Nat) : Int)) := (HUW.out.cell (p := ⟨ab, ao + i, none⟩) hab (by simp)).trans hca
      have HX : Hid ((wds m).getD i 0 = (wds m).getD i 0) := rfl
      have hx := getD_lt (wds_lt m) i
      have HAT : Hid (∀ W, Upd [] wr W → Calls Tryz.prog 125 #[.slice (some ⟨g, i, none⟩) (long - i) (long - i), .slice b ln cap', .int .u64 (((wds m).getD i 0 : Nat) : Int)] W (MulCall w w1 g long i ln ((wds m).getD i 0) n L)) := fun W h =>
        (addTimes_any w.heap.size g long long i (long - i) (long - i) ((wds m).getD i 0) (.slice b ln cap') (wds n) L W (ownsRow_upd HI.out.own h (by simp)) HI.out.len HI.out.lt ((HB.out.upd0 (HUW.out.trans0 h)).sl) (wds_lt n) HBLK.out (by have := HLN.out; have := HLONG.out; omega) (by have := HLN.out; have := HLONG.out; omega) hx (by omega)).mono fun e w' hq => by
          obtain ⟨o, L', rfl, har, hox, hval⟩ := hq
          rw [← HLN.out, wval_wds] at hval
          exact ⟨o, L', rfl, HI.out.of_arow h har (by have := HLN.out; omega), hox, hval⟩
      have i0 : (0 : Int) ≤ (i : Int) := by omega
      have i1 : (i : Int) < (lm : Int) := by omega
      have i2 : (i : Int) ≤ (long : Int) := by have := HLONG.out; omega
      have i3 : (i : Int) + (ln : Int) < (long : Int) := by have := HLONG.out; omega
      have i4 : IntKind.i64.wrap ((i : Int) + (ln : Int)) = (i : Int) + (ln : Int) := IntWalk.i64_in _ (by omega)
      have i5 : ((i : Int) + (ln : Int)).toNat = i + ln := by omega
      have i6 : (0 : Int) ≤ (i : Int) + (ln : Int) := by omega
      have hlong2 : i + ln < long := by omega
      have i7 : ¬ long = i := by omega
      obtain ⟨x, hx'⟩ : ∃ x, x = (wds m).getD i 0 := ⟨_, rfl⟩
      rw [← hx'] at hcw HAT hx
      have HXX := Lib.hid hx'
      have hrf : Upd [] wr wr := Upd.refl _ _
      clear hca HX hx'
      go_wp2_with fail
      go_region_held3 (fun W => W.cell? ⟨w.heap.size + 1, 0, none⟩ = some (.slice b ln cap') ∧ Upd [g] w1 W)
        (first
          | exact (HC.out _ huy).2
          | exact (HC.out _ hwr.drew).2
          | exact (HC.out _ hwr).2
          | exact (HC.out _ (huy.setCell (.inl (by simp)) _)).2)
        (first
          | (go_at_call 125; refine (HAT.out _ (by first | exact hrf.drew | exact hrf)).mono ?_; rintro e wy ⟨o, L', rfl, har, hon, hval⟩; have hcs := har.own.cellAt (i + ln) (by omega); rw [cu64_getD _ _ (by rw [har.len]; exact hlong2)] at hcs; have hfs := har.own.frozenAt (i + ln); have huy : Upd [g] w1 wy := har.upd))
      have ho64 : o < 18446744073709551616 := by omega
      have HF := Lib.hid (har.set (Upd.refl _ _) o ho64)
      have HR := Lib.hid (mul_round (wds m) n ln i x o L L' HXX.out.symm HE.out hval (by rw [har.len]; exact hlong2) (har.zero _ (Nat.le_refl _)))
      clear hcs hfs hval har
      go_wp2_with fail
      refine ⟨⟨i + 1, L'.set (i + ln) o, by omega, by go_num, HR.out, ?_⟩, by simp [intOf]; omega⟩
      have h := HF.out
      rw [show i + ln + 1 = i + 1 + ln by omega] at h
      exact h
    · obtain rfl : i = lm := by omega
      have HV : Hid (wval L = m * n) := by
        have h2 := HE.out
        rw [List.take_of_length_le (by have := HLM.out; omega), wval_wds] at h2
        exact h2
      go_wp2_with fail
      refine (fit_any _ _ _ (Sl.own HI.out.own) HI.out.lt).mono ?_
      rintro e w5 ⟨v5, rfl, hn5, hu5⟩
      rw [HV.out] at hn5
      obtain ⟨a5, cap5, rfl, hl5, hm5⟩ := hn5.open
      have hbk : w5.heap[w.heap.size + 1 + 1]? = some (.cells #[.slice none 0 0] 27 (0, 0)) := ((hwr.trans hu5 (by simp)).block _ (by omega) (by simp; omega)).trans HB4.out
      have hc5 : w5.cell? ⟨w.heap.size + 1 + 1, 0, none⟩ = some (.slice none 0 0) := by rw [cell_of_row w5 _ 0 _ _ _ hbk]; rfl
      have hf5 : w5.frozen? ⟨w.heap.size + 1 + 1, 0, none⟩ = false := by simp [World.frozen?, hbk]
      have HN5 := Lib.hid hn5
      have HU5 := Lib.hid (((HU1.out.trans hwr (by simp; omega)).trans0 hu5))
      have HBK := Lib.hid hbk
      clear hn5 hu5 hbk
      go_wp2
      have hset := set_cell (y := .slice a5 (wds (m * n)).length cap5) hc5
      refine bodyPost_ret (v := .agg #[.slice a5 (wds (m * n)).length cap5]) (by simp [results, Tryz.results92, go_sem, hset]) rfl ?_
      exact ⟨_, rfl, HN5.out.store HBK.out no_u64 _ rfl _, HU5.out.setCell (.inr (by show w.heap.size ≤ w.heap.size + 1 + 1; omega)) _⟩
end Go.Proofs.YtoklmfmoblkfcaaGreatDoor

/- Whole numbers (layer 6): Mul. -/
namespace Go.Proofs.YtoklmfmoblkfcaaGreatDoor
open Go.RowKit Go.Proofs.Tm
set_option linter.unusedVariables false
set_option linter.unusedSimpArgs false
set_option maxRecDepth 20000

/-- Two whole numbers handed in, and the result's block. -/
structure WBox (w : World) (S : Nat) (b b' : Bool) (a a' : Option Addr) (l c l' c' : Nat) (W : World) : Prop where
  r0 : W.heap[S]? = some (.cells #[.bool b, .slice a l c] 29 (0, 0))
  r1 : W.heap[S + 1]? = some (.cells #[.bool b', .slice a' l' c'] 29 (0, 0))
  r2 : W.heap[S + 1 + 1]? = some (.cells #[.bool false, .slice none 0 0] 29 (0, 0))
  u : Upd [] w W
theorem wbox (w : World) (b b' : Bool) (a a' : Option Addr) (l c l' c' : Nat) (w0 : World) (h : w0 = ((w.alloc (.cells #[.bool b, .slice a l c] 29)).alloc (.cells #[.bool b', .slice a' l' c'] 29)).alloc (.cells #[.bool false, .slice none 0 0] 29)) (S : Nat) (hS : S = w.heap.size) : WBox w S b b' a a' l c l' c' w0 := by
  subst h hS
  refine ⟨?_, ?_, ?_, (((Upd.refl _ _).alloc _).alloc _).alloc _⟩
  · rw [Below.heap_alloc _ _ _ (by simp <;> omega), Below.heap_alloc _ _ _ (by simp <;> omega)]; exact heap_alloc_new w _
  · rw [Below.heap_alloc _ _ _ (by simp <;> omega)]; have := heap_alloc_new (w.alloc (.cells #[.bool b, .slice a l c] 29)) (.cells #[.bool b', .slice a' l' c'] 29); simpa using this
  · have := heap_alloc_new ((w.alloc (.cells #[.bool b, .slice a l c] 29)).alloc (.cells #[.bool b', .slice a' l' c'] 29)) (.cells #[.bool false, .slice none 0 0] 29); simpa using this
theorem WBox.upd0 {w W W' : World} {S : Nat} {b b' : Bool} {a a' : Option Addr} {l c l' c' : Nat} (h : WBox w S b b' a a' l c l' c' W) (u : Upd [] W W') : WBox w S b b' a a' l c l' c' W' :=
  ⟨(u.block _ (lt_of_block h.r0) (by simp)).trans h.r0, (u.block _ (lt_of_block h.r1) (by simp)).trans h.r1, (u.block _ (lt_of_block h.r2) (by simp)).trans h.r2, h.u.trans0 u⟩
theorem WBox.keep {w W W' : World} {S : Nat} {b b' : Bool} {a a' : Option Addr} {l c l' c' : Nat} (h : WBox w S b b' a a' l c l' c' W) (u : Upd [S + 1 + 1] W W') :
    W'.cell? ⟨S, 0, none⟩ = some (.bool b) ∧ W'.cell? ⟨S, 1, none⟩ = some (.slice a l c) ∧ W'.cell? ⟨S + 1, 0, none⟩ = some (.bool b') ∧ W'.cell? ⟨S + 1, 1, none⟩ = some (.slice a' l' c') ∧ Upd [S + 1 + 1] W W' := by
  have e0 := (u.block _ (lt_of_block h.r0) (by simp; omega)).trans h.r0
  have e1 := (u.block _ (lt_of_block h.r1) (by simp)).trans h.r1
  exact ⟨by rw [cell_of_row _ _ 0 _ _ _ e0]; rfl, by rw [cell_of_row _ _ 1 _ _ _ e0]; rfl, by rw [cell_of_row _ _ 0 _ _ _ e1]; rfl, by rw [cell_of_row _ _ 1 _ _ _ e1]; rfl, u⟩
theorem WBox.res {w W : World} {S : Nat} {b b' : Bool} {a a' : Option Addr} {l c l' c' : Nat} (h : WBox w S b b' a a' l c l' c' W) :
    W.cell? ⟨S + 1 + 1, 0, none⟩ = some (.bool false) ∧ W.cell? ⟨S + 1 + 1, 1, none⟩ = some (.slice none 0 0) ∧ W.frozen? ⟨S + 1 + 1, 0, none⟩ = false ∧ W.frozen? ⟨S + 1 + 1, 1, none⟩ = false :=
  ⟨by rw [cell_of_row _ _ 0 _ _ _ h.r2]; rfl, by rw [cell_of_row _ _ 1 _ _ _ h.r2]; rfl, frozen_of_row _ _ 0 _ _ h.r2, frozen_of_row _ _ 1 _ _ h.r2⟩

set_option maxHeartbeats 1600000 in
theorem wmul_any (u v : Value) (x y : Int) (w : World) (hu : WV w u x) (hv : WV w v y) (hlx : (wds x.natAbs).length ≤ 274877906944) (hly : (wds y.natAbs).length ≤ 274877906944) :
    Calls Tryz.prog 97 #[u, v] w (RWhole (x * y) w) := by
  obtain ⟨a, l, c, rfl, hn⟩ := hu.open
  obtain ⟨a', l', c', rfl, hn'⟩ := hv.open
  have HM : Hid (∀ W, Upd [] w W → Calls Tryz.prog 92 #[.agg #[.slice a l c], .agg #[.slice a' l' c']] W (RNat (x.natAbs * y.natAbs) W)) := fun W h => mul_any _ _ _ _ W (hn.upd0 h) (hn'.upd0 h) hlx hly
  have HK : Hid (∀ W s, Upd [] w W → NV W s (x.natAbs * y.natAbs) → Calls Tryz.prog 35 #[.bool (decide (x < 0) != decide (y < 0)), s] W (RWhole (x * y) W)) := fun W s _ hs => by
    have := wmake_any (decide (x < 0) != decide (y < 0)) _ _ W hs
    have e : (if (decide (x < 0) != decide (y < 0)) = true then -((x.natAbs * y.natAbs : Nat) : Int) else ((x.natAbs * y.natAbs : Nat) : Int)) = x * y := by
      by_cases hx : x < 0
      · by_cases hy : y < 0
        · rw [Int.natCast_mul, Int.ofNat_natAbs_of_nonpos (by omega), Int.ofNat_natAbs_of_nonpos (by omega)]; simp [hx, hy, Int.neg_mul_neg]
        · rw [Int.natCast_mul, Int.ofNat_natAbs_of_nonpos (by omega), Int.natAbs_of_nonneg (by omega)]; simp [hx, hy, Int.neg_mul]
      · by_cases hy : y < 0
        · rw [Int.natCast_mul, Int.natAbs_of_nonneg (by omega), Int.ofNat_natAbs_of_nonpos (by omega)]; simp [hx, hy, Int.mul_neg]
        · rw [Int.natCast_mul, Int.natAbs_of_nonneg (by omega), Int.natAbs_of_nonneg (by omega)]; simp [hx, hy]
    rw [e] at this
    exact this
  generalize decide (x < 0) = b at *
  generalize decide (y < 0) = b' at *
  obtain ⟨q, hq⟩ : ∃ q, q = (b != b') := ⟨_, rfl⟩
  rw [← hq] at HK
  obtain ⟨w0, hw0⟩ : ∃ W, W = ((w.alloc (.cells #[.bool b, .slice a l c] 29)).alloc (.cells #[.bool b', .slice a' l' c'] 29)).alloc (.cells #[.bool false, .slice none 0 0] 29) := ⟨_, rfl⟩
  obtain ⟨S, hS⟩ : ∃ s, s = w.heap.size := ⟨_, rfl⟩
  have HB := Lib.hid (wbox w b b' a a' l c l' c' w0 hw0 S hS)
  have HW0 := Lib.hid hw0
  have HS := Lib.hid hS
  have hcA : ∀ W, Upd [] w0 W → W.cell? ⟨S + 1 + 1, 0, none⟩ = some (.bool false) ∧ W.cell? ⟨S + 1 + 1, 1, none⟩ = some (.slice none 0 0) ∧ W.frozen? ⟨S + 1 + 1, 0, none⟩ = false ∧ W.frozen? ⟨S + 1 + 1, 1, none⟩ = false := fun W h => (HB.out.upd0 h).res
  have hrf : Upd [] w0 w0 := Upd.refl _ _
  have hqq := hq.symm
  have hq3 : (!(b == b')) = q := by rw [hq]; cases b <;> cases b' <;> rfl
  clear hu hv hn hn' hlx hly hw0 hS hq
  go_enter Tryz.func97, Tryz.ntmps97
  go_wp2_with fail
  rw [← HW0.out]
  rw [← HS.out]
  go_region_held3 (fun W => W.cell? ⟨S, 0, none⟩ = some (.bool b) ∧ W.cell? ⟨S, 1, none⟩ = some (.slice a l c) ∧ W.cell? ⟨S + 1, 0, none⟩ = some (.bool b') ∧ W.cell? ⟨S + 1, 1, none⟩ = some (.slice a' l' c') ∧ Upd [S + 1 + 1] w0 W)
    (first
      | exact HB.out.keep (huy.mono (by simp))
      | exact HB.out.keep (hrf.drew.mono (by simp))
      | exact HB.out.keep (hrf.mono (by simp))
      | exact HB.out.keep (((huy.mono (by simp)).setCell (.inl (by simp)) _).setCell (.inl (by simp)) _))
    (first
      | (go_at_call 92; (with_reducible refine (HM.out _ (HB.out.u.trans0 (by first | exact hrf.drew | exact hrf))).mono ?_); rintro e wz ⟨vM, rfl, hnM, hu20⟩; have HNM := Lib.hid hnM; clear hnM; have huy : Upd [] w0 wz := (by first | exact hrf.drew.trans0 hu20 | exact hrf.trans0 hu20); clear hu20)
      | (go_at_call 35; (with_reducible refine (HK.out _ _ (HB.out.u.trans0 huy) HNM.out).mono ?_); rintro e wz ⟨vK, rfl, hvK, hu20⟩; obtain ⟨aK, lK, cK, rfl, _⟩ := hvK.open; have HVK := Lib.hid hvK; clear hvK; have huz := huy.trans0 hu20; clear huy hu20; have huy := huz; clear huz; obtain ⟨x1, x2, x3, x4⟩ := hcA _ huy))
  all_goals
    have hHB := HB.out.upd0 huy
    have HP := Lib.hid (wv_put (by have := HS.out; omega) hHB.r2 hHB.u HVK.out)
    clear hHB hcA huy
    generalize decide (x * y < 0) = p at *
    have z0 := HP.out.c0
    have z1 := HP.out.c1
    go_wp2
    refine bodyPost_ret (v := .agg #[.bool p, .slice aK lK cK]) (by simp [results, Tryz.results97, go_sem, z0, z1]) rfl ?_
    exact ⟨_, rfl, HP.out.v, HP.out.u⟩
end Go.Proofs.YtoklmfmoblkfcaaGreatDoor

/- Fractions (layer 7): what stands for one in memory; numbers, whole numbers and fractions stored into blocks. -/
namespace Go.Proofs.YtoklmfmoblkfcaaGreatDoor
open Go.RowKit Go.Proofs.Tm
set_option linter.unusedVariables false
set_option linter.unusedSimpArgs false
set_option maxRecDepth 20000

/-- What is kept below the line: 0 stands for 1. -/
def denN (q : Rat) : Nat := if q.den = 1 then 0 else q.den
theorem denN_zero (q : Rat) : decide (denN q = 0) = decide (q.den = 1) := by
  unfold denN
  have := q.den_nz
  by_cases h : q.den = 1 <;> simp [h, this]
/-- v is the fraction q. -/
def RV (w : World) (v : Value) (q : Rat) : Prop := ∃ s t, v = .agg #[.bool (decide (q.num < 0)), s, t] ∧ NV w (.agg #[s]) q.num.natAbs ∧ NV w (.agg #[t]) (denN q)
theorem RV.upd0 {w w' : World} {v : Value} {q : Rat} (h : RV w v q) (u : Upd [] w w') : RV w' v q := by
  obtain ⟨s, t, rfl, hn, hd⟩ := h
  exact ⟨s, t, rfl, hn.upd0 u, hd.upd0 u⟩
theorem NV.open' {w : World} {s : Value} {n : Nat} (h : NV w (.agg #[s]) n) : ∃ a l c, s = .slice a l c := by
  obtain ⟨a, c, h, _, _⟩ := h.open
  simp only [Value.agg.injEq, Array.mk.injEq, List.cons.injEq, and_true] at h
  exact ⟨a, _, c, h⟩
theorem nvOpen {w : World} {v : Value} {n : Nat} (h : NV w v n) : ∃ a l c, v = .agg #[.slice a l c] ∧ NV w (.agg #[.slice a l c]) n := by
  obtain ⟨a, c, rfl, _, _⟩ := h.open
  exact ⟨a, _, c, rfl, h⟩
theorem RV.open {w : World} {v : Value} {q : Rat} (h : RV w v q) : ∃ a l c a' l' c', v = .agg #[.bool (decide (q.num < 0)), .slice a l c, .slice a' l' c'] ∧ WV w (.agg #[.bool (decide (q.num < 0)), .slice a l c]) q.num ∧ NV w (.agg #[.slice a' l' c']) (denN q) := by
  obtain ⟨s, t, rfl, hn, hd⟩ := h
  obtain ⟨a, l, c, rfl⟩ := hn.open'
  obtain ⟨a', l', c', rfl⟩ := hd.open'
  exact ⟨a, l, c, a', l', c', rfl, ⟨_, rfl, hn⟩, hd⟩
def RRat (q : Rat) (w : World) (e : Ending) (w' : World) : Prop := ∃ v, e = .returned v ∧ RV w' v q ∧ Upd [] w w'
def RRatE (q : Rat) (k : Int) (w : World) (e : Ending) (w' : World) : Prop := ∃ v, e = .returned (.tuple #[v, .int .i64 k]) ∧ RV w' v q ∧ Upd [] w w'

/-- A block's cells, none of which is a word. -/
def NoWord (cs : Array Value) : Prop := ∀ (j : Nat) (z : Int), cs[j]? ≠ some (.int .u64 z)
theorem nw1 {a : Option Addr} {l c : Nat} : NoWord #[.slice a l c] := fun j z => by rcases j with _ | j <;> simp
theorem nw2 {b : Bool} {a : Option Addr} {l c : Nat} : NoWord #[.bool b, .slice a l c] := fun j z => by rcases j with _ | _ | j <;> simp
theorem nw3 {b : Bool} {a a' : Option Addr} {l c l' c' : Nat} : NoWord #[.bool b, .slice a l c, .slice a' l' c'] := fun j z => by rcases j with _ | _ | _ | j <;> simp
theorem NV.putr {W : World} {v : Value} {n k : Nat} {cs : Array Value} {t : TypeId} (h : NV W v n) (hk : Row W k cs t) (hw : NoWord cs) (i : Nat) (x : Value) : NV (W.setCell ⟨k, i, none⟩ x) v n := h.store hk hw _ rfl x
theorem WV.putr {W : World} {v : Value} {z : Int} {k : Nat} {cs : Array Value} {t : TypeId} (h : WV W v z) (hk : Row W k cs t) (hw : NoWord cs) (i : Nat) (x : Value) : WV (W.setCell ⟨k, i, none⟩ x) v z := by
  obtain ⟨s, rfl, hn⟩ := h
  exact ⟨s, rfl, hn.putr hk hw i x⟩
theorem RV.putr {W : World} {v : Value} {q : Rat} {k : Nat} {cs : Array Value} {t : TypeId} (h : RV W v q) (hk : Row W k cs t) (hw : NoWord cs) (i : Nat) (x : Value) : RV (W.setCell ⟨k, i, none⟩ x) v q := by
  obtain ⟨s, t, rfl, hn, hd⟩ := h
  exact ⟨s, t, rfl, hn.putr hk hw i x, hd.putr hk hw i x⟩

/-- A number in a block that came behind w. -/
structure NewN (w : World) (n : Nat) (W : World) (k : Nat) (s : Option Addr) (l c : Nat) : Prop where
  row : Row W k #[.slice s l c] 27
  lo : w.heap.size ≤ k
  nv : NV W (.agg #[.slice s l c]) n
  upd : Upd [] w W
theorem NewN.set {w W : World} {n k : Nat} {s : Option Addr} {l c : Nat} (r : NewRow w k #[.slice none 0 0] 27 W) (u : Upd [] w W) (h : NV W (.agg #[.slice s l c]) n) : NewN w n (W.setCell ⟨k, 0, none⟩ (.slice s l c)) k s l c :=
  ⟨r.row.set 0 _, r.lo, h.putr r.row nw1 _ _, u.setCell (.inr r.lo) _⟩
theorem NewN.new {w W : World} {n : Nat} {s : Option Addr} {l c : Nat} (u : Upd [] w W) (h : NV W (.agg #[.slice s l c]) n) : NewN w n (W.alloc (.cells #[.slice s l c] 27)) W.heap.size s l c :=
  ⟨Row.new _ _ _, u.size, h.upd0 ((Upd.refl _ _).alloc _), u.alloc _⟩

/-- A whole number in a block that came behind w. -/
structure NewW (w : World) (z : Int) (W : World) (k : Nat) (b : Bool) (s : Option Addr) (l c : Nat) : Prop where
  row : Row W k #[.bool b, .slice s l c] 29
  lo : w.heap.size ≤ k
  wv : WV W (.agg #[.bool b, .slice s l c]) z
  upd : Upd [] w W
theorem NewW.set {w W : World} {z : Int} {k : Nat} {b : Bool} {s : Option Addr} {l c : Nat} (r : NewRow w k #[.bool false, .slice none 0 0] 29 W) (u : Upd [] w W) (h : WV W (.agg #[.bool b, .slice s l c]) z) : NewW w z ((W.setCell ⟨k, 0, none⟩ (.bool b)).setCell ⟨k, 1, none⟩ (.slice s l c)) k b s l c :=
  ⟨(r.row.set 0 _).set 1 _, r.lo, (h.putr r.row nw2 _ _).putr (r.row.set 0 _) nw2 _ _, (u.setCell (.inr r.lo) _).setCell (.inr r.lo) _⟩
theorem NewW.new {w W : World} {z : Int} {b : Bool} {s : Option Addr} {l c : Nat} (u : Upd [] w W) (h : WV W (.agg #[.bool b, .slice s l c]) z) : NewW w z (W.alloc (.cells #[.bool b, .slice s l c] 29)) W.heap.size b s l c :=
  ⟨Row.new _ _ _, u.size, h.upd0 ((Upd.refl _ _).alloc _), u.alloc _⟩

/-- A fraction in a block that came behind w. -/
structure NewR (w : World) (q : Rat) (W : World) (k : Nat) (b : Bool) (s : Option Addr) (l c : Nat) (s' : Option Addr) (l' c' : Nat) : Prop where
  row : Row W k #[.bool b, .slice s l c, .slice s' l' c'] 53
  lo : w.heap.size ≤ k
  rv : RV W (.agg #[.bool b, .slice s l c, .slice s' l' c']) q
  upd : Upd [] w W
theorem NewR.set {w W : World} {q : Rat} {k : Nat} {b : Bool} {s s' : Option Addr} {l c l' c' : Nat} (r : NewRow w k #[.bool false, .slice none 0 0, .slice none 0 0] 53 W) (u : Upd [] w W) (h : RV W (.agg #[.bool b, .slice s l c, .slice s' l' c']) q) :
    NewR w q (((W.setCell ⟨k, 0, none⟩ (.bool b)).setCell ⟨k, 1, none⟩ (.slice s l c)).setCell ⟨k, 2, none⟩ (.slice s' l' c')) k b s l c s' l' c' :=
  ⟨((r.row.set 0 _).set 1 _).set 2 _, r.lo, ((h.putr r.row nw3 _ _).putr (r.row.set 0 _) nw3 _ _).putr ((r.row.set 0 _).set 1 _) nw3 _ _, ((u.setCell (.inr r.lo) _).setCell (.inr r.lo) _).setCell (.inr r.lo) _⟩
theorem NewR.new {w W : World} {q : Rat} {b : Bool} {s s' : Option Addr} {l c l' c' : Nat} (u : Upd [] w W) (h : RV W (.agg #[.bool b, .slice s l c, .slice s' l' c']) q) :
    NewR w q (W.alloc (.cells #[.bool b, .slice s l c, .slice s' l' c'] 53)) W.heap.size b s l c s' l' c' :=
  ⟨Row.new _ _ _, u.size, h.upd0 ((Upd.refl _ _).alloc _), u.alloc _⟩
end Go.Proofs.YtoklmfmoblkfcaaGreatDoor

/- A drawn region within a round of a range over a function: the laws of the lone walk serve there too. -/
namespace Go.Proofs.Tm
open Go
set_option linter.unusedVariables false
set_option maxRecDepth 20000

theorem oper_round {P : Program} {o : Oper} {a : Act} {w : World} {K : Act → World → Prop} {Q : Exit → Act → World → Prop} (l n : Nat) (hd : ∀ c, o.op ≠ .defer c) (h : o.wp P a w K Q) :
    o.wpIn (Fence.wide.inRound l) n P a w K Q := by
  refine ⟨fun _ _ => trivial, ?_⟩
  rw [show (o.semAt (Fence.wide.inRound l).round a.eval) = execOp a.eval o from Oper.semAt_some l _ _ hd]
  unfold Oper.wp at h
  generalize (execOp a.eval o).run P w = r at *
  cases r with
  | ok x w' =>
    cases x with
    | value v => exact h
    | skip => exact h
    | defer d => exact h
    | enter f args => exact ⟨fun h => by simp [Fence.wide] at h, callsIn_wide.2 h⟩
    | row row args => exact ⟨fun h => by simp [Fence.wide] at h, fun c cs hroom => by
        obtain ⟨v, w'', hr, hs⟩ := h c cs
        exact ⟨v, w'', hr, stepsIn_wide.2 hs⟩⟩
    | _ => exact h.elim
  | halt x w' => cases x <;> exact h

theorem any_round {P : Program} {ops : Array Oper} {Q : Exit → Act → World → Prop} {md : Region.Mode} (l n : Nat) (hd : ∀ (i : Nat) (o : Oper) c, ops[i]? = some o → o.op ≠ .defer c) (hQ : ¬ LetsOut Q) :
    ∀ (fuel : Nat) (listed : Array Bool) (a : Act) (w : World), wpAny P md ops Q fuel listed a w → wpAnyIn (Fence.wide.inRound l) n P md ops Q fuel listed a w := by
  intro fuel
  induction fuel with
  | zero => intro listed a w h; exact h
  | succ fuel ih =>
    intro listed a w h
    refine ⟨h.1, fun i hi => ?_⟩
    have h2 := h.2 i hi
    unfold wpOp at h2
    unfold wpOpIn
    split
    · rename_i ho
      rw [ho] at h2
      exact ih _ _ _ h2
    · rename_i o ho
      rw [ho] at h2
      simp only at h2
      split
      · rename_i hw
        rw [if_pos hw] at h2
        rcases h2 with h2 | ⟨_, h2⟩
        · exact Oper.wpIn_mono (fun a w => ih _ a w) (oper_round l n (fun c => hd i o c ho) h2)
        · exact absurd h2 hQ
      · rename_i hw
        rw [if_neg hw] at h2
        exact ⟨fun _ _ => trivial, ih _ _ _ h2⟩

def isDefer : Op → Bool
  | .defer _ => true
  | _ => false

/-- A drawn region in a round: walked as the lone one is, a condition S held. -/
theorem region_round {P : Program} {ops : Array Oper} {Q : Exit → Act → World → Prop} {a : Act} {w : World} {id : Nat} (S : World → Prop) (l n : Nat) (hm : P.follows .mixedOrders = true) (hd : (ops.all fun o => !isDefer o.op) = true) (hQ : ¬ LetsOut Q) (hS : S w.drew)
    (h : S w.drew → wpAnyH P .any ops Q S ops.size (Array.replicate ops.size false) a w.drew) : (Code.region id ops true).wpIn (Fence.wide.inRound l) n P Q a w := by
  refine wpIn_region_any hm (any_round l n (fun i o c ho e => ?_) hQ _ _ _ _ (wpAny_of_held _ _ _ _ (h hS)))
  obtain ⟨hi, rfl⟩ := Array.getElem?_eq_some_iff.1 ho
  have := Array.all_eq_true.1 hd i hi
  rw [e] at this
  simp [isDefer] at this
end Go.Proofs.Tm

/- Plain mathematics of a division of two words by one, half a word at a time. Nothing of the program is imported. -/
namespace Go.Proofs.Tm
set_option linter.unusedVariables false
set_option maxRecDepth 20000

/-- What holds of a guessed half digit q and its rest r: u is the dividend's head, c its next half, y = yn1 * 2^32 + yn0 the divisor. -/
structure Half (u c y yn1 yn0 q r : Nat) : Prop where
  hy : y = yn1 * 4294967296 + yn0
  h0 : yn0 < 4294967296
  h1 : 2147483648 ≤ yn1
  hu : u < y
  hc : c < 4294967296
  h64 : y < 18446744073709551616
  heq : q * yn1 + r = u
  hge : (u * 4294967296 + c) / y ≤ q

theorem Half.start {u c y yn1 yn0 : Nat} (hy : y = yn1 * 4294967296 + yn0) (h0 : yn0 < 4294967296) (h1 : 2147483648 ≤ yn1) (hu : u < y) (hc : c < 4294967296) (h64 : y < 18446744073709551616) : Half u c y yn1 yn0 (u / yn1) (u % yn1) := by
  refine ⟨hy, h0, h1, hu, hc, h64, by rw [Nat.mul_comm]; exact Nat.div_add_mod u yn1, ?_⟩
  have hyp : 0 < y := by omega
  rw [← Nat.lt_succ_iff, Nat.div_lt_iff_lt_mul hyp]
  have h2 : u < (u / yn1 + 1) * yn1 := by
    have := Nat.div_add_mod u yn1; have := Nat.mod_lt u (show 0 < yn1 by omega)
    rw [Nat.add_mul, Nat.one_mul, Nat.mul_comm]; omega
  have h3 : (u / yn1 + 1) * y = (u / yn1 + 1) * yn1 * 4294967296 + (u / yn1 + 1) * yn0 := by rw [hy, Nat.mul_add, Nat.mul_assoc]
  rw [Nat.succ_eq_add_one, h3]
  omega

theorem Half.q_le {u c y yn1 yn0 q r : Nat} (h : Half u c y yn1 yn0 q r) : q ≤ u ∧ r ≤ u ∧ q ≤ 8589934592 := by
  have h1 := h.h1
  have h2 := h.heq
  have h3 : q * 2147483648 ≤ q * yn1 := Nat.mul_le_mul_left _ h1
  have := h.hu
  have := h.h64
  omega

theorem Half.more {u c y yn1 yn0 q r : Nat} (h : Half u c y yn1 yn0 q r) (hq : 4294967296 ≤ q ∨ 4294967296 * r + c < q * yn0) : 1 ≤ q ∧ Half u c y yn1 yn0 (q - 1) (r + yn1) := by
  have hy := h.hy
  have hyp : 0 < y := by have := h.h1; omega
  have hlt : (u * 4294967296 + c) / y < q := by
    rcases hq with hq | hq
    · refine Nat.lt_of_lt_of_le ?_ hq
      rw [Nat.div_lt_iff_lt_mul hyp]
      have := h.hu; have := h.hc
      omega
    · rw [Nat.div_lt_iff_lt_mul hyp, hy, Nat.mul_add, ← Nat.mul_assoc]
      have := h.heq
      omega
  have hq1 : 1 ≤ q := Nat.lt_of_le_of_lt (Nat.zero_le _) hlt
  refine ⟨hq1, h.hy, h.h0, h.h1, h.hu, h.hc, h.h64, ?_, Nat.le_sub_one_of_lt hlt⟩
  obtain ⟨k, rfl⟩ : ∃ k, q = k + 1 := ⟨q - 1, by omega⟩
  have := h.heq
  rw [Nat.add_mul] at this
  simp only [Nat.add_sub_cancel]
  omega

theorem Half.done {u c y yn1 yn0 q r : Nat} (h : Half u c y yn1 yn0 q r) (hq : q * yn0 ≤ 4294967296 * r + c) : q = (u * 4294967296 + c) / y := by
  have hyp : 0 < y := by have := h.h1; have := h.hy; omega
  refine Nat.le_antisymm ?_ h.hge
  rw [Nat.le_div_iff_mul_le hyp]
  have h1 := h.heq
  have h2 : q * y = q * yn1 * 4294967296 + q * yn0 := by rw [h.hy, Nat.mul_add, Nat.mul_assoc]
  omega

theorem Half.break {u c y yn1 yn0 q r : Nat} (h : Half u c y yn1 yn0 q r) (hr : 4294967296 ≤ r) : q = (u * 4294967296 + c) / y := by
  refine h.done ?_
  have h1 := h.heq
  have hlt : q < 4294967296 := by
    rcases Nat.lt_or_ge q 4294967296 with h2 | h2
    · exact h2
    · have h3 : 4294967296 * yn1 ≤ q * yn1 := Nat.mul_le_mul_right _ h2
      have := h.hu; have := h.hy; have := h.h0
      omega
  have h4 : q * yn0 ≤ 4294967295 * 4294967295 := Nat.mul_le_mul (by omega) (by have := h.h0; omega)
  omega

theorem Half.lt {u c y yn1 yn0 q r : Nat} (h : Half u c y yn1 yn0 q r) (hq : q = (u * 4294967296 + c) / y) : q < 4294967296 := by
  have hyp : 0 < y := by have := h.h1; have := h.hy; omega
  rw [hq, Nat.div_lt_iff_lt_mul hyp]
  have := h.hu; have := h.hc
  omega

/-- The two halves together. -/
theorem halves (N y s Y u un1 un0 q1 q0 u2 : Nat) (hY : Y = y * 2 ^ s) (hy : 0 < y) (hN : N * 2 ^ s = (u * 4294967296 + un1) * 4294967296 + un0) (h1 : q1 = (u * 4294967296 + un1) / Y) (h2 : u2 = (u * 4294967296 + un1) % Y) (h3 : q0 = (u2 * 4294967296 + un0) / Y) :
    N / y = q1 * 4294967296 + q0 ∧ N % y = (u2 * 4294967296 + un0) % Y / 2 ^ s := by
  have hp : 0 < 2 ^ s := Nat.two_pow_pos s
  have hYp : 0 < Y := by rw [hY]; exact Nat.mul_pos hy hp
  have e1 := Nat.div_add_mod (u * 4294967296 + un1) Y
  rw [← h1, ← h2] at e1
  have e2 := Nat.div_add_mod (u2 * 4294967296 + un0) Y
  rw [← h3] at e2
  have hr := Nat.mod_lt (u2 * 4294967296 + un0) hYp
  obtain ⟨r, hrr⟩ : ∃ r, r = (u2 * 4294967296 + un0) % Y := ⟨_, rfl⟩
  rw [← hrr] at e2 hr ⊢
  have e3 : N * 2 ^ s = Y * (q1 * 4294967296 + q0) + r := by
    rw [hN, ← e1, Nat.mul_add, ← Nat.mul_assoc]
    omega
  have hrd : r = N % y * 2 ^ s ∧ N / y = q1 * 4294967296 + q0 := by
    have h4 := Nat.div_add_mod N y
    have h5 := Nat.mod_lt N hy
    have e4 : N * 2 ^ s = Y * (N / y) + N % y * 2 ^ s := by
      conv => lhs; rw [← h4]
      rw [Nat.add_mul, hY, Nat.mul_assoc, Nat.mul_assoc, Nat.mul_comm (N / y)]
    have h6 : N % y * 2 ^ s < Y := by rw [hY]; exact Nat.mul_lt_mul_of_pos_right h5 hp
    have d1 : N * 2 ^ s / Y = q1 * 4294967296 + q0 := by rw [e3, Nat.mul_add_div hYp, Nat.div_eq_of_lt hr, Nat.add_zero]
    have d2 : N * 2 ^ s / Y = N / y := by rw [e4, Nat.mul_add_div hYp, Nat.div_eq_of_lt h6, Nat.add_zero]
    have m1 : N * 2 ^ s % Y = r := by rw [e3, Nat.mul_add_mod, Nat.mod_eq_of_lt hr]
    have m2 : N * 2 ^ s % Y = N % y * 2 ^ s := by rw [e4, Nat.mul_add_mod, Nat.mod_eq_of_lt h6]
    exact ⟨by rw [← m1, m2], by rw [← d2, d1]⟩
  refine ⟨hrd.2, ?_⟩
  rw [hrd.1, Nat.mul_div_cancel _ hp]
end Go.Proofs.Tm

/- The contract of the library's Div64. -/
namespace Go.Proofs.YtoklmfmoblkfcaaGreatDoor
open Go.RowKit Go.Proofs.Tm
set_option linter.unusedVariables false
set_option maxRecDepth 20000


theorem div64_low (lo y : Nat) (w : World) (hlo : lo < 18446744073709551616) (hy : 0 < y) (hy2 : y < 18446744073709551616) :
    Calls Tryz.prog 134 #[.int .u64 0, .int .u64 (lo : Int), .int .u64 (y : Int)] w fun e w' =>
      e = .returned (.tuple #[.int .u64 ((lo / y : Nat) : Int), .int .u64 ((lo % y : Nat) : Int)]) ∧ Upd [] w w' := by
  have h1 : ((y : Int) == 0) = false := by simp; omega
  have h2 : decide (y = 0) = false := by simp; omega
  have h3 : ¬ y = 0 := by omega
  have h4 : decide ((y : Int) ≤ 0) = false := by simp; omega
  have h5 : (lo : Int).tdiv (y : Int) = ((lo / y : Nat) : Int) := by rw [Int.tdiv_eq_ediv_of_nonneg (by omega)]; simp
  have h6 : (lo : Int).tmod (y : Int) = ((lo % y : Nat) : Int) := by rw [Int.tmod_eq_emod_of_nonneg (by omega)]; simp
  have h7 : IntKind.u64.wrap ((lo / y : Nat) : Int) = ((lo / y : Nat) : Int) := wrap_nat _ (Nat.lt_of_le_of_lt (Nat.div_le_self lo y) hlo)
  have h8 : IntKind.u64.wrap ((lo % y : Nat) : Int) = ((lo % y : Nat) : Int) := wrap_nat _ (Nat.lt_of_le_of_lt (Nat.mod_le lo y) hlo)
  obtain ⟨q, hq⟩ : ∃ q, q = lo / y := ⟨_, rfl⟩
  obtain ⟨r, hr⟩ : ∃ r, r = lo % y := ⟨_, rfl⟩
  rw [← hq] at h5 h7 ⊢
  rw [← hr] at h6 h8 ⊢
  clear hq hr
  go_enter Tryz.func134, Tryz.ntmps134
  go_wp2
  go_quiet (fail)
  go_wp2
  go_ret2
  exact ⟨rfl, (Upd.refl _ _).drewN _⟩

theorem lz_spec (y : Nat) (h0 : y ≠ 0) (h : y < 18446744073709551616) : ∃ s : Nat, s ≤ 63 ∧ (64 : Int) - (Lib.bitLen y : Int) = (s : Int) ∧ 9223372036854775808 ≤ y * 2 ^ s ∧ y * 2 ^ s < 18446744073709551616 := by
  obtain ⟨h1, h2, h3⟩ := Lib.bitLenAux_bounds 64 y (by simpa using h) h0
  have hl : Lib.bitLenAux 64 y ≤ 64 := Lib.bitLenAux_le 64 y 64 (by simpa using h)
  refine ⟨64 - Lib.bitLenAux 64 y, by omega, by show (64 : Int) - (Lib.bitLenAux 64 y : Int) = _; omega, ?_, ?_⟩
  · have := Nat.mul_le_mul_right (2 ^ (64 - Lib.bitLenAux 64 y)) h2
    rw [← Nat.pow_add, show Lib.bitLenAux 64 y - 1 + (64 - Lib.bitLenAux 64 y) = 63 by omega] at this
    simpa using this
  · have := Nat.mul_lt_mul_of_pos_right h3 (Nat.two_pow_pos (64 - Lib.bitLenAux 64 y))
    rw [← Nat.pow_add, show Lib.bitLenAux 64 y + (64 - Lib.bitLenAux 64 y) = 64 by omega] at this
    simpa using this

theorem and_mask32 (a : Nat) (ha : a < 18446744073709551616) : bits .and .u64 (a : Int) 4294967295 = ((a % 4294967296 : Nat) : Int) := by
  rw [show (4294967295 : Int) = ((4294967295 : Nat) : Int) from rfl, u64_and_nat a 4294967295 ha (by decide), show (4294967295 : Nat) = 2 ^ 32 - 1 by decide, Nat.and_two_pow_sub_one_eq_mod]

/-- What stands above, and what stands below 2^k, are put together. -/
theorem or_low (a b k : Nat) (hb : b < 2 ^ k) (h : a * 2 ^ k < 18446744073709551616) (hb2 : b < 18446744073709551616) : bits .or .u64 ((a * 2 ^ k : Nat) : Int) (b : Int) = ((a * 2 ^ k + b : Nat) : Int) := by
  rw [u64_or_nat _ _ h hb2]
  congr 1
  rw [Nat.mul_comm, Nat.two_pow_add_eq_or_of_lt hb]

theorem shl_nat (a s : Nat) : (a : Int) * 2 ^ s = ((a * 2 ^ s : Nat) : Int) := by simp
theorem wrap_mod (n : Nat) : IntKind.u64.wrap (n : Int) = ((n % 18446744073709551616 : Nat) : Int) := by rw [IntKind.wrap_u64]; omega
/-- A difference that is there, reckoned in words. -/
theorem wrap_sub (X c Z r : Nat) (h : X + c = Z + r) (hr : r < 18446744073709551616) :
    IntKind.u64.wrap (((((X % 18446744073709551616) + c) % 18446744073709551616 : Nat) : Int) - ((Z % 18446744073709551616 : Nat) : Int)) = (r : Int) := by
  rw [IntKind.wrap_u64]; omega

set_option maxRecDepth 100000 in
set_option maxHeartbeats 3200000 in
theorem div64_high (hi lo y : Nat) (w : World) (hhi : hi ≠ 0) (hlt : hi < y) (hlo : lo < 18446744073709551616) (hy2 : y < 18446744073709551616) :
    Calls Tryz.prog 134 #[.int .u64 (hi : Int), .int .u64 (lo : Int), .int .u64 (y : Int)] w fun e w' =>
      e = .returned (.tuple #[.int .u64 (((hi * 18446744073709551616 + lo) / y : Nat) : Int), .int .u64 (((hi * 18446744073709551616 + lo) % y : Nat) : Int)]) ∧ Upd [] w w' := by
  have h1 : ((y : Int) == 0) = false := by simp; omega
  have h2 : decide (y ≤ hi) = false := by simp; omega
  have h3 : ((hi : Int) == 0) = false := by simp; omega
  obtain ⟨s, hs, hsb, hn1, hn2⟩ := lz_spec y (by omega) hy2
  have hsp := Nat.two_pow_pos s
  have hsp2 := Nat.two_pow_pos (64 - s)
  have hpw : 2 ^ s * 2 ^ (64 - s) = 18446744073709551616 := by rw [← Nat.pow_add, show s + (64 - s) = 64 by omega]
  obtain ⟨Y, hY⟩ : ∃ Y, Y = y * 2 ^ s := ⟨_, rfl⟩
  obtain ⟨hs', hhs⟩ : ∃ a, a = hi * 2 ^ s := ⟨_, rfl⟩
  obtain ⟨ls, hls⟩ : ∃ a, a = lo / 2 ^ (64 - s) := ⟨_, rfl⟩
  obtain ⟨lw, hlw⟩ : ∃ a, a = lo * 2 ^ s % 18446744073709551616 := ⟨_, rfl⟩
  obtain ⟨u, hu⟩ : ∃ a, a = hs' + ls := ⟨_, rfl⟩
  obtain ⟨a1, ha1⟩ : ∃ a, a = Y / 4294967296 := ⟨_, rfl⟩
  obtain ⟨a0, ha0⟩ : ∃ a, a = Y % 4294967296 := ⟨_, rfl⟩
  obtain ⟨un1, hun1⟩ : ∃ a, a = lw / 4294967296 := ⟨_, rfl⟩
  obtain ⟨un0, hun0⟩ : ∃ a, a = lw % 4294967296 := ⟨_, rfl⟩
  have hls2 : ls < 2 ^ s := by rw [hls, Nat.div_lt_iff_lt_mul hsp2, hpw]; exact hlo
  have hhY : hs' + 2 ^ s ≤ Y := by
    have := Nat.mul_le_mul_right (2 ^ s) hlt
    rw [Nat.succ_eq_add_one, Nat.add_mul, Nat.one_mul] at this
    rw [hhs, hY]; exact this
  have huY : u < Y := by omega
  have hlwlt : lw < 18446744073709551616 := by rw [hlw]; exact Nat.mod_lt _ (by decide)
  have hcut : lo * 2 ^ s = ls * 18446744073709551616 + lw := by
    have e1 : lo * 2 ^ s / 18446744073709551616 = ls := by
      rw [hls, ← hpw, Nat.mul_comm lo, Nat.mul_div_mul_left _ _ hsp]
    have e2 := Nat.div_add_mod (lo * 2 ^ s) 18446744073709551616
    rw [e1, ← hlw] at e2
    omega
  have HN : Hid ((hi * 18446744073709551616 + lo) * 2 ^ s = (u * 4294967296 + un1) * 4294967296 + un0) := by
    show _ = _
    rw [Nat.add_mul, hcut, Nat.mul_right_comm, ← hhs, hu]
    omega
  have f1 : IntKind.u64.wrap ((y : Int) * 2 ^ s) = (Y : Int) := by rw [shl_nat, ← hY]; exact wrap_nat _ (by omega)
  have f2 : (Y : Int) / 4294967296 = (a1 : Int) := by omega
  have f3 : bits .and .u64 (Y : Int) 4294967295 = (a0 : Int) := by rw [and_mask32 _ (by omega), ← ha0]
  have f4 : IntKind.u64.wrap ((hi : Int) * 2 ^ s) = (hs' : Int) := by rw [shl_nat, ← hhs]; exact wrap_nat _ (by omega)
  have f5 : (lo : Int) / 2 ^ (64 - s) = (ls : Int) := by rw [shr_nat, ← hls]
  have f6 : bits .or .u64 (hs' : Int) (ls : Int) = (u : Int) := by rw [hu, hhs]; exact or_low hi ls s hls2 (by omega) (by omega)
  have f7 : IntKind.u64.wrap ((lo : Int) * 2 ^ s) = (lw : Int) := by rw [shl_nat, wrap_mod, ← hlw]
  have f8 : (lw : Int) / 4294967296 = (un1 : Int) := by omega
  have f9 : bits .and .u64 (lw : Int) 4294967295 = (un0 : Int) := by rw [and_mask32 _ (by omega), ← hun0]
  have HS1 : Hid (Half u un1 Y a1 a0 (u / a1) (u % a1)) := Half.start (by omega) (by omega) (by omega) huY (by omega) (by omega)
  have f10 := tdiv_nat u a1
  obtain ⟨qs, hqs⟩ : ∃ q, q = u / a1 := ⟨_, rfl⟩
  obtain ⟨rs, hrs⟩ : ∃ r, r = u % a1 := ⟨_, rfl⟩
  rw [← hqs, ← hrs] at HS1
  rw [← hqs] at f10
  have hqb := HS1.out.q_le
  have f11 : IntKind.u64.wrap ((qs : Int) * (a1 : Int)) = ((qs * a1 : Nat) : Int) := by
    rw [← Int.natCast_mul]; exact wrap_nat _ (by have := HS1.out.heq; omega)
  have f12 : IntKind.u64.wrap ((u : Int) - ((qs * a1 : Nat) : Int)) = (rs : Int) := by have := HS1.out.heq; rw [IntKind.wrap_u64]; omega
  obtain ⟨qa, hqa⟩ : ∃ a, a = qs * a1 := ⟨_, rfl⟩
  rw [← hqa] at f11 f12
  have hua : u < 18446744073709551616 := by omega
  have hrb : rs < 4294967296 := by have := Nat.mod_lt u (show 0 < a1 by omega); omega
  have hap : 0 < a1 := by omega
  have hun1b : un1 < 4294967296 := by omega
  have hun0b : un0 < 4294967296 := by omega
  have HH : Hid (∀ q1 q0 u2 : Nat, q1 = (u * 4294967296 + un1) / Y → u2 = (u * 4294967296 + un1) % Y → q0 = (u2 * 4294967296 + un0) / Y → (hi * 18446744073709551616 + lo) / y = q1 * 4294967296 + q0 ∧ (hi * 18446744073709551616 + lo) % y = (u2 * 4294967296 + un0) % Y / 2 ^ s) :=
    fun q1 q0 u2 e1 e2 e3 => halves _ y s Y u un1 un0 q1 q0 u2 hY (by omega) HN.out e1 e2 e3
  have HYL := Lib.hid hn2
  rw [← hY] at HYL
  clear hY hhs hls hlw hu ha1 ha0 hun1 hun0 hls2 hhY hcut hqs hrs hqa hn1 hn2 hsp hsp2 hpw hlwlt
  have hsb' : (64 : Int) - (Lib.bitLen y : Int) = (s : Int) := hsb
  go_enter Tryz.func134, Tryz.ntmps134
  go_wp2_with fail
  refine (Tryz.bits_LeadingZeros64 (y : Int) w (by omega) (by omega)).mono ?_
  rintro e w' ⟨rfl, rfl⟩
  rw [Int.toNat_natCast, hsb]
  clear hsb hsb'
  go_upto_block 0 with fail
  clear f1 f2 f3 f4 f5 f6 f7 f8 f9 f10 f11 f12
  go_cut [15] (fun v15 wx => ∃ q1 : Nat, v15 = .int .u64 (q1 : Int) ∧ Hid (q1 = (u * 4294967296 + un1) / Y) ∧ wx = w')
  case first =>
    go_wp2_with fail
    go_loop [15, 16] (fun vq vr => ∃ q r : Nat, vq = .int .u64 (q : Int) ∧ vr = .int .u64 (r : Int) ∧ r < 4294967296 ∧ q ≤ 8589934592 ∧ Hid (Half u un1 Y a1 a0 q r)) (fun vq _ => (intOf vq).toNat)
    case atStart => exact ⟨_, _, rfl, rfl, hrb, hqb.2.2, HS1⟩
    case round =>
      obtain ⟨q, r, rfl, rfl, hr, hq, HI⟩ := hrel
      by_cases hbig : 4294967296 ≤ q
      · obtain ⟨hq1, hm⟩ := HI.out.more (.inl hbig)
        have g1 : decide ((4294967296 : Int) ≤ (q : Int)) = true := by simp; omega
        have g2 : IntKind.u64.wrap ((q : Int) - 1) = ((q - 1 : Nat) : Int) := by rw [IntKind.wrap_u64]; omega
        have hqm := hm.q_le
        have g3 : IntKind.u64.wrap ((r : Int) + (a1 : Int)) = ((r + a1 : Nat) : Int) := by rw [IntKind.wrap_u64]; omega
        have HM := Lib.hid hm
        clear hm
        by_cases hbr : 4294967296 ≤ r + a1
        · have g4 : decide ((4294967296 : Int) ≤ ((r + a1 : Nat) : Int)) = true := by simp; omega
          have HE := Lib.hid (HM.out.break hbr)
          generalize q - 1 = q' at *
          generalize r + a1 = r' at *
          go_wp2
          go_meet
          exact ⟨q', rfl, HE.out, rfl⟩
        · have g4 : decide ((4294967296 : Int) ≤ ((r + a1 : Nat) : Int)) = false := by simp; omega
          have hm2 : q - 1 < q := by omega
          have hr' : r + a1 < 4294967296 := by omega
          have hqq : q - 1 ≤ 8589934592 := by omega
          generalize q - 1 = q' at *
          generalize r + a1 = r' at *
          go_wp2
          go_round
          case rel => exact ⟨q', r', rfl, rfl, hr', hqq, HM⟩
          case measure => simp [intOf]; omega
      · have g1 : decide ((4294967296 : Int) ≤ (q : Int)) = false := by simp; omega
        have hqa0 : q * a0 ≤ 4294967295 * 4294967295 := Nat.mul_le_mul (by omega) (by have := HI.out.h0; omega)
        have hc := HI.out.hc
        have g5 : IntKind.u64.wrap ((q : Int) * (a0 : Int)) = ((q * a0 : Nat) : Int) := by rw [← Int.natCast_mul]; exact wrap_nat _ (by omega)
        have g6 : IntKind.u64.wrap (4294967296 * (r : Int)) = ((4294967296 * r : Nat) : Int) := by rw [IntKind.wrap_u64]; omega
        have g7 : IntKind.u64.wrap (((4294967296 * r : Nat) : Int) + (un1 : Int)) = ((4294967296 * r + un1 : Nat) : Int) := by rw [IntKind.wrap_u64]; omega
        by_cases hgt : 4294967296 * r + un1 < q * a0
        · obtain ⟨hq1, hm⟩ := HI.out.more (.inr hgt)
          have g8 : decide (4294967296 * r + un1 < q * a0) = true := by simp; omega
          have g2 : IntKind.u64.wrap ((q : Int) - 1) = ((q - 1 : Nat) : Int) := by rw [IntKind.wrap_u64]; omega
          have hqm := hm.q_le
          have g3 : IntKind.u64.wrap ((r : Int) + (a1 : Int)) = ((r + a1 : Nat) : Int) := by rw [IntKind.wrap_u64]; omega
          have HM := Lib.hid hm
          clear hm hc hqa0
          generalize 4294967296 * r + un1 = bu at *
          generalize 4294967296 * r = br at *
          generalize q * a0 = qa0 at *
          by_cases hbr : 4294967296 ≤ r + a1
          · have g4 : decide ((4294967296 : Int) ≤ ((r + a1 : Nat) : Int)) = true := by simp; omega
            have HE := Lib.hid (HM.out.break hbr)
            generalize q - 1 = q' at *
            generalize r + a1 = r' at *
            go_wp2
            go_meet
            exact ⟨q', rfl, HE.out, rfl⟩
          · have g4 : decide ((4294967296 : Int) ≤ ((r + a1 : Nat) : Int)) = false := by simp; omega
            have hm2 : q - 1 < q := by omega
            have hr' : r + a1 < 4294967296 := by omega
            have hqq : q - 1 ≤ 8589934592 := by omega
            generalize q - 1 = q' at *
            generalize r + a1 = r' at *
            go_wp2
            go_round
            case rel => exact ⟨q', r', rfl, rfl, hr', hqq, HM⟩
            case measure => simp [intOf]; omega
        · have g8 : decide (4294967296 * r + un1 < q * a0) = false := by simp; omega
          have HE := Lib.hid (HI.out.done (by omega))
          clear hc hqa0
          generalize 4294967296 * r + un1 = bu at *
          generalize 4294967296 * r = br at *
          generalize q * a0 = qa0 at *
          go_wp2
          go_meet
          exact ⟨q, rfl, HE.out, rfl⟩
  case rest =>
    obtain ⟨q1, rfl, HQ1, rfl⟩ := hcut
    obtain ⟨u2, hu2⟩ : ∃ a, a = (u * 4294967296 + un1) % Y := ⟨_, rfl⟩
    have hYp : 0 < Y := by omega
    have hY64 := HYL.out
    have hu2Y : u2 < Y := by rw [hu2]; exact Nat.mod_lt _ hYp
    have hdm : u * 4294967296 + un1 = q1 * Y + u2 := by
      have := Nat.div_add_mod (u * 4294967296 + un1) Y
      rw [← HQ1.out, ← hu2, Nat.mul_comm] at this
      exact this.symm
    have hq1b : q1 < 4294967296 := by
      rw [HQ1.out, Nat.div_lt_iff_lt_mul hYp]; omega
    have e1 : IntKind.u64.wrap ((u : Int) * 4294967296) = ((u * 4294967296 % 18446744073709551616 : Nat) : Int) := by rw [IntKind.wrap_u64]; omega
    have e2 : IntKind.u64.wrap (((u * 4294967296 % 18446744073709551616 : Nat) : Int) + (un1 : Int)) = (((u * 4294967296 % 18446744073709551616 + un1) % 18446744073709551616 : Nat) : Int) := by rw [IntKind.wrap_u64]; omega
    have e3 : IntKind.u64.wrap ((q1 : Int) * (Y : Int)) = ((q1 * Y % 18446744073709551616 : Nat) : Int) := by rw [← Int.natCast_mul]; exact wrap_mod _
    have e4 := wrap_sub (u * 4294967296) un1 (q1 * Y) u2 hdm (by omega)
    have HS2 : Hid (Half u2 un0 Y a1 a0 (u2 / a1) (u2 % a1)) := Half.start HS1.out.hy HS1.out.h0 HS1.out.h1 hu2Y hun0b (by omega)
    have e5 := tdiv_nat u2 a1
    have hr2 := Nat.mod_lt u2 (show 0 < a1 by omega)
    obtain ⟨qs2, hqs⟩ : ∃ q, q = u2 / a1 := ⟨_, rfl⟩
    obtain ⟨rs2, hrs⟩ : ∃ r, r = u2 % a1 := ⟨_, rfl⟩
    rw [← hqs, ← hrs] at HS2
    rw [← hqs] at e5
    rw [← hrs] at hr2
    have hq2b := HS2.out.q_le
    have hr2b : rs2 < 4294967296 := by have := HS1.out.hy; omega
    have e6 : IntKind.u64.wrap ((qs2 : Int) * (a1 : Int)) = ((qs2 * a1 : Nat) : Int) := by
      rw [← Int.natCast_mul]; exact wrap_nat _ (by have := HS2.out.heq; omega)
    have e7 : IntKind.u64.wrap ((u2 : Int) - ((qs2 * a1 : Nat) : Int)) = (rs2 : Int) := by have := HS2.out.heq; rw [IntKind.wrap_u64]; omega
    have HU2 := Lib.hid hu2
    have hu2b : u2 < 18446744073709551616 := by omega
    obtain ⟨m1, hm1⟩ : ∃ m, m = u * 4294967296 % 18446744073709551616 := ⟨_, rfl⟩
    rw [← hm1] at e1 e2 e4
    obtain ⟨m2, hm2⟩ : ∃ m, m = (m1 + un1) % 18446744073709551616 := ⟨_, rfl⟩
    rw [← hm2] at e2 e4
    obtain ⟨m3, hm3⟩ : ∃ m, m = q1 * Y % 18446744073709551616 := ⟨_, rfl⟩
    rw [← hm3] at e3 e4
    obtain ⟨qa2, hqa⟩ : ∃ a, a = qs2 * a1 := ⟨_, rfl⟩
    rw [← hqa] at e6 e7
    clear hu2 hdm hqs hrs hm1 hm2 hm3 hqa
    go_upto_block 2 with fail
    clear e1 e2 e3 e4 e5 e6 e7
    go_cut [18] (fun v18 wx => ∃ q0 : Nat, v18 = .int .u64 (q0 : Int) ∧ Hid (q0 = (u2 * 4294967296 + un0) / Y) ∧ wx = wc)
    case first =>
      go_wp2_with fail
      go_loop [18, 16] (fun vq vr => ∃ q r : Nat, vq = .int .u64 (q : Int) ∧ vr = .int .u64 (r : Int) ∧ r < 4294967296 ∧ q ≤ 8589934592 ∧ Hid (Half u2 un0 Y a1 a0 q r)) (fun vq _ => (intOf vq).toNat)
      case atStart => exact ⟨_, _, rfl, rfl, hr2b, hq2b.2.2, HS2⟩
      case round =>
        obtain ⟨q, r, rfl, rfl, hr, hq, HI⟩ := hrel
        by_cases hbig : 4294967296 ≤ q
        · obtain ⟨hq1, hm⟩ := HI.out.more (.inl hbig)
          have g1 : decide ((4294967296 : Int) ≤ (q : Int)) = true := by simp; omega
          have g2 : IntKind.u64.wrap ((q : Int) - 1) = ((q - 1 : Nat) : Int) := by rw [IntKind.wrap_u64]; omega
          have hqm := hm.q_le
          have g3 : IntKind.u64.wrap ((r : Int) + (a1 : Int)) = ((r + a1 : Nat) : Int) := by rw [IntKind.wrap_u64]; omega
          have HM := Lib.hid hm
          clear hm
          by_cases hbr : 4294967296 ≤ r + a1
          · have g4 : decide ((4294967296 : Int) ≤ ((r + a1 : Nat) : Int)) = true := by simp; omega
            have HE := Lib.hid (HM.out.break hbr)
            generalize q - 1 = q' at *
            generalize r + a1 = r' at *
            go_wp2
            go_meet
            exact ⟨q', rfl, HE.out, rfl⟩
          · have g4 : decide ((4294967296 : Int) ≤ ((r + a1 : Nat) : Int)) = false := by simp; omega
            have hm2 : q - 1 < q := by omega
            have hr' : r + a1 < 4294967296 := by omega
            have hqq : q - 1 ≤ 8589934592 := by omega
            generalize q - 1 = q' at *
            generalize r + a1 = r' at *
            go_wp2
            go_round
            case rel => exact ⟨q', r', rfl, rfl, hr', hqq, HM⟩
            case measure => simp [intOf]; omega
        · have g1 : decide ((4294967296 : Int) ≤ (q : Int)) = false := by simp; omega
          have hqa0 : q * a0 ≤ 4294967295 * 4294967295 := Nat.mul_le_mul (by omega) (by have := HI.out.h0; omega)
          have hc := HI.out.hc
          have g5 : IntKind.u64.wrap ((q : Int) * (a0 : Int)) = ((q * a0 : Nat) : Int) := by rw [← Int.natCast_mul]; exact wrap_nat _ (by omega)
          have g6 : IntKind.u64.wrap (4294967296 * (r : Int)) = ((4294967296 * r : Nat) : Int) := by rw [IntKind.wrap_u64]; omega
          have g7 : IntKind.u64.wrap (((4294967296 * r : Nat) : Int) + (un0 : Int)) = ((4294967296 * r + un0 : Nat) : Int) := by rw [IntKind.wrap_u64]; omega
          by_cases hgt : 4294967296 * r + un0 < q * a0
          · obtain ⟨hq1, hm⟩ := HI.out.more (.inr hgt)
            have g8 : decide (4294967296 * r + un0 < q * a0) = true := by simp; omega
            have g2 : IntKind.u64.wrap ((q : Int) - 1) = ((q - 1 : Nat) : Int) := by rw [IntKind.wrap_u64]; omega
            have hqm := hm.q_le
            have g3 : IntKind.u64.wrap ((r : Int) + (a1 : Int)) = ((r + a1 : Nat) : Int) := by rw [IntKind.wrap_u64]; omega
            have HM := Lib.hid hm
            clear hm hc hqa0
            generalize 4294967296 * r + un0 = bu at *
            generalize 4294967296 * r = br at *
            generalize q * a0 = qa0 at *
            by_cases hbr : 4294967296 ≤ r + a1
            · have g4 : decide ((4294967296 : Int) ≤ ((r + a1 : Nat) : Int)) = true := by simp; omega
              have HE := Lib.hid (HM.out.break hbr)
              generalize q - 1 = q' at *
              generalize r + a1 = r' at *
              go_wp2
              go_meet
              exact ⟨q', rfl, HE.out, rfl⟩
            · have g4 : decide ((4294967296 : Int) ≤ ((r + a1 : Nat) : Int)) = false := by simp; omega
              have hm2 : q - 1 < q := by omega
              have hr' : r + a1 < 4294967296 := by omega
              have hqq : q - 1 ≤ 8589934592 := by omega
              generalize q - 1 = q' at *
              generalize r + a1 = r' at *
              go_wp2
              go_round
              case rel => exact ⟨q', r', rfl, rfl, hr', hqq, HM⟩
              case measure => simp [intOf]; omega
          · have g8 : decide (4294967296 * r + un0 < q * a0) = false := by simp; omega
            have HE := Lib.hid (HI.out.done (by omega))
            clear hc hqa0
            generalize 4294967296 * r + un0 = bu at *
            generalize 4294967296 * r = br at *
            generalize q * a0 = qa0 at *
            go_wp2
            go_meet
            exact ⟨q, rfl, HE.out, rfl⟩
    case rest =>
      obtain ⟨q0, rfl, HQ0, rfl⟩ := hcut
      have hfin := HH.out q1 q0 u2 HQ1.out HU2.out HQ0.out
      obtain ⟨r, hr⟩ : ∃ a, a = (u2 * 4294967296 + un0) % Y := ⟨_, rfl⟩
      have hrY : r < Y := by rw [hr]; exact Nat.mod_lt _ hYp
      have hdm : u2 * 4294967296 + un0 = q0 * Y + r := by
        have := Nat.div_add_mod (u2 * 4294967296 + un0) Y
        rw [← HQ0.out, ← hr, Nat.mul_comm] at this
        exact this.symm
      have hq0b : q0 < 4294967296 := by
        rw [HQ0.out, Nat.div_lt_iff_lt_mul hYp]; omega
      have e0 : IntKind.u64.wrap ((q1 : Int) * 4294967296) = ((q1 * 4294967296 : Nat) : Int) := by rw [IntKind.wrap_u64]; omega
      have e00 : IntKind.u64.wrap (((q1 * 4294967296 : Nat) : Int) + (q0 : Int)) = ((q1 * 4294967296 + q0 : Nat) : Int) := by rw [IntKind.wrap_u64]; omega
      have e1 : IntKind.u64.wrap ((u2 : Int) * 4294967296) = ((u2 * 4294967296 % 18446744073709551616 : Nat) : Int) := by rw [IntKind.wrap_u64]; omega
      have e2 : IntKind.u64.wrap (((u2 * 4294967296 % 18446744073709551616 : Nat) : Int) + (un0 : Int)) = (((u2 * 4294967296 % 18446744073709551616 + un0) % 18446744073709551616 : Nat) : Int) := by rw [IntKind.wrap_u64]; omega
      have e3 : IntKind.u64.wrap ((q0 : Int) * (Y : Int)) = ((q0 * Y % 18446744073709551616 : Nat) : Int) := by rw [← Int.natCast_mul]; exact wrap_mod _
      have e4 := wrap_sub (u2 * 4294967296) un0 (q0 * Y) r hdm (by omega)
      have e5 := shr_nat r s
      rw [← hr] at hfin
      have HFIN := Lib.hid hfin
      obtain ⟨m1, hm1⟩ : ∃ m, m = u2 * 4294967296 % 18446744073709551616 := ⟨_, rfl⟩
      rw [← hm1] at e1 e2 e4
      obtain ⟨m2, hm2⟩ : ∃ m, m = (m1 + un0) % 18446744073709551616 := ⟨_, rfl⟩
      rw [← hm2] at e2 e4
      obtain ⟨m3, hm3⟩ : ∃ m, m = q0 * Y % 18446744073709551616 := ⟨_, rfl⟩
      rw [← hm3] at e3 e4
      clear hfin hr hdm hm1 hm2 hm3
      obtain ⟨qq, hqq⟩ : ∃ m, m = q1 * 4294967296 + q0 := ⟨_, rfl⟩
      rw [← hqq] at e00 HFIN
      obtain ⟨qh, hqh⟩ : ∃ m, m = q1 * 4294967296 := ⟨_, rfl⟩
      rw [← hqh] at e0 e00
      obtain ⟨rr, hrr⟩ : ∃ m, m = r / 2 ^ s := ⟨_, rfl⟩
      rw [← hrr] at e5 HFIN
      clear hqq hqh hrr
      go_wp2
      go_ret2
      exact ⟨by rw [HFIN.out.1, HFIN.out.2]; rfl, Upd.refl _ _⟩

theorem div64_any (hi lo y : Nat) (w : World) (hlt : hi < y) (hlo : lo < 18446744073709551616) (hy2 : y < 18446744073709551616) :
    Calls Tryz.prog 134 #[.int .u64 (hi : Int), .int .u64 (lo : Int), .int .u64 (y : Int)] w fun e w' =>
      e = .returned (.tuple #[.int .u64 (((hi * 18446744073709551616 + lo) / y : Nat) : Int), .int .u64 (((hi * 18446744073709551616 + lo) % y : Nat) : Int)]) ∧ Upd [] w w' := by
  by_cases h : hi = 0
  · subst h
    rw [Nat.zero_mul, Nat.zero_add]
    exact div64_low lo y w hlo hlt hy2
  · exact div64_high hi lo y w h hlt hlo hy2
end Go.Proofs.YtoklmfmoblkfcaaGreatDoor

/- The contract of nat.byWord (layer 5). -/
namespace Go.Proofs.YtoklmfmoblkfcaaGreatDoor
open Go.RowKit Go.Proofs.Tm Go.Shelf
set_option linter.unusedVariables false
set_option linter.unusedSimpArgs false
set_option maxRecDepth 20000
attribute [local go_sem] Oper.semAt_some

/-- The newest block. -/
theorem alloc_nth (w : World) (c : Array Value) (t : TypeId) (k : Nat) (hk : k = w.heap.size) : (w.alloc (.cells c t)).heap[k]? = some (.cells c t (0, 0)) := by
  subst hk; exact heap_alloc_new w _

/-- Two numbers are answered. -/
def RNat2 (q r : Nat) (w : World) (e : Ending) (w' : World) : Prop := ∃ v1 v2, e = .returned (.tuple #[v1, v2]) ∧ NV w' v1 q ∧ NV w' v2 r ∧ Upd [] w w'

/-- The same; the first one's words lie in no old block. -/
def RNat2F (q r : Nat) (w : World) (e : Ending) (w' : World) : Prop := ∃ v1 v2, e = .returned (.tuple #[v1, v2]) ∧ NV w' v1 q ∧ NV w' v2 r ∧ Upd [] w w' ∧ ∀ k, nblk v1 = some k → w.heap.size ≤ k

/-- Four blocks of a call's own. -/
theorem box4 {w w1 : World} {x y z z' : Value} {t t' t'' t4 : TypeId} (u : Upd [] ((((w.alloc (.cells #[x] t)).alloc (.cells #[y] t')).alloc (.cells #[z] t'')).alloc (.cells #[z'] t4)) w1) :
    w1.heap[w.heap.size]? = some (.cells #[x] t (0, 0)) ∧ w1.heap[w.heap.size + 1]? = some (.cells #[y] t' (0, 0)) ∧ w1.heap[w.heap.size + 1 + 1]? = some (.cells #[z] t'' (0, 0)) ∧ w1.heap[w.heap.size + 1 + 1 + 1]? = some (.cells #[z'] t4 (0, 0)) ∧ Upd [] w w1 ∧ w.heap.size + 1 + 1 + 1 + 1 ≤ w1.heap.size := by
  obtain ⟨h1, h2, h3, h4, h5⟩ := box3 (((Upd.refl [] (((w.alloc (.cells #[x] t)).alloc (.cells #[y] t')).alloc (.cells #[z] t''))).alloc (.cells #[z'] t4)).trans0 u)
  refine ⟨h1, h2, h3, ?_, h4, by have := u.size; simpa using this⟩
  rw [u.block _ (by simp) (by simp)]
  have := heap_alloc_new (((w.alloc (.cells #[x] t)).alloc (.cells #[y] t')).alloc (.cells #[z] t'')) (.cells #[z'] t4)
  simpa using this

theorem ownsRow_kept {w w' : World} {base : Nat} {e : TypeId} {size : Nat} {v : Value} {n : Nat} {xs : List Value} (h : w.ownsRow base e size v n xs) (u : ∀ g, v.ownBlock = some g → w'.heap[g]? = w.heap[g]?) : w'.ownsRow base e size v n xs := by
  refine ⟨h.1, ?_⟩
  rcases h.2 with h2 | ⟨g, cap, cur, rfl, hb, hg, rest⟩
  · exact .inl h2
  · exact .inr ⟨g, cap, cur, rfl, hb, by rw [u g rfl]; exact hg, rest⟩

theorem make_run (n : Nat) (hn : n ≤ 1099511627776) (W : World) :
    (Instr.makeSlice 22 (.int .i64 (n : Int)) (.int .i64 (n : Int))).run Tryz.prog W = .ok (.slice (some ⟨W.heap.size, 0, none⟩) n n) (W.alloc (.cells (madeCells (Value.int .u64 0).cells n) 64)) := by
  obtain ⟨i, hi, hiz, his, hib⟩ := info_parts infoU64
  have hr := run_make (P := Tryz.prog) W 22 64 i (.int .u64 0) Tryz.underlying22 hi hiz .i64 .i64 (n : Int) (n : Int) (by omega) (by omega) (by rw [hib]; omega) (by omega)
  simp only [Int.toNat_natCast, his, Nat.mul_one] at hr
  exact hr
theorem made_own (n : Nat) (hn : n ≤ 1099511627776) (W : World) :
    (W.alloc (.cells (madeCells (Value.int .u64 0).cells n) 64)).ownsRow W.heap.size 64 1 (.slice (some ⟨W.heap.size, 0, none⟩) n n) n (cu64 (List.replicate n 0)) := by
  refine ⟨by simp, .inr ⟨W.heap.size, n, _, rfl, Nat.le_refl _, heap_alloc_new W _, Nat.le_refl _, by unfold maxLen; omega, by simp [size_madeCells, Value.cells], ?_⟩⟩
  rw [madeCells_one (.int .u64 0) rfl, List.take_replicate, cu64_zero]
  congr 1
  omega

theorem sl_put {w : World} {v : Value} {xs : List Value} (h : Sl w v xs) {D : Nat} {o : Obj} (hD : w.heap[D]? = some o) (ho : o.isCells = false) (o' : Obj) : Sl (w.putObj D o') v xs := by
  obtain ⟨a, cap, rfl, h1, h2, h3⟩ := h
  refine ⟨a, cap, rfl, h1, h2, fun hx => ?_⟩
  obtain ⟨b, q, rfl, hc⟩ := h3 hx
  refine ⟨b, q, rfl, fun i hi => ?_⟩
  have := hc i hi
  rw [List.getElem?_eq_getElem hi] at this ⊢
  exact cell_kept this (grownBy_putObj' _ D o') (fun r e => by cases e; exact ⟨_, hD, ho⟩)
theorem NV.put {w : World} {v : Value} {n : Nat} (h : NV w v n) {D : Nat} {o : Obj} (hD : w.heap[D]? = some o) (ho : o.isCells = false) (o' : Obj) : NV (w.putObj D o') v n := by
  obtain ⟨sv, rfl, h⟩ := h
  exact ⟨sv, rfl, sl_put h hD ho o'⟩

theorem keeps_upd {A B : World} (u : Upd [] A B) : KeepsOthers A B :=
  ⟨u.size, fun k o hk _ => (u.block k (Array.getElem?_eq_some_iff.1 hk).1 (by simp)).trans hk⟩

/-- Between two rounds of byWord. -/
structure BwI (w w0 : World) (g p ln b : Nat) (ws : List Nat) (n : Nat) (gd' : Prop) (L : List Nat) (r : Nat) (W : World) : Prop where
  own : W.ownsRow w.heap.size 64 1 (.slice (some ⟨g, 0, none⟩) ln ln) ln (cu64 L)
  len : L.length = ln
  lt : ∀ d ∈ L, d < 18446744073709551616
  rb : r < b
  cell : W.cell? ⟨p, 0, none⟩ = some (.int .u64 (r : Int))
  froz : W.frozen? ⟨p, 0, none⟩ = false
  upd : Upd [g, p] w0 W
  good : gd' → (∀ j, j < ln - n → L.getD j 0 = 0) ∧ wval (ws.drop (ln - n)) = wval (L.drop (ln - n)) * b + r

def BwIn (w w0 : World) (g p b : Nat) (ws : List Nat) (pre : List (Fin ws.length)) (W : World) : Prop :=
  ∃ L r, BwI w w0 g p ws.length b ws pre.length (Good pre) L r W

theorem BwIn.from (w w0 : World) (g p b : Nat) (ws : List Nat) (hg : g < w0.heap.size) (hp : p < w0.heap.size) : OwnFrom w0.heap.size (BwIn w w0 g p b ws) := fun s A B row hs hgr hr => by
  obtain ⟨L, r, h⟩ := hs
  have hk : ∀ k, k < w0.heap.size → B.heap[k]? = A.heap[k]? := fun k hk => hgr.block k (Nat.lt_of_lt_of_le hk h.upd.size) (fun e => by have := (hr k e.symm).1; omega)
  refine ⟨L, r, ownsRow_kept h.own (fun k e => ?_), h.len, h.lt, h.rb, (World.cell?_of_block (w := A) (hk p hp)).trans h.cell, (World.frozen?_of_block (w := A) (hk p hp)).trans h.froz, h.upd.grown hgr (fun k e => .inr (hr k e).1), h.good⟩
  simp [Value.ownBlock] at e
  subst e
  exact hk _ hg

set_option maxRecDepth 100000 in
set_option maxHeartbeats 3200000 in
theorem byWord_fresh (u : Value) (m b : Nat) (w : World) (hu : NV w u m) (hb : 0 < b) (hb2 : b < 18446744073709551616) (hlen : (wds m).length ≤ 1099511627776) :
    Calls Tryz.prog 110 #[u, .int .u64 (b : Int)] w (RNat2F (m / b) (m % b) w) := by
  obtain ⟨a, cap, rfl, hl, hcm⟩ := hu.open
  unfold maxLen at hcm
  have HA := Lib.hid hu
  have HB2 := Lib.hid hb2
  clear hu hb2
  refine (callsIn_wide (n := 3)).1 ?_
  refine callsIn_of_wp_marks Tryz.func110 rfl trivial ?_ rfl
  simp only [Tryz.ntmps110, List.size_toArray, List.length_cons, List.length_nil, Nat.reduceAdd, Nat.reduceSub, Array.replicate_succ, Array.replicate_zero, List.push_toArray, List.append_toArray, List.nil_append, List.cons_append]
  have hmk := make_run (wds m).length hlen
  gi_wp2_with (refine ⟨trivial, ?_⟩; gi_at_call 71; refine (callsIn_wide.2 (backward_any _ _ _ _)).mono ?_; rintro e w' ⟨rfl, rfl⟩)
  obtain ⟨s, hs⟩ : ∃ s, s = w.heap.size := ⟨_, rfl⟩
  obtain ⟨ws, hws⟩ : ∃ l, l = wds m := ⟨_, rfl⟩
  rw [← hws] at hl HA hlen hmk
  rw [← hs, ← hws]
  obtain ⟨w0, hw0⟩ : ∃ w0, w0 = (((((((w.alloc (.cells #[.slice a ws.length cap] 27)).alloc (.cells #[.int .u64 (b : Int)] 64)).alloc (.cells #[.slice none 0 0] 27)).alloc (.cells #[.slice none 0 0] 27)).alloc (.cells (madeCells #[.int .u64 0] ws.length) 64)).alloc (.cells #[.slice (some ⟨s + 1 + 1 + 1 + 1, 0, none⟩) ws.length ws.length] 22)).alloc (.cells #[.int .u64 0] 64)).alloc (.cells #[.slice a ws.length cap] 22) := ⟨_, rfl⟩
  have hz : w0.heap.size = s + 1 + 1 + 1 + 1 + 1 + 1 + 1 + 1 := by rw [hw0]; simp [hs]
  have hb0 : w0.heap[s]? = some (.cells #[.slice a ws.length cap] 27 (0, 0)) := by rw [hw0, hs, Below.heap_alloc _ _ _ (by simp <;> omega), Below.heap_alloc _ _ _ (by simp <;> omega), Below.heap_alloc _ _ _ (by simp <;> omega), Below.heap_alloc _ _ _ (by simp <;> omega), Below.heap_alloc _ _ _ (by simp <;> omega), Below.heap_alloc _ _ _ (by simp <;> omega), Below.heap_alloc _ _ _ (by simp <;> omega), alloc_nth _ _ _ _ (by simp)]
  have hb1 : w0.heap[s + 1]? = some (.cells #[.int .u64 (b : Int)] 64 (0, 0)) := by rw [hw0, hs, Below.heap_alloc _ _ _ (by simp <;> omega), Below.heap_alloc _ _ _ (by simp <;> omega), Below.heap_alloc _ _ _ (by simp <;> omega), Below.heap_alloc _ _ _ (by simp <;> omega), Below.heap_alloc _ _ _ (by simp <;> omega), Below.heap_alloc _ _ _ (by simp <;> omega), alloc_nth _ _ _ _ (by simp)]
  have hb2 : w0.heap[s + 1 + 1]? = some (.cells #[.slice none 0 0] 27 (0, 0)) := by rw [hw0, hs, Below.heap_alloc _ _ _ (by simp <;> omega), Below.heap_alloc _ _ _ (by simp <;> omega), Below.heap_alloc _ _ _ (by simp <;> omega), Below.heap_alloc _ _ _ (by simp <;> omega), Below.heap_alloc _ _ _ (by simp <;> omega), alloc_nth _ _ _ _ (by simp)]
  have hb3 : w0.heap[s + 1 + 1 + 1]? = some (.cells #[.slice none 0 0] 27 (0, 0)) := by rw [hw0, hs, Below.heap_alloc _ _ _ (by simp <;> omega), Below.heap_alloc _ _ _ (by simp <;> omega), Below.heap_alloc _ _ _ (by simp <;> omega), Below.heap_alloc _ _ _ (by simp <;> omega), alloc_nth _ _ _ _ (by simp)]
  have hb4 : w0.heap[s + 1 + 1 + 1 + 1]? = some (.cells (madeCells #[.int .u64 0] ws.length) 64 (0, 0)) := by rw [hw0, hs, Below.heap_alloc _ _ _ (by simp <;> omega), Below.heap_alloc _ _ _ (by simp <;> omega), Below.heap_alloc _ _ _ (by simp <;> omega), alloc_nth _ _ _ _ (by simp)]
  have hb5 : w0.heap[s + 1 + 1 + 1 + 1 + 1]? = some (.cells #[.slice (some ⟨s + 1 + 1 + 1 + 1, 0, none⟩) ws.length ws.length] 22 (0, 0)) := by rw [hw0, hs, Below.heap_alloc _ _ _ (by simp <;> omega), Below.heap_alloc _ _ _ (by simp <;> omega), alloc_nth _ _ _ _ (by simp)]
  have hb6 : w0.heap[s + 1 + 1 + 1 + 1 + 1 + 1]? = some (.cells #[.int .u64 0] 64 (0, 0)) := by rw [hw0, hs, Below.heap_alloc _ _ _ (by simp <;> omega), alloc_nth _ _ _ _ (by simp)]
  have hb7 : w0.heap[s + 1 + 1 + 1 + 1 + 1 + 1 + 1]? = some (.cells #[.slice a ws.length cap] 22 (0, 0)) := by rw [hw0, hs, alloc_nth _ _ _ _ (by simp)]
  have hU0 : Upd [] w w0 := by rw [hw0]; exact ((((((((Upd.refl _ _).alloc _).alloc _).alloc _).alloc _).alloc _).alloc _).alloc _).alloc _
  have hown : w0.ownsRow w.heap.size 64 1 (.slice (some ⟨s + 1 + 1 + 1 + 1, 0, none⟩) ws.length ws.length) ws.length (cu64 (List.replicate ws.length 0)) := by
    refine ⟨by simp, .inr ⟨s + 1 + 1 + 1 + 1, ws.length, _, rfl, by omega, hb4, Nat.le_refl _, by unfold maxLen; omega, by have := size_madeCells #[Value.int .u64 0] ws.length; simpa using this, ?_⟩⟩
    have := madeCells_one (.int .u64 0) rfl ws.length
    rw [show (Value.int IntKind.u64 0).cells = #[Value.int .u64 0] from rfl] at this
    rw [this, List.take_replicate, cu64_zero]
    congr 1
    omega
  rw [← hw0]
  obtain ⟨g, hg⟩ : ∃ g, g = s + 1 + 1 + 1 + 1 := ⟨_, rfl⟩
  rw [← hg]
  rw [← hg] at hb5 hb6 hb7 hown
  obtain ⟨p, hp⟩ : ∃ p, p = g + 1 + 1 := ⟨_, rfl⟩
  rw [← hp]
  rw [← hp] at hb6 hb7
  have hgl : g < w0.heap.size := by omega
  have hpl : p < w0.heap.size := by omega
  have c0 : w0.cell? ⟨s, 0, none⟩ = some (.slice a ws.length cap) := by rw [cell_of_row w0 _ 0 _ _ _ hb0]; rfl
  have c1 : w0.cell? ⟨s + 1, 0, none⟩ = some (.int .u64 (b : Int)) := by rw [cell_of_row w0 _ 0 _ _ _ hb1]; rfl
  have c5 : w0.cell? ⟨g + 1, 0, none⟩ = some (.slice (some ⟨g, 0, none⟩) ws.length ws.length) := by rw [cell_of_row w0 _ 0 _ _ _ hb5]; rfl
  have c6 : w0.cell? ⟨p, 0, none⟩ = some (.int .u64 ((0 : Nat) : Int)) := by rw [cell_of_row w0 _ 0 _ _ _ hb6]; rfl
  have f6 : w0.frozen? ⟨p, 0, none⟩ = false := by simp [World.frozen?, hb6]
  have c7 : w0.cell? ⟨p + 1, 0, none⟩ = some (.slice a ws.length cap) := by rw [cell_of_row w0 _ 0 _ _ _ hb7]; rfl
  have HB2' := Lib.hid hb2
  have HB3' := Lib.hid hb3
  have HU0 := Lib.hid hU0
  have HCF : Hid (∀ W, Upd [g, p] w0 W → W.cell? ⟨s + 1, 0, none⟩ = some (.int .u64 (b : Int)) ∧ W.cell? ⟨g + 1, 0, none⟩ = some (.slice (some ⟨g, 0, none⟩) ws.length ws.length)) := fun W h =>
    ⟨(h.cell (p := ⟨s + 1, 0, none⟩) (by show s + 1 < _; omega) (by simp; omega)).trans c1, (h.cell (p := ⟨g + 1, 0, none⟩) (by show g + 1 < _; omega) (by simp; omega)).trans c5⟩
  have HBI : Hid (BwIn w w0 g p b ws [] w0) := ⟨List.replicate ws.length 0, 0, hown, by simp, fun d hd => by rw [List.eq_of_mem_replicate hd]; decide, hb, c6, f6, Upd.refl _ _, fun _ => ⟨fun j _ => by simp [List.getD_eq_getElem?_getD, List.getElem?_replicate]; split <;> rfl, by simp [wval]⟩⟩
  have hNV := HA.out.upd0 hU0
  have hab : ws ≠ [] → ∀ k, (Value.slice a ws.length cap).ownBlock = some k → k < w.heap.size := fun hne k hk => by rw [hws] at hne hk; exact HA.out.blk hne k (by rw [← hws] at hk; exact hk)
  have HW0 := Lib.hid hw0
  have HS := Lib.hid hs
  have HWS := Lib.hid hws
  have HG := Lib.hid hg
  have HP := Lib.hid hp
  have hsz := Nat.le_of_eq hz
  have hsz2 := Nat.le_of_eq hz.symm
  have hg1 := Nat.le_of_eq hg
  have hg2 := Nat.le_of_eq hg.symm
  have hp1 := Nat.le_of_eq hp
  have hp2 := Nat.le_of_eq hp.symm
  have hs1 := Nat.le_of_eq hs
  have hs2 := Nat.le_of_eq hs.symm
  have hNS : Sl w0 (.slice a ws.length cap) (cu64 ws) := by rw [hws]; rw [hws] at hNV; exact hNV.sl
  clear hw0 hs hws hg hp hz hb0 hb1 hb2 hb3 hb4 hb5 hb6 hb7 hU0 hown hNV c0 c1 c5 c6 f6
  refine wpIn_rangeFunc_ownF rfl (by decide) (gf := 113) (lb := #[.pointer (some ⟨p + 1, 0, none⟩)]) rfl trivial (enters_of Tryz.func113 (by kernel_rfl) rfl)
    (back_stops (Ks [g, p]) 2 (by decide) (p + 1) w0.heap.size a cap ws hlen w0 (by omega) (by simp [Ks]; omega) (Nat.le_refl _) c7 hNS (fun hne k hk => ⟨by have := hab hne k hk; omega, by have := hab hne k hk; simp [Ks]; omega⟩)) Kq.trans Kq.put (Below.refl _ _) (fun _ => rfl)
    (BwIn w w0 g p b ws) (fun _ _ _ => False) (BwIn.from w w0 g p b ws hgl hpl) (fun _ _ _ _ _ hs _ _ => hs) HBI.out
    ?a1 ?assign ?body ?done ?stop
  case assign =>
    intro l x W K hK
    simp only [encP]
    gi_wp2
    exact hK
  case body =>
    rintro l pre x W ⟨L, r, hI⟩ hlt
    obtain ⟨j, hj⟩ : ∃ j, j = ws.length - 1 - x.val := ⟨_, rfl⟩
    have hjl : j < ws.length := by have := x.isLt; omega
    rw [← hj]
    have HI := Lib.hid hI
    have HJ := Lib.hid hj
    obtain ⟨hc1, hc5⟩ := HCF.out W hI.upd
    have hcp := hI.cell
    have hfp := hI.froz
    have hgj : gd ws j < 18446744073709551616 := by
      unfold gd
      have h1 := HWS.out
      rw [h1]
      exact getD_lt (wds_lt m) j
    have hrb := hI.rb
    have HDIV0 : Hid (∀ W, Calls Tryz.prog 134 #[.int .u64 (r : Int), .int .u64 ((gd ws j : Nat) : Int), .int .u64 (b : Int)] W fun e w' =>
      e = .returned (.tuple #[.int .u64 (((r * 18446744073709551616 + gd ws j) / b : Nat) : Int), .int .u64 (((r * 18446744073709551616 + gd ws j) % b : Nat) : Int)]) ∧ Upd [] W w') := fun W => div64_any r (gd ws j) b W hrb hgj HB2.out
    clear hI hj hgj
    have hrow := HI.out.own.cellAt j (by omega)
    rw [cu64_getD _ _ (by rw [HI.out.len]; exact hjl)] at hrow
    have hfr := HI.out.own.frozenAt j
    have hgW := World.block_lt_of_cell? W _ hrow
    have hpW := World.block_lt_of_cell? W _ hcp
    have i0 : (0 : Int) ≤ (j : Int) := by omega
    have i1 : (j : Int) < (ws.length : Int) := by omega
    have hdiv := HDIV0.out
    obtain ⟨d, hd⟩ : ∃ d, d = (r * 18446744073709551616 + gd ws j) / b := ⟨_, rfl⟩
    obtain ⟨r', hr'⟩ : ∃ d, d = (r * 18446744073709551616 + gd ws j) % b := ⟨_, rfl⟩
    rw [← hd, ← hr'] at hdiv
    have HD := Lib.hid hd
    have HR' := Lib.hid hr'
    have HDIV := Lib.hid hdiv
    clear hd hr' hdiv
    obtain ⟨y, hy⟩ : ∃ y, y = L.getD j 0 := ⟨_, rfl⟩
    rw [← hy] at hrow
    clear hy
    gi_wp2
    refine region_round (fun A => A.cell? ⟨g + 1, 0, none⟩ = some (.slice (some ⟨g, 0, none⟩) ws.length ws.length) ∧ A.cell? ⟨s + 1, 0, none⟩ = some (.int .u64 (b : Int))) l _ (by kernel_rfl) (by kernel_rfl) (fun ⟨_, _, h⟩ => h) ⟨hc5, hc1⟩ (fun hHeld => ?_)
    refine wpAnyH_take (i := 0) (v := ?_) rfl (by kernel_rfl) (by kernel_rfl) (by kernel_rfl) (fun _ _ _ h => h) (Or.inl ⟨by rfl, ?_⟩) (by assumption) ?_
    rotate_left
    · (intro w hSw; (try dsimp only at hSw); go_simp; (try with_reducible rfl))
    try simp only [Act.put, List.getElem_toArray, List.getElem_cons_succ, List.getElem_cons_zero, List.setIfInBounds_toArray, List.set_cons_zero, List.set_cons_succ]
    refine wpAnyH_take (i := 1) (v := ?_) rfl (by kernel_rfl) (by kernel_rfl) (by kernel_rfl) (fun _ _ _ h => h) (Or.inl ⟨by rfl, ?_⟩) (by assumption) ?_
    rotate_left
    · (intro w hSw; (try dsimp only at hSw); go_simp; (try with_reducible rfl))
    try simp only [Act.put, List.getElem_toArray, List.getElem_cons_succ, List.getElem_cons_zero, List.setIfInBounds_toArray, List.set_cons_zero, List.set_cons_succ]
    refine wpAnyH_take (i := 3) (v := ?_) rfl (by kernel_rfl) (by kernel_rfl) (by kernel_rfl) (fun _ _ _ h => h) (Or.inl ⟨by rfl, ?_⟩) (by assumption) ?_
    rotate_left
    · (intro w hSw; (try dsimp only at hSw); go_simp; (try with_reducible rfl))
    try simp only [Act.put, List.getElem_toArray, List.getElem_cons_succ, List.getElem_cons_zero, List.setIfInBounds_toArray, List.set_cons_zero, List.set_cons_succ]
    refine wpAnyH_take (i := 4) (v := ?_) rfl (by kernel_rfl) (by kernel_rfl) (by kernel_rfl) (fun _ _ _ h => h) (Or.inl ⟨by rfl, ?_⟩) (by assumption) ?_
    rotate_left
    · (intro w hSw; (try dsimp only at hSw); go_simp; (try with_reducible rfl))
    try simp only [Act.put, List.getElem_toArray, List.getElem_cons_succ, List.getElem_cons_zero, List.setIfInBounds_toArray, List.set_cons_zero, List.set_cons_succ]
    refine wpAnyH_ready (rs := [2]) (by kernel_rfl) (by simp) ?_
    refine AllReadyH.cons rfl (fun K hK => ?_) AllReadyH.nil
    go_simp
    refine hK.out _ _ ?_ (fun hHeld => ?_)
    · exact ⟨hc5, hc1⟩
    clear hK K
    try simp only [Act.put, List.getElem_toArray, List.getElem_cons_succ, List.getElem_cons_zero, List.setIfInBounds_toArray, List.set_cons_zero, List.set_cons_succ]
    refine wpAnyH_ready (rs := [5]) (by kernel_rfl) (by simp) ?_
    refine AllReadyH.cons rfl (fun K hK => ?_) AllReadyH.nil
    go_simp
    refine (HDIV.out _).mono ?_
    rintro e wy ⟨rfl, hdy⟩
    have huy : Upd [] W wy := ((Upd.refl _ _).drew).trans0 hdy
    dsimp only
    refine hK.out _ _ ?_ (fun hHeld => ?_)
    · exact ⟨(HCF.out _ (HI.out.upd.trans huy (by simp))).2, (HCF.out _ (HI.out.upd.trans huy (by simp))).1⟩
    clear hK K
    try simp only [Act.put, List.getElem_toArray, List.getElem_cons_succ, List.getElem_cons_zero, List.setIfInBounds_toArray, List.set_cons_zero, List.set_cons_succ]
    refine wpAnyH_take (i := 6) (v := ?_) rfl (by kernel_rfl) (by kernel_rfl) (by kernel_rfl) (fun _ _ _ h => h) (Or.inl ⟨by rfl, ?_⟩) (by assumption) ?_
    rotate_left
    · (intro w hSw; (try dsimp only at hSw); go_simp; (try with_reducible rfl))
    try simp only [Act.put, List.getElem_toArray, List.getElem_cons_succ, List.getElem_cons_zero, List.setIfInBounds_toArray, List.set_cons_zero, List.set_cons_succ]
    refine wpAnyH_take (i := 7) (v := ?_) rfl (by kernel_rfl) (by kernel_rfl) (by kernel_rfl) (fun _ _ _ h => h) (Or.inl ⟨by rfl, ?_⟩) (by assumption) ?_
    rotate_left
    · (intro w hSw; (try dsimp only at hSw); go_simp; (try with_reducible rfl))
    try simp only [Act.put, List.getElem_toArray, List.getElem_cons_succ, List.getElem_cons_zero, List.setIfInBounds_toArray, List.set_cons_zero, List.set_cons_succ]
    refine wpAnyH_take (i := 8) (v := ?_) rfl (by kernel_rfl) (by kernel_rfl) (by kernel_rfl) (fun _ _ _ h => h) (Or.inl ⟨by rfl, ?_⟩) (by assumption) ?_
    rotate_left
    · (intro w hSw; (try dsimp only at hSw); go_simp; (try with_reducible rfl))
    try simp only [Act.put, List.getElem_toArray, List.getElem_cons_succ, List.getElem_cons_zero, List.setIfInBounds_toArray, List.set_cons_zero, List.set_cons_succ]
    refine wpAnyH_take (i := 9) (v := ?_) rfl (by kernel_rfl) (by kernel_rfl) (by kernel_rfl) (fun _ _ _ h => h) (Or.inl ⟨by rfl, ?_⟩) (by assumption) ?_
    rotate_left
    · (intro w hSw; (try dsimp only at hSw); go_simp; (try with_reducible rfl))
    try simp only [Act.put, List.getElem_toArray, List.getElem_cons_succ, List.getElem_cons_zero, List.setIfInBounds_toArray, List.set_cons_zero, List.set_cons_succ]
    have hsr : wy.cell? ⟨g, j, none⟩ = some (.int .u64 (y : Int)) := (huy.cell (p := ⟨g, j, none⟩) hgW (by simp)).trans hrow
    have hsf : wy.frozen? ⟨g, j, none⟩ = false := (huy.frozen (p := ⟨g, j, none⟩) hgW (by simp)).trans hfr
    have hpr : wy.cell? ⟨p, 0, none⟩ = some (.int .u64 (r : Int)) := (huy.cell (p := ⟨p, 0, none⟩) hpW (by simp)).trans hcp
    have hpf : wy.frozen? ⟨p, 0, none⟩ = false := (huy.frozen (p := ⟨p, 0, none⟩) hpW (by simp)).trans hfp
    have huA : Upd [g, p] w0 (wy.setCell ⟨g, j, none⟩ (.int .u64 (d : Int))) := (HI.out.upd.trans huy (by simp)).setCell (.inl (by simp)) _
    have huB : Upd [g, p] w0 ((wy.setCell ⟨g, j, none⟩ (.int .u64 (d : Int))).setCell ⟨p, 0, none⟩ (.int .u64 (r' : Int))) := huA.setCell (.inl (by simp)) _
    have hgp : g ≠ p := by omega
    have hpr2 : (wy.setCell ⟨g, j, none⟩ (.int .u64 (d : Int))).cell? ⟨p, 0, none⟩ = some (.int .u64 (r : Int)) := by rw [World.cell?_setCell_far _ _ _ _ hgp]; exact hpr
    have hpf2 : (wy.setCell ⟨g, j, none⟩ (.int .u64 (d : Int))).frozen? ⟨p, 0, none⟩ = false := by rw [World.frozen?_setCell]; exact hpf
    refine wpAnyH_ready (rs := [10]) (by kernel_rfl) (by simp) ?_
    refine AllReadyH.cons rfl (fun K hK => ?_) AllReadyH.nil
    go_simp
    refine hK.out _ _ ?_ (fun hHeld => ?_)
    · exact ⟨(HCF.out _ huA).2, (HCF.out _ huA).1⟩
    clear hK K
    try simp only [Act.put, List.getElem_toArray, List.getElem_cons_succ, List.getElem_cons_zero, List.setIfInBounds_toArray, List.set_cons_zero, List.set_cons_succ]
    refine wpAnyH_ready (rs := [11]) (by kernel_rfl) (by simp) ?_
    refine AllReadyH.cons rfl (fun K hK => ?_) AllReadyH.nil
    go_simp
    refine hK.out _ _ ?_ (fun hHeld => ?_)
    · exact ⟨(HCF.out _ huB).2, (HCF.out _ huB).1⟩
    clear hK K
    try simp only [Act.put, List.getElem_toArray, List.getElem_cons_succ, List.getElem_cons_zero, List.setIfInBounds_toArray, List.set_cons_zero, List.set_cons_succ]
    refine wpAnyH_done (by kernel_rfl) ?_ _
    have hdm : r * 18446744073709551616 + ws.getD j 0 = d * b + r' := by
      rw [HD.out, HR'.out, Nat.mul_comm _ b]
      exact (Nat.div_add_mod _ _).symm
    have hd64 : d < 18446744073709551616 := by
      rw [HD.out, Nat.div_lt_iff_lt_mul hb]
      have h1 := Nat.mul_le_mul_right 18446744073709551616 (show r + 1 ≤ b from hrb)
      have h2 := getD_lt (wds_lt m) j
      have h3 : gd ws j < 18446744073709551616 := by unfold gd; rw [HWS.out]; exact h2
      rw [Nat.mul_comm 18446744073709551616]
      omega
    have hown2 := (ownsRow_upd HI.out.own huy (by simp)).stored j (.int .u64 (d : Int))
    have hown3 : ((wy.setCell ⟨g, j, none⟩ (.int .u64 (d : Int))).setCell ⟨p, 0, none⟩ (.int .u64 (r' : Int))).ownsRow w.heap.size 64 1 (.slice (some ⟨g, 0, none⟩) ws.length ws.length) ws.length (cu64 (L.set j d)) := by
      rw [cu64_set]
      exact ownsRow_kept hown2.1 (fun k hk => by
        simp [Value.ownBlock] at hk
        subst hk
        exact Below.heap_setCell _ _ _ _ (by show g ≠ p; exact hgp))
    refine (show _ ∧ _ ∧ BwIn w w0 g p b ws (pre ++ [x]) _ from ⟨((keeps_upd huy).trans (KeepsOthers.setCell _ _ _)).trans (KeepsOthers.setCell _ _ _), Kq.of_upd (((huy.mono (T := [g, p]) (by simp)).setCell (.inl (by simp)) _).setCell (.inl (by simp)) _) HI.out.upd.size,
      L.set j d, r', hown3, by rw [List.length_set]; exact HI.out.len, fun q hq => ?_, by rw [HR'.out]; exact Nat.mod_lt _ hb, set_cell hpr2, by rw [World.frozen?_setCell]; exact hpf2, huB, fun hg => ?_⟩)
    · rcases List.mem_or_eq_of_mem_set hq with hq | rfl
      · exact HI.out.lt q hq
      · exact hd64
    · obtain ⟨hg1', hx⟩ := good_snoc hg
      obtain ⟨hz, hv⟩ := HI.out.good hg1'
      have hjx : j = ws.length - 1 - pre.length := by rw [HJ.out, hx]
      have e1 : ws.length - pre.length = j + 1 := by omega
      have e2 : ws.length - (pre ++ [x]).length = j := by simp; omega
      rw [e1] at hz hv
      rw [e2]
      refine ⟨fun i hi => ?_, wdiv_step ws L b j r d r' hjl (by rw [HI.out.len]; exact hjl) (hz j (by omega)) hv hdm⟩
      rw [List.getD_eq_getElem?_getD, List.getElem?_set_ne (by omega), ← List.getD_eq_getElem?_getD]
      exact hz i (by omega)
  case done =>
    rintro D ys W hD rfl ⟨L, r, hI⟩ hK
    rw [upto_length (Nat.le_refl _)] at hI
    obtain ⟨hz, hv⟩ := hI.good (good_upto (Nat.le_refl _))
    rw [Nat.sub_self, List.drop_zero, List.drop_zero, HWS.out, wval_wds] at hv
    have HQ : Hid (m / b = wval L ∧ m % b = r) := by
      show _ ∧ _
      rw [hv, Nat.mul_comm, Nat.mul_add_div hb, Nat.mul_add_mod, Nat.mod_eq_of_lt hI.rb, Nat.div_eq_of_lt hI.rb]
      exact ⟨rfl, rfl⟩
    have HI := Lib.hid hI
    have HK := Lib.hid hK
    obtain ⟨hc1, hc5⟩ := HCF.out W hI.upd
    have hcp := hI.cell
    have hr64 : r < 18446744073709551616 := by have := hI.rb; have := HB2.out; omega
    have hb2W : W.heap[s + 1 + 1]? = some (.cells #[.slice none 0 0] 27 (0, 0)) := (HI.out.upd.block _ (by omega) (by simp; omega)).trans HB2'.out
    have hb3W : W.heap[s + 1 + 1 + 1]? = some (.cells #[.slice none 0 0] 27 (0, 0)) := (HI.out.upd.block _ (by omega) (by simp; omega)).trans HB3'.out
    have hsW := HI.out.upd.size
    have HUW : Hid (Upd [] w W) := HU0.out.trans HI.out.upd (by simp; omega)
    have HFIT : Hid (∀ A, Upd [] W A → Calls Tryz.prog 80 #[.slice (some ⟨g, 0, none⟩) ws.length ws.length] A (fun e w' => ∃ v, e = .returned v ∧ NV w' v (wval L) ∧ Upd [] A w' ∧ ∀ k, nblk v = some k → (Value.slice (some ⟨g, 0, none⟩) ws.length ws.length).ownBlock = some k)) := fun A h => fit_own _ L A (Sl.own (ownsRow_upd HI.out.own h (by simp))) HI.out.lt
    have HOF : Hid (∀ (A : World) (v : Value), Sl A v (cu64 [r]) → Calls Tryz.prog 32 #[v] A (RNat r A)) := fun A v hs => by
      have := of_any v [r] A hs (by simp) (by simpa using hr64)
      simpa [wval] using this
    have hcA : ∀ A, Upd [] W A → A.cell? ⟨s + 1 + 1, 0, none⟩ = some (.slice none 0 0) := fun A h => by rw [h.cell (p := ⟨s + 1 + 1, 0, none⟩) (by show s + 1 + 1 < _; omega) (by simp), cell_of_row W _ 0 _ _ _ hb2W]; rfl
    have hcB : ∀ A, Upd [] W A → A.cell? ⟨s + 1 + 1 + 1, 0, none⟩ = some (.slice none 0 0) := fun A h => by rw [h.cell (p := ⟨s + 1 + 1 + 1, 0, none⟩) (by show s + 1 + 1 + 1 < _; omega) (by simp), cell_of_row W _ 0 _ _ _ hb3W]; rfl
    have hfA : ∀ A, Upd [] W A → A.frozen? ⟨s + 1 + 1, 0, none⟩ = false := fun A h => by rw [h.frozen (p := ⟨s + 1 + 1, 0, none⟩) (by show s + 1 + 1 < _; omega) (by simp)]; simp [World.frozen?, hb2W]
    have hfB : ∀ A, Upd [] W A → A.frozen? ⟨s + 1 + 1 + 1, 0, none⟩ = false := fun A h => by rw [h.frozen (p := ⟨s + 1 + 1 + 1, 0, none⟩) (by show s + 1 + 1 + 1 < _; omega) (by simp)]; simp [World.frozen?, hb3W]
    have HCQ : Hid (∀ A, Upd [s + 1 + 1, s + 1 + 1 + 1] W A → A.cell? ⟨g + 1, 0, none⟩ = some (.slice (some ⟨g, 0, none⟩) ws.length ws.length) ∧ A.cell? ⟨p, 0, none⟩ = some (.int .u64 (r : Int)) ∧ Upd [s + 1 + 1, s + 1 + 1 + 1] W A) := fun A h =>
      ⟨(h.cell (p := ⟨g + 1, 0, none⟩) (by show g + 1 < _; omega) (by simp; omega)).trans hc5, (h.cell (p := ⟨p, 0, none⟩) (by show p < _; omega) (by simp; omega)).trans hcp, h⟩
    have HB2W := Lib.hid hb2W
    have HB3W := Lib.hid hb3W
    have hrf : Upd [] W W := Upd.refl _ _
    clear hI hK hz hv hb2W hb3W
    gi_wp2
    refine wpIn_wide.2 ?_
    go_region_held3 (fun A => A.cell? ⟨g + 1, 0, none⟩ = some (.slice (some ⟨g, 0, none⟩) ws.length ws.length) ∧ A.cell? ⟨p, 0, none⟩ = some (.int .u64 (r : Int)) ∧ Upd [s + 1 + 1, s + 1 + 1 + 1] W A)
      (first
        | exact HCQ.out _ (huy.mono (by simp))
        | exact HCQ.out _ (hrf.drew.mono (by simp))
        | exact HCQ.out _ ((huy.alloc _).mono (by simp))
        | exact HCQ.out _ ((huy.mono (by simp)).setCell (.inl (by simp)) _)
        | exact HCQ.out _ (((huy.mono (by simp)).setCell (.inl (by simp)) _).setCell (.inl (by simp)) _)
        | exact HCQ.out _ ((hrf.drew.alloc _).mono (by simp)))
      (first
        | (go_at_call 80; refine (HFIT.out _ (by first | exact huy | exact hrf.drew | exact (hrf.alloc _).drew | exact hrf.drew.alloc _)).mono ?_; rintro e wy ⟨v1, rfl, hn1, hu1, hk1⟩; obtain ⟨a1, cap1, rfl, hl1, hm1⟩ := hn1.open; have HN1 := Lib.hid hn1; have HUF := Lib.hid hu1; have HK1 := Lib.hid hk1; clear hk1; have huy : Upd [] W wy := Upd.trans0 (by first | exact huy | exact hrf.drew | exact (hrf.alloc _).drew | exact hrf.drew.alloc _) hu1; clear hn1 hu1)
        | (go_at_call 32; refine (HOF.out _ _ (by first | exact Sl.lit1 _ _ _ | exact ((Sl.lit1 _ _ _).upd0 ((Upd.refl _ _).drew)).upd0 HUF.out | exact (Sl.lit1 _ _ _).upd0 HUF.out)).mono ?_; rintro e wz ⟨v2, rfl, hn2, hu2⟩; obtain ⟨a2, cap2, rfl, hl2, hm2⟩ := hn2.open; have HN2 := Lib.hid hn2; have HUZ := Lib.hid hu2; have huy : Upd [] W wz := Upd.trans0 (by first | exact huy | exact huy.alloc _) hu2; clear hn2 hu2))
    all_goals
      have hyz : Upd [] wy wz := by first | exact HUZ.out | exact ((Upd.refl _ _).alloc _).trans0 HUZ.out
      have hkz : wz.heap[D]? = some (.deferred (some [])) := (huy.block D (Array.getElem?_eq_some_iff.1 HK.out).1 (by simp)).trans HK.out
      have hbA : wz.heap[s + 1 + 1]? = some (.cells #[.slice none 0 0] 27 (0, 0)) := (huy.block _ (by omega) (by simp)).trans HB2W.out
      have hbB : wz.heap[s + 1 + 1 + 1]? = some (.cells #[.slice none 0 0] 27 (0, 0)) := (huy.block _ (by omega) (by simp)).trans HB3W.out
      have hcA1 := hcA wz huy
      have hcB1 := hcB wz huy
      have hbB2 : (wz.setCell ⟨s + 1 + 1, 0, none⟩ (.slice a1 (wds (wval L)).length cap1)).heap[s + 1 + 1 + 1]? = some (.cells #[.slice none 0 0] 27 (0, 0)) := (Below.heap_setCell _ _ _ _ (by show s + 1 + 1 + 1 ≠ s + 1 + 1; omega)).trans hbB
      have n1 := ((HN1.out.upd0 hyz).store hbA no_u64 ⟨s + 1 + 1, 0, none⟩ rfl (.slice a1 (wds (wval L)).length cap1)).store hbB2 no_u64 ⟨s + 1 + 1 + 1, 0, none⟩ rfl (.slice a2 (wds r).length cap2)
      have n2 := (HN2.out.store hbA no_u64 ⟨s + 1 + 1, 0, none⟩ rfl (.slice a1 (wds (wval L)).length cap1)).store hbB2 no_u64 ⟨s + 1 + 1 + 1, 0, none⟩ rfl (.slice a2 (wds r).length cap2)
      have hUF : Upd [] w ((wz.setCell ⟨s + 1 + 1, 0, none⟩ (.slice a1 (wds (wval L)).length cap1)).setCell ⟨s + 1 + 1 + 1, 0, none⟩ (.slice a2 (wds r).length cap2)) := ((HUW.out.trans0 huy).setCell (.inr (by show w.heap.size ≤ s + 1 + 1; omega)) _).setCell (.inr (by show w.heap.size ≤ s + 1 + 1 + 1; omega)) _
      have hkF := (KeepsOthers.setCell (wz.setCell ⟨s + 1 + 1, 0, none⟩ (.slice a1 (wds (wval L)).length cap1)) ⟨s + 1 + 1 + 1, 0, none⟩ (.slice a2 (wds r).length cap2)).same D _ ((KeepsOthers.setCell wz ⟨s + 1 + 1, 0, none⟩ (.slice a1 (wds (wval L)).length cap1)).same D _ hkz rfl) rfl
      have hB1 : ((wz.setCell ⟨s + 1 + 1, 0, none⟩ (.slice a1 (wds (wval L)).length cap1)).setCell ⟨s + 1 + 1 + 1, 0, none⟩ (.slice a2 (wds r).length cap2)).cell? ⟨s + 1 + 1, 0, none⟩ = some (.slice a1 (wds (wval L)).length cap1) := by rw [World.cell?_setCell_far _ _ _ _ (by show s + 1 + 1 + 1 ≠ s + 1 + 1; omega)]; exact set_cell hcA1
      have hB2 : ((wz.setCell ⟨s + 1 + 1, 0, none⟩ (.slice a1 (wds (wval L)).length cap1)).setCell ⟨s + 1 + 1 + 1, 0, none⟩ (.slice a2 (wds r).length cap2)).cell? ⟨s + 1 + 1 + 1, 0, none⟩ = some (.slice a2 (wds r).length cap2) := set_cell (by rw [World.cell?_setCell_far _ _ _ _ (by show s + 1 + 1 ≠ s + 1 + 1 + 1; omega)]; exact hcB1)
      have HN1' := Lib.hid n1
      have HN2' := Lib.hid n2
      have HUF' := Lib.hid hUF
      have HKF := Lib.hid hkF
      have HB1' := Lib.hid hB1
      have HB2'' := Lib.hid hB2
      clear hcA hcB hfA hfB hyz hkz hbA hbB hcA1 hcB1 hbB2 n1 n2 hUF hkF hB1 hB2 huy
      gi_wp2
      refine ⟨by simp, .inl ⟨_, _, rfl, run_takeDeferred HKF.out, ?_⟩⟩
      have k1 := cell_kept HB1'.out (grownBy_putObj' _ D (.deferred none)) (fun r e => by cases e; exact ⟨_, HKF.out, rfl⟩)
      have k2 := cell_kept HB2''.out (grownBy_putObj' _ D (.deferred none)) (fun r e => by cases e; exact ⟨_, HKF.out, rfl⟩)
      refine ⟨.tuple #[.agg #[.slice a1 (wds (wval L)).length cap1], .agg #[.slice a2 (wds r).length cap2]], by simp [results, Tryz.f110, go_sem, k1, k2], ?_⟩
      exact ⟨_, _, rfl, by rw [HQ.out.1]; exact HN1'.out.put HKF.out rfl _, by rw [HQ.out.2]; exact HN2'.out.put HKF.out rfl _, HUF'.out.grown (grownBy_putObj' _ D (.deferred none)) (fun k e => by cases e; exact .inr (by omega)), fun k hk => by have := HK1.out k hk; simp [Value.ownBlock] at this; omega⟩
  case stop =>
    rintro D c pre W _ _ h _
    exact h.elim

theorem byWord_any (u : Value) (m b : Nat) (w : World) (hu : NV w u m) (hb : 0 < b) (hb2 : b < 18446744073709551616) (hlen : (wds m).length ≤ 1099511627776) :
    Calls Tryz.prog 110 #[u, .int .u64 (b : Int)] w (RNat2 (m / b) (m % b) w) := by
  refine (byWord_fresh u m b w hu hb hb2 hlen).mono ?_
  rintro e w' ⟨v1, v2, he, h1, h2, h3, _⟩
  exact ⟨v1, v2, he, h1, h2, h3⟩
end Go.Proofs.YtoklmfmoblkfcaaGreatDoor

/- The contract of nat.DivMod by nought, by a greater number, by a word. -/
namespace Go.Proofs.YtoklmfmoblkfcaaGreatDoor
open Go.RowKit Go.Proofs.Tm Go.Shelf
set_option linter.unusedVariables false
set_option maxRecDepth 20000

set_option maxHeartbeats 800000 in
theorem divmod_zero (u v : Value) (m : Nat) (w : World) (hu : NV w u m) (hv : NV w v 0) :
    Calls Tryz.prog 85 #[u, v] w (RNat2E 0 0 7 w) := by
  obtain ⟨a, cap, rfl, hl, hcm⟩ := hu.open
  obtain ⟨b, cap', rfl, hl', hcm'⟩ := hv.open
  have HZ := Lib.hid (zero_any _ _ _ (hv.upd0 (alloc4 w (.cells #[.slice a (wds m).length cap] 27) (.cells #[.slice b (wds 0).length cap'] 27) (.cells #[.slice none 0 0] 27) (.cells #[.slice none 0 0] 27))))
  generalize (wds m).length = lm at *
  generalize (wds 0).length = ln at *
  clear hu hv
  go_enter Tryz.func85, Tryz.ntmps85
  go_wp2_with fail
  refine HZ.out.mono ?_
  rintro e w1 ⟨rfl, hu1⟩
  obtain ⟨hb0, hb1, hb2, hb3, hu0, hs0⟩ := box4 hu1
  have hst := store2 (w := w) (W := w1) (x := .slice none 0 0) (y := .slice none 0 0) (by omega) (by omega) (by omega) hb2 hb3 hu0 (NV.zero _) (NV.zero _)
  have hc2 : w1.cell? ⟨w.heap.size + 1 + 1, 0, none⟩ = some (.slice none 0 0) := by rw [cell_of_row w1 _ 0 _ _ _ hb2]; rfl
  have hf2 : w1.frozen? ⟨w.heap.size + 1 + 1, 0, none⟩ = false := by simp [World.frozen?, hb2]
  have hc3 : w1.cell? ⟨w.heap.size + 1 + 1 + 1, 0, none⟩ = some (.slice none 0 0) := by rw [cell_of_row w1 _ 0 _ _ _ hb3]; rfl
  have hf3 : w1.frozen? ⟨w.heap.size + 1 + 1 + 1, 0, none⟩ = false := by simp [World.frozen?, hb3]
  have HST := Lib.hid hst
  clear hu1 hb0 hb1 hb2 hb3 hu0 hst
  go_wp2
  have k1 := HST.out.c1
  have k2 := HST.out.c2
  refine bodyPost_ret (v := .tuple #[.agg #[.slice none 0 0], .agg #[.slice none 0 0], .int .i64 7]) (by simp [results, Tryz.results85, go_sem, k1, k2]) rfl ?_
  exact ⟨_, _, rfl, HST.out.n1, HST.out.n2, HST.out.u⟩

set_option maxHeartbeats 800000 in
theorem divmod_less (u v : Value) (m n : Nat) (w : World) (hu : NV w u m) (hv : NV w v n) (hmn : m < n) (hlen : (wds m).length ≤ 1099511627776) :
    Calls Tryz.prog 85 #[u, v] w (RNat2E 0 m 0 w) := by
  obtain ⟨a, cap, rfl, hl, hcm⟩ := hu.open
  obtain ⟨b, cap', rfl, hl', hcm'⟩ := hv.open
  have HZ := Lib.hid (zero_any _ _ _ (hv.upd0 (alloc4 w (.cells #[.slice a (wds m).length cap] 27) (.cells #[.slice b (wds n).length cap'] 27) (.cells #[.slice none 0 0] 27) (.cells #[.slice none 0 0] 27))))
  have HC : Hid (∀ W, Upd [] w W → Calls Tryz.prog 52 #[.agg #[.slice a (wds m).length cap], .agg #[.slice b (wds n).length cap']] W fun e w' => e = .returned (.int .i64 (cmpN m n)) ∧ Upd [] W w') := fun W h => cmp_any _ _ _ _ _ (hu.upd0 h) (hv.upd0 h) hlen
  have HL := Lib.hid hmn
  have HA := Lib.hid hu
  generalize (wds m).length = lm at *
  generalize (wds n).length = ln at *
  clear hu hv hmn
  go_enter Tryz.func85, Tryz.ntmps85
  go_wp2_with fail
  refine HZ.out.mono ?_
  rintro e w1 ⟨rfl, hu1⟩
  obtain ⟨hb0, hb1, hb2, hb3, hu0, hs0⟩ := box4 hu1
  have hd : decide (n = 0) = false := by have := HL.out; simp; omega
  rw [hd]
  have h0 : w1.cell? ⟨w.heap.size, 0, none⟩ = some (.slice a lm cap) := by rw [cell_of_row w1 _ 0 _ _ _ hb0]; rfl
  have h1 : w1.cell? ⟨w.heap.size + 1, 0, none⟩ = some (.slice b ln cap') := by rw [cell_of_row w1 _ 0 _ _ _ hb1]; rfl
  clear hu1 hd
  go_wp2_with fail
  refine (HC.out _ hu0).mono ?_
  rintro e w2 ⟨rfl, hu2⟩
  rw [cmpN_lt HL.out]
  have hb0' := (hu2.block _ (Array.getElem?_eq_some_iff.1 hb0).1 (by simp)).trans hb0
  have hb2' := (hu2.block _ (Array.getElem?_eq_some_iff.1 hb2).1 (by simp)).trans hb2
  have hb3' := (hu2.block _ (Array.getElem?_eq_some_iff.1 hb3).1 (by simp)).trans hb3
  have hst := store2 (w := w) (W := w2) (x := .slice none 0 0) (y := .slice a lm cap) (by omega) (by omega) (by omega) hb2' hb3' (hu0.trans0 hu2) (NV.zero _) (HA.out.upd0 (hu0.trans0 hu2))
  have h0' : w2.cell? ⟨w.heap.size, 0, none⟩ = some (.slice a lm cap) := by rw [cell_of_row w2 _ 0 _ _ _ hb0']; rfl
  have hc2 : w2.cell? ⟨w.heap.size + 1 + 1, 0, none⟩ = some (.slice none 0 0) := by rw [cell_of_row w2 _ 0 _ _ _ hb2']; rfl
  have hf2 : w2.frozen? ⟨w.heap.size + 1 + 1, 0, none⟩ = false := by simp [World.frozen?, hb2']
  have hc3 : w2.cell? ⟨w.heap.size + 1 + 1 + 1, 0, none⟩ = some (.slice none 0 0) := by rw [cell_of_row w2 _ 0 _ _ _ hb3']; rfl
  have hf3 : w2.frozen? ⟨w.heap.size + 1 + 1 + 1, 0, none⟩ = false := by simp [World.frozen?, hb3']
  have HST := Lib.hid hst
  clear hb0 hb1 hb2 hb3 hu0 hst hu2 hb0' hb2' hb3' h0 h1
  go_wp2_with fail
  go_region
  all_goals
    go_wp2
    have k1 := HST.out.drew.c1
    have k2 := HST.out.drew.c2
    refine bodyPost_ret (v := .tuple #[.agg #[.slice none 0 0], .agg #[.slice a lm cap], .int .i64 0]) (by simp [results, Tryz.results85, go_sem, k1, k2]) rfl ?_
    exact ⟨_, _, rfl, HST.out.drew.n1, HST.out.drew.n2, HST.out.drew.u⟩

set_option maxHeartbeats 1600000 in
theorem divmod_word (u v : Value) (m n : Nat) (w : World) (hu : NV w u m) (hv : NV w v n) (hmn : n ≤ m) (h0 : n ≠ 0) (hn : n < 18446744073709551616) (hlen : (wds m).length ≤ 1099511627776) :
    Calls Tryz.prog 85 #[u, v] w (RNat2E (m / n) (m % n) 0 w) := by
  obtain ⟨a, cap, rfl, hl, hcm⟩ := hu.open
  obtain ⟨b, cap', rfl, hl', hcm'⟩ := hv.open
  have HZ := Lib.hid (zero_any _ _ _ (hv.upd0 (alloc4 w (.cells #[.slice a (wds m).length cap] 27) (.cells #[.slice b (wds n).length cap'] 27) (.cells #[.slice none 0 0] 27) (.cells #[.slice none 0 0] 27))))
  have HC : Hid (∀ W, Upd [] w W → Calls Tryz.prog 52 #[.agg #[.slice a (wds m).length cap], .agg #[.slice b (wds n).length cap']] W fun e w' => e = .returned (.int .i64 (cmpN m n)) ∧ Upd [] W w') := fun W h => cmp_any _ _ _ _ _ (hu.upd0 h) (hv.upd0 h) hlen
  have HD : Hid (∀ W, Upd [] w W → Calls Tryz.prog 110 #[.agg #[.slice a (wds m).length cap], .int .u64 (n : Int)] W (RNat2 (m / n) (m % n) W)) := fun W h => byWord_any _ _ _ _ (hu.upd0 h) (by omega) hn hlen
  have hge := cmpN_ge hmn
  have e1 : wds n = [n] := wds_one n h0 hn
  obtain ⟨bb, oo, rfl, hbb, hcc⟩ := hv.at 0 (by rw [e1]; simp)
  rw [e1] at hcc hl' hv HC HZ ⊢
  have hcc' : w.cell? ⟨bb, oo, none⟩ = some (.int .u64 (n : Int)) := hcc
  have hcw : ∀ W, Upd [] w W → W.cell? ⟨bb, oo, none⟩ = some (.int .u64 (n : Int)) := fun W h => (h.cell (p := ⟨bb, oo, none⟩) hbb (by simp)).trans hcc'
  have HCW := Lib.hid hcw
  have hd : decide (n = 0) = false := by simpa using h0
  rw [hd] at HZ
  simp only [List.length_cons, List.length_nil, Nat.zero_add] at *
  have HH0 := Lib.hid h0
  have HHn := Lib.hid hn
  generalize (wds m).length = lm at *
  clear hu hv hmn hcc hcc' h0 hn e1 hd hcw
  go_enter Tryz.func85, Tryz.ntmps85
  go_wp2_with fail
  refine HZ.out.mono ?_
  rintro e w1 ⟨rfl, hu1⟩
  obtain ⟨hb0, hb1, hb2, hb3, hu0, hs0⟩ := box4 hu1
  have h0 : w1.cell? ⟨w.heap.size, 0, none⟩ = some (.slice a lm cap) := by rw [cell_of_row w1 _ 0 _ _ _ hb0]; rfl
  have h1 : w1.cell? ⟨w.heap.size + 1, 0, none⟩ = some (.slice (some ⟨bb, oo, none⟩) 1 cap') := by rw [cell_of_row w1 _ 0 _ _ _ hb1]; rfl
  clear hu1
  go_wp2_with fail
  refine (HC.out _ hu0).mono ?_
  rintro e w2 ⟨rfl, hu2⟩
  have hb0' := (hu2.block _ (Array.getElem?_eq_some_iff.1 hb0).1 (by simp)).trans hb0
  have hb1' := (hu2.block _ (Array.getElem?_eq_some_iff.1 hb1).1 (by simp)).trans hb1
  have hb2' := (hu2.block _ (Array.getElem?_eq_some_iff.1 hb2).1 (by simp)).trans hb2
  have hb3' := (hu2.block _ (Array.getElem?_eq_some_iff.1 hb3).1 (by simp)).trans hb3
  have h0' : w2.cell? ⟨w.heap.size, 0, none⟩ = some (.slice a lm cap) := by rw [cell_of_row w2 _ 0 _ _ _ hb0']; rfl
  have h1' : w2.cell? ⟨w.heap.size + 1, 0, none⟩ = some (.slice (some ⟨bb, oo, none⟩) 1 cap') := by rw [cell_of_row w2 _ 0 _ _ _ hb1']; rfl
  have hu02 := hu0.trans0 hu2
  have hcw2 := HCW.out _ hu02
  have hsz : w.heap.size + 1 + 1 + 1 + 1 ≤ w2.heap.size := Nat.le_trans hs0 hu2.size
  have HB2 := Lib.hid hb2'
  have HB3 := Lib.hid hb3'
  have hcA : ∀ A, Upd [] w2 A → A.cell? ⟨w.heap.size + 1 + 1, 0, none⟩ = some (.slice none 0 0) := fun A h => by rw [h.cell (p := ⟨w.heap.size + 1 + 1, 0, none⟩) (by show w.heap.size + 1 + 1 < _; omega) (by simp), cell_of_row w2 _ 0 _ _ _ hb2']; rfl
  have hcB : ∀ A, Upd [] w2 A → A.cell? ⟨w.heap.size + 1 + 1 + 1, 0, none⟩ = some (.slice none 0 0) := fun A h => by rw [h.cell (p := ⟨w.heap.size + 1 + 1 + 1, 0, none⟩) (by show w.heap.size + 1 + 1 + 1 < _; omega) (by simp), cell_of_row w2 _ 0 _ _ _ hb3']; rfl
  have hfA : ∀ A, Upd [] w2 A → A.frozen? ⟨w.heap.size + 1 + 1, 0, none⟩ = false := fun A h => by rw [h.frozen (p := ⟨w.heap.size + 1 + 1, 0, none⟩) (by show w.heap.size + 1 + 1 < _; omega) (by simp)]; simp [World.frozen?, hb2']
  have hfB : ∀ A, Upd [] w2 A → A.frozen? ⟨w.heap.size + 1 + 1 + 1, 0, none⟩ = false := fun A h => by rw [h.frozen (p := ⟨w.heap.size + 1 + 1 + 1, 0, none⟩) (by show w.heap.size + 1 + 1 + 1 < _; omega) (by simp)]; simp [World.frozen?, hb3']
  have HKP : Hid (∀ A, Upd [w.heap.size + 1 + 1, w.heap.size + 1 + 1 + 1] w2 A → A.cell? ⟨w.heap.size, 0, none⟩ = some (.slice a lm cap) ∧ A.cell? ⟨w.heap.size + 1, 0, none⟩ = some (.slice (some ⟨bb, oo, none⟩) 1 cap') ∧ A.cell? ⟨bb, oo, none⟩ = some (.int .u64 (n : Int)) ∧ Upd [w.heap.size + 1 + 1, w.heap.size + 1 + 1 + 1] w2 A) := fun A h =>
    ⟨(h.cell (p := ⟨w.heap.size, 0, none⟩) (by show w.heap.size < _; omega) (by simp; omega)).trans h0', (h.cell (p := ⟨w.heap.size + 1, 0, none⟩) (by show w.heap.size + 1 < _; omega) (by simp)).trans h1', (h.cell (p := ⟨bb, oo, none⟩) (by show bb < _; omega) (by simp; omega)).trans hcw2, h⟩
  have HST : Hid (∀ A, Upd [] w2 A → ∀ x y p q, NV A (.agg #[x]) p → NV A (.agg #[y]) q → Stored w (w.heap.size + 1 + 1) (w.heap.size + 1 + 1 + 1) 27 27 x y p q ((A.setCell ⟨w.heap.size + 1 + 1, 0, none⟩ x).setCell ⟨w.heap.size + 1 + 1 + 1, 0, none⟩ y)) := fun A h x y p q hx hy =>
    store2 (by omega) (by omega) (by omega) ((h.block _ (by omega) (by simp)).trans HB2.out) ((h.block _ (by omega) (by simp)).trans HB3.out) (hu02.trans0 h) hx hy
  have HD2 : Hid (∀ W, Upd [] w2 W → Calls Tryz.prog 110 #[.agg #[.slice a lm cap], .int .u64 (n : Int)] W (RNat2 (m / n) (m % n) W)) := fun W h => HD.out W (hu02.trans0 h)
  have hrf : Upd [] w2 w2 := Upd.refl _ _
  clear hb0 hb1 hb2 hb3 hu0 hu2 hb0' hb1' hb2' hb3' h0 h1 h0' h1' hcw2 HB2 HB3 HC HD HZ
  have h0' := (HKP.out _ (hrf.mono (by simp))).1
  have h1' := (HKP.out _ (hrf.mono (by simp))).2.1
  go_wp2_with fail
  go_region_held3 (fun A => A.cell? ⟨w.heap.size, 0, none⟩ = some (.slice a lm cap) ∧ A.cell? ⟨w.heap.size + 1, 0, none⟩ = some (.slice (some ⟨bb, oo, none⟩) 1 cap') ∧ A.cell? ⟨bb, oo, none⟩ = some (.int .u64 (n : Int)) ∧ Upd [w.heap.size + 1 + 1, w.heap.size + 1 + 1 + 1] w2 A)
    (first
      | exact HKP.out _ (huy.mono (by simp))
      | exact HKP.out _ (hrf.drew.mono (by simp))
      | exact HKP.out _ ((huy.mono (by simp)).setCell (.inl (by simp)) _)
      | exact HKP.out _ (((huy.mono (by simp)).setCell (.inl (by simp)) _).setCell (.inl (by simp)) _))
    (first
      | (go_at_call 110; refine (HD2.out _ (by first | exact hrf.drew | exact hrf)).mono ?_; rintro e wy ⟨v1, v2, rfl, hn1, hn2, hu1⟩; obtain ⟨a1, cap1, rfl, hl1, hm1⟩ := hn1.open; obtain ⟨a2, cap2, rfl, hl2, hm2⟩ := hn2.open; have HN1 := Lib.hid hn1; have HN2 := Lib.hid hn2; have huy : Upd [] w2 wy := Upd.trans0 (by first | exact hrf.drew | exact hrf) hu1; clear hn1 hn2 hu1))
  all_goals
    have HS1 := Lib.hid (HST.out _ huy _ _ _ _ HN1.out HN2.out)
    obtain ⟨wf, hwf⟩ : ∃ wf, wf = (wy.setCell ⟨w.heap.size + 1 + 1, 0, none⟩ (.slice a1 (wds (m / n)).length cap1)).setCell ⟨w.heap.size + 1 + 1 + 1, 0, none⟩ (.slice a2 (wds (m % n)).length cap2) := ⟨_, rfl⟩
    rw [← hwf] at HS1 ⊢
    have k1 := HS1.out.c1
    have k2 := HS1.out.c2
    have f1 := HS1.out.f1
    have f2 := HS1.out.f2
    have HS2 := Lib.hid (store2 (by omega) (by omega) (by omega) HS1.out.b1 HS1.out.b2 HS1.out.u HS1.out.n1 HS1.out.n2)
    clear hwf hcA hcB hfA hfB huy
    go_wp2_with fail
    go_region
    all_goals
      go_wp2
      have z1 := HS2.out.drew.c1
      have z2 := HS2.out.drew.c2
      refine bodyPost_ret (v := .tuple #[.agg #[.slice a1 (wds (m / n)).length cap1], .agg #[.slice a2 (wds (m % n)).length cap2], .int .i64 0]) (by simp [results, Tryz.results85, go_sem, z1, z2]) rfl ?_
      exact ⟨_, _, rfl, HS2.out.drew.n1, HS2.out.drew.n2, HS2.out.drew.u⟩
end Go.Proofs.YtoklmfmoblkfcaaGreatDoor

/- slices.Backward over words that the rounds write: the iterator's contract where the place alone is looked at. -/
namespace Go.Proofs.YtoklmfmoblkfcaaGreatDoor
open Go.RowKit Go.Proofs.Tm Go.Shelf
set_option linter.unusedVariables false
set_option maxRecDepth 20000
attribute [local go_sem] Oper.semAt_some

/-- What yield is handed: the place, and what stands there. -/
def encI (n : Nat) (x : Fin n × Int) : Array Value := #[Value.int .i64 ((n - 1 - x.1.val : Nat) : Int), Value.int .u64 x.2]

/-- What a round keeps: of the blocks below m those of which Q says so; block b stays words. -/
structure Ki (Q : Nat → Prop) (m b off n : Nat) (w w' : World) : Prop where
  size : w.heap.size ≤ w'.heap.size
  block : ∀ k, k < m → Q k → w'.heap[k]? = w.heap[k]?
  words : (∀ j, j < n → ∃ z : Int, w.cell? ⟨b, off + j, none⟩ = some (.int .u64 z)) → ∀ j, j < n → ∃ z : Int, w'.cell? ⟨b, off + j, none⟩ = some (.int .u64 z)
theorem Ki.refl (Q : Nat → Prop) (m b off n : Nat) (w : World) : Ki Q m b off n w w := ⟨Nat.le_refl _, fun _ _ _ => rfl, fun h => h⟩
theorem Ki.trans {Q : Nat → Prop} {m b off n : Nat} {A B C : World} (h : Ki Q m b off n A B) (k : Ki Q m b off n B C) : Ki Q m b off n A C := ⟨Nat.le_trans h.size k.size, fun i h1 h2 => (k.block i h1 h2).trans (h.block i h1 h2), fun h3 => k.words (h.words h3)⟩
theorem Ki.put {Q : Nat → Prop} {b off n : Nat} {w : World} (hb : b < w.heap.size) (W : World) (l : Nat) (o o' : Obj) (hl : w.heap.size ≤ l) (h : W.heap[l]? = some o) (_ : o.isCells = false) (_ : o.isWalk = false) : Ki Q w.heap.size b off n W (W.putObj l o') :=
  ⟨by simp, fun k hk _ => World.putObj_heap_other (by omega), fun h j hj => by
    obtain ⟨z, hz⟩ := h j hj
    exact ⟨z, (World.cell?_of_block (a := ⟨b, off + j, none⟩) (w := W) (World.putObj_heap_other (by show b ≠ l; omega))).trans hz⟩⟩
theorem Ki.cell {Q : Nat → Prop} {m b off n : Nat} {A B : World} (h : Ki Q m b off n A B) {p : Addr} (hp : p.block < m) (hn : Q p.block) : B.cell? p = A.cell? p := World.cell?_of_block (w := A) (h.block p.block hp hn)

set_option maxRecDepth 100000 in
set_option maxHeartbeats 2000000 in
theorem back1i_in (Q : Nat → Prop) (n : Nat) (hn : 1 ≤ n) (l Bs n₀ b off cap len : Nat) (hreach : len ≤ 1099511627776) (hBS : Q Bs) (J Jx : List (Fin len × Int) → World → Prop)
    (hY : ∀ pre x W, J pre W → pre.length < len → YieldAt Fence.wide (n - 1) Tryz.prog l (encI len x) W fun e W' =>
      (e = .returned (.bool true) ∧ J (pre ++ [x]) W' ∧ Ki Q n₀ b off len W W') ∨ (e = .returned (.bool false) ∧ Jx (pre ++ [x]) W'))
    (W : World) (hBs : W.cell? ⟨Bs, 0, none⟩ = some (.slice (some ⟨b, off, none⟩) len cap)) (hBn : Bs < n₀) (hc : ∀ j, j < len → ∃ z : Int, W.cell? ⟨b, off + j, none⟩ = some (.int .u64 z)) (h0 : J [] W) :
    CallsIn Fence.wide n Tryz.prog 113 #[.func (.yield l) #[] #[], .pointer (some ⟨Bs, 0, none⟩)] W fun e W' => (∃ v, e = .returned v) ∧
      ((∃ ys : List (Fin len × Int), ys.map Prod.fst = upto len len ∧ J ys W') ∨ (∃ pre : List (Fin len × Int), (∃ k, k ≤ len ∧ pre.map Prod.fst = upto len k) ∧ Jx pre W')) := by
  refine callsIn_of_wp Tryz.func113 rfl trivial ?_ rfl
  simp only [Tryz.ntmps113, List.size_toArray, List.length_cons, List.length_nil, Nat.reduceAdd, Nat.reduceSub, Array.replicate_succ, Array.replicate_zero, List.push_toArray, List.append_toArray, List.nil_append, List.cons_append]
  have HC := Lib.hid hc
  clear hc
  gi_wp2
  gi_loopw [3] (fun i wr => ∃ (k : Nat) (pre : List (Fin len × Int)), k ≤ len ∧ i = .int .i64 ((len : Int) - 1 - k) ∧ Hid (pre.map Prod.fst = upto len k) ∧ J pre wr ∧ Ki Q n₀ b off len W wr)
    (fun i _ => (intOf i + 1).toNat)
  case atStart => exact ⟨0, [], Nat.zero_le _, by simp, by show _ = _; simp [upto], h0, Ki.refl _ _ _ _ _ _⟩
  case round =>
    obtain ⟨k, pre, hk, rfl, HP, hJs, hnx⟩ := hrel
    have hbx : wr.cell? ⟨Bs, 0, none⟩ = some (.slice (some ⟨b, off, none⟩) len cap) := (hnx.cell (p := ⟨Bs, 0, none⟩) hBn hBS).trans hBs
    have hpl : pre.length = k := by have := congrArg List.length HP.out; rw [upto_length hk] at this; simpa using this
    by_cases hlt : k < len
    · obtain ⟨j, hj⟩ : ∃ j, j = len - 1 - k := ⟨_, rfl⟩
      obtain ⟨z, hcx'⟩ := hnx.words HC.out j (by omega)
      obtain ⟨fn, tmps, assign, body, hy, hR⟩ := hY pre (⟨k, by omega⟩, z) wr hJs (by omega)
      have hdp : upto len (k + 1) = upto len k ++ [⟨k, by omega⟩] := upto_succ (by omega)
      simp only [encI, ← hj] at hy
      have hjc : (len : Int) - 1 - k = (j : Int) := by omega
      rw [hjc]
      have hjl : j < len := by omega
      have HJ := Lib.hid hj
      have HD : Hid ((pre ++ [((⟨k, by omega⟩ : Fin len), z)]).map Prod.fst = upto len (k + 1)) := by show _ = _; rw [List.map_append, HP.out, hdp]; rfl
      clear hj hdp hBs hjc hpl
      gi_wp2
      refine hR.mono ?_
      rintro e W3 (⟨rfl, hJ3, hk3⟩ | ⟨rfl, hJx3⟩)
      · gi_wp2
        go_roundw
        case rel => refine ⟨k + 1, _, by omega, congrArg (Value.int IntKind.i64) ?_, HD, hJ3, hnx.trans hk3⟩; have := HJ.out; omega
        case measure => simp [intOf]
      · gi_wp2
        refine bodyPost_ret (results_none rfl _ _ _) rfl ?_
        exact ⟨⟨_, rfl⟩, .inr ⟨_, ⟨k + 1, by omega, HD.out⟩, hJx3⟩⟩
    · have hk' : k = len := by omega
      have hm1 : (len : Int) - 1 - k = -1 := by omega
      rw [hk'] at HP
      clear hk' hpl
      rw [hm1]
      gi_wp2
      go_end0
      exact ⟨⟨_, rfl⟩, .inl ⟨_, HP.out, hJs⟩⟩

/-- The value that it hands back goes through all the places from above, or a part of the way. -/
theorem backi_stops (Q : Nat → Prop) (n : Nat) (hn : 1 ≤ n) (Bs n₀ b off cap len : Nat) (hreach : len ≤ 1099511627776) (w : World) (hBs : Bs < n₀) (hBS : Q Bs) (hn₀ : n₀ ≤ w.heap.size)
    (hc : w.cell? ⟨Bs, 0, none⟩ = some (.slice (some ⟨b, off, none⟩) len cap)) (hb : b < n₀) (hI : ∀ j, j < len → ∃ z : Int, w.cell? ⟨b, off + j, none⟩ = some (.int .u64 z)) :
    SeqStopsK Fence.wide n Tryz.prog 113 #[.pointer (some ⟨Bs, 0, none⟩)] (encI len) (Ki Q n₀ b off len) (fun ys => ys.map Prod.fst = upto len len)
      (fun pre => ∃ k, k ≤ len ∧ pre.map Prod.fst = upto len k) len w := fun l J Jx W hW _ _ hY h0 => by
  have hc' := (hW.cell (p := ⟨Bs, 0, none⟩) (by show Bs < _; omega)).trans hc
  refine back1i_in Q n hn l Bs n₀ b off cap len hreach hBS J Jx hY W hc' hBs (fun j hj => ?_) h0
  obtain ⟨z, hz⟩ := hI j hj
  exact ⟨z, (hW.cell (p := ⟨b, off + j, none⟩) (by show b < _; omega)).trans hz⟩
end Go.Proofs.YtoklmfmoblkfcaaGreatDoor

/- Sub64, in the walk's own form. -/
namespace Go.Proofs.YtoklmfmoblkfcaaGreatDoor
open Go.RowKit Go.Proofs.Tm
set_option linter.unusedVariables false
set_option linter.unusedSimpArgs false
set_option maxRecDepth 20000

/-- The model's entry for math/bits.Sub64. -/
def sub64E : Array Value → Sem Value := fun args => do
  let (x, y, b) ← Extern.MathBitsCarry.three "Sub64" args
  pure (Extern.MathBitsCarry.pair ((x + Extern.MathBitsCarry.m64 - y - b) % Extern.MathBitsCarry.m64) (if x < y + b then 1 else 0))

theorem sub64E_run (x y b : Nat) (hb : b ≤ 1) (w : World) :
    (sub64E #[.int .u64 x, .int .u64 y, .int .u64 b]).run Tryz.prog w = .ok (.tuple #[.int .u64 (((x + 18446744073709551616 - y - b) % 18446744073709551616 : Nat) : Int), .int .u64 ((if x < y + b then 1 else 0 : Nat) : Int)]) w := by
  have : b = 0 ∨ b = 1 := by omega
  rcases this with rfl | rfl <;> rfl

/-- Sub64, in the walk's own form. -/
theorem sub64_run (x y b : Nat) (hx : x < 18446744073709551616) (hy : y < 18446744073709551616) (hb : b ≤ 1) :
    ∃ d b' : Nat, d < 18446744073709551616 ∧ b' ≤ 1 ∧ x + 18446744073709551616 * b' = d + b + y ∧
      ∀ W, (callFunc 132 #[.int .u64 (x : Int), .int .u64 (y : Int), .int .u64 (b : Int)]).run Tryz.prog W = .ok (.value (.tuple #[.int .u64 (d : Int), .int .u64 (b' : Int)])) W := by
  refine ⟨(x + 18446744073709551616 - y - b) % 18446744073709551616, if x < y + b then 1 else 0, Nat.mod_lt _ (by decide), by split <;> omega, by split <;> omega, fun W => ?_⟩
  rw [run_callFunc_extern Tryz.func132 (by kernel_rfl) (by kernel_rfl) (by kernel_rfl) (e := sub64E) (by kernel_rfl), sub64E_run x y b hb]
  rfl

theorem sub64_run0 (x y : Nat) (hx : x < 18446744073709551616) (hy : y < 18446744073709551616) :
    ∃ d b' : Nat, d < 18446744073709551616 ∧ b' ≤ 1 ∧ x + 18446744073709551616 * b' = d + y ∧
      ∀ W, (callFunc 132 #[.int .u64 (x : Int), .int .u64 (y : Int), .int .u64 0]).run Tryz.prog W = .ok (.value (.tuple #[.int .u64 (d : Int), .int .u64 (b' : Int)])) W := by
  obtain ⟨d, b, h1, h2, h3, h4⟩ := sub64_run x y 0 hx hy (by decide)
  exact ⟨d, b, h1, h2, by omega, fun W => h4 W⟩

end Go.Proofs.YtoklmfmoblkfcaaGreatDoor

/- The contract of nat.takeTimes (layer 5). -/
namespace Go.Proofs.YtoklmfmoblkfcaaGreatDoor
open Go.RowKit Go.Proofs.Tm
set_option linter.unusedVariables false
set_option linter.unusedSimpArgs false
set_option maxRecDepth 20000

/-- What takeTimes leaves. -/
def TakeTPost (base g len cap f : Nat) (B : List Nat) (n : Nat) (L : List Nat) (w : World) (e : Ending) (w' : World) : Prop :=
  ∃ (o : Nat) (L' : List Nat), e = .returned (.int .u64 (o : Int)) ∧ ARow base g len cap f B.length L L' w w' ∧ o ≤ n ∧ wval L' + 18446744073709551616 ^ f * (n * wval B) = wval L + 18446744073709551616 ^ (f + B.length) * o

set_option maxHeartbeats 800000 in
theorem takeTimes_any (base g len cap f ln cp n : Nat) (bv : Value) (B L : List Nat) (w : World) (ho : w.ownsRow base 64 1 (.slice (some ⟨g, 0, none⟩) len cap) len (cu64 L)) (hL : L.length = len) (hlt : ∀ d ∈ L, d < 18446744073709551616)
   (hB : Sl w bv (cu64 B)) (hBlt : ∀ d ∈ B, d < 18446744073709551616) (hbg : B ≠ [] → ∀ k, bv.ownBlock = some k → k ≠ g) (hf : f + B.length ≤ len) (hln : B.length ≤ ln) (hn : n < 18446744073709551616) (hlen : len ≤ 1099511627776) :
    Calls Tryz.prog 165 #[.slice (some ⟨g, f, none⟩) ln cp, bv, .int .u64 (n : Int)] w (TakeTPost base g len cap f B n L w) := by
  have H0 := Lib.hid (ARow.start (f := f) ho hL hlt)
  have HB := Lib.hid hB
  have HBLT := Lib.hid hBlt
  have HBG := Lib.hid hbg
  obtain ⟨a, cb, rfl, hlc, hcm, _⟩ := hB
  simp only [cu64_length] at *
  obtain ⟨lb, hlb⟩ : ∃ k, k = B.length := ⟨_, rfl⟩
  have HLB := Lib.hid hlb
  rw [← hlb] at hf hln hlc HB
  rw [← hlb]
  unfold maxLen at hcm
  clear ho hL hlt hBlt hbg hlb
  go_enter Tryz.func165, Tryz.ntmps165
  go_wp2
  go_loopw [7, 13] (fun v7 v13 wr => ∃ (k o : Nat) (L' : List Nat), k ≤ lb ∧ v13 = .int .i64 k ∧ v7 = .int .u64 (o : Int) ∧ o ≤ n ∧ Hid (wval L' + 18446744073709551616 ^ f * (n * wval (B.take k)) = wval L + 18446744073709551616 ^ (f + k) * o) ∧ ARow base g len cap f k L L' w wr) (fun _ v13 _ => lb - (intOf v13).toNat)
  case atStart => exact ⟨0, 0, L, Nat.zero_le _, rfl, rfl, Nat.zero_le _, by show _ = _; simp [wval], H0.out⟩
  case round =>
    obtain ⟨k, o, L', hk, rfl, rfl, hon, HE, hinv⟩ := hrel
    have HI := Lib.hid hinv
    clear hinv H0
    by_cases hlt : k < lb
    · have hwr := HI.out.upd
      obtain ⟨b, ob, cb', hv, hc⟩ := sl_at HB.out (by rw [cu64_nil]; rintro rfl; have := HLB.out; simp at this; omega)
      obtain ⟨rfl, rfl⟩ : a = some ⟨b, ob, none⟩ ∧ cb = cb' := by simp at hv; exact ⟨hv.1, hv.2.2⟩
      have hcell := hc k (by rw [cu64_length, ← HLB.out]; exact hlt)
      rw [cu64_getD _ _ (by rw [← HLB.out]; exact hlt)] at hcell
      have hbw := World.block_lt_of_cell? w _ hcell
      have hne := HBG.out (by rintro rfl; have := HLB.out; simp at this; omega) b rfl
      have hcb : wr.cell? ⟨b, ob + k, none⟩ = some (.int .u64 ((B.getD k 0 : Nat) : Int)) := (hwr.cell (p := ⟨b, ob + k, none⟩) hbw (by simpa using hne)).trans hcell
      have hcl := HI.out.own.cellAt (f + k) (by omega)
      rw [cu64_getD _ _ (by rw [HI.out.len]; omega)] at hcl
      have hfz := HI.out.own.frozenAt (f + k)
      have hx := getD_lt HBLT.out k
      have hl := getD_lt HI.out.lt (f + k)
      have HT := Lib.hid (fun W => timesPlus_any (B.getD k 0) n o W hx hn (by omega))
      obtain ⟨s, c, hs, hc1, hsum, hadd⟩ := sub64_run0 (L'.getD (f + k) 0) ((B.getD k 0 * n + o) % 18446744073709551616) hl (Nat.mod_lt _ (by decide))
      have HSUM : Hid (s + (B.getD k 0 * n + o) = L'.getD (f + k) 0 + 18446744073709551616 * ((B.getD k 0 * n + o) / 18446744073709551616 + c)) := by show _ = _; omega
      have hov := owed_le HSUM.out hs hx hon
      have HST := Lib.hid (wtaket_step B L' f k n o s _ _ (by rw [HI.out.len]; omega) HE.out HSUM.out)
      have hwrap : IntKind.u64.wrap ((((B.getD k 0 * n + o) / 18446744073709551616 : Nat) : Int) + (c : Int)) = (((B.getD k 0 * n + o) / 18446744073709551616 + c : Nat) : Int) := by rw [IntKind.wrap_u64]; omega
      have HW := Lib.hid hwrap
      have HAR := Lib.hid (HI.out.set s hs)
      have i0 : (0 : Int) ≤ (k : Int) := by omega
      have i1 : (k : Int) < (lb : Int) := by omega
      have i2 : (k : Int) < (ln : Int) := by omega
      clear hc hv hcell hx hl hsum hwrap
      generalize B.getD k 0 = x at *
      generalize (x * n + o) % 18446744073709551616 = lo at *
      generalize (x * n + o) / 18446744073709551616 = hi at *
      generalize L'.getD (f + k) 0 = y at *
      go_wp2_with fail
      refine (HT.out wr).mono ?_
      rintro e w' ⟨rfl, rfl⟩
      go_wp2
      refine ⟨⟨k + 1, hi + c, L'.set (f + k) s, by omega, by go_num, by go_num, hov, HST.out, HAR.out⟩, by simp [intOf]; omega⟩
    · obtain rfl : k = lb := by omega
      go_wp2
      go_ret
      have h := HE.out
      rw [List.take_of_length_le (by have := HLB.out; omega)] at h
      exact ⟨o, L', rfl, by rw [← HLB.out]; exact HI.out, hon, by rw [← HLB.out]; exact h⟩
end Go.Proofs.YtoklmfmoblkfcaaGreatDoor

/- Plain mathematics of long division, a word at a time. -/
namespace Go.Proofs.Tm
set_option linter.unusedVariables false
set_option maxRecDepth 20000

/-- The words from f on, k of them, as a number. -/
def seg (L : List Nat) (f k : Nat) : Nat := wval ((L.drop f).take k)

theorem wval_parts (L : List Nat) (f k : Nat) (h : f + k ≤ L.length) : wval L = wval (L.take f) + 18446744073709551616 ^ f * (seg L f k + 18446744073709551616 ^ k * wval (L.drop (f + k))) := by
  have e1 : L = L.take f ++ (L.drop f) := (List.take_append_drop f L).symm
  have e2 : L.drop f = (L.drop f).take k ++ (L.drop f).drop k := (List.take_append_drop k _).symm
  have l1 : (L.take f).length = f := by simp; omega
  have l2 : ((L.drop f).take k).length = k := by simp; omega
  conv => lhs; rw [e1, wval_append, l1, e2, wval_append, l2, List.drop_drop]
  rfl

theorem getD_ext {A B : List Nat} (hl : A.length = B.length) (h : ∀ j, j < A.length → A.getD j 0 = B.getD j 0) : A = B := by
  apply List.ext_getElem hl
  intro i h1 h2
  have := h i h1
  simpa [h1, h2] using this

/-- What lies outside is as it was. -/
theorem outside {L L' : List Nat} {f k : Nat} (hl : L'.length = L.length) (hf : f + k ≤ L.length) (h : ∀ j, j < f ∨ f + k ≤ j → L'.getD j 0 = L.getD j 0) : L'.take f = L.take f ∧ L'.drop (f + k) = L.drop (f + k) := by
  constructor
  · refine getD_ext (by simp [hl]) (fun j hj => ?_)
    simp only [List.length_take] at hj
    have := h j (.inl (by omega))
    rw [List.getD_eq_getElem?_getD, List.getD_eq_getElem?_getD, List.getElem?_take, List.getElem?_take, if_pos (by omega), if_pos (by omega), ← List.getD_eq_getElem?_getD, ← List.getD_eq_getElem?_getD]
    exact this
  · refine getD_ext (by simp [hl]) (fun j hj => ?_)
    have := h (f + k + j) (.inr (by omega))
    rw [List.getD_eq_getElem?_getD, List.getD_eq_getElem?_getD, List.getElem?_drop, List.getElem?_drop, ← List.getD_eq_getElem?_getD, ← List.getD_eq_getElem?_getD]
    exact this

theorem seg_eq {L L' : List Nat} {f k V o : Nat} (hl : L'.length = L.length) (hf : f + k ≤ L.length) (h : ∀ j, j < f ∨ f + k ≤ j → L'.getD j 0 = L.getD j 0)
    (he : wval L' + 18446744073709551616 ^ f * V = wval L + 18446744073709551616 ^ (f + k) * o) : seg L' f k + V = seg L f k + 18446744073709551616 ^ k * o := by
  obtain ⟨h1, h2⟩ := outside hl hf h
  rw [wval_parts L f k hf, wval_parts L' f k (by omega), h1, h2, Nat.pow_add] at he
  have hp := Nat.pow_pos (n := f) (show 0 < 18446744073709551616 by decide)
  generalize 18446744073709551616 ^ f = X at *
  generalize 18446744073709551616 ^ k = Y at *
  generalize wval (L.drop (f + k)) = Z at *
  generalize wval (L.take f) = T at *
  have e : X * (seg L' f k + V) = X * (seg L f k + Y * o) := by
    have a1 : X * (seg L' f k + Y * Z) = X * seg L' f k + X * (Y * Z) := Nat.mul_add ..
    have a2 : X * (seg L f k + Y * Z) = X * seg L f k + X * (Y * Z) := Nat.mul_add ..
    have a3 : X * Y * o = X * (Y * o) := Nat.mul_assoc ..
    rw [Nat.mul_add, Nat.mul_add]
    omega
  exact Nat.eq_of_mul_eq_mul_left hp e
theorem seg_eq2 {L L' : List Nat} {f k V o : Nat} (hl : L'.length = L.length) (hf : f + k ≤ L.length) (h : ∀ j, j < f ∨ f + k ≤ j → L'.getD j 0 = L.getD j 0)
    (he : wval L' + 18446744073709551616 ^ (f + k) * o = wval L + 18446744073709551616 ^ f * V) : seg L' f k + 18446744073709551616 ^ k * o = seg L f k + V := by
  have := seg_eq (L := L') (L' := L) (f := f) (k := k) (V := V) (o := o) hl.symm (by omega) (fun j hj => (h j hj).symm) he.symm
  exact this.symm

theorem seg_lt {L : List Nat} (f k : Nat) (h : ∀ d ∈ L, d < 18446744073709551616) : seg L f k < 18446744073709551616 ^ k := by
  have h1 := wval_lt ((L.drop f).take k) (fun d hd => h d (List.mem_of_mem_drop (List.mem_of_mem_take hd)))
  exact Nat.lt_of_lt_of_le h1 (Nat.pow_le_pow_right (by decide) (by simp; omega))

theorem seg_succ (L : List Nat) (f k : Nat) : seg L f (k + 1) = seg L f k + 18446744073709551616 ^ k * L.getD (f + k) 0 := by
  unfold seg
  rw [wval_take_succ, List.getD_eq_getElem?_getD, List.getElem?_drop, ← List.getD_eq_getElem?_getD]

/-- A guessed digit is no less than the true one. -/
theorem guess_ge {X VB top low bt M : Nat} (hM : 0 < M) (hX : X < (top * 18446744073709551616 + low + 1) * M) (hB : bt * M ≤ VB) (hlt : X < VB * 18446744073709551616) (hVB : 0 < VB) :
    X / VB ≤ if bt ≤ top then 18446744073709551615 else (top * 18446744073709551616 + low) / bt := by
  split
  · have : X / VB < 18446744073709551616 := (Nat.div_lt_iff_lt_mul hVB).2 (by rw [Nat.mul_comm]; exact hlt)
    omega
  · rename_i h
    rw [Nat.le_div_iff_mul_le (by omega)]
    have h1 : X / VB * VB ≤ X := Nat.div_mul_le_self X VB
    have h2 : X / VB * (bt * M) ≤ X / VB * VB := Nat.mul_le_mul_left _ hB
    have h3 : X / VB * bt * M < (top * 18446744073709551616 + low + 1) * M := by
      rw [Nat.mul_assoc]; omega
    have h4 := Nat.lt_of_mul_lt_mul_right h3
    omega

/-- What is owed at first is not below nought. -/
theorem owed_ge {X VB d s top o Y : Nat} (hd : X / VB ≤ d) (hVB : 0 < VB) (hY : VB ≤ Y) (he : s + d * VB + Y * top = X + Y * o) : top ≤ o := by
  rcases Nat.lt_or_ge o top with h | h
  · exfalso
    obtain ⟨k, rfl⟩ : ∃ k, top = o + 1 + k := ⟨top - o - 1, by omega⟩
    have h1 : X < (d + 1) * VB := by
      have := Nat.lt_div_mul_add (a := X) hVB
      have h2 : X / VB * VB ≤ d * VB := Nat.mul_le_mul_right _ hd
      rw [Nat.add_mul]; omega
    have h3 : Y * (o + 1 + k) = Y * o + Y + Y * k := by rw [Nat.mul_add, Nat.mul_add, Nat.mul_one]
    rw [Nat.add_mul, Nat.one_mul] at h1
    have := Nat.zero_le (Y * k)
    omega
  · exact h

/-- One step of what is owed. -/
theorem owed_step {X VB d s s2 w c Y : Nat} (hVB : 0 < VB) (hs : s < Y) (hw : 0 < w) (hc : c ≤ 1) (he : s + d * VB = X + Y * w) (h2 : s2 + Y * c = s + VB) :
    1 ≤ d ∧ X / VB ≤ d - 1 ∧ c ≤ w ∧ s2 + (d - 1) * VB = X + Y * (w - c) := by
  have hw1 : Y * w = Y * (w - 1) + Y := by
    obtain ⟨v, rfl⟩ : ∃ v, w = v + 1 := ⟨w - 1, by omega⟩
    rw [Nat.add_sub_cancel, Nat.mul_add, Nat.mul_one]
  have hd1 : 1 ≤ d := by
    rcases Nat.eq_zero_or_pos d with rfl | h
    · rw [Nat.zero_mul] at he
      have := Nat.zero_le (Y * (w - 1))
      omega
    · exact h
  obtain ⟨e, rfl⟩ : ∃ e, d = e + 1 := ⟨d - 1, by omega⟩
  have hde : (e + 1) * VB = e * VB + VB := by rw [Nat.add_mul, Nat.one_mul]
  refine ⟨hd1, ?_, by omega, ?_⟩
  · have : X < (e + 1) * VB := by have := Nat.zero_le (Y * (w - 1)); omega
    have := (Nat.div_lt_iff_lt_mul hVB).2 this
    omega
  · rw [Nat.add_sub_cancel]
    rcases (by omega : c = 0 ∨ c = 1) with rfl | rfl
    · simp only [Nat.mul_zero, Nat.add_zero, Nat.sub_zero] at *; omega
    · simp only [Nat.mul_one] at *; omega

/-- Nothing is owed: the digit is the true one. -/
theorem owed_none {X VB d s : Nat} (hVB : 0 < VB) (hd : X / VB ≤ d) (he : s + d * VB = X) : d = X / VB ∧ s = X % VB := by
  have h1 : d ≤ X / VB := (Nat.le_div_iff_mul_le hVB).2 (by omega)
  have h2 : d = X / VB := by omega
  have h3 := Nat.div_add_mod X VB
  refine ⟨h2, ?_⟩
  rw [← h2, Nat.mul_comm] at h3
  omega
end Go.Proofs.Tm

/- The contracts of nat.guess, nat.digit (layer 5). -/
namespace Go.Proofs.YtoklmfmoblkfcaaGreatDoor
open Go.RowKit Go.Proofs.Tm
set_option linter.unusedVariables false
set_option linter.unusedSimpArgs false
set_option maxRecDepth 20000

set_option maxHeartbeats 800000 in
theorem guess_any (top low bt : Nat) (w : World) (ht : top < 18446744073709551616) (hl : low < 18446744073709551616) (hb : bt < 18446744073709551616) :
    Calls Tryz.prog 164 #[.int .u64 (top : Int), .int .u64 (low : Int), .int .u64 (bt : Int)] w fun e w' => e = .returned (.int .u64 ((if bt ≤ top then 18446744073709551615 else (top * 18446744073709551616 + low) / bt : Nat) : Int)) ∧ Upd [] w w' := by
  by_cases h : bt ≤ top
  · rw [if_pos h]
    have h1 : decide (bt ≤ top) = true := by simpa using h
    go_enter Tryz.func164, Tryz.ntmps164
    go_wp2
    go_ret
    exact ⟨rfl, Upd.refl _ _⟩
  · rw [if_neg h]
    have h1 : decide (bt ≤ top) = false := by simpa using h
    have HD := Lib.hid (div64_any top low bt w (by omega) hl hb)
    obtain ⟨q, hq⟩ : ∃ q, q = (top * 18446744073709551616 + low) / bt := ⟨_, rfl⟩
    rw [← hq] at HD ⊢
    clear hq
    go_enter Tryz.func164, Tryz.ntmps164
    go_wp2_with fail
    refine HD.out.mono ?_
    rintro e w1 ⟨rfl, hu1⟩
    have HU := Lib.hid hu1
    clear hu1
    go_wp2
    go_ret
    exact ⟨rfl, HU.out⟩

/-- What digit leaves: the true digit; the rest in its place. -/
def DigPost (base g len cap f : Nat) (B : List Nat) (X : Nat) (L : List Nat) (w : World) (e : Ending) (w' : World) : Prop :=
  ∃ L', e = .returned (.int .u64 ((X / wval B : Nat) : Int)) ∧ ARow base g len cap f B.length L L' w w' ∧ seg L' f B.length = X % wval B

set_option maxHeartbeats 3200000 in
theorem digit_any (base g len cap f cp : Nat) (bv : Value) (B L : List Nat) (w : World) (ho : w.ownsRow base 64 1 (.slice (some ⟨g, 0, none⟩) len cap) len (cu64 L)) (hL : L.length = len) (hlt : ∀ d ∈ L, d < 18446744073709551616)
   (hB : Sl w bv (cu64 B)) (hBlt : ∀ d ∈ B, d < 18446744073709551616) (hbg : ∀ k, bv.ownBlock = some k → k ≠ g) (hf : f + B.length + 1 ≤ len) (hB0 : 1 ≤ B.length) (hcp : B.length + 1 ≤ cp) (hlen : len ≤ 1099511627776)
   (hVB : 0 < wval B) (hX : seg L f (B.length + 1) < wval B * 18446744073709551616) :
    Calls Tryz.prog 146 #[.slice (some ⟨g, f, none⟩) (B.length + 1) cp, bv] w (DigPost base g len cap f B (seg L f (B.length + 1)) L w) := by
  obtain ⟨X, hXd⟩ : ∃ X, X = seg L f (B.length + 1) := ⟨_, rfl⟩
  obtain ⟨VB, hV⟩ : ∃ V, V = wval B := ⟨_, rfl⟩
  obtain ⟨lb, hlb⟩ : ∃ k, k = B.length := ⟨_, rfl⟩
  have HTK : Hid (∀ (W : World) (n : Nat), ARow base g len cap f 0 L L w W → n < 18446744073709551616 → Upd [] w W → Calls Tryz.prog 165 #[.slice (some ⟨g, f, none⟩) (B.length + 1) cp, bv, .int .u64 (n : Int)] W (TakeTPost base g len cap f B n L W)) := fun W n h hn hu =>
    takeTimes_any base g len cap f (B.length + 1) cp n bv B L W h.own h.len h.lt (hB.upd0 hu) hBlt (fun _ => hbg) (by omega) (by omega) hn hlen
  have HAD : Hid (∀ (W : World) (L' : List Nat), W.ownsRow base 64 1 (.slice (some ⟨g, 0, none⟩) len cap) len (cu64 L') → L'.length = len → (∀ d ∈ L', d < 18446744073709551616) → Upd [g] w W → Calls Tryz.prog 125 #[.slice (some ⟨g, f, none⟩) (B.length + 1) cp, bv, .int .u64 1] W (AddTPost base g len cap f B 1 L' W)) := fun W L' h1 h2 h3 hu =>
    addTimes_any base g len cap f (B.length + 1) cp 1 bv B L' W h1 h2 h3 (hB.upd hu (fun _ k hk => by simpa using hbg k hk)) hBlt (fun _ => hbg) (by omega) (by omega) (by decide) hlen
  have hB' := hB
  obtain ⟨b, ob, cb', hv, hc⟩ := sl_at hB' (by rw [cu64_nil]; rintro rfl; simp at hB0)
  subst hv
  rw [cu64_length] at hc HTK HAD ⊢
  have kb := hc (lb - 1) (by omega)
  rw [cu64_getD _ _ (by omega)] at kb
  have kt := ho.cellAt (f + lb) (by omega)
  rw [cu64_getD _ _ (by omega)] at kt
  have kl := ho.cellAt (f + (lb - 1)) (by omega)
  rw [cu64_getD _ _ (by omega)] at kl
  have hgb : g ≠ b := fun h => hbg b rfl h.symm
  obtain ⟨top, htop⟩ : ∃ t, t = L.getD (f + lb) 0 := ⟨_, rfl⟩
  obtain ⟨low, hlow⟩ : ∃ t, t = L.getD (f + (lb - 1)) 0 := ⟨_, rfl⟩
  obtain ⟨bt, hbt⟩ : ∃ t, t = B.getD (lb - 1) 0 := ⟨_, rfl⟩
  rw [← htop] at kt
  rw [← hlow] at kl
  rw [← hbt] at kb
  have ltop : top < 18446744073709551616 := by rw [htop]; exact getD_lt hlt _
  have llow : low < 18446744073709551616 := by rw [hlow]; exact getD_lt hlt _
  have lbt : bt < 18446744073709551616 := by rw [hbt]; exact getD_lt hBlt _
  obtain ⟨d0, hd0⟩ : ∃ d, d = if bt ≤ top then 18446744073709551615 else (top * 18446744073709551616 + low) / bt := ⟨_, rfl⟩
  have hd0l : d0 < 18446744073709551616 := by
    rw [hd0]
    split
    · decide
    · rename_i h
      have : (top * 18446744073709551616 + low) / bt < 18446744073709551616 := (Nat.div_lt_iff_lt_mul (by omega)).2 (by
        have := Nat.mul_le_mul_right 18446744073709551616 (show top + 1 ≤ bt by omega)
        omega)
      exact this
  -- the guess is no less than the digit
  have hXs : X = seg L f lb + 18446744073709551616 ^ lb * top := by rw [hXd, ← hlb, seg_succ, htop]
  have hge : X / VB ≤ d0 := by
    rw [hd0]
    obtain ⟨j, hj⟩ : ∃ j, lb = j + 1 := ⟨lb - 1, by omega⟩
    refine guess_ge (M := 18446744073709551616 ^ j) (Nat.pow_pos (by decide)) ?_ ?_ (by rw [hXd, hV]; exact hX) (by rw [hV]; exact hVB)
    · have h1 : seg L f lb = seg L f j + 18446744073709551616 ^ j * low := by rw [hj, seg_succ, hlow, hj]; rfl
      have h2 := seg_lt (L := L) f j hlt
      rw [hXs, h1, hj, Nat.pow_succ]
      generalize 18446744073709551616 ^ j = M at *
      have e1 : (top * 18446744073709551616 + low + 1) * M = top * 18446744073709551616 * M + low * M + M := by rw [Nat.add_mul, Nat.add_mul, Nat.one_mul]
      have e2 : M * 18446744073709551616 * top = top * 18446744073709551616 * M := by rw [Nat.mul_comm M, Nat.mul_comm (_ * M), Nat.mul_assoc]
      have e3 : M * low = low * M := Nat.mul_comm _ _
      omega
    · have h1 : wval B = wval (B.take j) + 18446744073709551616 ^ j * bt := by
        have := wval_take_succ B j
        rw [List.take_of_length_le (by omega)] at this
        rw [this, hbt, hj]; rfl
      rw [hV, h1, Nat.mul_comm]; omega
  have hYB : VB ≤ 18446744073709551616 ^ lb := by rw [hV, hlb]; exact Nat.le_of_lt (wval_lt B hBlt)
  have HGE := Lib.hid hge
  have HYB := Lib.hid hYB
  have HXS := Lib.hid hXs
  have HVB : Hid (0 < VB) := by rw [hV]; exact hVB
  have HVE := Lib.hid hV
  have HA0 : Hid (ARow base g len cap f 0 L L w w) := ARow.start ho hL hlt
  have HGS : Hid (∀ W : World, Calls Tryz.prog 164 #[.int .u64 (top : Int), .int .u64 (low : Int), .int .u64 (bt : Int)] W fun e w' => e = .returned (.int .u64 (d0 : Int)) ∧ Upd [] W w') := fun W => by
    have := guess_any top low bt W ltop llow lbt
    rw [← hd0] at this
    exact this
  have HLEN : Hid (f + lb + 1 ≤ len ∧ L.length = len ∧ B.length = lb) := ⟨by omega, hL, hlb.symm⟩
  have HTOP := Lib.hid htop
  have hbw := World.block_lt_of_cell? w _ kb
  have hgw := World.block_lt_of_cell? w _ kt
  have HCE : Hid (∀ W, Upd [] w W → W.cell? ⟨g, f + lb, none⟩ = some (.int .u64 (top : Int)) ∧ W.cell? ⟨g, f + (lb - 1), none⟩ = some (.int .u64 (low : Int)) ∧ W.cell? ⟨b, ob + (lb - 1), none⟩ = some (.int .u64 (bt : Int)) ∧ Upd [] w W) := fun W h =>
    ⟨(h.cell (p := ⟨g, f + lb, none⟩) hgw (by simp)).trans kt, (h.cell (p := ⟨g, f + (lb - 1), none⟩) hgw (by simp)).trans kl, (h.cell (p := ⟨b, ob + (lb - 1), none⟩) hbw (by simp)).trans kb, h⟩
  rw [← hXd]
  obtain ⟨ln, hln⟩ : ∃ k, k = lb + 1 := ⟨_, rfl⟩
  rw [← hlb, ← hln] at HTK HAD ⊢
  obtain ⟨m1, hm1⟩ : ∃ k, k = lb - 1 := ⟨_, rfl⟩
  rw [← hm1] at kl kb HCE
  have i0 : (0 : Int) ≤ (m1 : Int) := by omega
  have i1 : (lb : Int) < (ln : Int) := by omega
  have i2 : (m1 : Int) < (ln : Int) := by omega
  have i4 : (m1 : Int) < (lb : Int) := by omega
  have i5 : IntKind.i64.wrap ((lb : Int) - 1) = (m1 : Int) := by rw [IntWalk.i64_in _ (by omega)]; omega
  have i6 : (0 : Int) ≤ (lb : Int) := by omega
  have hlb5 : lb ≤ 1099511627776 := by omega
  clear hc ho hL hlt hB hBlt hbg hf hB0 hlen hVB hX hXd hV hlb hd0 hge hXs hYB htop hlow hbt hgw hbw hln hm1
  go_enter Tryz.func146, Tryz.ntmps146
  go_wp2_with fail
  go_region_held3 (fun W => W.cell? ⟨g, f + lb, none⟩ = some (.int .u64 (top : Int)) ∧ W.cell? ⟨g, f + m1, none⟩ = some (.int .u64 (low : Int)) ∧ W.cell? ⟨b, ob + m1, none⟩ = some (.int .u64 (bt : Int)) ∧ Upd [] w W)
    (first
      | exact HCE.out _ huy
      | exact HCE.out _ (Upd.refl _ _).drew)
    (first
      | (go_at_call 164; refine (HGS.out _).mono ?_; rintro e wy ⟨rfl, hu0⟩; have huy : Upd [] w wy := (Upd.refl _ _).drew.trans0 hu0))
  have HUY := Lib.hid huy
  have HA1 : Hid (ARow base g len cap f 0 L L w wy) := ⟨ownsRow_upd HA0.out.own huy (by simp), HA0.out.len, HA0.out.lt, fun _ _ => rfl, huy.mono (by simp)⟩
  have HTW : Hid (∀ W, Upd [] wy W → Calls Tryz.prog 165 #[.slice (some ⟨g, f, none⟩) ln cp, .slice (some ⟨b, ob, none⟩) lb cb', .int .u64 (d0 : Int)] W (TakeTPost base g len cap f B d0 L W)) := fun W h =>
    HTK.out W d0 ⟨ownsRow_upd HA1.out.own h (by simp), HA1.out.len, HA1.out.lt, fun _ _ => rfl, HA1.out.upd.trans h (fun x hx => nomatch hx)⟩ hd0l (huy.trans0 h)
  have ky := (HCE.out wy huy).1
  have HCT : Hid (∀ W W0 L', Upd [] wy W0 → ARow base g len cap f B.length L L' W0 W → W.cell? ⟨g, f + lb, none⟩ = some (.int .u64 (top : Int)) ∧ Upd [g] w W) := fun W W0 L' h0 h => by
    refine ⟨?_, ((huy.trans0 h0).mono (by simp)).trans h.upd (fun x hx => .inl hx)⟩
    have hh := HLEN.out
    rw [h.own.cellAt (f + lb) (by omega), cu64_getD _ _ (by rw [h.len]; omega), h.out _ (.inr (by omega)), ← HTOP.out]
  have HC1 : Hid (∀ W, Upd [] wy W → W.cell? ⟨g, f + lb, none⟩ = some (.int .u64 (top : Int)) ∧ Upd [g] w W) := fun W h => ⟨(HCE.out W (huy.trans0 h)).1, (huy.trans0 h).mono (by simp)⟩
  have HFIN : Hid (∀ W0 W L1 o, Upd [] wy W0 → ARow base g len cap f B.length L L1 W0 W → wval L1 + 18446744073709551616 ^ f * (d0 * wval B) = wval L + 18446744073709551616 ^ (f + B.length) * o → o ≤ d0 →
      ARow base g len cap f B.length L L1 w W ∧ top ≤ o ∧ seg L1 f lb + d0 * VB = X + 18446744073709551616 ^ lb * (o - top)) := fun W0 W L1 o h0 h he ho => by
    obtain ⟨q1, q2, q3⟩ := HLEN.out
    rw [q3] at he
    have h1 := seg_eq (by rw [h.len, q2]) (by omega) (fun j hj => h.out j (by rw [q3]; exact hj)) he
    rw [← HVE.out] at h1
    have h2 : seg L1 f lb + d0 * VB + 18446744073709551616 ^ lb * top = X + 18446744073709551616 ^ lb * o := by rw [HXS.out]; omega
    have h3 := owed_ge HGE.out HVB.out HYB.out h2
    refine ⟨⟨h.own, h.len, h.lt, h.out, ((huy.trans0 h0).mono (by simp)).trans h.upd (fun x hx => .inl hx)⟩, h3, ?_⟩
    obtain ⟨v, rfl⟩ : ∃ v, o = top + v := ⟨o - top, by omega⟩
    rw [Nat.add_sub_cancel_left]
    rw [Nat.mul_add] at h2
    omega
  have hrf : Upd [] wy wy := Upd.refl _ _
  clear huy hu0
  go_wp2_with fail
  go_region_held3 (fun W => W.cell? ⟨g, f + lb, none⟩ = some (.int .u64 (top : Int)) ∧ Upd [g] w W)
    (first
      | exact HCZ.out
      | exact HC1.out _ (Upd.refl _ _).drew
      | exact HC1.out _ hrf)
    (first
      | (go_at_call 165; refine (HTW.out _ (Upd.refl _ _).drew).mono ?_; rintro e wz ⟨o, L1, rfl, hA, hol, heq⟩; have HCZ := Lib.hid (HCT.out _ _ _ (Upd.refl _ _).drew hA); obtain ⟨hA1, hto, hsg⟩ := HFIN.out _ _ _ _ (Upd.refl _ _).drew hA heq hol; obtain ⟨v, hv⟩ : ∃ v, v = o - top := ⟨_, rfl⟩; have hwo : IntKind.u64.wrap ((o : Int) - (top : Int)) = (v : Int) := (by (rw [IntKind.wrap_u64]; omega)); rw [← hv] at hsg; have HR : Hid (ARow base g len cap f B.length L L1 w wz ∧ seg L1 f lb + d0 * VB = X + 18446744073709551616 ^ lb * v ∧ X / VB ≤ d0) := ⟨hA1, hsg, HGE.out⟩; have hv64 : v < 18446744073709551616 := (by omega); have HV64 := Lib.hid hv64; clear hA hA1 hsg heq hto hv hol))
  have HDL := Lib.hid hd0l
  clear hv64 hwo HCZ hrf ky kb kt kl
  go_wp2
  go_loopw [6, 7] (fun v6 v7 wr => ∃ (d v : Nat) (L1 : List Nat), v6 = .int .u64 (d : Int) ∧ v7 = .int .u64 (v : Int) ∧ Hid (ARow base g len cap f B.length L L1 w wr ∧ seg L1 f lb + d * VB = X + 18446744073709551616 ^ lb * v ∧ X / VB ≤ d ∧ d < 18446744073709551616 ∧ v < 18446744073709551616)) (fun v6 _ _ => (intOf v6).toNat)
  case atStart => exact ⟨d0, v, L1, rfl, rfl, HR.out.1, HR.out.2.1, HR.out.2.2, HDL.out, HV64.out⟩
  case round =>
    obtain ⟨d, v', L', rfl, rfl, HI⟩ := hrel
    by_cases hlt : 0 < v'
    · have hgt : decide (0 < v') = true := by simpa using hlt
      have HA := Lib.hid (HAD.out wr L' HI.out.1.own HI.out.1.len HI.out.1.lt HI.out.1.upd)
      have HSTEP : Hid (∀ (c : Nat) (L2 : List Nat) (W : World), ARow base g len cap f B.length L' L2 wr W → c ≤ 1 → wval L2 + 18446744073709551616 ^ (f + B.length) * c = wval L' + 18446744073709551616 ^ f * (1 * wval B) →
          1 ≤ d ∧ c ≤ v' ∧ ARow base g len cap f B.length L L2 w W ∧ seg L2 f lb + (d - 1) * VB = X + 18446744073709551616 ^ lb * (v' - c) ∧ X / VB ≤ d - 1) := fun c L2 W h hc he => by
        obtain ⟨q1, q2, q3⟩ := HLEN.out
        obtain ⟨i1, i2, i3, i4, i5⟩ := HI.out
        rw [Nat.one_mul, ← HVE.out, q3] at he
        have h2 := seg_eq2 (by rw [h.len, i1.len]) (by rw [i1.len]; omega) (fun j hj => h.out j (by rw [q3]; exact hj)) he
        obtain ⟨z1, z2, z3, z4⟩ := owed_step HVB.out (seg_lt f lb i1.lt) hlt hc i2 h2
        refine ⟨z1, z3, ⟨h.own, h.len, h.lt, fun j hj => (h.out j hj).trans (i1.out j hj), i1.upd.trans h.upd (fun x hx => .inl hx)⟩, z4, z2⟩
      clear hlt
      go_wp2_with fail
      refine HA.out.mono ?_
      rintro e w2 ⟨c, L2, rfl, hA2, hc1, heq⟩
      obtain ⟨z1, z2, z3, z4, z5⟩ := HSTEP.out c L2 w2 hA2 hc1 heq
      have i45 := HI.out.2.2.2
      have hwv : IntKind.u64.wrap ((v' : Int) - (c : Int)) = ((v' - c : Nat) : Int) := by rw [IntKind.wrap_u64]; omega
      have hwd : IntKind.u64.wrap ((d : Int) - 1) = ((d - 1 : Nat) : Int) := by rw [IntKind.wrap_u64]; omega
      obtain ⟨vn, hvn⟩ : ∃ k, k = v' - c := ⟨_, rfl⟩
      obtain ⟨dn, hdn⟩ : ∃ k, k = d - 1 := ⟨_, rfl⟩
      rw [← hvn] at hwv z4
      rw [← hdn] at hwd z4 z5
      have HN : Hid (ARow base g len cap f B.length L L2 w w2 ∧ seg L2 f lb + dn * VB = X + 18446744073709551616 ^ lb * vn ∧ X / VB ≤ dn ∧ dn < 18446744073709551616 ∧ vn < 18446744073709551616) := ⟨z3, z4, z5, by omega, by omega⟩
      have HDN : Hid (dn < d) := by show _ < _; omega
      clear hA2 hc1 heq z1 z2 z3 z4 z5 i45 hvn hdn
      go_wp2
      go_roundw
      case rel => exact ⟨dn, vn, L2, rfl, rfl, HN⟩
      case measure => have := HDN.out; simp [intOf]; omega
    · obtain rfl : v' = 0 := by omega
      obtain ⟨i1, i2, i3, i4, i5⟩ := HI.out
      rw [Nat.mul_zero, Nat.add_zero] at i2
      obtain ⟨e1, e2⟩ := owed_none HVB.out i3 i2
      have HF : Hid (d = X / VB ∧ seg L' f lb = X % VB ∧ ARow base g len cap f B.length L L' w wr) := ⟨e1, e2, i1⟩
      clear i1 i2 i3 i4 i5 e1 e2 hlt
      go_wp2
      go_ret
      refine ⟨L', ?_, HF.out.2.2, ?_⟩
      · rw [← HVE.out, ← HF.out.1]; rfl
      · rw [HLEN.out.2.2, ← HVE.out]; exact HF.out.2.1
end Go.Proofs.YtoklmfmoblkfcaaGreatDoor

/- The contract of nat.digit (layer 5), whatever is handed in: it ends; where what is left is less than b times 2^64, the digit is the true one. -/
namespace Go.Proofs.YtoklmfmoblkfcaaGreatDoor
open Go.RowKit Go.Proofs.Tm
set_option linter.unusedVariables false
set_option linter.unusedSimpArgs false
set_option maxRecDepth 20000

theorem u64_sub (a b : Nat) (ha : a < 18446744073709551616) (hb : b < 18446744073709551616) : ∃ v : Nat, IntKind.u64.wrap ((a : Int) - (b : Int)) = (v : Int) ∧ v < 18446744073709551616 ∧ (b ≤ a → v = a - b) := by
  refine ⟨(IntKind.u64.wrap ((a : Int) - (b : Int))).toNat, ?_, ?_, ?_⟩ <;> rw [IntKind.wrap_u64] <;> omega
theorem u64_dec (a : Nat) (ha : a < 18446744073709551616) : ∃ v : Nat, IntKind.u64.wrap ((a : Int) - 1) = (v : Int) ∧ v < 18446744073709551616 ∧ (1 ≤ a → v = a - 1) := by
  refine ⟨(IntKind.u64.wrap ((a : Int) - 1)).toNat, ?_, ?_, ?_⟩ <;> rw [IntKind.wrap_u64] <;> omega

theorem dig_measure {Y s s2 VB c v : Nat} (hs : s < Y) (hs2 : s2 < Y) (hV : 0 < VB) (hv : 0 < v) (hc : c ≤ 1) (h : s2 + Y * c = s + VB) : (v - c) * Y + (Y - s2) < v * Y + (Y - s) := by
  obtain ⟨u, rfl⟩ : ∃ u, v = u + 1 := ⟨v - 1, by omega⟩
  have e : (u + 1) * Y = u * Y + Y := by rw [Nat.add_mul, Nat.one_mul]
  rcases (by omega : c = 0 ∨ c = 1) with rfl | rfl
  · rw [Nat.mul_zero] at h; rw [Nat.sub_zero]; omega
  · rw [Nat.mul_one] at h; rw [Nat.add_sub_cancel]; omega

/-- The words that stand in block g, as numbers. -/
def rowOf (w : World) (g len : Nat) : List Nat := match w.heap[g]? with
  | some (.cells cur _ _) => (cur.toList.take len).map (fun v => (intOf v).toNat)
  | _ => []

theorem map_cu64 (L : List Nat) : (cu64 L).map (fun v => (intOf v).toNat) = L := by
  unfold cu64
  rw [List.map_map]
  conv => rhs; rw [← List.map_id L]
  apply List.map_congr_left
  intro a _
  rfl

theorem rowOf_own {w : World} {base g len cap : Nat} {L : List Nat} (h : w.ownsRow base 64 1 (.slice (some ⟨g, 0, none⟩) len cap) len (cu64 L)) : rowOf w g len = L := by
  rcases h.2 with h2 | ⟨g', cap', cur, hv, hb, hg, _, _, _, hx⟩
  · exact absurd h2.1 (by simp)
  · cases hv
    unfold rowOf
    rw [hg]
    show ((cur.toList.take len).map _) = L
    rw [Nat.mul_one] at hx
    rw [hx]
    exact map_cu64 L

/-- What digit leaves, whatever is handed in. -/
def DigFPost (base g len cap f : Nat) (B : List Nat) (L : List Nat) (w : World) (e : Ending) (w' : World) : Prop :=
  ∃ (d : Nat) (L' : List Nat), e = .returned (.int .u64 (d : Int)) ∧ d < 18446744073709551616 ∧ ARow base g len cap f B.length L L' w w' ∧
    (seg L f (B.length + 1) < wval B * 18446744073709551616 → d = seg L f (B.length + 1) / wval B ∧ seg L' f B.length = seg L f (B.length + 1) % wval B)

set_option maxHeartbeats 3200000 in
theorem digit_free (base g len cap f cp : Nat) (bv : Value) (B L : List Nat) (w : World) (ho : w.ownsRow base 64 1 (.slice (some ⟨g, 0, none⟩) len cap) len (cu64 L)) (hL : L.length = len) (hlt : ∀ d ∈ L, d < 18446744073709551616)
   (hB : Sl w bv (cu64 B)) (hBlt : ∀ d ∈ B, d < 18446744073709551616) (hbg : ∀ k, bv.ownBlock = some k → k ≠ g) (hf : f + B.length + 1 ≤ len) (hB0 : 1 ≤ B.length) (hcp : B.length + 1 ≤ cp) (hlen : len ≤ 1099511627776)
   (hVB : 0 < wval B) :
    Calls Tryz.prog 146 #[.slice (some ⟨g, f, none⟩) (B.length + 1) cp, bv] w (DigFPost base g len cap f B L w) := by
  obtain ⟨X, hXd⟩ : ∃ X, X = seg L f (B.length + 1) := ⟨_, rfl⟩
  obtain ⟨VB, hV⟩ : ∃ V, V = wval B := ⟨_, rfl⟩
  obtain ⟨lb, hlb⟩ : ∃ k, k = B.length := ⟨_, rfl⟩
  have HTK : Hid (∀ (W : World) (n : Nat), ARow base g len cap f 0 L L w W → n < 18446744073709551616 → Upd [] w W → Calls Tryz.prog 165 #[.slice (some ⟨g, f, none⟩) (B.length + 1) cp, bv, .int .u64 (n : Int)] W (TakeTPost base g len cap f B n L W)) := fun W n h hn hu =>
    takeTimes_any base g len cap f (B.length + 1) cp n bv B L W h.own h.len h.lt (hB.upd0 hu) hBlt (fun _ => hbg) (by omega) (by omega) hn hlen
  have HAD : Hid (∀ (W : World) (L' : List Nat), W.ownsRow base 64 1 (.slice (some ⟨g, 0, none⟩) len cap) len (cu64 L') → L'.length = len → (∀ d ∈ L', d < 18446744073709551616) → Upd [g] w W → Calls Tryz.prog 125 #[.slice (some ⟨g, f, none⟩) (B.length + 1) cp, bv, .int .u64 1] W (AddTPost base g len cap f B 1 L' W)) := fun W L' h1 h2 h3 hu =>
    addTimes_any base g len cap f (B.length + 1) cp 1 bv B L' W h1 h2 h3 (hB.upd hu (fun _ k hk => by simpa using hbg k hk)) hBlt (fun _ => hbg) (by omega) (by omega) (by decide) hlen
  have hB' := hB
  obtain ⟨b, ob, cb', hv, hc⟩ := sl_at hB' (by rw [cu64_nil]; rintro rfl; simp at hB0)
  subst hv
  rw [cu64_length] at hc HTK HAD ⊢
  have kb := hc (lb - 1) (by omega)
  rw [cu64_getD _ _ (by omega)] at kb
  have kt := ho.cellAt (f + lb) (by omega)
  rw [cu64_getD _ _ (by omega)] at kt
  have kl := ho.cellAt (f + (lb - 1)) (by omega)
  rw [cu64_getD _ _ (by omega)] at kl
  have hgb : g ≠ b := fun h => hbg b rfl h.symm
  obtain ⟨top, htop⟩ : ∃ t, t = L.getD (f + lb) 0 := ⟨_, rfl⟩
  obtain ⟨low, hlow⟩ : ∃ t, t = L.getD (f + (lb - 1)) 0 := ⟨_, rfl⟩
  obtain ⟨bt, hbt⟩ : ∃ t, t = B.getD (lb - 1) 0 := ⟨_, rfl⟩
  rw [← htop] at kt
  rw [← hlow] at kl
  rw [← hbt] at kb
  have ltop : top < 18446744073709551616 := by rw [htop]; exact getD_lt hlt _
  have llow : low < 18446744073709551616 := by rw [hlow]; exact getD_lt hlt _
  have lbt : bt < 18446744073709551616 := by rw [hbt]; exact getD_lt hBlt _
  obtain ⟨d0, hd0⟩ : ∃ d, d = if bt ≤ top then 18446744073709551615 else (top * 18446744073709551616 + low) / bt := ⟨_, rfl⟩
  have hd0l : d0 < 18446744073709551616 := by
    rw [hd0]
    split
    · decide
    · rename_i h
      have : (top * 18446744073709551616 + low) / bt < 18446744073709551616 := (Nat.div_lt_iff_lt_mul (by omega)).2 (by
        have := Nat.mul_le_mul_right 18446744073709551616 (show top + 1 ≤ bt by omega)
        omega)
      exact this
  -- the guess is no less than the digit
  have hXs : X = seg L f lb + 18446744073709551616 ^ lb * top := by rw [hXd, ← hlb, seg_succ, htop]
  have hge : X < VB * 18446744073709551616 → X / VB ≤ d0 := by
    intro hX
    rw [hd0]
    obtain ⟨j, hj⟩ : ∃ j, lb = j + 1 := ⟨lb - 1, by omega⟩
    refine guess_ge (M := 18446744073709551616 ^ j) (Nat.pow_pos (by decide)) ?_ ?_ hX (by rw [hV]; exact hVB)
    · have h1 : seg L f lb = seg L f j + 18446744073709551616 ^ j * low := by rw [hj, seg_succ, hlow, hj]; rfl
      have h2 := seg_lt (L := L) f j hlt
      rw [hXs, h1, hj, Nat.pow_succ]
      generalize 18446744073709551616 ^ j = M at *
      have e1 : (top * 18446744073709551616 + low + 1) * M = top * 18446744073709551616 * M + low * M + M := by rw [Nat.add_mul, Nat.add_mul, Nat.one_mul]
      have e2 : M * 18446744073709551616 * top = top * 18446744073709551616 * M := by rw [Nat.mul_comm M, Nat.mul_comm (_ * M), Nat.mul_assoc]
      have e3 : M * low = low * M := Nat.mul_comm _ _
      omega
    · have h1 : wval B = wval (B.take j) + 18446744073709551616 ^ j * bt := by
        have := wval_take_succ B j
        rw [List.take_of_length_le (by omega)] at this
        rw [this, hbt, hj]; rfl
      rw [hV, h1, Nat.mul_comm]; omega
  have hYB : VB ≤ 18446744073709551616 ^ lb := by rw [hV, hlb]; exact Nat.le_of_lt (wval_lt B hBlt)
  have HGE := Lib.hid hge
  have HYB := Lib.hid hYB
  have HXS := Lib.hid hXs
  have HVB : Hid (0 < VB) := by rw [hV]; exact hVB
  have HVE := Lib.hid hV
  have HA0 : Hid (ARow base g len cap f 0 L L w w) := ARow.start ho hL hlt
  have HGS : Hid (∀ W : World, Calls Tryz.prog 164 #[.int .u64 (top : Int), .int .u64 (low : Int), .int .u64 (bt : Int)] W fun e w' => e = .returned (.int .u64 (d0 : Int)) ∧ Upd [] W w') := fun W => by
    have := guess_any top low bt W ltop llow lbt
    rw [← hd0] at this
    exact this
  have HLEN : Hid (f + lb + 1 ≤ len ∧ L.length = len ∧ B.length = lb) := ⟨by omega, hL, hlb.symm⟩
  have HTOP := Lib.hid htop
  have hbw := World.block_lt_of_cell? w _ kb
  have hgw := World.block_lt_of_cell? w _ kt
  have HCE : Hid (∀ W, Upd [] w W → W.cell? ⟨g, f + lb, none⟩ = some (.int .u64 (top : Int)) ∧ W.cell? ⟨g, f + (lb - 1), none⟩ = some (.int .u64 (low : Int)) ∧ W.cell? ⟨b, ob + (lb - 1), none⟩ = some (.int .u64 (bt : Int)) ∧ Upd [] w W) := fun W h =>
    ⟨(h.cell (p := ⟨g, f + lb, none⟩) hgw (by simp)).trans kt, (h.cell (p := ⟨g, f + (lb - 1), none⟩) hgw (by simp)).trans kl, (h.cell (p := ⟨b, ob + (lb - 1), none⟩) hbw (by simp)).trans kb, h⟩
  have HXD := Lib.hid hXd
  obtain ⟨ln, hln⟩ : ∃ k, k = lb + 1 := ⟨_, rfl⟩
  rw [← hlb, ← hln] at HTK HAD ⊢
  obtain ⟨m1, hm1⟩ : ∃ k, k = lb - 1 := ⟨_, rfl⟩
  rw [← hm1] at kl kb HCE
  have i0 : (0 : Int) ≤ (m1 : Int) := by omega
  have i1 : (lb : Int) < (ln : Int) := by omega
  have i2 : (m1 : Int) < (ln : Int) := by omega
  have i4 : (m1 : Int) < (lb : Int) := by omega
  have i5 : IntKind.i64.wrap ((lb : Int) - 1) = (m1 : Int) := by rw [IntWalk.i64_in _ (by omega)]; omega
  have i6 : (0 : Int) ≤ (lb : Int) := by omega
  have hlb5 : lb ≤ 1099511627776 := by omega
  clear hc ho hL hlt hB hBlt hbg hf hB0 hlen hVB hXd hV hlb hd0 hge hXs hYB htop hlow hbt hgw hbw hln hm1
  go_enter Tryz.func146, Tryz.ntmps146
  go_wp2_with fail
  go_region_held3 (fun W => W.cell? ⟨g, f + lb, none⟩ = some (.int .u64 (top : Int)) ∧ W.cell? ⟨g, f + m1, none⟩ = some (.int .u64 (low : Int)) ∧ W.cell? ⟨b, ob + m1, none⟩ = some (.int .u64 (bt : Int)) ∧ Upd [] w W)
    (first
      | exact HCE.out _ huy
      | exact HCE.out _ (Upd.refl _ _).drew)
    (first
      | (go_at_call 164; refine (HGS.out _).mono ?_; rintro e wy ⟨rfl, hu0⟩; have huy : Upd [] w wy := (Upd.refl _ _).drew.trans0 hu0))
  have HUY := Lib.hid huy
  have HA1 : Hid (ARow base g len cap f 0 L L w wy) := ⟨ownsRow_upd HA0.out.own huy (by simp), HA0.out.len, HA0.out.lt, fun _ _ => rfl, huy.mono (by simp)⟩
  have HTW : Hid (∀ W, Upd [] wy W → Calls Tryz.prog 165 #[.slice (some ⟨g, f, none⟩) ln cp, .slice (some ⟨b, ob, none⟩) lb cb', .int .u64 (d0 : Int)] W (TakeTPost base g len cap f B d0 L W)) := fun W h =>
    HTK.out W d0 ⟨ownsRow_upd HA1.out.own h (by simp), HA1.out.len, HA1.out.lt, fun _ _ => rfl, HA1.out.upd.trans h (fun x hx => nomatch hx)⟩ hd0l (huy.trans0 h)
  have ky := (HCE.out wy huy).1
  have HCT : Hid (∀ W W0 L', Upd [] wy W0 → ARow base g len cap f B.length L L' W0 W → W.cell? ⟨g, f + lb, none⟩ = some (.int .u64 (top : Int)) ∧ Upd [g] w W) := fun W W0 L' h0 h => by
    refine ⟨?_, ((huy.trans0 h0).mono (by simp)).trans h.upd (fun x hx => .inl hx)⟩
    have hh := HLEN.out
    rw [h.own.cellAt (f + lb) (by omega), cu64_getD _ _ (by rw [h.len]; omega), h.out _ (.inr (by omega)), ← HTOP.out]
  have HC1 : Hid (∀ W, Upd [] wy W → W.cell? ⟨g, f + lb, none⟩ = some (.int .u64 (top : Int)) ∧ Upd [g] w W) := fun W h => ⟨(HCE.out W (huy.trans0 h)).1, (huy.trans0 h).mono (by simp)⟩
  have HFIN : Hid (∀ W0 W L1 o, Upd [] wy W0 → ARow base g len cap f B.length L L1 W0 W → wval L1 + 18446744073709551616 ^ f * (d0 * wval B) = wval L + 18446744073709551616 ^ (f + B.length) * o → o ≤ d0 →
      ARow base g len cap f B.length L L1 w W ∧ (X < VB * 18446744073709551616 → top ≤ o ∧ seg L1 f lb + d0 * VB = X + 18446744073709551616 ^ lb * (o - top) ∧ X / VB ≤ d0)) := fun W0 W L1 o h0 h he ho => by
    obtain ⟨q1, q2, q3⟩ := HLEN.out
    rw [q3] at he
    have h1 := seg_eq (by rw [h.len, q2]) (by omega) (fun j hj => h.out j (by rw [q3]; exact hj)) he
    rw [← HVE.out] at h1
    have h2 : seg L1 f lb + d0 * VB + 18446744073709551616 ^ lb * top = X + 18446744073709551616 ^ lb * o := by rw [HXS.out]; omega
    refine ⟨⟨h.own, h.len, h.lt, h.out, ((huy.trans0 h0).mono (by simp)).trans h.upd (fun x hx => .inl hx)⟩, fun hP => ?_⟩
    have h3 := owed_ge (HGE.out hP) HVB.out HYB.out h2
    refine ⟨h3, ?_, HGE.out hP⟩
    obtain ⟨v, rfl⟩ : ∃ v, o = top + v := ⟨o - top, by omega⟩
    rw [Nat.add_sub_cancel_left]
    rw [Nat.mul_add] at h2
    omega
  have hrf : Upd [] wy wy := Upd.refl _ _
  clear huy hu0
  go_wp2_with fail
  go_region_held3 (fun W => W.cell? ⟨g, f + lb, none⟩ = some (.int .u64 (top : Int)) ∧ Upd [g] w W)
    (first
      | exact HCZ.out
      | exact HC1.out _ (Upd.refl _ _).drew
      | exact HC1.out _ hrf)
    (first
      | (go_at_call 165; refine (HTW.out _ (Upd.refl _ _).drew).mono ?_; rintro e wz ⟨o, L1, rfl, hA, hol, heq⟩; have HCZ := Lib.hid (HCT.out _ _ _ (Upd.refl _ _).drew hA); obtain ⟨hA1, hsg⟩ := HFIN.out _ _ _ _ (Upd.refl _ _).drew hA heq hol; obtain ⟨v, hwo, hv64, hvt⟩ := u64_sub o top (Nat.lt_of_le_of_lt hol hd0l) ltop; have HR : Hid (ARow base g len cap f B.length L L1 w wz ∧ (X < VB * 18446744073709551616 → seg L1 f lb + d0 * VB = X + 18446744073709551616 ^ lb * v ∧ X / VB ≤ d0)) := ⟨hA1, fun hP => ⟨(by obtain ⟨q1, q2, q3⟩ := hsg hP; rw [hvt q1]; exact q2), (hsg hP).2.2⟩⟩; have HV64 := Lib.hid hv64; clear hA hA1 hsg heq hvt hol))
  have HDL := Lib.hid hd0l
  clear hv64 hwo HCZ hrf ky kb kt kl
  go_wp2
  go_loopw [6, 7] (fun v6 v7 wr => ∃ (d v : Nat) (L1 : List Nat), v6 = .int .u64 (d : Int) ∧ v7 = .int .u64 (v : Int) ∧ Hid (ARow base g len cap f B.length L L1 w wr ∧ (X < VB * 18446744073709551616 → seg L1 f lb + d * VB = X + 18446744073709551616 ^ lb * v ∧ X / VB ≤ d) ∧ d < 18446744073709551616 ∧ v < 18446744073709551616)) (fun _ v7 wr => (intOf v7).toNat * 18446744073709551616 ^ lb + (18446744073709551616 ^ lb - seg (rowOf wr g len) f lb))
  case atStart => exact ⟨d0, v, L1, rfl, rfl, HR.out.1, HR.out.2, HDL.out, HV64.out⟩
  case round =>
    obtain ⟨d, v', L', rfl, rfl, HI⟩ := hrel
    by_cases hlt : 0 < v'
    · have hgt : decide (0 < v') = true := by simpa using hlt
      have HA := Lib.hid (HAD.out wr L' HI.out.1.own HI.out.1.len HI.out.1.lt HI.out.1.upd)
      have HSTEP : Hid (∀ (c dn : Nat) (L2 : List Nat) (W : World), (1 ≤ d → dn = d - 1) → ARow base g len cap f B.length L' L2 wr W → c ≤ 1 → wval L2 + 18446744073709551616 ^ (f + B.length) * c = wval L' + 18446744073709551616 ^ f * (1 * wval B) →
          c ≤ v' ∧ ARow base g len cap f B.length L L2 w W ∧ (X < VB * 18446744073709551616 → seg L2 f lb + dn * VB = X + 18446744073709551616 ^ lb * (v' - c) ∧ X / VB ≤ dn) ∧
          (v' - c) * 18446744073709551616 ^ lb + (18446744073709551616 ^ lb - seg (rowOf W g len) f lb) < v' * 18446744073709551616 ^ lb + (18446744073709551616 ^ lb - seg (rowOf wr g len) f lb)) := fun c dn L2 W hdn h hc he => by
        obtain ⟨q1, q2, q3⟩ := HLEN.out
        obtain ⟨i1, i2, i3, i4⟩ := HI.out
        rw [Nat.one_mul, ← HVE.out, q3] at he
        have h2 := seg_eq2 (by rw [h.len, i1.len]) (by rw [i1.len]; omega) (fun j hj => h.out j (by rw [q3]; exact hj)) he
        refine ⟨by omega, ⟨h.own, h.len, h.lt, fun j hj => (h.out j hj).trans (i1.out j hj), i1.upd.trans h.upd (fun x hx => .inl hx)⟩, fun hP => ?_, ?_⟩
        · obtain ⟨z1, z2, z3, z4⟩ := owed_step HVB.out (seg_lt f lb i1.lt) hlt hc (i2 hP).1 h2
          rw [hdn z1]
          exact ⟨z4, z2⟩
        · rw [rowOf_own h.own, rowOf_own i1.own]
          exact dig_measure (seg_lt f lb i1.lt) (seg_lt f lb h.lt) HVB.out hlt hc h2
      clear hlt
      go_wp2_with fail
      refine HA.out.mono ?_
      rintro e w2 ⟨c, L2, rfl, hA2, hc1, heq⟩
      obtain ⟨dn, hwd, hdl, hdn⟩ := u64_dec d HI.out.2.2.1
      obtain ⟨z3, z4, z5, z6⟩ := HSTEP.out c dn L2 w2 hdn hA2 hc1 heq
      have i45 := HI.out.2.2.2
      have hwv : IntKind.u64.wrap ((v' : Int) - (c : Int)) = ((v' - c : Nat) : Int) := by rw [IntKind.wrap_u64]; omega
      obtain ⟨vn, hvn⟩ : ∃ k, k = v' - c := ⟨_, rfl⟩
      rw [← hvn] at hwv z5 z6
      have HN : Hid (ARow base g len cap f B.length L L2 w w2 ∧ (X < VB * 18446744073709551616 → seg L2 f lb + dn * VB = X + 18446744073709551616 ^ lb * vn ∧ X / VB ≤ dn) ∧ dn < 18446744073709551616 ∧ vn < 18446744073709551616) := ⟨z4, z5, hdl, by omega⟩
      have HDN := Lib.hid z6
      clear hA2 hc1 heq z3 z4 z5 z6 i45 hvn hdl hdn
      go_wp2
      go_roundw
      case rel => exact ⟨dn, vn, L2, rfl, rfl, HN⟩
      case measure => exact HDN.out
    · obtain rfl : v' = 0 := by omega
      obtain ⟨i1, i2, i3, i4⟩ := HI.out
      have HF : Hid (d < 18446744073709551616 ∧ ARow base g len cap f B.length L L' w wr ∧ (X < VB * 18446744073709551616 → d = X / VB ∧ seg L' f lb = X % VB)) := ⟨i3, i1, fun hP => by
        have h1 := (i2 hP).1
        rw [Nat.mul_zero, Nat.add_zero] at h1
        exact owed_none HVB.out (i2 hP).2 h1⟩
      clear i1 i2 i3 i4 hlt
      go_wp2
      go_ret
      refine ⟨d, L', rfl, HF.out.1, HF.out.2.1, fun hP => ?_⟩
      rw [← HXD.out, ← HVE.out] at hP ⊢
      rw [HLEN.out.2.2]
      exact HF.out.2.2 hP
end Go.Proofs.YtoklmfmoblkfcaaGreatDoor

/- The contracts of nat.from (layer 5): the 64 bits from a bit on; or as a sum. -/
namespace Go.Proofs.YtoklmfmoblkfcaaGreatDoor
open Go.RowKit Go.Proofs.Tm
set_option linter.unusedVariables false
set_option linter.unusedSimpArgs false
set_option maxRecDepth 20000

theorem hi_mod (b t : Nat) (ht : t ≤ 64) : b * 2 ^ t % 18446744073709551616 = (b % 2 ^ (64 - t)) * 2 ^ t := by
  rw [W_two, show (2 : Nat) ^ 64 = 2 ^ (64 - t) * 2 ^ t by rw [← Nat.pow_add, Nat.sub_add_cancel ht], Nat.mul_mod_mul_right]
theorem or_lowf (a c t : Nat) (ha : a < 2 ^ t) : a ||| c * 2 ^ t = a + c * 2 ^ t := by
  rw [Nat.or_comm, ← Nat.shiftLeft_eq, ← Nat.shiftLeft_add_eq_or_of_lt ha, Nat.add_comm]
/-- Low bits, or others above them. -/
theorem or_parts (a b t : Nat) (ha : a < 2 ^ t) (ht : t ≤ 64) (ha2 : a < 18446744073709551616) :
    bits .or .u64 (a : Int) (IntKind.u64.wrap ((b : Int) * 2 ^ t)) = ((a + b * 2 ^ t % 18446744073709551616 : Nat) : Int) := by
  have hc : (b : Int) * 2 ^ t = ((b * 2 ^ t : Nat) : Int) := by simp
  have e1 : IntKind.u64.wrap ((b : Int) * 2 ^ t) = ((b * 2 ^ t % 18446744073709551616 : Nat) : Int) := by rw [hc, IntKind.wrap_u64]; rfl
  rw [e1]
  have hm : b * 2 ^ t % 18446744073709551616 < 18446744073709551616 := Nat.mod_lt _ (by decide)
  have hs : a ||| b * 2 ^ t % 18446744073709551616 = a + b * 2 ^ t % 18446744073709551616 := by rw [hi_mod b t ht]; exact or_lowf a _ t ha
  have hl : a ||| b * 2 ^ t % 18446744073709551616 < 18446744073709551616 := Nat.or_lt_two_pow (n := 64) ha2 hm
  generalize b * 2 ^ t % 18446744073709551616 = y at *
  show IntKind.u64.wrap ((BitVec.ofInt 64 (a : Int) ||| BitVec.ofInt 64 (y : Int)).toNat : Int) = _
  rw [BitVec.toNat_or, show (BitVec.ofInt 64 (a : Int)).toNat = a by simp; omega, show (BitVec.ofInt 64 (y : Int)).toNat = y by simp; omega, hs]
  rw [hs] at hl
  rw [IntKind.wrap_u64]; omega

set_option maxHeartbeats 800000 in
theorem from_any (u : Value) (n i : Nat) (w : World) (hu : NV w u n) (hi : i < 4611686018427387904) :
    Calls Tryz.prog 143 #[u, .int .i64 (i : Int)] w fun e w' => e = .returned (.int .u64 ((n / 2 ^ i % 18446744073709551616 : Nat) : Int)) ∧ Upd [] w w' := by
  obtain ⟨a, cap, rfl, _, _⟩ := hu.open
  obtain ⟨l, hl⟩ : ∃ l, l = (wds n).length := ⟨_, rfl⟩
  rw [← hl] at hu ⊢
  obtain ⟨q, hq⟩ : ∃ q, q = i / 64 := ⟨_, rfl⟩
  obtain ⟨s, hs⟩ : ∃ s, s = i % 64 := ⟨_, rfl⟩
  have hs64 : s < 64 := by omega
  have hqi : q < 72057594037927936 := by omega
  have i1 : (i : Int) / 64 = (q : Int) := by omega
  have i2 : (i : Int) % 64 = (s : Int) := by omega
  obtain ⟨w1, hw1⟩ : ∃ W, W = w.alloc (.cells #[.slice a l cap] 27) := ⟨_, rfl⟩
  obtain ⟨k, hk⟩ : ∃ k, k = w.heap.size := ⟨_, rfl⟩
  have hu1 : Upd [] w w1 := by rw [hw1]; exact (Upd.refl _ _).alloc _
  have hb1 : w1.heap[k]? = some (.cells #[.slice a l cap] 27 (0, 0)) := by rw [hw1, hk]; exact heap_alloc_new _ _
  have HC : Hid (∀ W, Upd [] w1 W → W.cell? ⟨k, 0, none⟩ = some (.slice a l cap) ∧ Upd [] w1 W) := fun W h => ⟨by rw [cell_of_row W _ 0 _ _ _ ((h.block k (Array.getElem?_eq_some_iff.1 hb1).1 (by simp)).trans hb1)]; rfl, h⟩
  have HWD : Hid (∀ (j : Nat) W, j < 72057594037927937 → Upd [] w1 W → Calls Tryz.prog 87 #[.agg #[.slice a l cap], .int .i64 (j : Int)] W fun e w' => e = .returned (.int .u64 ((n / 18446744073709551616 ^ j % 18446744073709551616 : Nat) : Int)) ∧ Upd [] W w') := fun j W hj h => by
    have := word_any (.agg #[.slice a l cap]) n j W ((hu.upd0 hu1).upd0 h) (by omega)
    rw [wds_getD] at this
    exact this
  have HU1 := Lib.hid hu1
  have HW1 := Lib.hid hw1
  have HK := Lib.hid hk
  have HF : Hid (bits .or .u64 (((n / 18446744073709551616 ^ q % 18446744073709551616 / 2 ^ s : Nat) : Int)) (IntKind.u64.wrap (((n / 18446744073709551616 ^ (q + 1) % 18446744073709551616 : Nat) : Int) * 2 ^ (64 - s))) = ((n / 2 ^ i % 18446744073709551616 : Nat) : Int)) := by
    show _ = _
    rw [or_parts _ _ _ ?_ (by omega) ?_]
    · have h := from_two (n / 18446744073709551616 ^ q) s hs64
      rw [Nat.div_div_eq_div_mul, ← Nat.pow_succ] at h
      rw [h, Nat.div_div_eq_div_mul, W_two, ← Nat.pow_mul, ← Nat.pow_add, show 64 * q + s = i by omega]
    · rw [Nat.div_lt_iff_lt_mul (Nat.two_pow_pos s), ← Nat.pow_add, show 64 - s + s = 64 by omega, ← W_two]
      exact Nat.mod_lt _ (by decide)
    · exact Nat.lt_of_le_of_lt (Nat.div_le_self _ _) (Nat.mod_lt _ (by decide))
  obtain ⟨t, ht⟩ : ∃ t, t = 64 - s := ⟨_, rfl⟩
  have i3 : IntKind.i64.wrap (64 - (s : Int)) = (t : Int) := by rw [IntKind.wrap_i64]; omega
  rw [← ht] at HF
  have HTM : Hid (min t 64 = t) := by show _ = _; omega
  clear hu hl hq hs hw1 hk hu1 hb1 ht
  obtain ⟨x, hx⟩ : ∃ x, x = n / 18446744073709551616 ^ q % 18446744073709551616 := ⟨_, rfl⟩
  obtain ⟨y, hy⟩ : ∃ y, y = n / 18446744073709551616 ^ (q + 1) % 18446744073709551616 := ⟨_, rfl⟩
  have H1 : Hid (∀ W, Upd [] w1 W → Calls Tryz.prog 87 #[.agg #[.slice a l cap], .int .i64 (q : Int)] W fun e w' => e = .returned (.int .u64 (x : Int)) ∧ Upd [] W w') := fun W h => by rw [hx]; exact HWD.out q W (by omega) h
  have H2 : Hid (∀ W, Upd [] w1 W → Calls Tryz.prog 87 #[.agg #[.slice a l cap], .int .i64 (IntKind.i64.wrap ((q : Int) + 1))] W fun e w' => e = .returned (.int .u64 (y : Int)) ∧ Upd [] W w') := fun W h => by
    rw [hy, show IntKind.i64.wrap ((q : Int) + 1) = ((q + 1 : Nat) : Int) by rw [IntKind.wrap_i64]; omega]; exact HWD.out (q + 1) W (by omega) h
  rw [← hx, ← hy] at HF
  clear hx hy HWD
  have hrf : Upd [] w1 w1 := Upd.refl _ _
  go_enter Tryz.func143, Tryz.ntmps143
  go_wp2
  rw [← HW1.out]
  rw [← HK.out]
  go_region_held3 (fun W => W.cell? ⟨k, 0, none⟩ = some (.slice a l cap) ∧ Upd [] w1 W)
    (first
      | exact HC.out _ huy
      | exact HC.out _ huy.drew
      | exact HC.out _ hrf.drew
      | exact HC.out _ hrf)
    (first
      | (go_at_call 87; (with_reducible refine (H1.out _ (by first | exact hrf.drew | exact hrf)).mono ?_); rintro e wy ⟨rfl, hu2⟩; have huy : Upd [] w1 wy := (by first | exact hrf.drew.trans0 hu2 | exact hrf.trans0 hu2); clear hu2)
      | (go_at_call 87; (with_reducible refine (H2.out _ huy).mono ?_); rintro e wz ⟨rfl, hu3⟩; have huz := huy.trans0 hu3; clear huy hu3; have huy := huz; clear huz))
  go_wp2
  go_ret
  exact ⟨congrArg Ending.returned (congrArg (Value.int .u64) (by rw [HTM.out, shr_nat]; exact HF.out)), HU1.out.trans0 huy⟩
end Go.Proofs.YtoklmfmoblkfcaaGreatDoor

/- The contract of nat.up (layer 5): words further up. -/
namespace Go.Proofs.YtoklmfmoblkfcaaGreatDoor
open Go.RowKit Go.Proofs.Tm
set_option linter.unusedVariables false
set_option linter.unusedSimpArgs false
set_option maxRecDepth 20000

theorem up_step (L : List Nat) (f x s : Nat) (hf : f + 1 < L.length) (hz : L.getD (f + 1) 0 = 0) :
    wval ((L.set f (L.getD f 0 + x * 2 ^ s % 18446744073709551616)).set (f + 1) (x * 2 ^ s / 18446744073709551616)) = wval L + 18446744073709551616 ^ f * (x * 2 ^ s) := by
  have h1 := wval_set L f (L.getD f 0 + x * 2 ^ s % 18446744073709551616) (by omega)
  have h2 := wval_set (L.set f (L.getD f 0 + x * 2 ^ s % 18446744073709551616)) (f + 1) (x * 2 ^ s / 18446744073709551616) (by rw [List.length_set]; omega)
  have e : (L.set f (L.getD f 0 + x * 2 ^ s % 18446744073709551616)).getD (f + 1) 0 = 0 := by
    rw [List.getD_eq_getElem?_getD, List.getElem?_set_ne (by omega), ← List.getD_eq_getElem?_getD]; exact hz
  rw [e, Nat.mul_zero, Nat.add_zero] at h2
  rw [h2]
  rw [Nat.mul_add] at h1
  have h3 := Nat.div_add_mod (x * 2 ^ s) 18446744073709551616
  have h4 : 18446744073709551616 ^ f * (x * 2 ^ s) = 18446744073709551616 ^ f * (x * 2 ^ s % 18446744073709551616) + 18446744073709551616 ^ (f + 1) * (x * 2 ^ s / 18446744073709551616) := by
    conv => lhs; rw [← h3]
    rw [Nat.mul_add, ← Nat.mul_assoc, ← Nat.pow_succ, Nat.add_comm]
  rw [h4]
  generalize 18446744073709551616 ^ f * (x * 2 ^ s % 18446744073709551616) = A at *
  generalize 18446744073709551616 ^ (f + 1) * (x * 2 ^ s / 18446744073709551616) = B at *
  generalize 18446744073709551616 ^ f * L.getD f 0 = C at *
  omega
theorem shr_up (x s : Nat) (hs : s < 64) : x / 2 ^ (64 - s) = x * 2 ^ s / 18446744073709551616 := by
  rw [W_two, show (2 : Nat) ^ 64 = 2 ^ (64 - s) * 2 ^ s by rw [← Nat.pow_add, Nat.sub_add_cancel (by omega)], Nat.mul_div_mul_right _ _ (Nat.two_pow_pos s)]

theorem getD_rep (n j : Nat) : (List.replicate n 0).getD j 0 = 0 := by
  rcases Nat.lt_or_ge j n with h | h
  · simp [h]
  · simp [h]
/-- A row of words of the call's own. -/
structure WRow (w : World) (g len : Nat) (L : List Nat) (wr : World) : Prop where
  own : wr.ownsRow w.heap.size 64 1 (.slice (some ⟨g, 0, none⟩) len len) len (cu64 L)
  len : L.length = len
  lt : ∀ d ∈ L, d < 18446744073709551616
  upd : Upd [] w wr
theorem WRow.set {w wr : World} {g len : Nat} {L : List Nat} (h : WRow w g len L wr) (hg : w.heap.size ≤ g) (j d : Nat) (hd : d < 18446744073709551616) : WRow w g len (L.set j d) (wr.setCell ⟨g, j, none⟩ (.int .u64 (d : Int))) := by
  refine ⟨by rw [cu64_set]; exact (h.own.stored j _).1, by rw [List.length_set]; exact h.len, fun e he => ?_, h.upd.setCell (.inr hg) _⟩
  rcases List.mem_or_eq_of_mem_set he with he | rfl
  · exact h.lt e he
  · exact hd
theorem WRow.upd0 {w wr W : World} {g len : Nat} {L : List Nat} (h : WRow w g len L wr) (u : Upd [] wr W) : WRow w g len L W :=
  ⟨ownsRow_upd h.own u (by simp), h.len, h.lt, h.upd.trans0 u⟩
theorem getD_ltw {L : List Nat} (h : ∀ d ∈ L, d < 18446744073709551616) (i : Nat) : L.getD i 0 < 18446744073709551616 := by
  rcases Nat.lt_or_ge i L.length with hi | hi
  · have : L.getD i 0 = L[i] := by simp [hi]
    rw [this]; exact h _ (List.getElem_mem hi)
  · have : L.getD i 0 = 0 := by simp [hi]
    rw [this]; decide

/-- What up answers: a row of its own. -/
def UpPost (ws : List Nat) (n : Nat) (w : World) (e : Ending) (w' : World) : Prop :=
  ∃ g L, e = .returned (.slice (some ⟨g, 0, none⟩) (ws.length + n / 64 + 1) (ws.length + n / 64 + 1)) ∧ w.heap.size ≤ g ∧ WRow w g (ws.length + n / 64 + 1) L w' ∧ wval L = wval ws * 2 ^ n ∧ L.getD (ws.length + n / 64) 0 < 2 ^ (n % 64)

set_option maxHeartbeats 1600000 in
theorem up_any (u : Value) (ws : List Nat) (n : Nat) (w : World) (hu : Sl w u (cu64 ws)) (hW : ∀ d ∈ ws, d < 18446744073709551616) (hl : ws.length ≤ 1099511627776) (hn : n ≤ 1099511627776) :
    Calls Tryz.prog 100 #[u, .int .i64 (n : Int)] w (UpPost ws n w) := by
  have HA := Lib.hid hu
  have HXL := Lib.hid (getD_ltw hW)
  obtain ⟨a, cap, rfl, hlc, hcm, _⟩ := hu
  rw [cu64_length] at *
  unfold maxLen at hcm
  obtain ⟨la, hla⟩ : ∃ la, la = ws.length := ⟨_, rfl⟩
  have HLA := Lib.hid hla
  unfold UpPost
  rw [← hla] at hl hlc HA ⊢
  obtain ⟨q, hq⟩ : ∃ q, q = n / 64 := ⟨_, rfl⟩
  obtain ⟨s, hs⟩ : ∃ s, s = n % 64 := ⟨_, rfl⟩
  have hs64 : s < 64 := by omega
  have hqn : q ≤ 1099511627776 := by omega
  have i1 : (n : Int) / 64 = (q : Int) := by omega
  have i2 : (n : Int) % 64 = (s : Int) := by omega
  have HN : Hid (n = 64 * q + s) := by show _ = _; omega
  rw [← hq, ← hs]
  obtain ⟨len, hlen⟩ : ∃ len, len = la + q + 1 := ⟨_, rfl⟩
  have hsum : (la : Int) + (q : Int) + 1 = (len : Int) := by omega
  have HLEN := Lib.hid hlen
  have hlen2 : len ≤ 2199023255553 := by omega
  rw [← hlen]
  obtain ⟨t, ht⟩ : ∃ t, t = 64 - s := ⟨_, rfl⟩
  have HT := Lib.hid ht
  have i3 : (64 : Int) - (s : Int) = (t : Int) := by omega
  have ht64 : t ≤ 64 := by omega
  clear hW hla hq hs hlen ht
  go_enter Tryz.func100, Tryz.ntmps100
  go_wp2_with (at_make; refine wpList_make_lc _ rfl (.tmp 17) (.tmp 17) 22 rfl 64 (.int .u64 0) 8 Tryz.underlying22 infoU64 rfl .i64 .i64 _ _ len len rfl rfl (by omega) (by omega) (by omega) (by omega) (by unfold maxLen; omega) ?_)
  intro w1 ho hu1 hw1
  obtain ⟨g, hg⟩ : ∃ g, g = w.heap.size := ⟨_, rfl⟩
  have hgw : w.heap.size ≤ g := by omega
  have H0 : Hid (WRow w g len (List.replicate len 0) w1) := ⟨by rw [cu64_zero, hg]; exact ho, by simp, fun d hd => by rw [List.eq_of_mem_replicate hd]; decide, hu1⟩
  rw [← hg]
  clear ho hu1 hw1 hg
  go_wp2
  go_loopw [7, 8, 21] (fun _ _ v21 wr => ∃ (i : Nat) (L : List Nat), i ≤ la ∧ v21 = .int .i64 (i : Int) ∧ Hid (wval L = 18446744073709551616 ^ q * (wval (ws.take i) * 2 ^ s)) ∧ Hid (∀ j, i + q < j → L.getD j 0 = 0) ∧ Hid (L.getD (i + q) 0 < 2 ^ s) ∧ WRow w g len L wr) (fun _ _ v21 _ => la - (intOf v21).toNat)
  case atStart => exact ⟨0, _, by omega, rfl, by show _ = _; rw [wval_zeros _ (fun d hd => List.eq_of_mem_replicate hd)]; simp [wval], fun j hj => getD_rep len j, by show _ < _; rw [getD_rep]; exact Nat.two_pow_pos s, H0.out⟩
  case round =>
    obtain ⟨i, L, hi, rfl, HE, HZ, HLT, hinv⟩ := hrel
    have HI := Lib.hid hinv
    clear hinv H0
    by_cases hlt : i < la
    · obtain ⟨ba, oa, cap', hv, hca⟩ := sl_at HA.out (by rw [cu64_nil]; intro e; have := HLA.out; rw [e] at this; simp at this; omega)
      obtain ⟨rfl, rfl⟩ : a = some ⟨ba, oa, none⟩ ∧ cap = cap' := by simp at hv; exact ⟨hv.1, hv.2.2⟩
      have hcell := hca i (by rw [cu64_length, ← HLA.out]; exact hlt)
      rw [cu64_getD _ _ (by rw [← HLA.out]; exact hlt)] at hcell
      have hlb := World.block_lt_of_cell? w _ hcell
      have hcw : wr.cell? ⟨ba, oa + i, none⟩ = some (.int .u64 ((ws.getD i 0 : Nat) : Int)) := (HI.out.upd.cell (p := ⟨ba, oa + i, none⟩) hlb (by simp)).trans hcell
      obtain ⟨x, hx⟩ : ∃ x, x = ws.getD i 0 := ⟨_, rfl⟩
      have hxl := HXL.out i
      rw [← hx] at hcw hxl
      have HX := Lib.hid hx
      obtain ⟨f, hf⟩ : ∃ f, f = i + q := ⟨_, rfl⟩
      have hfl : f + 1 < len := by have := HLEN.out; omega
      have hcl := HI.out.own.cellAt f (by rw [Nat.mul_one]; omega)
      rw [cu64_getD _ _ (by rw [HI.out.len]; omega)] at hcl
      have hfz := HI.out.own.frozenAt f
      have i4 : (i : Int) + (q : Int) = (f : Int) := by omega
      have i5 : (f : Int) < (len : Int) := by omega
      have i6 : (0 : Int) ≤ (f : Int) := by omega
      have i7 : (f : Int) + 1 < (len : Int) := by omega
      have hyl := getD_ltw HI.out.lt f
      obtain ⟨y, hy⟩ : ∃ y, y = L.getD f 0 := ⟨_, rfl⟩
      rw [← hy] at hcl hyl
      have hys : y < 2 ^ s := by rw [hy, hf]; exact HLT.out
      have HOR := Lib.hid (or_parts y x s hys (by omega) hyl)
      have HF := Lib.hid hf
      have HY := Lib.hid hy
      clear hv hca hcell hx hy hf hlb
      go_wp2
      go_region
      rw [HOR.out]
      obtain ⟨z, hz⟩ : ∃ z, z = y + x * 2 ^ s % 18446744073709551616 := ⟨_, rfl⟩
      obtain ⟨c, hc⟩ : ∃ c, c = x * 2 ^ s / 18446744073709551616 := ⟨_, rfl⟩
      rw [← hz]
      have hzl : z < 18446744073709551616 := by
        rw [hz, hi_mod x s (by omega)]
        have h1 : x % 2 ^ (64 - s) < 2 ^ (64 - s) := Nat.mod_lt _ (Nat.two_pow_pos _)
        have h2 : (x % 2 ^ (64 - s) + 1) * 2 ^ s ≤ 2 ^ (64 - s) * 2 ^ s := Nat.mul_le_mul_right _ h1
        rw [← Nat.pow_add, Nat.sub_add_cancel (by omega), ← W_two, Nat.add_mul, Nat.one_mul] at h2
        omega
      have hcs : c < 2 ^ s := by
        rw [hc, Nat.div_lt_iff_lt_mul (by decide), Nat.mul_comm]
        exact (Nat.mul_lt_mul_left (Nat.two_pow_pos s)).2 hxl
      have hcl2 : c < 18446744073709551616 := Nat.lt_of_lt_of_le hcs (by rw [W_two]; exact Nat.pow_le_pow_right (by decide) (by omega))
      have hz0 : L.getD (f + 1) 0 = 0 := HZ.out (f + 1) (by have := HF.out; omega)
      have hst := up_step L f x s (by rw [HI.out.len]; exact hfl) hz0
      rw [← HY.out, ← hz, ← hc] at hst
      have hsh : (x : Int) / 2 ^ t = (c : Int) := by rw [shr_nat, HT.out, shr_up x s hs64, ← hc]
      have HST : Hid (wval ((L.set f z).set (f + 1) c) = 18446744073709551616 ^ q * (wval (ws.take (i + 1)) * 2 ^ s)) := by
        show _ = _
        rw [hst, HE.out, wval_take_succ, ← HX.out, HF.out, Nat.pow_add, Nat.add_mul, Nat.mul_add]
        congr 1
        rw [Nat.mul_comm (18446744073709551616 ^ i) (18446744073709551616 ^ q), Nat.mul_assoc, Nat.mul_assoc]
      have hr1 := (HI.out.set hgw f z hzl).upd0 ((Upd.refl [] _).drew)
      obtain ⟨W1, hW1⟩ : ∃ W, W = (wr.setCell ⟨g, f, none⟩ (.int .u64 (z : Int))).drew := ⟨_, rfl⟩
      rw [← hW1] at hr1 ⊢
      have HR1 := Lib.hid hr1
      have hcl3 := hr1.own.cellAt (f + 1) (by rw [Nat.mul_one]; exact hfl)
      rw [cu64_getD _ _ (by rw [hr1.len]; exact hfl)] at hcl3
      have hfz3 := hr1.own.frozenAt (f + 1)
      generalize (L.set f z).getD (f + 1) 0 = y2 at *
      have HR2 := Lib.hid (hr1.set hgw (f + 1) c hcl2)
      have HCS := Lib.hid hcs
      have HHI : Hid (∀ j, i + 1 + q < j → ((L.set f z).set (f + 1) c).getD j 0 = 0) := fun j hj => by
        have := HF.out
        rw [List.getD_eq_getElem?_getD, List.getElem?_set_ne (by omega), List.getElem?_set_ne (by omega), ← List.getD_eq_getElem?_getD]
        exact HZ.out j (by omega)
      have HCU : Hid (((L.set f z).set (f + 1) c).getD (i + 1 + q) 0 < 2 ^ s) := by
        show _ < _
        rw [show i + 1 + q = f + 1 by have := HF.out; omega, List.getD_eq_getElem?_getD, List.getElem?_set_self (by rw [hr1.len]; exact hfl)]
        exact hcs
      have i8 : (i : Int) + (q : Int) + 1 = (f : Int) + 1 := by omega
      clear hst hz hc hr1 hW1 hcl hfz hzl hcs hz0
      go_wp2
      exact ⟨⟨i + 1, _, by omega, by go_num, HST, HHI, HCU, HR2.out⟩, by simp [intOf]; omega⟩
    · obtain rfl : i = la := by omega
      have HF : Hid (wval L = wval ws * 2 ^ n) := by
        show _ = _
        rw [HE.out, List.take_of_length_le (by rw [← HLA.out]; exact Nat.le_refl _), HN.out, Nat.pow_add, Nat.pow_mul, ← W_two]
        rw [Nat.mul_comm (18446744073709551616 ^ q), Nat.mul_assoc, Nat.mul_comm (2 ^ s)]
      go_wp2
      go_ret
      exact ⟨g, L, rfl, hgw, HI.out, HF.out, HLT.out⟩
end Go.Proofs.YtoklmfmoblkfcaaGreatDoor

/- How many bits a number has, up to its highest one. -/
namespace Go.Proofs.Tm
open Go
set_option linter.unusedVariables false

/-- The bits of n, up to the highest one. -/
def nbits (n : Nat) : Nat := if n = 0 then 0 else Nat.log2 n + 1

theorem nbits_zero : nbits 0 = 0 := rfl
theorem nbits_of {n k : Nat} (h1 : 2 ^ k ≤ n) (h2 : n < 2 ^ (k + 1)) : nbits n = k + 1 := by
  have h0 : n ≠ 0 := by have := Nat.two_pow_pos k; omega
  unfold nbits
  rw [if_neg h0, (Nat.log2_eq_iff h0).2 ⟨h1, h2⟩]
theorem nbits_spec {n : Nat} (h0 : n ≠ 0) : ∃ k, nbits n = k + 1 ∧ 2 ^ k ≤ n ∧ n < 2 ^ (k + 1) := by
  have h := (Nat.log2_eq_iff (k := Nat.log2 n) h0).1 rfl
  exact ⟨Nat.log2 n, by unfold nbits; rw [if_neg h0], h.1, h.2⟩
theorem nbits_le_iff (n k : Nat) : nbits n ≤ k ↔ n < 2 ^ k := by
  by_cases h0 : n = 0
  · subst h0; simp [nbits_zero, Nat.two_pow_pos]
  · obtain ⟨j, hj, h1, h2⟩ := nbits_spec h0
    rw [hj]
    constructor
    · intro h; exact Nat.lt_of_lt_of_le h2 (Nat.pow_le_pow_right (by decide) h)
    · intro h
      exact (Nat.pow_lt_pow_iff_right (a := 2) (by decide)).1 (Nat.lt_of_le_of_lt h1 h)
theorem nbits_mono {m n : Nat} (h : m ≤ n) : nbits m ≤ nbits n := (nbits_le_iff _ _).2 (Nat.lt_of_le_of_lt h ((nbits_le_iff n _).1 (Nat.le_refl _)))
theorem nbits_lt (n : Nat) : n < 2 ^ nbits n := (nbits_le_iff n _).1 (Nat.le_refl _)
theorem nbits_add (a b : Nat) : nbits (a + b) ≤ max (nbits a) (nbits b) + 1 := by
  rw [nbits_le_iff, Nat.pow_succ]
  have h1 := Nat.lt_of_lt_of_le (nbits_lt a) (Nat.pow_le_pow_right (n := 2) (by decide) (Nat.le_max_left (nbits a) (nbits b)))
  have h2 := Nat.lt_of_lt_of_le (nbits_lt b) (Nat.pow_le_pow_right (n := 2) (by decide) (Nat.le_max_right (nbits a) (nbits b)))
  omega
theorem nbits_pos {n : Nat} (h : n ≠ 0) : 0 < nbits n := by obtain ⟨k, hk, _⟩ := nbits_spec h; omega
theorem nbits_eq_zero {n : Nat} : nbits n = 0 ↔ n = 0 := ⟨fun h => by rcases Nat.eq_zero_or_pos n with e | e; exact e; have := nbits_pos (n := n) (by omega); omega, fun h => by rw [h]; rfl⟩
theorem nbits_le_one {n : Nat} : nbits n ≤ 1 ↔ n ≤ 1 := by rw [nbits_le_iff]; omega

theorem bitLen_nbits (x : Nat) (h0 : x ≠ 0) (h : x < 18446744073709551616) : Lib.bitLen x = nbits x := by
  obtain ⟨h1, h2, h3⟩ := Lib.bitLenAux_bounds 64 x (by simpa using h) h0
  have e : Lib.bitLen x = Lib.bitLenAux 64 x := rfl
  rw [e, nbits_of (k := Lib.bitLenAux 64 x - 1) h2 (by rw [show Lib.bitLenAux 64 x - 1 + 1 = Lib.bitLenAux 64 x by omega]; exact h3)]
  omega

/-- The highest word: it isn't 0, and tells the bits. -/
theorem nbits_words (n : Nat) (h0 : n ≠ 0) : (wds n).getD ((wds n).length - 1) 0 ≠ 0 ∧ (wds n).getD ((wds n).length - 1) 0 < 18446744073709551616 ∧ ((wds n).length - 1) * 64 + Lib.bitLen ((wds n).getD ((wds n).length - 1) 0) = nbits n := by
  have hl : (wds n).length ≠ 0 := fun e => h0 (wds_length_zero.1 e)
  obtain ⟨k, hk⟩ : ∃ k, (wds n).length = k + 1 := ⟨(wds n).length - 1, by omega⟩
  rw [hk, Nat.add_sub_cancel, wds_getD]
  have hlo : 18446744073709551616 ^ k ≤ n := by
    have : ¬ (wds n).length ≤ k := by omega
    rw [wds_length_le_iff] at this
    omega
  have hhi : n < 18446744073709551616 ^ (k + 1) := (wds_length_le_iff n (k + 1)).1 (by omega)
  have hp : 0 < 18446744073709551616 ^ k := Nat.pow_pos (by decide)
  have hq : n / 18446744073709551616 ^ k < 18446744073709551616 := by rw [Nat.div_lt_iff_lt_mul hp]; rw [Nat.pow_succ, Nat.mul_comm] at hhi; exact hhi
  rw [Nat.mod_eq_of_lt hq]
  have hx0 : n / 18446744073709551616 ^ k ≠ 0 := by
    intro e
    rw [Nat.div_eq_zero_iff] at e
    omega
  refine ⟨hx0, hq, ?_⟩
  rw [bitLen_nbits _ hx0 hq]
  obtain ⟨j, hj, h1, h2⟩ := nbits_spec hx0
  rw [hj]
  have e64 : (18446744073709551616 : Nat) ^ k = 2 ^ (k * 64) := by rw [Nat.mul_comm, Nat.pow_mul]
  rw [e64] at h1 h2
  have hp2 : 0 < 2 ^ (k * 64) := Nat.two_pow_pos _
  rw [show k * 64 + (j + 1) = (k * 64 + j) + 1 by omega]
  symm
  refine nbits_of ?_ ?_
  · rw [Nat.pow_add, Nat.mul_comm]
    exact (Nat.le_div_iff_mul_le hp2).1 h1
  · rw [show k * 64 + j + 1 = j + 1 + k * 64 by omega, Nat.pow_add]
    exact (Nat.div_lt_iff_lt_mul hp2).1 h2
end Go.Proofs.Tm

/- The contract of nat.Bits. -/
namespace Go.Proofs.YtoklmfmoblkfcaaGreatDoor
open Go.RowKit Go.Proofs.Tm
set_option linter.unusedVariables false
set_option maxRecDepth 20000

set_option maxHeartbeats 800000 in
theorem bits_any (v : Value) (n : Nat) (w : World) (h : NV w v n) (hn : (wds n).length ≤ 1099511627776) :
    Calls Tryz.prog 126 #[v] w fun e w' => e = .returned (.int .i64 (nbits n : Int)) ∧ Upd [] w w' := by
  obtain ⟨a, cap, rfl, hl, hm⟩ := h.open
  unfold maxLen at hm
  by_cases h0 : n = 0
  · subst h0
    rw [wds_zero]
    clear h
    go_enter Tryz.func126, Tryz.ntmps126
    go_wp2
    go_ret
    exact ⟨rfl, (Upd.refl _ _).alloc _⟩
  · obtain ⟨hx0, hx1, hx2⟩ := nbits_words n h0
    have hlen : (wds n).length ≠ 0 := fun e => h0 (wds_length_zero.1 e)
    obtain ⟨k, hk⟩ : ∃ k, (wds n).length = k + 1 := ⟨(wds n).length - 1, by omega⟩
    rw [hk, Nat.add_sub_cancel] at hx0 hx1 hx2
    obtain ⟨b, o, rfl, hb, hc⟩ := h.at k (by omega)
    rw [hk] at hl hn h ⊢
    have hbl : nbits n ≤ 70368744177664 := by
      have := Lib.bitLenAux_le 64 ((wds n).getD k 0) 64 (by simpa using hx1)
      have e : Lib.bitLen ((wds n).getD k 0) = Lib.bitLenAux 64 ((wds n).getD k 0) := rfl
      omega
    have hcell : (w.alloc (.cells #[.slice (some ⟨b, o, none⟩) (k + 1) cap] 27)).cell? ⟨b, o + k, none⟩ = some (.int .u64 (((wds n).getD k 0 : Nat) : Int)) := (Below.cell ((Below.refl _ w).alloc (Nat.le_refl _) _) (p := ⟨b, o + k, none⟩) hb).trans hc
    have HX1 := Lib.hid hx1
    have HX2 := Lib.hid hx2
    clear hc hx0 hx2 hlen
    generalize (wds n).getD k 0 = x at *
    have i1 : (((k + 1 : Nat) : Int) == 0) = false := by simp; omega
    have i2 : ((k + 1 : Nat) : Int) - 1 = (k : Int) := by omega
    have i3 : IntKind.i64.wrap (((k + 1 : Nat) : Int) - 1) = (k : Int) := by rw [IntKind.wrap_i64]; omega
    have i4 : IntKind.i64.wrap ((k : Int) * 64) = ((k * 64 : Nat) : Int) := by rw [IntKind.wrap_i64]; omega
    go_enter Tryz.func126, Tryz.ntmps126
    go_wp2_with (go_at_call 106; refine (Tryz.bits_Len64 (x : Int) _ (by omega) (by have := HX1.out; omega)).mono ?_; rintro e w' ⟨rfl, rfl⟩)
    go_ret
    refine ⟨?_, (Upd.refl _ _).alloc _⟩
    exact ret_int (by have := HX2.out; show wrap64 _ = _; unfold wrap64; omega)
end Go.Proofs.YtoklmfmoblkfcaaGreatDoor
