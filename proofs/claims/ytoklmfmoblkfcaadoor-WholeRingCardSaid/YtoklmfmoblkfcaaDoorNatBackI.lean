/- slices.Backward over words that the rounds write: the iterator's contract where the place alone is looked at. -/
import Derived.Test.YtoklmfmoblkfcaaDoorAa
namespace Go.Proofs.YtoklmfmoblkfcaaDoor
open Go.RowKit Go.Proofs.Tm Go.Shelf
set_option linter.unusedVariables false
set_option maxRecDepth 20000
attribute [local go_sem] Oper.semAt_some

/-- What yield is handed: the place, and what stands there. -/
def encI (n : Nat) (x : Fin n × Int) : Array Value := #[Value.int .i64 ((n - 1 - x.1.val : Nat) : Int), Value.int .u64 x.2]

/-- What a round keeps: of the blocks below m those of which Q says so; block b stays words. -/
structure Ki (Q : Nat → Prop) (m b off n : Nat) (w w' : World) : Prop where
  size : w.heap.size ≤ w'.heap.size
  block : ∀ k, k < m → Q k → w'.heap[k]? = w.heap[k]?
  words : (∀ j, j < n → ∃ z : Int, w.cell? ⟨b, off + j, none⟩ = some (.int .u64 z)) → ∀ j, j < n → ∃ z : Int, w'.cell? ⟨b, off + j, none⟩ = some (.int .u64 z)
theorem Ki.refl (Q : Nat → Prop) (m b off n : Nat) (w : World) : Ki Q m b off n w w := ⟨Nat.le_refl _, fun _ _ _ => rfl, fun h => h⟩
theorem Ki.trans {Q : Nat → Prop} {m b off n : Nat} {A B C : World} (h : Ki Q m b off n A B) (k : Ki Q m b off n B C) : Ki Q m b off n A C := ⟨Nat.le_trans h.size k.size, fun i h1 h2 => (k.block i h1 h2).trans (h.block i h1 h2), fun h3 => k.words (h.words h3)⟩
theorem Ki.put {Q : Nat → Prop} {b off n : Nat} {w : World} (hb : b < w.heap.size) (W : World) (l : Nat) (o o' : Obj) (hl : w.heap.size ≤ l) (h : W.heap[l]? = some o) (_ : o.isCells = false) (_ : o.isWalk = false) : Ki Q w.heap.size b off n W (W.putObj l o') :=
  ⟨by simp, fun k hk _ => World.putObj_heap_other (by omega), fun h j hj => by
    obtain ⟨z, hz⟩ := h j hj
    exact ⟨z, (World.cell?_of_block (a := ⟨b, off + j, none⟩) (w := W) (World.putObj_heap_other (by show b ≠ l; omega))).trans hz⟩⟩
theorem Ki.cell {Q : Nat → Prop} {m b off n : Nat} {A B : World} (h : Ki Q m b off n A B) {p : Addr} (hp : p.block < m) (hn : Q p.block) : B.cell? p = A.cell? p := World.cell?_of_block (w := A) (h.block p.block hp hn)

set_option maxRecDepth 100000 in
set_option maxHeartbeats 2000000 in
theorem back1i_in (Q : Nat → Prop) (n : Nat) (hn : 1 ≤ n) (l Bs n₀ b off cap len : Nat) (hreach : len ≤ 1099511627776) (hBS : Q Bs) (J Jx : List (Fin len × Int) → World → Prop)
    (hY : ∀ pre x W, J pre W → pre.length < len → YieldAt Fence.wide (n - 1) Tryd.prog l (encI len x) W fun e W' =>
      (e = .returned (.bool true) ∧ J (pre ++ [x]) W' ∧ Ki Q n₀ b off len W W') ∨ (e = .returned (.bool false) ∧ Jx (pre ++ [x]) W'))
    (W : World) (hBs : W.cell? ⟨Bs, 0, none⟩ = some (.slice (some ⟨b, off, none⟩) len cap)) (hBn : Bs < n₀) (hc : ∀ j, j < len → ∃ z : Int, W.cell? ⟨b, off + j, none⟩ = some (.int .u64 z)) (h0 : J [] W) :
    CallsIn Fence.wide n Tryd.prog 73 #[.func (.yield l) #[] #[], .pointer (some ⟨Bs, 0, none⟩)] W fun e W' => (∃ v, e = .returned v) ∧
      ((∃ ys : List (Fin len × Int), ys.map Prod.fst = upto len len ∧ J ys W') ∨ (∃ pre : List (Fin len × Int), (∃ k, k ≤ len ∧ pre.map Prod.fst = upto len k) ∧ Jx pre W')) := by
  refine callsIn_of_wp Tryd.func73 rfl trivial ?_ rfl
  simp only [Tryd.ntmps73, List.size_toArray, List.length_cons, List.length_nil, Nat.reduceAdd, Nat.reduceSub, Array.replicate_succ, Array.replicate_zero, List.push_toArray, List.append_toArray, List.nil_append, List.cons_append]
  have HC := Lib.hid hc
  clear hc
  gi_wp2
  gi_loopw [3] (fun i wr => ∃ (k : Nat) (pre : List (Fin len × Int)), k ≤ len ∧ i = .int .i64 ((len : Int) - 1 - k) ∧ Hid (pre.map Prod.fst = upto len k) ∧ J pre wr ∧ Ki Q n₀ b off len W wr)
    (fun i _ => (intOf i + 1).toNat)
  case atStart => exact ⟨0, [], Nat.zero_le _, by simp, by show _ = _; simp [upto], h0, Ki.refl _ _ _ _ _ _⟩
  case round =>
    obtain ⟨k, pre, hk, rfl, HP, hJs, hnx⟩ := hrel
    have hbx : wr.cell? ⟨Bs, 0, none⟩ = some (.slice (some ⟨b, off, none⟩) len cap) := (hnx.cell (p := ⟨Bs, 0, none⟩) hBn hBS).trans hBs
    have hpl : pre.length = k := by have := congrArg List.length HP.out; rw [upto_length hk] at this; simpa using this
    by_cases hlt : k < len
    · obtain ⟨j, hj⟩ : ∃ j, j = len - 1 - k := ⟨_, rfl⟩
      obtain ⟨z, hcx'⟩ := hnx.words HC.out j (by omega)
      obtain ⟨fn, tmps, assign, body, hy, hR⟩ := hY pre (⟨k, by omega⟩, z) wr hJs (by omega)
      have hdp : upto len (k + 1) = upto len k ++ [⟨k, by omega⟩] := upto_succ (by omega)
      simp only [encI, ← hj] at hy
      have hjc : (len : Int) - 1 - k = (j : Int) := by omega
      rw [hjc]
      have hjl : j < len := by omega
      have HJ := Lib.hid hj
      have HD : Hid ((pre ++ [((⟨k, by omega⟩ : Fin len), z)]).map Prod.fst = upto len (k + 1)) := by show _ = _; rw [List.map_append, HP.out, hdp]; rfl
      clear hj hdp hBs hjc hpl
      gi_wp2
      refine hR.mono ?_
      rintro e W3 (⟨rfl, hJ3, hk3⟩ | ⟨rfl, hJx3⟩)
      · gi_wp2
        go_roundw
        case rel => refine ⟨k + 1, _, by omega, congrArg (Value.int IntKind.i64) ?_, HD, hJ3, hnx.trans hk3⟩; have := HJ.out; omega
        case measure => simp [intOf]
      · gi_wp2
        refine bodyPost_ret (results_none rfl _ _ _) rfl ?_
        exact ⟨⟨_, rfl⟩, .inr ⟨_, ⟨k + 1, by omega, HD.out⟩, hJx3⟩⟩
    · have hk' : k = len := by omega
      have hm1 : (len : Int) - 1 - k = -1 := by omega
      rw [hk'] at HP
      clear hk' hpl
      rw [hm1]
      gi_wp2
      go_end0
      exact ⟨⟨_, rfl⟩, .inl ⟨_, HP.out, hJs⟩⟩

/-- The value that it hands back goes through all the places from above, or a part of the way. -/
theorem backi_stops (Q : Nat → Prop) (n : Nat) (hn : 1 ≤ n) (Bs n₀ b off cap len : Nat) (hreach : len ≤ 1099511627776) (w : World) (hBs : Bs < n₀) (hBS : Q Bs) (hn₀ : n₀ ≤ w.heap.size)
    (hc : w.cell? ⟨Bs, 0, none⟩ = some (.slice (some ⟨b, off, none⟩) len cap)) (hb : b < n₀) (hI : ∀ j, j < len → ∃ z : Int, w.cell? ⟨b, off + j, none⟩ = some (.int .u64 z)) :
    SeqStopsK Fence.wide n Tryd.prog 73 #[.pointer (some ⟨Bs, 0, none⟩)] (encI len) (Ki Q n₀ b off len) (fun ys => ys.map Prod.fst = upto len len)
      (fun pre => ∃ k, k ≤ len ∧ pre.map Prod.fst = upto len k) len w := fun l J Jx W hW _ _ hY h0 => by
  have hc' := (hW.cell (p := ⟨Bs, 0, none⟩) (by show Bs < _; omega)).trans hc
  refine back1i_in Q n hn l Bs n₀ b off cap len hreach hBS J Jx hY W hc' hBs (fun j hj => ?_) h0
  obtain ⟨z, hz⟩ := hI j hj
  exact ⟨z, (hW.cell (p := ⟨b, off + j, none⟩) (by show b < _; omega)).trans hz⟩
end Go.Proofs.YtoklmfmoblkfcaaDoor
