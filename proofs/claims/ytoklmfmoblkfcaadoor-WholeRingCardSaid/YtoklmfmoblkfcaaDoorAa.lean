/- Texts that belong together, joined: Base Base2 Base3 NatWds NatWds2 NatB Shelf NatFmt NatLaid Open2 Open4 Open3 Open5 RowK Box1 NatBox NatBW NatBack NatCmp WholeZ. -/
import Derived.WalkKit
import Derived.Deep.QuietTactic
import Derived.BigQuiet
import Derived.StillTailTactics
import Derived.Lib.Hide
import Derived.Laws.CopyOwn
import Derived.OpenShut
import Derived.Laws.Rows
import Derived.Test.YtoklmfmoblkfcaaDoorProg
import Derived.Laws.BitsAllLaws
import Derived.BigRegion
import Derived.Deep.RegionHeld3
import Derived.Lib.SliceRun
import Derived.Shelf.Strings.Builder1
import Derived.Shelf.Strings.Builder2
import Derived.Shelf.Small.Bits
import Derived.Shelf.Small.Wraps
import Derived.Shelf.Strings.BuilderF
import Derived.Shelf.Strings.BuilderK
import Derived.Shelf.Strings.Builder2Cap
import Derived.Shelf.Strconv.Itoa0
import Derived.Shelf.Strconv.Itoa1
import Derived.Shelf.LaysM
import Derived.Shelf.Strconv.Itoa2
import Derived.Shelf.Strconv.Itoa3
import Derived.Shelf.Strconv.Clone
import Derived.Shelf.Strconv.SyntaxError
import Derived.Shelf.LaysC
import Derived.Shelf.Strconv.ToError
import Derived.Shelf.Strconv.Lower
import Derived.Shelf.Strconv.ParseUint10
import Derived.Shelf.Strconv.ParseUint10Empty
import Derived.Shelf.Strconv.ParseUint10Any
import Derived.Shelf.Strconv.RangeError
import Derived.Shelf.Strconv.ToErrorRange
import Derived.Shelf.Strconv.ParseUintEmpty
import Derived.Shelf.Strconv.ParseUint10b64
import Derived.Shelf.Strconv.ParseUint10b32
import Derived.Shelf.Strconv.ParseUint10b16
import Derived.Shelf.Strconv.ParseUint10b8
import Derived.Shelf.Strconv.ParseUint10At
import Derived.Ground.MpProg
import Derived.Shelf.Pu.ParseUintPublic10
import Derived.Shelf.Pu.ErrVarParseUint
import Derived.Shelf.Strings.Prefix
import Derived.Shelf.Bits.Mul64
import Derived.Shelf.Strings.Repeat
import Derived.Shelf.Strings.BuilderCap
import Derived.Ground.SlgnProg
import Derived.Shelf.SlicesE.Clone
import Derived.Lib.AppendIntMem
import Derived.Test.YtoklmfmoblkfcaaDoorRows
import Derived.LaidMore
import Derived.Lib.LaidTab
import Derived.Stop.Joined
import Derived.MakeChecks
import Derived.Deep.Grids
import Derived.OneCell
import Derived.RangeFuncNested
import Derived.RangeFuncBound
import Derived.RangeFuncCalls
import Derived.RangeFuncLeaves
import Derived.RangeFuncBox
import Derived.Shelf.Abstract
import Derived.Shelf.RegionOpen
import Derived.OwnWalkIn
import Derived.TacticsInMore
import Derived.LoopNIn
import Derived.LoopIn
/- Plain words on memory for the walks: what a call may change ('Upd'), slices that read as lists ('Sl'), append onto a row of the call's own from any such slice. Imports nothing of the program. -/
namespace Go.Proofs.Tm
open Go.RowKit
set_option linter.unusedVariables false
set_option maxRecDepth 20000

theorem ret_int {k : IntKind} {a b : Int} (h : a = b) : Ending.returned (.int k a) = .returned (.int k b) := by rw [h]
theorem ret_bool {a b : Bool} (h : a = b) : Ending.returned (.bool a) = .returned (.bool b) := by rw [h]

/-- From w to w' only the old blocks in S may have turned; new blocks may have come. -/
structure Upd (S : List Nat) (w w' : World) : Prop where
  os : w'.os = w.os
  tape : w'.tape = w.tape
  output : w'.output = w.output
  size : w.heap.size ≤ w'.heap.size
  block : ∀ k, k < w.heap.size → k ∉ S → w'.heap[k]? = w.heap[k]?

theorem Upd.refl (S : List Nat) (w : World) : Upd S w w := ⟨rfl, rfl, rfl, Nat.le_refl _, fun _ _ _ => rfl⟩

theorem Upd.trans {S T : List Nat} {a b c : World} (h : Upd S a b) (k : Upd T b c) (hT : ∀ x, x ∈ T → x ∈ S ∨ a.heap.size ≤ x) : Upd S a c :=
  ⟨k.os.trans h.os, k.tape.trans h.tape, k.output.trans h.output, Nat.le_trans h.size k.size, fun i hi hn =>
    (k.block i (Nat.lt_of_lt_of_le hi h.size) (fun hm => by rcases hT i hm with h1 | h1; exact hn h1; omega)).trans (h.block i hi hn)⟩

theorem Upd.trans0 {a b c : World} (h : Upd [] a b) (k : Upd [] b c) : Upd [] a c := h.trans k (fun _ hx => nomatch hx)

theorem Upd.mono {S T : List Nat} {a b : World} (h : Upd S a b) (hT : ∀ x, x ∈ S → x ∈ T) : Upd T a b :=
  ⟨h.os, h.tape, h.output, h.size, fun i hi hn => h.block i hi (fun hm => hn (hT i hm))⟩

/-- Blocks that were not there yet need not be named. -/
theorem Upd.narrow {S T : List Nat} {a b : World} (h : Upd S a b) (hT : ∀ x, x ∈ S → x ∈ T ∨ a.heap.size ≤ x) : Upd T a b :=
  ⟨h.os, h.tape, h.output, h.size, fun i hi hn => h.block i hi (fun hm => by rcases hT i hm with h1 | h1; exact hn h1; omega)⟩

theorem Upd.drew {S : List Nat} {a w : World} (h : Upd S a w) : Upd S a w.drew := ⟨h.os, h.tape, h.output, h.size, h.block⟩
theorem Upd.drewN {S : List Nat} {a w : World} (h : Upd S a w) (n : Nat) : Upd S a (w.drewN n) := ⟨h.os, h.tape, h.output, h.size, h.block⟩

theorem Upd.alloc {S : List Nat} {a w : World} (h : Upd S a w) (o : Obj) : Upd S a (w.alloc o) :=
  ⟨h.os, h.tape, h.output, Nat.le_trans h.size (by simp), fun k hk hn => (Below.heap_alloc _ _ _ (Nat.lt_of_lt_of_le hk h.size)).trans (h.block k hk hn)⟩

theorem Upd.setCell {S : List Nat} {a w : World} (h : Upd S a w) {p : Addr} (hp : p.block ∈ S ∨ a.heap.size ≤ p.block) (u : Value) : Upd S a (w.setCell p u) :=
  ⟨h.os, h.tape, h.output, by simpa [World.setCell] using h.size, fun k hk hn => (Below.heap_setCell _ _ _ _ (fun e => by subst e; rcases hp with h1 | h1; exact hn h1; omega)).trans (h.block k hk hn)⟩

theorem Upd.grown {S : List Nat} {a w w' : World} {row : Option Nat} (h : Upd S a w) (hg : w.grownBy w' row) (hr : ∀ k, row = some k → k ∈ S ∨ a.heap.size ≤ k) : Upd S a w' :=
  ⟨hg.os.trans h.os, hg.tape.trans h.tape, hg.output.trans h.output, Nat.le_trans h.size hg.size, fun k hk hn =>
    (hg.block k (Nat.lt_of_lt_of_le hk h.size) (fun e => by rcases hr k e.symm with h1 | h1; exact hn h1; omega)).trans (h.block k hk hn)⟩

theorem Upd.of_grown {w w' : World} {row : Option Nat} (hg : w.grownBy w' row) : Upd row.toList w w' :=
  (Upd.refl _ w).grown hg (fun k hk => by subst hk; simp)

theorem Upd.below {w w' : World} (h : Upd [] w w') : Below w.heap.size w w' := ⟨h.os, h.tape, h.output, h.size, fun k hk => h.block k hk (by simp)⟩

theorem Upd.of_below {w w' : World} (h : Below w.heap.size w w') : Upd [] w w' := ⟨h.os, h.tape, h.output, h.size, fun k hk _ => h.block k hk⟩

theorem Upd.cell {S : List Nat} {w w' : World} (h : Upd S w w') {p : Addr} (hp : p.block < w.heap.size) (hn : p.block ∉ S) : w'.cell? p = w.cell? p := World.cell?_of_block (w := w) (h.block p.block hp hn)
theorem Upd.frozen {S : List Nat} {w w' : World} (h : Upd S w w') {p : Addr} (hp : p.block < w.heap.size) (hn : p.block ∉ S) : w'.frozen? p = w.frozen? p := World.frozen?_of_block (w := w) (h.block p.block hp hn)

/-- What a call owns stays owned. -/
theorem ownsRow_upd {w w' : World} {S : List Nat} {base : Nat} {e : TypeId} {size : Nat} {v : Value} {n : Nat} {xs : List Value} (h : w.ownsRow base e size v n xs) (u : Upd S w w') (hn : ∀ k, v.ownBlock = some k → k ∉ S) : w'.ownsRow base e size v n xs := by
  refine ⟨h.1, ?_⟩
  rcases h.2 with h2 | ⟨g, cap, cur, rfl, hb, hg, rest⟩
  · exact .inl h2
  · refine .inr ⟨g, cap, cur, rfl, hb, ?_, rest⟩
    rw [u.block g (Array.getElem?_eq_some_iff.1 hg).1 (hn g rfl)]
    exact hg

theorem ownsRow_base {w : World} {base base' : Nat} {e : TypeId} {size : Nat} {v : Value} {n : Nat} {xs : List Value} (h : w.ownsRow base e size v n xs) (hb : base' ≤ base) : w.ownsRow base' e size v n xs := by
  refine ⟨h.1, ?_⟩
  rcases h.2 with h2 | ⟨g, cap, cur, hv, hg, rest⟩
  · exact .inl h2
  · exact .inr ⟨g, cap, cur, hv, Nat.le_trans hb hg, rest⟩

/-- A slice of one-cell elements that reads as the list xs; nothing is said of its spare room. -/
def Sl (w : World) (v : Value) (xs : List Value) : Prop :=
  ∃ a cap, v = .slice a xs.length cap ∧ xs.length ≤ cap ∧ cap ≤ maxLen ∧ (xs ≠ [] → ∃ b o, a = some ⟨b, o, none⟩ ∧ ∀ i, i < xs.length → w.cell? ⟨b, o + i, none⟩ = xs[i]?)

theorem Sl.nil (w : World) : Sl w (.slice none 0 0) [] := ⟨none, 0, rfl, Nat.le_refl _, by simp [maxLen], fun h => absurd rfl h⟩

theorem Sl.own {w : World} {base : Nat} {e : TypeId} {v : Value} {n : Nat} {xs : List Value} (h : w.ownsRow base e 1 v n xs) : Sl w v xs := by
  have hl : xs.length = n := by simpa using h.1
  rcases h.2 with ⟨rfl, rfl⟩ | ⟨g, cap, cur, rfl, _, hg, hn, hm, hs, ht⟩
  · obtain rfl : xs = [] := List.eq_nil_of_length_eq_zero hl
    exact Sl.nil w
  · refine ⟨some ⟨g, 0, none⟩, cap, by rw [hl], by omega, hm, fun _ => ⟨g, 0, rfl, fun i hi => ?_⟩⟩
    have := h.cellAt i (by omega)
    simpa using this

theorem Sl.len_le {w : World} {v : Value} {xs : List Value} (h : Sl w v xs) : xs.length ≤ maxLen := by
  obtain ⟨a, cap, _, h1, h2, _⟩ := h; omega

theorem Sl.block_lt {w : World} {v : Value} {xs : List Value} (h : Sl w v xs) (hx : xs ≠ []) : ∀ k, v.ownBlock = some k → k < w.heap.size := by
  intro k hk
  obtain ⟨a, cap, rfl, h1, h2, h3⟩ := h
  obtain ⟨b, o, rfl, hc⟩ := h3 hx
  have hp : 0 < xs.length := List.length_pos_iff.2 hx
  have := hc 0 hp
  rw [List.getElem?_eq_getElem hp] at this
  have := World.block_lt_of_cell? w _ this
  simp [Value.ownBlock] at hk
  subst hk
  exact this

theorem Sl.upd {w w' : World} {S : List Nat} {v : Value} {xs : List Value} (h : Sl w v xs) (u : Upd S w w') (hn : xs ≠ [] → ∀ k, v.ownBlock = some k → k ∉ S) : Sl w' v xs := by
  have hlt := h.block_lt
  obtain ⟨a, cap, rfl, h1, h2, h3⟩ := h
  refine ⟨a, cap, rfl, h1, h2, fun hx => ?_⟩
  obtain ⟨b, o, rfl, hc⟩ := h3 hx
  refine ⟨b, o, rfl, fun i hi => ?_⟩
  rw [u.cell (p := ⟨b, o + i, none⟩) (hlt hx b rfl) (hn hx b rfl)]
  exact hc i hi

theorem Sl.upd0 {w w' : World} {v : Value} {xs : List Value} (h : Sl w v xs) (u : Upd [] w w') : Sl w' v xs := h.upd u (fun _ _ _ => by simp)

/-- The slice's own shape, for a walk. -/
theorem Sl.open {w : World} {v : Value} {xs : List Value} (h : Sl w v xs) : ∃ a cap, v = .slice a xs.length cap ∧ xs.length ≤ cap ∧ cap ≤ maxLen ∧ (xs ≠ [] → ∃ b o, a = some ⟨b, o, none⟩ ∧ ∀ i, i < xs.length → w.cell? ⟨b, o + i, none⟩ = xs[i]?) := h

/-- A literal of one element, just made. -/
theorem Sl.lit1 (w : World) (x : Value) (e : TypeId) : Sl (w.alloc (.cells #[x] e)) (.slice (some ⟨w.heap.size, 0, none⟩) 1 1) [x] :=
  ⟨_, 1, rfl, Nat.le_refl _, by simp [maxLen], fun _ => ⟨w.heap.size, 0, rfl, fun i hi => by
    obtain rfl : i = 0 := by simpa using hi
    rw [World.cell?_alloc_at _ _ _ _ rfl]; rfl⟩⟩

/-- Behind an append the row is the old one, or a new one. -/
def Fresh (w : World) (v v' : Value) : Prop := v'.ownBlock = v.ownBlock ∨ ∃ k, v'.ownBlock = some k ∧ w.heap.size ≤ k

/-- 'append(v, ys...)': v of the call's own, ys any slice that can be read (nil, too). -/
theorem run_append_sl {P : Program} (w : World) (t ty : TypeId)
    (base : Nat) (e : TypeId) (z : Value) (bytes : Nat) (ht : P.underlying t = some (.slice e)) (hinfo : (P.info? e).map (fun i => (i.zero, i.size, i.bytes)) = some (some z, 1, bytes)) (hzs : z.cells.size = 1)
    (v : Value) (n : Nat) (xs : List Value) (hown : w.ownsRow base e 1 v n xs)
    (u : Value) (ys : List Value) (hy : Sl w u ys) (h1 : ∀ y ∈ ys, y.oneCell' = true)
    (h63 : n + ys.length ≤ maxLen) (hbytes : (n + ys.length) * bytes ≤ 140737488355328) (hbase : base ≤ w.heap.size) :
    ∃ v' w', (Builtin.append_ #[t, t] ty #[v, u]).run P w = .ok v' w' ∧ w'.ownsRow base e 1 v' (n + ys.length) (xs ++ ys) ∧ w.grownBy w' v.ownBlock ∧ Fresh w v v' := by
  obtain ⟨i, hi, hz, hsz, hby⟩ := info_parts hinfo
  obtain ⟨ad, cap, rfl, hl, hm, hc⟩ := hy
  have hxl : xs.length = n := by simpa using hown.1
  cases ad with
  | none =>
    have hys : ys = [] := by
      cases ys with
      | nil => rfl
      | cons y ys => obtain ⟨b, o', hb, _⟩ := hc (by simp); cases hb
    subst hys
    refine ⟨v, w, ?_, by simpa using hown, World.grownBy.refl _ _, .inl rfl⟩
    rcases hown.2 with ⟨rfl, _⟩ | ⟨g, cap', cur, rfl, _, _, hnc, _⟩
    · simp [Builtin.append_, run_underlying ht, sizeOf, typeInfo, hi, Builtin.lenOf, Builtin.firstCells]
    · simp [Builtin.append_, run_underlying ht, sizeOf, typeInfo, hi, Builtin.lenOf, Builtin.firstCells, hnc, storeCells]
  | some ad =>
    have hnews : ∀ j y, ys[j]? = some y → w.cell? (ad.add j) = some y := by
      intro j y hj
      have hjl : j < ys.length := (List.getElem?_eq_some_iff.1 hj).1
      have hne : ys ≠ [] := by intro he; subst he; simp at hjl
      obtain ⟨b, o', hb, hcell⟩ := hc hne
      obtain rfl : ad = ⟨b, o', none⟩ := by simpa using hb
      have hadd : (⟨b, o', none⟩ : Addr).add j = ⟨b, o' + j, none⟩ := by unfold Addr.add; split <;> simp_all
      rw [hadd, hcell j hjl, hj]
    rcases hown.2 with ⟨rfl, hn⟩ | ⟨g, cap', cur, rfl, hbg, hg, hnc, _⟩
    · have hown2 : w.ownsRow w.heap.size e 1 (.slice none 0 0) n xs := ⟨hown.1, .inl ⟨rfl, hn⟩⟩
      obtain ⟨v', w', hr, ho, hgr, _⟩ := run_append_own (P := P) w w.heap.size t ty e i z 1 bytes ht hi hz hsz hby hzs (by decide) _ n xs hown2 ad ys.length cap ys (by simp) hnews h1 h63 hbytes (Nat.le_refl _)
      refine ⟨v', w', hr, ownsRow_base ho hbase, hgr, ?_⟩
      cases hv : v'.ownBlock with
      | none => exact .inl (by rw [hv]; rfl)
      | some k =>
        rcases ho.2 with ⟨rfl, _⟩ | ⟨g, cap, cur, rfl, hb, _⟩
        · simp [Value.ownBlock] at hv
        · simp [Value.ownBlock] at hv; subst hv; exact .inr ⟨_, rfl, hb⟩
    · by_cases hroom : n + ys.length ≤ cap'
      · obtain ⟨w', hr, ho, hgr⟩ := run_append_fits (P := P) (ty := ty) w base t e i 1 ht hi hsz g n cap' xs hown ad ys.length cap ys (by simp) hnews h1 hroom
        exact ⟨_, w', hr, ho, hgr, .inl rfl⟩
      · obtain ⟨v', w', hr, ho, hgr⟩ := run_append_arg_grows (P := P) w t ty e i z 1 bytes ht hi hz hsz hby hzs (by decide) ⟨g, 0, none⟩ n cap' xs (by simpa using hxl)
            (hown.cells (g := g) rfl) ad ys.length cap ys (by simp) hnews (by omega) h63 hbytes
        refine ⟨v', w', hr, ownsRow_base ho hbase, ⟨hgr.os, hgr.tape, hgr.output, hgr.size, fun k hk _ => hgr.block k hk (by simp)⟩, ?_⟩
        rcases ho.2 with ⟨rfl, h0⟩ | ⟨g', cap, cur, rfl, hb, _⟩
        · simp only [maxLen] at *; omega
        · exact .inr ⟨_, rfl, hb⟩

theorem wpList_append_sl {P : Program} (w : World) {ops : Array Oper} {rest : List Oper} {o : Oper} {a : Act} {Q : Exit → Act → World → Prop} (hgd : o.guard = none) (s x : Operand) (t : TypeId)
    (ho : o.op = .call { callee := .builtin .append, args := #[s, x], argTypes := #[t, t] })
    (base : Nat) (e : TypeId) (z : Value) (bytes : Nat) (ht : P.underlying t = some (.slice e)) (hinfo : (P.info? e).map (fun i => (i.zero, i.size, i.bytes)) = some (some z, 1, bytes)) (hzs : z.cells.size = 1)
    (v : Value) (n : Nat) (xs : List Value) (hs : a.eval s = v) (hown : w.ownsRow base e 1 v n xs)
    (u : Value) (ys : List Value) (hx : a.eval x = u) (hy : Sl w u ys) (h1 : ∀ y ∈ ys, y.oneCell' = true)
    (h63 : n + ys.length ≤ maxLen) (hbytes : (n + ys.length) * bytes ≤ 140737488355328) (hbase : base ≤ w.heap.size)
    (h : ∀ v' w', w'.ownsRow base e 1 v' (n + ys.length) (xs ++ ys) → w.grownBy w' v.ownBlock → Fresh w v v' → wpList P ops Q rest (a.put o.dst v') w') : wpList P ops Q (o :: rest) a w := by
  obtain ⟨v', w', hr, h2, h3, h4⟩ := run_append_sl (P := P) w t o.type base e z bytes ht hinfo hzs v n xs hown u ys hy h1 h63 hbytes hbase
  refine wpList_plain hgd fun K hK => ?_
  unfold Oper.wp execOp
  simp only [ho, resolve, invoke, builtin, Sem.run_bind, Sem.run_pure, Result.andThen_ok, List.map_toArray, List.map_cons, List.map_nil, hs, hx, hr]
  exact hK _ _ (h v' w' h2 h3 h4)

/-- 'copy(d, u)' onto a row of the call's own from its head on, from any slice that can be read. -/
theorem wpList_copy_sl {P : Program} (w : World) {ops : Array Oper} {rest : List Oper} {o : Oper} {a : Act} {Q : Exit → Act → World → Prop} (hgd : o.guard = none) (d s : Operand) (t : TypeId)
    (ho : o.op = .call { callee := .builtin .copy, args := #[d, s], argTypes := #[t, t] }) (base : Nat) (e : TypeId) (hu : P.underlying t = some (.slice e)) (hsz : (P.info? e).map (·.size) = some 1)
    (dv : Value) (n : Nat) (xs : List Value) (hd : a.eval d = dv) (hown : w.ownsRow base e 1 dv n xs) (u : Value) (ys : List Value) (hs : a.eval s = u) (hy : Sl w u ys) (h1 : ∀ y ∈ ys, y.oneCell' = true)
    (h : ∀ w', w'.ownsRow base e 1 dv n (ys.take n ++ xs.drop ys.length) → w.grownBy w' dv.ownBlock → wpList P ops Q rest (a.put o.dst (goInt (Nat.min ys.length n))) w') : wpList P ops Q (o :: rest) a w := by
  have hxl : xs.length = n := by simpa using hown.1
  obtain ⟨sp, scap, rfl, hl, hm, hc⟩ := hy
  by_cases h0 : Nat.min ys.length n = 0
  · have hres : ys.take n ++ xs.drop ys.length = xs := by
      rcases (by simpa [Nat.min_def] using h0 : _) with h0
      by_cases hy0 : ys.length = 0
      · have : ys = [] := List.eq_nil_of_length_eq_zero hy0
        subst this; simp
      · have hn0 : n = 0 := by
          by_cases hle : ys.length ≤ n
          · have : Nat.min ys.length n = ys.length := Nat.min_eq_left hle
            omega
          · have : Nat.min ys.length n = n := Nat.min_eq_right (by omega)
            omega
        subst hn0
        have : xs = [] := List.eq_nil_of_length_eq_zero hxl
        subst this; simp
    have hdv : ∃ dp dc, dv = .slice dp n dc := by
      rcases hown.2 with ⟨rfl, rfl⟩ | ⟨g, cap, cur, rfl, _⟩
      · exact ⟨none, 0, rfl⟩
      · exact ⟨_, cap, rfl⟩
    obtain ⟨dp, dc, rfl⟩ := hdv
    refine wpList_copy_nothing hgd d s t t ho e hu hsz dp sp n dc ys.length scap hd hs h0 ?_
    have := h w (by rw [hres]; exact hown) (World.grownBy.refl _ _)
    rw [h0] at this
    exact this
  · have hyne : ys ≠ [] := by rintro rfl; simp at h0
    obtain ⟨b, off, rfl, hcell⟩ := hc hyne
    rcases hown.2 with ⟨rfl, rfl⟩ | ⟨g, cap, cur, rfl, hb, hg, hnc, hcm, hcs, htake⟩
    · simp at h0
    · have hln : (ys.take n).length = Nat.min ys.length n := by simp [Nat.min_comm]
      refine wpList_copy_own hgd d s t t ho e hu hsz g 0 n cap ⟨b, off, none⟩ ys.length scap hd hs cur e hg (ys.take n) hln ?_ (by rw [hln, show Nat.min ys.length n = min ys.length n from rfl]; omega) (fun v hv => h1 v (List.mem_of_mem_take hv)) ?_
      · intro j v hj
        have hjl : j < (ys.take n).length := (List.getElem?_eq_some_iff.1 hj).1
        have hadd : (⟨b, off, none⟩ : Addr).add j = ⟨b, off + j, none⟩ := by unfold Addr.add; split <;> simp_all
        rw [hadd, hcell j (by simp at hjl; omega), ← hj, List.getElem?_take]
        simp at hjl
        rw [if_pos (by omega)]
      · rw [hln]
        refine h _ ⟨by simp; omega, .inr ⟨g, cap, _, rfl, hb, setRow_heap w g cur _ e _ hg, hnc, hcm, ?_, ?_⟩⟩ ⟨rfl, rfl, rfl, by simp [World.setRow], fun k _ hk => setRow_other w g k _ (fun e => hk (by simp [Value.ownBlock, e]))⟩
        · simp only [show Nat.min ys.length n = min ys.length n from rfl, List.size_toArray, List.length_append, List.length_take, List.length_drop, Array.length_toList]; omega
        · simp only [List.take_zero, List.nil_append, Nat.zero_add, Nat.mul_one] at htake ⊢
          rw [← htake]
          apply List.ext_getElem?
          intro i
          rw [List.getElem?_take]
          by_cases hi : i < n
          · rw [if_pos hi, List.getElem?_append, List.getElem?_append]
            split
            · rfl
            · rename_i hge
              simp only [List.length_take, List.getElem?_drop, List.getElem?_take] at hge ⊢
              have hmm : Nat.min ys.length n = ys.length := by
                by_cases hle : ys.length ≤ n
                · exact Nat.min_eq_left hle
                · exfalso; omega
              have hmm' : min n ys.length = ys.length := by rw [Nat.min_comm]; exact hmm
              rw [hmm', hmm, if_pos (by omega)]
          · rw [if_neg hi, List.getElem?_eq_none]
            simp only [List.length_append, List.length_take, List.length_drop]
            omega

end Go.Proofs.Tm

/- More plain words on memory: arguments that came in, as lists. -/
namespace Go.Proofs.Tm
open Go.RowKit
set_option linter.unusedVariables false
set_option maxRecDepth 20000

/-- A slice of integers that came in (the rows' own form), as a list. -/
theorem sl_of_isrow {k : IntKind} {w : World} {a : Option Addr} {len cap : Nat} {zs : List Int}
    (h : (a = none ∧ len = 0 ∧ cap = 0 ∧ zs = []) ∨ ∃ x : Addr, a = some x ∧ len ≤ cap ∧ cap ≤ maxLen ∧ zs.length = cap ∧ (∀ i, i < zs.length → w.cell? (x.add i) = some (.int k (zs.getD i 0))) ∧ ∀ n ∈ zs, (Lit.int k n).wf = true) :
    ∃ ys : List Int, ys.length = len ∧ len ≤ maxLen ∧ Sl w (.slice a len cap) (ys.map (Value.int k)) ∧ ∀ n ∈ ys, (Lit.int k n).wf = true := by
  rcases h with ⟨rfl, rfl, rfl, rfl⟩ | ⟨x, rfl, hl, hm, hz, hc, hw⟩
  · exact ⟨[], rfl, by simp [maxLen], Sl.nil w, by simp⟩
  · have hlen : (zs.take len).length = len := by simp; omega
    refine ⟨zs.take len, hlen, by omega, ⟨some x, cap, by rw [List.length_map, hlen], by rw [List.length_map, hlen]; omega, hm, fun hne => ?_⟩, fun n hn => hw n (List.mem_of_mem_take hn)⟩
    have hpos : 0 < len := by
      rcases Nat.eq_zero_or_pos len with h0 | h0
      · subst h0; simp at hne
      · exact h0
    obtain ⟨b, off, spot⟩ := x
    have hc0 := hc 0 (by omega)
    have hspot : spot = none := by simpa [Addr.add] using World.cell?_spot hc0
    subst hspot
    refine ⟨b, off, rfl, fun i hi => ?_⟩
    simp only [List.length_map, hlen] at hi
    have hadd : (⟨b, off, none⟩ : Addr).add i = ⟨b, off + i, none⟩ := by unfold Addr.add; split <;> simp_all
    rw [← hadd, hc i (by omega)]
    simp [hi, show i < zs.length by omega]

/-- Bytes are natural numbers below 256. -/
theorem u8_nats (ys : List Int) (h : ∀ n ∈ ys, (Lit.int .u8 n).wf = true) : ∃ bs : List Nat, ys.map (Value.int .u8) = bs.map (fun (b : Nat) => Value.int .u8 (b : Int)) ∧ bs.length = ys.length ∧ ∀ b ∈ bs, b < 256 := by
  refine ⟨ys.map Int.toNat, ?_, by simp, ?_⟩
  · rw [List.map_map]
    refine List.map_congr_left fun n hn => ?_
    have := bounds_u8 (h n hn)
    simp only [Function.comp]
    congr 1
    omega
  · intro b hb
    obtain ⟨n, hn, rfl⟩ := List.mem_map.1 hb
    have := bounds_u8 (h n hn)
    omega

end Go.Proofs.Tm

/- More plain words on memory: whole rows. -/
namespace Go.Proofs.Tm
open Go.RowKit
set_option linter.unusedVariables false
set_option maxRecDepth 20000

theorem Upd.setRow {S : List Nat} {a w : World} (h : Upd S a w) {g : Nat} (hp : g ∈ S ∨ a.heap.size ≤ g) (cs : Array Value) : Upd S a (w.setRow g cs) :=
  ⟨h.os, h.tape, h.output, by simpa using h.size, fun k hk hn => (setRow_other w g k cs (by rintro rfl; rcases hp with h1 | h1; exact hn h1; omega)).trans (h.block k hk hn)⟩

theorem all_one_of {arr : Array Value} {n : Nat} {k : IntKind} (f : Nat → Int) (hs : arr.size = n) (h : ∀ i, i < n → arr[i]? = some (.int k (f i))) : arr.all (·.oneCell') = true := by
  rw [Array.all_eq_true]
  intro i hi
  have := h i (by omega)
  rw [Array.getElem?_eq_getElem hi] at this
  have e : arr[i] = .int k (f i) := by simpa using this
  rw [e]; rfl

/-- A literal of elements of one cell is the call's own row. -/
theorem own_lit (w : World) (e : TypeId) (xs : Array Value) (hm : xs.size ≤ maxLen) :
    (w.alloc (.cells xs e)).ownsRow w.heap.size e 1 (.slice (some ⟨w.heap.size, 0, none⟩) xs.size xs.size) xs.size xs.toList :=
  ⟨by simp, .inr ⟨w.heap.size, xs.size, xs, rfl, Nat.le_refl _, heap_alloc_new w _, Nat.le_refl _, hm, by simp, by simp [List.take_of_length_le]⟩⟩

theorem own_ex {w : World} {base : Nat} {e : TypeId} {v : Value} {n : Nat} {xs : List Value} (h : w.ownsRow base e 1 v n xs) : ∃ a cap, v = .slice a n cap := by
  rcases h.2 with ⟨rfl, rfl⟩ | ⟨g, cap, _, rfl, _⟩
  · exact ⟨none, 0, rfl⟩
  · exact ⟨_, cap, rfl⟩

/-- The same, at an operation that a region draws. -/
theorem step_append_sl {P : Program} (w : World) {ops : Array Oper} {o : Oper} {a : Act} {K : Act → World → Prop} {Q : Exit → Act → World → Prop} {E : Prop} (hgd : o.guard = none) (s x : Operand) (t : TypeId)
    (ho : o.op = .call { callee := .builtin .append, args := #[s, x], argTypes := #[t, t] })
    (base : Nat) (e : TypeId) (z : Value) (bytes : Nat) (ht : P.underlying t = some (.slice e)) (hinfo : (P.info? e).map (fun i => (i.zero, i.size, i.bytes)) = some (some z, 1, bytes)) (hzs : z.cells.size = 1)
    (v : Value) (n : Nat) (xs : List Value) (hs : a.eval s = v) (hown : w.ownsRow base e 1 v n xs)
    (u : Value) (ys : List Value) (hx : a.eval x = u) (hy : Sl w u ys) (h1 : ∀ y ∈ ys, y.oneCell' = true)
    (h63 : n + ys.length ≤ maxLen) (hbytes : (n + ys.length) * bytes ≤ 140737488355328) (hbase : base ≤ w.heap.size)
    (h : ∀ v' w', w'.ownsRow base e 1 v' (n + ys.length) (xs ++ ys) → w.grownBy w' v.ownBlock → Fresh w v v' → K (a.put o.dst v') w') :
    if Region.wanted o (yielded ops a.tmps) = true then Oper.wp P o a w K Q else E := by
  have hw : Region.wanted o (yielded ops a.tmps) = true := by simp [Region.wanted, hgd]
  rw [if_pos hw]
  obtain ⟨v', w', hr, h2, h3, h4⟩ := run_append_sl (P := P) w t o.type base e z bytes ht hinfo hzs v n xs hown u ys hy h1 h63 hbytes hbase
  unfold Oper.wp execOp
  simp only [ho, resolve, invoke, builtin, Sem.run_bind, Sem.run_pure, Result.andThen_ok, List.map_toArray, List.map_cons, List.map_nil, hs, hx, hr]
  exact h v' w' h2 h3 h4

theorem madeCells_one (z : Value) (hz : z.cells = #[z]) (c : Nat) : (madeCells z.cells c).toList = List.replicate c z := by
  rw [hz]
  apply List.ext_getElem
  · simp [madeCells]
  · intro i h1 h2
    simp [madeCells, Nat.mod_one]

/-- 'make([]T, n, c)': n zero elements of one cell are owned; there is room for c. -/
theorem wpList_make_lc {P : Program} (w : World) {ops : Array Oper} {rest : List Oper} {o : Oper} {a : Act} {Q : Exit → Act → World → Prop}
    (hg : o.guard = none) (l c : Operand) (t : TypeId) (hop : o.op = Op.makeSlice t l c)
    (e : TypeId) (z : Value) (bytes : Nat) (h1 : P.underlying t = some (.slice e)) (hinfo : (P.info? e).map (fun i => (i.zero, i.size, i.bytes)) = some (some z, 1, bytes)) (hz : z.cells = #[z])
    (kl kc : IntKind) (L C : Int) (n m : Nat) (hl : a.eval l = .int kl L) (hc : a.eval c = .int kc C) (hL : L = (n : Int)) (hC : C = (m : Int)) (hnm : n ≤ m) (b2 : bytes * m ≤ 281474976710656) (b3 : m ≤ maxLen)
    (hK : ∀ w', w'.ownsRow w.heap.size e 1 (.slice (some ⟨w.heap.size, 0, none⟩) n m) n (List.replicate n z) → Upd [] w w' → w.heap.size < w'.heap.size → wpList P ops Q rest (a.put o.dst (.slice (some ⟨w.heap.size, 0, none⟩) n m)) w') :
    wpList P ops Q (o :: rest) a w := by
  refine wpList_plain hg fun K hK' => ?_
  obtain ⟨i, hi, hiz, his, hib⟩ := info_parts hinfo
  have hr := run_make (P := P) w t e i z h1 hi hiz kl kc L C (by omega) (by omega) (by rw [hib, hC, ← Int.natCast_mul]; omega) (by unfold maxLen at b3; omega)
  subst hL
  subst hC
  simp only [Int.toNat_natCast, his, Nat.mul_one] at hr
  unfold Oper.wp
  simp [execOp, hop, hl, hc, hr, Result.andThen]
  refine hK' _ _ (hK _ ⟨by simp, .inr ⟨w.heap.size, m, _, rfl, Nat.le_refl _, heap_alloc_new w _, hnm, b3, by simp [size_madeCells], ?_⟩⟩ ((Upd.refl _ _).alloc _) (by simp))
  rw [madeCells_one z hz, List.take_replicate]
  congr 1
  omega
end Go.Proofs.Tm

/- Plain mathematics of digits of base 2^64 (words): value and digits. Nothing of the program is imported. -/
namespace Go.Proofs.Tm
set_option linter.unusedVariables false
set_option maxRecDepth 20000

/-- The value of digits of base 18446744073709551616, the lowest first. -/
def wval : List Nat → Nat
  | [] => 0
  | d :: l => d + 18446744073709551616 * wval l

/-- The digits of a number: none of them 0 at the end. -/
def wds (n : Nat) : List Nat := if h : n = 0 then [] else n % 18446744073709551616 :: wds (n / 18446744073709551616)
termination_by n
decreasing_by omega

theorem wds_zero : wds 0 = [] := by rw [wds]; simp
theorem wds_pos (n : Nat) (h : n ≠ 0) : wds n = n % 18446744073709551616 :: wds (n / 18446744073709551616) := by rw [wds]; simp [h]

theorem wval_wds (n : Nat) : wval (wds n) = n := by
  induction n using Nat.strongRecOn with
  | _ n ih =>
    by_cases h : n = 0
    · subst h; rw [wds_zero]; rfl
    · rw [wds_pos n h, wval, ih (n / 18446744073709551616) (by omega)]; omega

theorem wds_lt (n : Nat) : ∀ d ∈ wds n, d < 18446744073709551616 := by
  induction n using Nat.strongRecOn with
  | _ n ih =>
    intro d hd
    by_cases h : n = 0
    · subst h; rw [wds_zero] at hd; simp at hd
    · rw [wds_pos n h] at hd
      rcases List.mem_cons.1 hd with rfl | hd
      · exact Nat.mod_lt _ (by decide)
      · exact ih _ (by omega) d hd

theorem wval_append (l m : List Nat) : wval (l ++ m) = wval l + 18446744073709551616 ^ l.length * wval m := by
  induction l with
  | nil => simp [wval]
  | cons d l ih =>
    simp only [List.cons_append, wval, ih, List.length_cons, Nat.pow_succ]
    rw [Nat.mul_add, ← Nat.mul_assoc, Nat.mul_comm 18446744073709551616 (18446744073709551616 ^ l.length)]
    omega

theorem wval_snoc (l : List Nat) (d : Nat) : wval (l ++ [d]) = wval l + 18446744073709551616 ^ l.length * d := by rw [wval_append]; simp [wval]

theorem wval_lt (l : List Nat) (h : ∀ d ∈ l, d < 18446744073709551616) : wval l < 18446744073709551616 ^ l.length := by
  induction l with
  | nil => simp [wval]
  | cons d l ih =>
    have h1 : d < 18446744073709551616 := h d (by simp)
    have h2 := ih (fun x hx => h x (by simp [hx]))
    simp only [wval, List.length_cons, Nat.pow_succ]
    omega

theorem wval_zeros (l : List Nat) (h : ∀ d ∈ l, d = 0) : wval l = 0 := by
  induction l with
  | nil => rfl
  | cons d l ih => simp only [wval]; rw [h d (by simp), ih (fun x hx => h x (by simp [hx]))]

/-- Digits without noughts at the end are the number's. -/
theorem wds_wval (l : List Nat) (h : ∀ d ∈ l, d < 18446744073709551616) (hl : ∀ d, l.getLast? = some d → d ≠ 0) : wds (wval l) = l := by
  induction l with
  | nil => exact wds_zero
  | cons d l ih =>
    have h1 : d < 18446744073709551616 := h d (by simp)
    have hv : wval (d :: l) ≠ 0 := by
      intro h0
      simp only [wval] at h0
      have hd : d = 0 := by omega
      have hl0 : wval l = 0 := by omega
      cases l with
      | nil => exact hl d rfl hd
      | cons e m =>
        have e1 := ih (fun x hx => h x (by simp [hx])) (fun x hx => hl x (by simpa [List.getLast?_cons_cons] using hx))
        rw [hl0, wds_zero] at e1
        cases e1
    rw [wds_pos _ hv]
    simp only [wval]
    rw [show (d + 18446744073709551616 * wval l) % 18446744073709551616 = d by omega, show (d + 18446744073709551616 * wval l) / 18446744073709551616 = wval l by omega]
    cases l with
    | nil => simp [wval, wds_zero]
    | cons e m => rw [ih (fun x hx => h x (by simp [hx])) (fun x hx => hl x (by simpa [List.getLast?_cons_cons] using hx))]

/-- What trim leaves. -/
theorem fit_wds (l : List Nat) (n : Nat) (h : ∀ d ∈ l, d < 18446744073709551616) (hn : n ≤ l.length) (h1 : n = 0 ∨ l[n - 1]? ≠ some 0) (h2 : ∀ j, n ≤ j → j < l.length → l[j]? = some 0) : l.take n = wds (wval l) := by
  have hz : wval (l.drop n) = 0 := wval_zeros _ (by
    intro d hd
    obtain ⟨j, hj, rfl⟩ := List.mem_iff_getElem.1 hd
    have hj' : j < l.length - n := by simpa using hj
    have := h2 (n + j) (by omega) (by omega)
    rw [List.getElem_drop]
    rw [List.getElem?_eq_getElem (by omega)] at this
    simpa using this)
  have hv : wval l = wval (l.take n) := by
    have := wval_append (l.take n) (l.drop n)
    rw [List.take_append_drop, hz] at this
    simpa using this
  rw [hv]
  refine (wds_wval (l.take n) (fun d hd => h d (List.mem_of_mem_take hd)) ?_).symm
  intro d hd
  rcases h1 with rfl | h1
  · simp at hd
  · rintro rfl
    apply h1
    rw [List.getLast?_eq_getElem?, List.length_take, Nat.min_eq_left hn] at hd
    rw [List.getElem?_take] at hd
    split at hd
    · exact hd
    · cases hd

theorem wds_length_le {m n : Nat} (h : m ≤ n) : (wds m).length ≤ (wds n).length := by
  induction n using Nat.strongRecOn generalizing m with
  | _ n ih =>
    by_cases h0 : m = 0
    · subst h0; rw [wds_zero]; simp
    · rw [wds_pos m h0, wds_pos n (by omega), List.length_cons, List.length_cons]
      exact Nat.succ_le_succ (ih (n / 18446744073709551616) (by omega) (by omega))

theorem wds_lt_of_length {m n : Nat} (h : (wds m).length < (wds n).length) : m < n := by
  rcases Nat.lt_or_ge m n with h' | h'
  · exact h'
  · have := wds_length_le h'; omega

/-- Held against one another from above: the first unlike digit tells. -/
theorem wval_cmp (a b : List Nat) (k : Nat) (x y : Nat) (ha : ∀ d ∈ a, d < 18446744073709551616) (hb : ∀ d ∈ b, d < 18446744073709551616) (hl : a.length = b.length) (hx : a[k]? = some x) (hy : b[k]? = some y) (hxy : x < y) (he : a.drop (k + 1) = b.drop (k + 1)) : wval a < wval b := by
  have hka : k < a.length := (List.getElem?_eq_some_iff.1 hx).1
  have hkb : k < b.length := (List.getElem?_eq_some_iff.1 hy).1
  have e1 : a = a.take k ++ (x :: a.drop (k + 1)) := by
    have : a[k] = x := by rw [List.getElem?_eq_getElem hka] at hx; simpa using hx
    rw [← this, ← List.drop_eq_getElem_cons hka, List.take_append_drop]
  have e2 : b = b.take k ++ (y :: b.drop (k + 1)) := by
    have : b[k] = y := by rw [List.getElem?_eq_getElem hkb] at hy; simpa using hy
    rw [← this, ← List.drop_eq_getElem_cons hkb, List.take_append_drop]
  have v1 := wval_append (a.take k) (x :: a.drop (k + 1))
  have v2 := wval_append (b.take k) (y :: b.drop (k + 1))
  rw [← e1] at v1
  rw [← e2] at v2
  have l1 : (a.take k).length = k := by simp; omega
  have l2 : (b.take k).length = k := by simp; omega
  have t1 := wval_lt (a.take k) (fun d hd => ha d (List.mem_of_mem_take hd))
  rw [l1] at v1 t1
  rw [l2] at v2
  rw [v1, v2, ← he]
  simp only [wval]
  generalize 18446744073709551616 * wval (a.drop (k + 1)) = r at *
  have : 18446744073709551616 ^ k * (x + r) + 18446744073709551616 ^ k ≤ 18446744073709551616 ^ k * (y + r) := by
    rw [← Nat.mul_succ]; exact Nat.mul_le_mul_left _ (by omega)
  omega
end Go.Proofs.Tm

/- Plain mathematics of words of 2^64: a round of a sum, a difference, a product, a quotient, each word of a number. Nothing of the program is imported. -/
namespace Go.Proofs.Tm
set_option linter.unusedVariables false
set_option maxRecDepth 20000

theorem wval_take_succ (a : List Nat) (i : Nat) : wval (a.take (i + 1)) = wval (a.take i) + 18446744073709551616 ^ i * a.getD i 0 := by
  rcases Nat.lt_or_ge i a.length with h | h
  · rw [List.take_succ_eq_append_getElem h, wval_snoc, List.length_take, Nat.min_eq_left (Nat.le_of_lt h)]
    simp [h]
  · rw [List.take_of_length_le (by omega), List.take_of_length_le h]
    simp [h]

theorem wval_set (l : List Nat) (j d : Nat) (h : j < l.length) : wval (l.set j d) + 18446744073709551616 ^ j * l.getD j 0 = wval l + 18446744073709551616 ^ j * d := by
  induction l generalizing j with
  | nil => simp at h
  | cons x l ih =>
    cases j with
    | zero => simp [wval]; omega
    | succ j =>
      have := ih j (by simpa using h)
      simp only [List.set_cons_succ, wval, List.getD_cons_succ, Nat.pow_succ]
      have e1 : 18446744073709551616 ^ j * 18446744073709551616 * l.getD j 0 = 18446744073709551616 * (18446744073709551616 ^ j * l.getD j 0) := by rw [Nat.mul_comm (18446744073709551616 ^ j) 18446744073709551616, Nat.mul_assoc]
      have e2 : 18446744073709551616 ^ j * 18446744073709551616 * d = 18446744073709551616 * (18446744073709551616 ^ j * d) := by rw [Nat.mul_comm (18446744073709551616 ^ j) 18446744073709551616, Nat.mul_assoc]
      rw [e1, e2]
      omega

/-- A round of a sum, in place. -/
theorem wadd_step (a b L : List Nat) (i c s c' : Nat) (hi : i < L.length) (hz : L.getD i 0 = 0) (h : wval L + 18446744073709551616 ^ i * c = wval (a.take i) + wval (b.take i)) (ht : s + 18446744073709551616 * c' = c + a.getD i 0 + b.getD i 0) :
    wval (L.set i s) + 18446744073709551616 ^ (i + 1) * c' = wval (a.take (i + 1)) + wval (b.take (i + 1)) := by
  have hs := wval_set L i s hi
  rw [hz] at hs
  rw [wval_take_succ, wval_take_succ, Nat.pow_succ, Nat.mul_assoc]
  have e : 18446744073709551616 ^ i * s + 18446744073709551616 ^ i * (18446744073709551616 * c') = 18446744073709551616 ^ i * c + 18446744073709551616 ^ i * a.getD i 0 + 18446744073709551616 ^ i * b.getD i 0 := by
    rw [← Nat.mul_add, ht, Nat.mul_add, Nat.mul_add]
  omega

/-- A round of a difference, in place: c is what was borrowed. -/
theorem wsub_step (a b L : List Nat) (i c d c' : Nat) (hi : i < L.length) (hz : L.getD i 0 = 0) (h : wval (a.take i) + 18446744073709551616 ^ i * c = wval L + wval (b.take i)) (hd : a.getD i 0 + 18446744073709551616 * c' = d + c + b.getD i 0) :
    wval (a.take (i + 1)) + 18446744073709551616 ^ (i + 1) * c' = wval (L.set i d) + wval (b.take (i + 1)) := by
  have hs := wval_set L i d hi
  rw [hz] at hs
  rw [wval_take_succ, wval_take_succ, Nat.pow_succ, Nat.mul_assoc]
  have e : 18446744073709551616 ^ i * a.getD i 0 + 18446744073709551616 ^ i * (18446744073709551616 * c') = 18446744073709551616 ^ i * d + 18446744073709551616 ^ i * c + 18446744073709551616 ^ i * b.getD i 0 := by
    rw [← Nat.mul_add, hd, Nat.mul_add, Nat.mul_add]
  omega

/-- A round of 'add b, taken n times, from the place f on'. -/
theorem waddt_step (b L : List Nat) (f k n o s o' V : Nat) (hj : f + k < L.length) (h : wval L + 18446744073709551616 ^ (f + k) * o = V + 18446744073709551616 ^ f * (n * wval (b.take k))) (hx : s + 18446744073709551616 * o' = L.getD (f + k) 0 + (b.getD k 0 * n + o)) :
    wval (L.set (f + k) s) + 18446744073709551616 ^ (f + (k + 1)) * o' = V + 18446744073709551616 ^ f * (n * wval (b.take (k + 1))) := by
  have hs := wval_set L (f + k) s hj
  rw [wval_take_succ, Nat.mul_add, Nat.mul_add]
  have e : 18446744073709551616 ^ (f + k) * s + 18446744073709551616 ^ (f + (k + 1)) * o' = 18446744073709551616 ^ (f + k) * L.getD (f + k) 0 + 18446744073709551616 ^ (f + k) * o + 18446744073709551616 ^ f * (n * (18446744073709551616 ^ k * b.getD k 0)) := by
    rw [← Nat.add_assoc, Nat.pow_succ, Nat.mul_assoc, ← Nat.mul_add, hx, Nat.mul_add, Nat.mul_add]
    have : 18446744073709551616 ^ (f + k) * (b.getD k 0 * n) = 18446744073709551616 ^ f * (n * (18446744073709551616 ^ k * b.getD k 0)) := by
      rw [Nat.pow_add, Nat.mul_assoc, ← Nat.mul_assoc n, Nat.mul_comm n (18446744073709551616 ^ k), Nat.mul_assoc, Nat.mul_comm n]
    omega
  omega

/-- A round of 'take b, taken n times, from the place f on': o is what is owed. -/
theorem wtaket_step (b L : List Nat) (f k n o s o' V : Nat) (hj : f + k < L.length) (h : wval L + 18446744073709551616 ^ f * (n * wval (b.take k)) = V + 18446744073709551616 ^ (f + k) * o) (hx : s + (b.getD k 0 * n + o) = L.getD (f + k) 0 + 18446744073709551616 * o') :
    wval (L.set (f + k) s) + 18446744073709551616 ^ f * (n * wval (b.take (k + 1))) = V + 18446744073709551616 ^ (f + (k + 1)) * o' := by
  have hs := wval_set L (f + k) s hj
  rw [wval_take_succ, Nat.mul_add, Nat.mul_add]
  have e : 18446744073709551616 ^ (f + k) * s + (18446744073709551616 ^ f * (n * (18446744073709551616 ^ k * b.getD k 0)) + 18446744073709551616 ^ (f + k) * o) = 18446744073709551616 ^ (f + k) * L.getD (f + k) 0 + 18446744073709551616 ^ (f + (k + 1)) * o' := by
    rw [← Nat.add_assoc f k 1, Nat.pow_succ, Nat.mul_assoc, ← Nat.mul_add, ← hx, Nat.mul_add, Nat.mul_add]
    have : 18446744073709551616 ^ (f + k) * (b.getD k 0 * n) = 18446744073709551616 ^ f * (n * (18446744073709551616 ^ k * b.getD k 0)) := by
      rw [Nat.pow_add, Nat.mul_assoc, ← Nat.mul_assoc n, Nat.mul_comm n (18446744073709551616 ^ k), Nat.mul_assoc, Nat.mul_comm n]
    omega
  omega

/-- One word more of the dividend. -/
theorem wdiv_step (a q : List Nat) (b i r d r' : Nat) (hi : i < a.length) (hq : i < q.length) (hz : q.getD i 0 = 0) (h : wval (a.drop (i + 1)) = wval (q.drop (i + 1)) * b + r) (hd : r * 18446744073709551616 + a.getD i 0 = d * b + r') :
    wval (a.drop i) = wval ((q.set i d).drop i) * b + r' := by
  have e : wval (a.drop i) = a.getD i 0 + 18446744073709551616 * wval (a.drop (i + 1)) := by
    rw [List.drop_eq_getElem_cons hi, wval]; simp [hi]
  have e1 : wval ((q.set i d).drop i) = d + 18446744073709551616 * wval (q.drop (i + 1)) := by
    rw [List.drop_eq_getElem_cons (by simpa using hq), wval, List.drop_set_of_lt (by omega)]; simp
  rw [e, e1, h, Nat.add_mul, Nat.mul_add, Nat.mul_assoc]
  omega

theorem wds_getD (n j : Nat) : (wds n).getD j 0 = n / 18446744073709551616 ^ j % 18446744073709551616 := by
  induction j generalizing n with
  | zero =>
    by_cases h : n = 0
    · subst h; rw [wds_zero]; rfl
    · rw [wds_pos n h]; simp
  | succ j ih =>
    by_cases h : n = 0
    · subst h; rw [wds_zero]; simp
    · rw [wds_pos n h, List.getD_cons_succ, ih, Nat.pow_succ, Nat.div_div_eq_div_mul, Nat.mul_comm]

theorem wds_lt_pow (n : Nat) : n < 18446744073709551616 ^ (wds n).length := by
  have := wval_lt (wds n) (wds_lt n); rwa [wval_wds] at this

theorem wds_length_le_iff (n k : Nat) : (wds n).length ≤ k ↔ n < 18446744073709551616 ^ k := by
  constructor
  · intro h
    exact Nat.lt_of_lt_of_le (wds_lt_pow n) (Nat.pow_le_pow_right (by decide) h)
  · intro h
    rcases Nat.lt_or_ge k (wds n).length with h1 | h1
    · exfalso
      obtain ⟨m, hm⟩ : ∃ m, (wds n).length = m + 1 := ⟨(wds n).length - 1, by omega⟩
      have hlast : (wds n).getD m 0 ≠ 0 := by
        clear h h1
        induction n using Nat.strongRecOn generalizing m with
        | _ n ih =>
          by_cases h : n = 0
          · subst h; rw [wds_zero] at hm; simp at hm
          · rw [wds_pos n h] at hm ⊢
            cases m with
            | zero =>
              simp at hm
              have : n / 18446744073709551616 = 0 := by
                by_cases h2 : n / 18446744073709551616 = 0
                · exact h2
                · rw [wds_pos _ h2] at hm; cases hm
              simp; omega
            | succ m =>
              rw [List.getD_cons_succ]
              exact ih _ (by omega) m (by simpa using hm)
      rw [wds_getD] at hlast
      apply hlast
      rw [Nat.div_eq_of_lt]
      exact Nat.lt_of_lt_of_le h (Nat.pow_le_pow_right (by decide) (by omega))
    · exact h1

theorem wds_length_add (a b : Nat) : (wds (a + b)).length ≤ max (wds a).length (wds b).length + 1 := by
  rw [wds_length_le_iff, Nat.pow_succ]
  have ha : a < 18446744073709551616 ^ max (wds a).length (wds b).length := (wds_length_le_iff _ _).1 (Nat.le_max_left _ _)
  have hb : b < 18446744073709551616 ^ max (wds a).length (wds b).length := (wds_length_le_iff _ _).1 (Nat.le_max_right _ _)
  omega

theorem wds_length_mul (a b : Nat) : (wds (a * b)).length ≤ (wds a).length + (wds b).length := by
  rw [wds_length_le_iff, Nat.pow_add]
  exact Nat.mul_lt_mul'' (wds_lt_pow a) (wds_lt_pow b)

theorem wds_inj {a b : Nat} (h : wds a = wds b) : a = b := by rw [← wval_wds a, h, wval_wds]
theorem wds_nil {a : Nat} : wds a = [] ↔ a = 0 := ⟨fun h => wds_inj (h.trans wds_zero.symm), fun h => by rw [h, wds_zero]⟩
theorem wds_length_zero {a : Nat} : (wds a).length = 0 ↔ a = 0 := by rw [List.length_eq_zero_iff, wds_nil]
theorem wds_one (a : Nat) (h0 : a ≠ 0) (h : a < 18446744073709551616) : wds a = [a] := by
  rw [wds_pos a h0, Nat.div_eq_of_lt h, wds_zero, Nat.mod_eq_of_lt h]
theorem wds_length_one {a : Nat} (h : (wds a).length ≤ 1) : a < 18446744073709551616 := by
  have := (wds_length_le_iff a 1).1 h; simpa using this

/-- The number of the words (X / W^i) % W. -/
theorem wval_words (X m : Nat) : wval ((List.range m).map fun i => X / 18446744073709551616 ^ i % 18446744073709551616) = X % 18446744073709551616 ^ m := by
  induction m with
  | zero => simp [wval, Nat.mod_one]
  | succ m ih =>
    rw [List.range_succ, List.map_append, wval_append, ih]
    simp only [List.map_cons, List.map_nil, wval, List.length_map, List.length_range, Nat.mul_zero, Nat.add_zero]
    rw [Nat.pow_succ, Nat.mod_mul]

theorem W_two : (18446744073709551616 : Nat) = 2 ^ 64 := by decide

/-- 64 bits of a number from a place on, out of two words. -/
theorem from_two (X s : Nat) (hs : s < 64) : X % 18446744073709551616 / 2 ^ s + (X / 18446744073709551616 % 18446744073709551616) * 2 ^ (64 - s) % 18446744073709551616 = X / 2 ^ s % 18446744073709551616 := by
  have hW : (18446744073709551616 : Nat) = 2 ^ s * 2 ^ (64 - s) := by rw [← Nat.pow_add, show s + (64 - s) = 64 by omega, W_two]
  have e1 : X % 18446744073709551616 / 2 ^ s = X / 2 ^ s % 2 ^ (64 - s) := by
    rw [hW, Nat.mod_mul, Nat.add_comm, Nat.mul_add_div (Nat.two_pow_pos s), Nat.div_eq_of_lt (Nat.mod_lt _ (Nat.two_pow_pos s))]; rfl
  have e2 : (X / 18446744073709551616 % 18446744073709551616) * 2 ^ (64 - s) % 18446744073709551616 = 2 ^ (64 - s) * (X / 2 ^ s / 2 ^ (64 - s) % 2 ^ s) := by
    have h1 : X / 18446744073709551616 = X / 2 ^ s / 2 ^ (64 - s) := by rw [Nat.div_div_eq_div_mul, ← hW]
    rw [h1]
    generalize X / 2 ^ s / 2 ^ (64 - s) = Y
    rw [Nat.mod_mul_mod, Nat.mul_comm Y, show (18446744073709551616 : Nat) = 2 ^ (64 - s) * 2 ^ s by rw [Nat.mul_comm]; exact hW, Nat.mul_mod_mul_left]
  rw [e1, e2, show X / 2 ^ s % 18446744073709551616 = X / 2 ^ s % (2 ^ (64 - s) * 2 ^ s) by rw [Nat.mul_comm, ← hW], Nat.mod_mul]

/-- The bounds of what a round of 'add n times' carries. -/
theorem over_le {s o' l x n o : Nat} (h : s + 18446744073709551616 * o' = l + (x * n + o)) (hl : l < 18446744073709551616) (hx : x < 18446744073709551616) (ho : o ≤ n) : o' ≤ n := by
  have h1 : x * n ≤ 18446744073709551615 * n := Nat.mul_le_mul_right _ (by omega)
  rcases Nat.lt_or_ge n o' with h2 | h2
  · omega
  · exact h2
theorem owed_le {s o' l x n o : Nat} (h : s + (x * n + o) = l + 18446744073709551616 * o') (hs : s < 18446744073709551616) (hx : x < 18446744073709551616) (ho : o ≤ n) : o' ≤ n := by
  have h1 : x * n ≤ 18446744073709551615 * n := Nat.mul_le_mul_right _ (by omega)
  rcases Nat.lt_or_ge n o' with h2 | h2
  · omega
  · exact h2

/-- x n + m is two words. -/
theorem tp_lt (x n m : Nat) (hx : x < 18446744073709551616) (hn : n < 18446744073709551616) (hm : m < 18446744073709551616) : (x * n + m) / 18446744073709551616 < 18446744073709551616 := by
  have : x * n ≤ 18446744073709551615 * 18446744073709551615 := Nat.mul_le_mul (by omega) (by omega)
  omega
end Go.Proofs.Tm

/- The numbers of layer 5 in memory ('NV': a number as words); contracts of fit, word, Zero, sign, slices.Clone, Of, Words. -/
namespace Go.Proofs.YtoklmfmoblkfcaaDoor
open Go.RowKit Go.Proofs.Tm
set_option linter.unusedVariables false
set_option maxRecDepth 20000

/-- Numbers of 64 bits as cells. -/
def cu64 (ws : List Nat) : List Value := ws.map fun (b : Nat) => Value.int .u64 (b : Int)
@[simp] theorem cu64_length (ws : List Nat) : (cu64 ws).length = ws.length := by simp [cu64]
theorem cu64_one (ws : List Nat) : ∀ u ∈ cu64 ws, u.oneCell' = true := by intro u hu; obtain ⟨b, _, rfl⟩ := List.mem_map.1 hu; rfl
theorem cu64_getElem? (ws : List Nat) (i : Nat) : (cu64 ws)[i]? = ws[i]?.map fun (b : Nat) => Value.int .u64 (b : Int) := by simp [cu64]
theorem cu64_getD (ws : List Nat) (i : Nat) (h : i < ws.length) : (cu64 ws)[i]? = some (.int .u64 ((ws.getD i 0 : Nat) : Int)) := by rw [cu64_getElem?, List.getElem?_eq_getElem h]; simp [h]
theorem cu64_set (ws : List Nat) (i b : Nat) : cu64 (ws.set i b) = (cu64 ws).set i (.int .u64 (b : Int)) := by simp [cu64, List.map_set]
theorem cu64_take (ws : List Nat) (i : Nat) : cu64 (ws.take i) = (cu64 ws).take i := by simp [cu64, List.map_take]
theorem cu64_drop (ws : List Nat) (i : Nat) : cu64 (ws.drop i) = (cu64 ws).drop i := by simp [cu64, List.map_drop]
theorem cu64_zero (n : Nat) : cu64 (List.replicate n 0) = List.replicate n (.int .u64 0) := by simp [cu64]
theorem cu64_nil {ws : List Nat} : cu64 ws ≠ [] ↔ ws ≠ [] := by cases ws <;> simp [cu64]
theorem infoU64 : (Tryd.prog.info? 65).map (fun i => (i.zero, i.size, i.bytes)) = some (some (.int .u64 0), 1, 8) := by kernel_rfl

theorem sl_at {w : World} {v : Value} {xs : List Value} (h : Sl w v xs) (hx : xs ≠ []) : ∃ b o cap, v = .slice (some ⟨b, o, none⟩) xs.length cap ∧ ∀ i, i < xs.length → w.cell? ⟨b, o + i, none⟩ = xs[i]? := by
  obtain ⟨a, cap, rfl, _, _, h3⟩ := h
  obtain ⟨b, o, rfl, hc⟩ := h3 hx
  exact ⟨b, o, cap, rfl, hc⟩

/-- The first k of a slice. -/
theorem Sl.take {w : World} {a : Option Addr} {n cap : Nat} {xs : List Value} (h : Sl w (.slice a n cap) xs) (k : Nat) (hk : k ≤ n) : Sl w (.slice a k cap) (xs.take k) := by
  obtain ⟨a', cap', he, h1, h2, h3⟩ := h
  simp only [Value.slice.injEq] at he
  obtain ⟨rfl, hl, rfl⟩ := he
  have hlen : (xs.take k).length = k := by simp; omega
  refine ⟨a, cap, by rw [hlen], by rw [hlen]; omega, h2, fun hne => ?_⟩
  obtain ⟨b, o, rfl, hc⟩ := h3 (by rintro rfl; simp at hne)
  refine ⟨b, o, rfl, fun i hi => ?_⟩
  rw [hlen] at hi
  rw [hc i (by omega), List.getElem?_take, if_pos hi]

/-- How two numbers are held against one another. -/
def cmpN (m n : Nat) : Int := if m < n then -1 else if m = n then 0 else 1
/-- v is the number n: its words, as few as may be. -/
def NV (w : World) (v : Value) (n : Nat) : Prop := ∃ sv, v = .agg #[sv] ∧ Sl w sv (cu64 (wds n))

theorem NV.upd0 {w w' : World} {v : Value} {n : Nat} (h : NV w v n) (u : Upd [] w w') : NV w' v n := by
  obtain ⟨sv, rfl, h⟩ := h; exact ⟨sv, rfl, h.upd0 u⟩
/-- The number's own shape, for a walk. -/
theorem NV.open {w : World} {v : Value} {n : Nat} (h : NV w v n) : ∃ a cap, v = .agg #[.slice a (wds n).length cap] ∧ (wds n).length ≤ cap ∧ cap ≤ maxLen := by
  obtain ⟨sv, rfl, a, cap, rfl, h1, h2, _⟩ := h
  rw [cu64_length] at *
  exact ⟨a, cap, rfl, h1, h2⟩
theorem NV.sl {w : World} {sv : Value} {n : Nat} (h : NV w (.agg #[sv]) n) : Sl w sv (cu64 (wds n)) := by
  obtain ⟨sv', he, h⟩ := h
  simp only [Value.agg.injEq, Array.mk.injEq, List.cons.injEq, and_true] at he
  rw [he]; exact h
theorem NV.zero (w : World) : NV w (.agg #[.slice none 0 0]) 0 := ⟨_, rfl, by rw [wds_zero]; exact Sl.nil w⟩

/-- A number's word i, in memory. -/
theorem NV.at {w : World} {a : Option Addr} {n len cap : Nat} (h : NV w (.agg #[.slice a len cap]) n) (i : Nat) (hi : i < (wds n).length) : ∃ b o, a = some ⟨b, o, none⟩ ∧ b < w.heap.size ∧ w.cell? ⟨b, o + i, none⟩ = some (.int .u64 (((wds n).getD i 0 : Nat) : Int)) := by
  obtain ⟨b, o, cap', hv, hc⟩ := sl_at h.sl (by rw [cu64_nil]; intro e; rw [e] at hi; simp at hi)
  simp only [Value.slice.injEq] at hv
  have := hc i (by rw [cu64_length]; exact hi)
  rw [cu64_getD _ _ hi] at this
  exact ⟨b, o, hv.1, World.block_lt_of_cell? w _ this, this⟩
theorem NV.blk {w : World} {a : Option Addr} {n len cap : Nat} (h : NV w (.agg #[.slice a len cap]) n) (hn : wds n ≠ []) : ∀ k, (Value.slice a len cap).ownBlock = some k → k < w.heap.size :=
  h.sl.block_lt (cu64_nil.2 hn)

/-- A store into a block that holds no words changes no number. -/
theorem sl_store {w : World} {v : Value} {L : List Nat} (h : Sl w v (cu64 L)) {k : Nat} {cs : Array Value} {t : TypeId} {fr : Nat × Nat} (hk : w.heap[k]? = some (.cells cs t fr)) (hcs : ∀ (j : Nat) (z : Int), cs[j]? ≠ some (.int .u64 z)) (p : Addr) (hp : p.block = k) (x : Value) : Sl (w.setCell p x) v (cu64 L) := by
  refine h.upd (S := [k]) ((Upd.refl _ _).setCell (.inl (by simp [hp])) _) (fun hx j hj => ?_)
  obtain ⟨b, o, cap, rfl, hc⟩ := sl_at h hx
  simp [Value.ownBlock] at hj
  subst hj
  have hpos : 0 < (cu64 L).length := List.length_pos_iff.2 hx
  have h0 := hc 0 hpos
  simp only [List.mem_singleton]
  rintro rfl
  rw [cell_of_row w b (o + 0) _ _ _ hk, cu64_getD _ _ (by simpa using hpos)] at h0
  exact hcs _ _ h0
theorem NV.store {w : World} {v : Value} {n : Nat} (h : NV w v n) {k : Nat} {cs : Array Value} {t : TypeId} {fr : Nat × Nat} (hk : w.heap[k]? = some (.cells cs t fr)) (hcs : ∀ (j : Nat) (z : Int), cs[j]? ≠ some (.int .u64 z)) (p : Addr) (hp : p.block = k) (x : Value) : NV (w.setCell p x) v n := by
  obtain ⟨sv, rfl, h⟩ := h
  exact ⟨sv, rfl, sl_store h hk hcs p hp x⟩
theorem no_u64 {a : Option Addr} {l c : Nat} (j : Nat) (z : Int) : (#[Value.slice a l c] : Array Value)[j]? ≠ some (.int .u64 z) := by
  rcases j with _ | j <;> simp
theorem no_u64i {y : Int} (j : Nat) (z : Int) : (#[Value.int .i64 y] : Array Value)[j]? ≠ some (.int .u64 z) := by
  rcases j with _ | j <;> simp

/-- The result's own block, behind calls that turn nothing. -/
theorem res_block {w w2 : World} {cs : Array Value} {t : TypeId} (u : Upd [] (w.alloc (.cells cs t)) w2) : w2.heap[w.heap.size]? = some (.cells cs t (0, 0)) :=
  (u.block _ (by simp) (by simp)).trans (heap_alloc_new w _)
theorem res_cell {w w2 : World} {x : Value} {t : TypeId} (u : Upd [] (w.alloc (.cells #[x] t)) w2) : w2.cell? ⟨w.heap.size, 0, none⟩ = some x ∧ w2.frozen? ⟨w.heap.size, 0, none⟩ = false := by
  have h := res_block u
  refine ⟨by rw [cell_of_row w2 _ 0 _ _ _ h]; rfl, ?_⟩
  rw [u.frozen (p := ⟨w.heap.size, 0, none⟩) (by simp) (by simp)]
  exact World.frozen?_alloc_new w _ _ 0
theorem set_cell {w : World} {p : Addr} {x y : Value} (h : w.cell? p = some x) : (w.setCell p y).cell? p = some y := World.cell?_setCell_same' _ _ _ (by rw [h]; rfl)

/-- A call answers the number n; nothing old has turned. -/
def RNat (n : Nat) (w : World) (e : Ending) (w' : World) : Prop := ∃ v, e = .returned v ∧ NV w' v n ∧ Upd [] w w'

theorem sign_any (b : Bool) (w : World) : Calls Tryd.prog 47 #[.bool b] w fun e w' => e = .returned (.int .i64 (if b then 1 else -1)) ∧ w = w' := by
  cases b
  all_goals
    go_enter Tryd.func47, Tryd.ntmps47
    go_wp2
    go_ret
    exact ⟨rfl, rfl⟩

/-- The block of a number's words. -/
def nblk : Value → Option Nat | .agg a => a[0]?.bind Value.ownBlock | _ => none

set_option maxHeartbeats 800000 in
/-- What fit answers lies where its words did. -/
theorem fit_own (sv : Value) (L : List Nat) (w : World) (h : Sl w sv (cu64 L)) (hW : ∀ d ∈ L, d < 18446744073709551616) :
    Calls Tryd.prog 51 #[sv] w (fun e w' => ∃ v, e = .returned v ∧ NV w' v (wval L) ∧ Upd [] w w' ∧ ∀ k, nblk v = some k → sv.ownBlock = some k) := by
  have HS := Lib.hid h
  have HW := Lib.hid hW
  obtain ⟨a, cap, rfl, hlc, hcm, _⟩ := h
  unfold maxLen at hcm
  simp only [cu64_length] at *
  obtain ⟨n, hn⟩ : ∃ n, n = L.length := ⟨_, rfl⟩
  rw [← hn] at hlc
  have HN := Lib.hid hn
  rw [← hn] at HS ⊢
  clear hn hW
  go_enter Tryd.func51, Tryd.ntmps51
  go_wp2
  go_loop [3] (fun v3 => ∃ k : Nat, k ≤ n ∧ v3 = .int .i64 k ∧ Hid (∀ j, k ≤ j → j < n → L[j]? = some 0)) (fun v3 => (intOf v3).toNat)
  case atStart => exact ⟨n, Nat.le_refl _, rfl, fun j h1 h2 => by omega⟩
  case round =>
    obtain ⟨k, hk, rfl, HZ⟩ := hrel
    by_cases hk0 : k = 0
    · subst hk0
      go_wp2
      have hz : wval L = 0 := wval_zeros _ (fun d hd => by
        obtain ⟨j, hj, rfl⟩ := List.mem_iff_getElem.1 hd
        have := HZ.out j (Nat.zero_le _) (by rw [HN.out]; exact hj)
        rw [List.getElem?_eq_getElem hj] at this
        simpa using this)
      refine bodyPost_ret (v := .agg #[.slice none 0 0]) (by simp [results, Tryd.results51, go_sem]) rfl ?_
      exact ⟨_, rfl, by rw [hz]; exact NV.zero _, (Upd.refl _ _).alloc _, by simp [nblk, Value.ownBlock]⟩
    · obtain ⟨b, o, cap', hv, hc⟩ := sl_at HS.out (by rw [cu64_nil]; rintro rfl; have := HN.out; simp at this; omega)
      have hlen := HN.out
      obtain ⟨rfl, rfl⟩ : a = some ⟨b, o, none⟩ ∧ cap = cap' := by simp at hv; exact ⟨hv.1, hv.2.2⟩
      have hcell := hc (k - 1) (by rw [cu64_length]; omega)
      rw [cu64_getD _ _ (by omega)] at hcell
      have HX : Hid (L[k - 1]? = some (L.getD (k - 1) 0)) := by show _ = _; rw [List.getElem?_eq_getElem (show k - 1 < L.length by omega)]; simp [show k - 1 < L.length by omega]
      have hl := World.block_lt_of_cell? w _ hcell
      have hcell' : (w.alloc (.cells #[.slice none 0 0] 27)).cell? ⟨b, o + (k - 1), none⟩ = some (.int .u64 ((L.getD (k - 1) 0 : Nat) : Int)) := (Below.cell ((Below.refl _ w).alloc (Nat.le_refl _) _) (p := ⟨b, o + (k - 1), none⟩) hl).trans hcell
      have i0 : (0 : Int) ≤ (k : Int) - 1 := by omega
      have i1 : (k : Int) - 1 < (n : Int) := by omega
      have i2 : ((k : Int) - 1).toNat = k - 1 := by omega
      have i3 : decide (0 < k) = true := by simp; omega
      have i4 : IntKind.i64.wrap ((k : Int) - 1) = (k : Int) - 1 := IntWalk.i64_in _ (by omega)
      clear hc hv hlen hcell hl
      generalize L.getD (k - 1) 0 = x at *
      by_cases hx : x = 0
      · subst hx
        go_wp2
        refine ⟨⟨k - 1, by omega, by rw [Int.natCast_sub (by omega)]; rfl, fun j h1 h2 => ?_⟩, by simp [intOf]; omega⟩
        rcases Nat.lt_or_ge j k with h | h
        · obtain rfl : j = k - 1 := by omega
          exact HX.out
        · exact HZ.out j h h2
      · have hx' : ((x : Int) == 0) = false := by simp; omega
        go_wp2
        have ht := fit_wds L k HW.out (by have := HN.out; omega) (.inr (by rw [HX.out]; simpa using hx)) (fun j h1 h2 => HZ.out j h1 (by have := HN.out; omega))
        refine bodyPost_ret (v := .agg #[.slice (some ⟨b, o, none⟩) k cap]) (by simp [results, Tryd.results51, go_sem]) rfl ?_
        refine ⟨_, rfl, ⟨_, rfl, ?_⟩, (Upd.refl _ _).alloc _, by simp [nblk, Value.ownBlock]⟩
        rw [← ht, cu64_take]
        exact (Sl.take HS.out k hk).upd0 ((Upd.refl _ _).alloc _)

theorem fit_any (sv : Value) (L : List Nat) (w : World) (h : Sl w sv (cu64 L)) (hW : ∀ d ∈ L, d < 18446744073709551616) :
    Calls Tryd.prog 51 #[sv] w (RNat (wval L) w) := by
  refine (fit_own sv L w h hW).mono ?_
  rintro e w' ⟨v, he, hn, hu, _⟩
  exact ⟨v, he, hn, hu⟩

/-- What slices.Clone answers: the same words. -/
def RSl (xs : List Value) (w : World) (e : Ending) (w' : World) : Prop := ∃ v, e = .returned v ∧ Sl w' v xs ∧ Upd [] w w' ∧ ∀ k, v.ownBlock = some k → w.heap.size ≤ k

set_option maxHeartbeats 400000 in
theorem sclone_any (v : Value) (ws : List Nat) (w : World) (h : Sl w v (cu64 ws)) (hl : ws.length ≤ 1099511627776) :
    Calls Tryd.prog 52 #[v] w (RSl (cu64 ws) w) := by
  have HS := Lib.hid h
  obtain ⟨a, cap, rfl, _, _, hc⟩ := h
  rw [cu64_length] at HS ⊢
  have hq := fun W => Lib.run_eql_slice_nil (P := Tryd.prog) W 22 65 a ws.length cap 0 0 Tryd.underlying22
  cases a with
  | none =>
    simp only [Option.isNone_none] at hq
    have hw0 : ws = [] := by
      cases ws with
      | nil => rfl
      | cons x l => obtain ⟨b, o, hb, _⟩ := hc (by simp [cu64]); cases hb
    have HW0 := Lib.hid hw0
    clear hc hw0
    go_enter Tryd.func52, Tryd.ntmps52
    go_wp2
    go_ret
    exact ⟨_, rfl, by rw [HW0.out]; exact Sl.nil _, Upd.refl _ _, by simp [Value.ownBlock]⟩
  | some ad =>
    simp only [Option.isNone_some] at hq
    clear hc
    go_enter Tryd.func52, Tryd.ntmps52
    go_wp2_with (at_builtin; refine wpList_append_sl _ rfl (.tmp 5) (.tmp 6) 22 rfl w.heap.size 65 (.int .u64 0) 8 Tryd.underlying22 infoU64 rfl _ _ _ rfl (own_lit w 65 #[] (by decide)) _ (cu64 ws) rfl (HS.out.upd0 ((Upd.refl _ _).alloc _)) (cu64_one _) ?c2 ?c3 ?c4 ?go)
    case c2 => unfold maxLen; simp; omega
    case c3 => simp; omega
    case c4 => simp
    case go =>
      intro v1 w1 ho hg _
      have HO : Hid (w1.ownsRow w.heap.size 65 1 v1 ws.length (cu64 ws)) := by show World.ownsRow _ _ _ _ _ _ _; simpa using ho
      have HU : Hid (Upd [] w w1) := ((Upd.refl _ _).alloc _).grown hg (fun k hk => .inr (by simp [Value.ownBlock] at hk; omega))
      clear ho hg
      go_wp2
      go_ret
      exact ⟨_, rfl, Sl.own HO.out, HU.out, fun k hk => (HO.out.lt k hk).1⟩

theorem wval_eq_of (L : List Nat) : wval L = wval L := rfl

set_option maxHeartbeats 400000 in
theorem of_any (v : Value) (L : List Nat) (w : World) (h : Sl w v (cu64 L)) (hl : L.length ≤ 1099511627776) (hW : ∀ d ∈ L, d < 18446744073709551616) :
    Calls Tryd.prog 29 #[v] w (RNat (wval L) w) := by
  have HS := Lib.hid h
  have HW := Lib.hid hW
  have HL := Lib.hid hl
  clear h hW hl
  go_enter Tryd.func29, Tryd.ntmps29
  go_wp2_with fail
  refine (sclone_any _ _ _ (HS.out.upd0 ((Upd.refl _ _).alloc _)) HL.out).mono ?_
  rintro e w1 ⟨v1, rfl, hs1, hu1, _⟩
  have HS1 := Lib.hid hs1
  have HU1 := Lib.hid (((Upd.refl _ w).alloc _).trans0 hu1)
  clear hs1
  go_wp2_with fail
  refine (fit_any _ _ _ HS1.out HW.out).mono ?_
  rintro e w2 ⟨v2, rfl, hn2, hu2⟩
  obtain ⟨a2, cap2, rfl, hl2, hm2⟩ := hn2.open
  have HN2 := Lib.hid hn2
  have HU2 := Lib.hid (HU1.out.trans0 hu2)
  have hu := hu1.trans0 hu2
  have hbk := res_block hu
  obtain ⟨hc2, hf2⟩ := res_cell hu
  have HBK := Lib.hid hbk
  clear hn2 hu2 hu1 hu hbk
  go_wp2
  have hset := set_cell (y := .slice a2 (wds (wval L)).length cap2) hc2
  refine bodyPost_ret (v := .agg #[.slice a2 (wds (wval L)).length cap2]) (by simp [results, Tryd.results29, go_sem, hset]) rfl ?_
  exact ⟨_, rfl, HN2.out.store HBK.out no_u64 _ rfl _, HU2.out.setCell (.inr (Nat.le_refl _)) _⟩
end Go.Proofs.YtoklmfmoblkfcaaDoor

/-
  DERIVED: THE SHELF's CONTRACTS AT THIS DUMP, IN PLAIN WORDS (tools/lay-plain.mjs out of 'TrydShelf.lean', which tools/lay-shelf.mjs wrote): THE SAME DECLARATIONS UNDER THE SAME NAMES: 'import', 'namespace', 'open', 'def', 'theorem' AND NOTHING ELSE: no command of the shelf's: FOR A HAND-IN. Each laying: the table of numbers ('.._ren') and one theorem, a field a fact of the dump's own or the kernel's comparison; each contract: ONE APPLICATION.
-/
namespace Go.Proofs
open Go.Shelf
def Tryd.lays170_ren : Go.Shelf.Ren := ⟨fun | 170 => 91 | n => n, fun | 70 => 94 | 3 => 3 | 0 => 0 | 72 => 97 | 37 => 95 | 5 => 5 | n => n, fun | n => n⟩
theorem Tryd.lays170 : Go.Proofs.Lays.n170 Tryd.prog Tryd.lays170_ren := {
  mixed := by kernel_rfl
  f170 := Tryd.func91.trans (congrArg some (by kernel_rfl))
  t0 := Tryd.underlying0
  a0 := Tryd.isAgg0
  z0 := Tryd.sizeOf0
  v0 := Tryd.zeroValue0
  t3 := Tryd.underlying3
  a3 := Tryd.isAgg3
  z3 := Tryd.sizeOf3
  v3 := Tryd.zeroValue3
  t37 := Tryd.underlying95
  a37 := Tryd.isAgg95
  z37 := Tryd.sizeOf95
  v37 := Tryd.zeroValue95
  t70 := Tryd.underlying94
  a70 := Tryd.isAgg94
  z70 := Tryd.sizeOf94
  v70 := Tryd.zeroValue94
  t72 := Tryd.underlying97
  a72 := Tryd.isAgg97
  z72 := Tryd.sizeOf97
  v72 := Tryd.zeroValue97 }
open Go.RowKit in
/-- (*strings.Builder).Len: "Len returns the number of accumulated bytes; b.Len() == len(b.String()).": the world is as it was. (LAID: no walk: one application.) -/
theorem Tryd.Builder_Len (B b : Nat) (bs : List Value) (w : World) (h : Lib.IsBuilder 97 5 B b bs w) :
    Calls Tryd.prog 91 #[.pointer (some ⟨b, 0, none⟩)] w fun e w' => e = .returned (.int .i64 bs.length) ∧ w' = w := Any.Builder_Len Tryd.lays170 B b bs w h
def Tryd.lays169_ren : Go.Shelf.Ren := ⟨fun | 169 => 66 | n => n, fun | 70 => 94 | 9 => 9 | 0 => 0 | 72 => 97 | 37 => 95 | 127 => 127 | 3 => 3 | 5 => 5 | n => n, fun | n => n⟩
theorem Tryd.lays169 : Go.Proofs.Lays.n169 Tryd.prog Tryd.lays169_ren := {
  mixed := by kernel_rfl
  f169 := Tryd.func66.trans (congrArg some (by kernel_rfl))
  t0 := Tryd.underlying0
  a0 := Tryd.isAgg0
  z0 := Tryd.sizeOf0
  v0 := Tryd.zeroValue0
  t3 := Tryd.underlying3
  a3 := Tryd.isAgg3
  z3 := Tryd.sizeOf3
  v3 := Tryd.zeroValue3
  t9 := Tryd.underlying9
  a9 := Tryd.isAgg9
  z9 := Tryd.sizeOf9
  v9 := Tryd.zeroValue9
  t37 := Tryd.underlying95
  a37 := Tryd.isAgg95
  z37 := Tryd.sizeOf95
  v37 := Tryd.zeroValue95
  t70 := Tryd.underlying94
  a70 := Tryd.isAgg94
  z70 := Tryd.sizeOf94
  v70 := Tryd.zeroValue94
  t72 := Tryd.underlying97
  a72 := Tryd.isAgg97
  z72 := Tryd.sizeOf97
  v72 := Tryd.zeroValue97
  t127 := Tryd.underlying127
  a127 := Tryd.isAgg127
  z127 := Tryd.sizeOf127
  v127 := Tryd.zeroValue127 }
theorem Tryd.Builder_Extra_169 : Builder.Extra Tryd.prog Tryd.lays169_ren := {
  sizeBuilder := by kernel_rfl
  liesBuilder := by kernel_rfl
  t5 := Tryd.underlying5
  a5 := Tryd.isAgg5
  z5 := Tryd.sizeOf5
  v5 := Tryd.zeroValue5
  infoByte := by kernel_rfl
  cellsByte := by kernel_rfl
  sizeByte := by kernel_rfl
  neB5 := by decide }
open Go.RowKit in
/-- (*strings.Builder).String: "String returns the accumulated string.": OF A BUILDER THAT HOLDS AT LEAST ONE BYTE. ✋ THE MODEL FREEZES THOSE BYTES IN THE BUFFER (unsafe.String): a later write INTO them ends the model's run without an answer; a later append BEHIND them goes on. The statement's order of evaluation is drawn: one draw. (LAID: no walk: one application.) -/
theorem Tryd.Builder_String (B b : Nat) (l : List UInt8) (w : World) (h : Lib.IsBuilder 97 5 B b (Lib.byteCells l) w) (h0 : l ≠ []) :
    Calls Tryd.prog 66 #[.pointer (some ⟨b, 0, none⟩)] w fun e w' => e = .returned (.string ⟨l.toArray⟩) ∧ Below B w w' := Any.Builder_String Tryd.lays169 Tryd.Builder_Extra_169 B b l w h h0
open Go.RowKit in
/-- (*strings.Builder).String OF A BUILDER THAT HOLDS NO BYTE: the empty string. (Its buffer is nil, or a row of which it has taken nothing yet; where that row has NO capacity the model lays one new block for unsafe.SliceData's 'some address'.) One draw. (LAID: no walk: one application.) -/
theorem Tryd.Builder_String_empty (B b : Nat) (w : World) (h : Lib.IsBuilder 97 5 B b [] w) (hBw : B ≤ w.heap.size) :
    Calls Tryd.prog 66 #[.pointer (some ⟨b, 0, none⟩)] w fun e w' => e = .returned (.string ⟨#[]⟩) ∧ Below B w w' := Any.Builder_String_empty Tryd.lays169 Tryd.Builder_Extra_169 B b w h hBw
open Go.RowKit in
/-- (*strings.Builder).String: "String returns the accumulated string.": WHATEVER THE BUILDER HOLDS. (LAID: no walk: one application.) -/
theorem Tryd.Builder_String_any (B b : Nat) (l : List UInt8) (w : World) (h : Lib.IsBuilder 97 5 B b (Lib.byteCells l) w) (hBw : B ≤ w.heap.size) :
    Calls Tryd.prog 66 #[.pointer (some ⟨b, 0, none⟩)] w fun e w' => e = .returned (.string ⟨l.toArray⟩) ∧ Below B w w' := Any.Builder_String_any Tryd.lays169 Tryd.Builder_Extra_169 B b l w h hBw
def Tryd.lays241_ren : Go.Shelf.Ren := ⟨fun | 241 => 106 | 277 => 117 | n => n, fun | 70 => 94 | 3 => 3 | 0 => 0 | 72 => 97 | 37 => 95 | 5 => 5 | n => n, fun | n => n⟩
theorem Tryd.lays241 : Go.Proofs.Lays.n241 Tryd.prog Tryd.lays241_ren := {
  mixed := by kernel_rfl
  f241 := Tryd.func106.trans (congrArg some (by kernel_rfl))
  f277 := Tryd.func117.trans (congrArg some (by kernel_rfl))
  t0 := Tryd.underlying0
  a0 := Tryd.isAgg0
  z0 := Tryd.sizeOf0
  v0 := Tryd.zeroValue0
  t3 := Tryd.underlying3
  a3 := Tryd.isAgg3
  z3 := Tryd.sizeOf3
  v3 := Tryd.zeroValue3
  t37 := Tryd.underlying95
  a37 := Tryd.isAgg95
  z37 := Tryd.sizeOf95
  v37 := Tryd.zeroValue95
  t70 := Tryd.underlying94
  a70 := Tryd.isAgg94
  z70 := Tryd.sizeOf94
  v70 := Tryd.zeroValue94
  t72 := Tryd.underlying97
  a72 := Tryd.isAgg97
  z72 := Tryd.sizeOf97
  v72 := Tryd.zeroValue97 }
theorem Tryd.Builder_Extra_241 : Builder.Extra Tryd.prog Tryd.lays241_ren := {
  sizeBuilder := by kernel_rfl
  liesBuilder := by kernel_rfl
  t5 := Tryd.underlying5
  a5 := Tryd.isAgg5
  z5 := Tryd.sizeOf5
  v5 := Tryd.zeroValue5
  infoByte := by kernel_rfl
  cellsByte := by kernel_rfl
  sizeByte := by kernel_rfl
  neB5 := by decide }
open Go.RowKit in
/-- (*strings.Builder).grow (no doc but "grow copies the buffer to a new, larger buffer so that there are at least n bytes of capacity beyond len(b.buf)."): AT A BUILDER WITHOUT A BUFFER: a new row of whatever bytes for its buffer, none of them its own yet. Three draws. (LAID: no walk: one application.) -/
theorem Tryd.Builder_grow_fresh (B b n : Nat) (w : World) (hB : B ≤ b) (hbk : w.heap[b]? = some (.cells #[.pointer (some ⟨b, 0, none⟩), .slice none 0 0] 97 (0, 0))) (hBw : B ≤ w.heap.size) (hn : n ≤ 281474976710656) :
    Calls Tryd.prog 106 #[.pointer (some ⟨b, 0, none⟩), .int .i64 n] w fun e w' => e = .returned (.tuple #[]) ∧ (Lib.BuilderAt 97 5 B b (.pointer (some ⟨b, 0, none⟩)) [] w' ∧ Below B w w') := Any.Builder_grow_fresh Tryd.lays241 Tryd.Builder_Extra_241 B b n w hB hbk hBw hn
def Tryd.lays165_ren : Go.Shelf.Ren := ⟨fun | 165 => 90 | 240 => 86 | 241 => 106 | 276 => 100 | 277 => 117 | n => n, fun | 70 => 94 | 3 => 3 | 0 => 0 | 4 => 4 | 9 => 9 | 20 => 20 | 72 => 97 | 37 => 95 | 164 => 132 | 5 => 5 | n => n, fun | n => n⟩
theorem Tryd.lays165 : Go.Proofs.Lays.n165 Tryd.prog Tryd.lays165_ren := {
  mixed := by kernel_rfl
  f165 := Tryd.func90.trans (congrArg some (by kernel_rfl))
  f240 := Tryd.func86.trans (congrArg some (by kernel_rfl))
  f241 := Tryd.func106.trans (congrArg some (by kernel_rfl))
  f276 := Tryd.func100.trans (congrArg some (by kernel_rfl))
  f277 := Tryd.func117.trans (congrArg some (by kernel_rfl))
  t0 := Tryd.underlying0
  a0 := Tryd.isAgg0
  z0 := Tryd.sizeOf0
  v0 := Tryd.zeroValue0
  t3 := Tryd.underlying3
  a3 := Tryd.isAgg3
  z3 := Tryd.sizeOf3
  v3 := Tryd.zeroValue3
  t4 := Tryd.underlying4
  a4 := Tryd.isAgg4
  z4 := Tryd.sizeOf4
  v4 := Tryd.zeroValue4
  t9 := Tryd.underlying9
  a9 := Tryd.isAgg9
  z9 := Tryd.sizeOf9
  v9 := Tryd.zeroValue9
  t20 := Tryd.underlying20
  a20 := Tryd.isAgg20
  z20 := Tryd.sizeOf20
  v20 := Tryd.zeroValue20
  t37 := Tryd.underlying95
  a37 := Tryd.isAgg95
  z37 := Tryd.sizeOf95
  v37 := Tryd.zeroValue95
  t70 := Tryd.underlying94
  a70 := Tryd.isAgg94
  z70 := Tryd.sizeOf94
  v70 := Tryd.zeroValue94
  t72 := Tryd.underlying97
  a72 := Tryd.isAgg97
  z72 := Tryd.sizeOf97
  v72 := Tryd.zeroValue97
  t164 := Tryd.underlying132
  a164 := Tryd.isAgg132
  z164 := Tryd.sizeOf132
  v164 := Tryd.zeroValue132 }
theorem Tryd.Builder_Extra_165 : Builder.Extra Tryd.prog Tryd.lays165_ren := {
  sizeBuilder := by kernel_rfl
  liesBuilder := by kernel_rfl
  t5 := Tryd.underlying5
  a5 := Tryd.isAgg5
  z5 := Tryd.sizeOf5
  v5 := Tryd.zeroValue5
  infoByte := by kernel_rfl
  cellsByte := by kernel_rfl
  sizeByte := by kernel_rfl
  neB5 := by decide }
open Go.RowKit in
/-- (*strings.Builder).Grow AT A BUILDER THAT HAS NOT BEEN WRITTEN ('var b strings.Builder; b.Grow(n)'): "Grow grows b's capacity, if necessary, to guarantee space for another n bytes.": it holds no byte behind it as before it. (LAID: no walk: one application.) -/
theorem Tryd.Builder_Grow_fresh (B b n : Nat) (w : World) (hB : B ≤ b) (hbk : w.heap[b]? = some (.cells #[.pointer none, .slice none 0 0] 97 (0, 0))) (hBw : B ≤ w.heap.size) (hn : n ≤ 281474976710656) :
    Calls Tryd.prog 90 #[.pointer (some ⟨b, 0, none⟩), .int .i64 n] w fun e w' => e = .returned (.tuple #[]) ∧ (Lib.BuilderAt 97 5 B b (.pointer (some ⟨b, 0, none⟩)) [] w' ∧ Below B w w') := Any.Builder_Grow_fresh Tryd.lays165 Tryd.Builder_Extra_165 B b n w hB hbk hBw hn
def Tryd.lays128_ren : Go.Shelf.Ren := ⟨fun | 128 => 78 | n => n, fun | 51 => 115 | 3 => 3 | 4 => 4 | 46 => 86 | 5 => 5 | 9 => 9 | n => n, fun | n => n⟩
theorem Tryd.lays128 : Go.Proofs.Lays.n128 Tryd.prog Tryd.lays128_ren := {
  mixed := by kernel_rfl
  f128 := Tryd.func78.trans (congrArg some (by kernel_rfl))
  t3 := Tryd.underlying3
  a3 := Tryd.isAgg3
  z3 := Tryd.sizeOf3
  v3 := Tryd.zeroValue3
  t4 := Tryd.underlying4
  a4 := Tryd.isAgg4
  z4 := Tryd.sizeOf4
  v4 := Tryd.zeroValue4
  t5 := Tryd.underlying5
  a5 := Tryd.isAgg5
  z5 := Tryd.sizeOf5
  v5 := Tryd.zeroValue5
  t9 := Tryd.underlying9
  a9 := Tryd.isAgg9
  z9 := Tryd.sizeOf9
  v9 := Tryd.zeroValue9
  t46 := Tryd.underlying86
  a46 := Tryd.isAgg86
  z46 := Tryd.sizeOf86
  v46 := Tryd.zeroValue86
  t51 := Tryd.underlying115
  a51 := Tryd.isAgg115
  z51 := Tryd.sizeOf115
  v51 := Tryd.zeroValue115 }
/-- bits.Len32: "Len32 returns the minimum number of bits required to represent x; the result is 0 for x == 0.": IT RETURNS 'Lib.bitLen x'; the world is as it was. ('h0', 'h1': x is a uint32.) (LAID: no walk: one application.) -/
theorem Tryd.bits_Len32 (x : Int) (w : World) (h0 : 0 ≤ x) (h1 : x ≤ 4294967295) :
    Calls Tryd.prog 78 #[.int .u32 x] w fun e w' => e = .returned (.int .i64 (Lib.bitLen x.toNat)) ∧ w' = w := Any.bits_Len32 Tryd.lays128 x w h0 h1
def Tryd.lays125_ren : Go.Shelf.Ren := ⟨fun | 125 => 55 | 128 => 78 | 129 => 77 | n => n, fun | 46 => 86 | 3 => 3 | 51 => 115 | 53 => 65 | 4 => 4 | 5 => 5 | 9 => 9 | n => n, fun | n => n⟩
theorem Tryd.lays125 : Go.Proofs.Lays.n125 Tryd.prog Tryd.lays125_ren := {
  mixed := by kernel_rfl
  f125 := Tryd.func55.trans (congrArg some (by kernel_rfl))
  f128 := Tryd.func78.trans (congrArg some (by kernel_rfl))
  f129 := Tryd.func77.trans (congrArg some (by kernel_rfl))
  t3 := Tryd.underlying3
  a3 := Tryd.isAgg3
  z3 := Tryd.sizeOf3
  v3 := Tryd.zeroValue3
  t4 := Tryd.underlying4
  a4 := Tryd.isAgg4
  z4 := Tryd.sizeOf4
  v4 := Tryd.zeroValue4
  t5 := Tryd.underlying5
  a5 := Tryd.isAgg5
  z5 := Tryd.sizeOf5
  v5 := Tryd.zeroValue5
  t9 := Tryd.underlying9
  a9 := Tryd.isAgg9
  z9 := Tryd.sizeOf9
  v9 := Tryd.zeroValue9
  t46 := Tryd.underlying86
  a46 := Tryd.isAgg86
  z46 := Tryd.sizeOf86
  v46 := Tryd.zeroValue86
  t51 := Tryd.underlying115
  a51 := Tryd.isAgg115
  z51 := Tryd.sizeOf115
  v51 := Tryd.zeroValue115
  t53 := Tryd.underlying65
  a53 := Tryd.isAgg65
  z53 := Tryd.sizeOf65
  v53 := Tryd.zeroValue65 }
/-- bits.Len: "Len returns the minimum number of bits required to represent x; the result is 0 for x == 0.": IT RETURNS 'Lib.bitLen x'; the world is as it was. (A uint has 64 bits in the model.) ITS CALLEE bits.Len64 IS MET BY ITS OWN CONTRACT OFF THE SHELF (lay that first). (LAID: no walk: one application.) -/
theorem Tryd.bits_Len (x : Int) (w : World) (h0 : 0 ≤ x) (h1 : x ≤ 18446744073709551615) :
    Calls Tryd.prog 55 #[.int .u64 x] w fun e w' => e = .returned (.int .i64 (Lib.bitLen x.toNat)) ∧ w' = w := Any.bits_Len Tryd.lays125 x w h0 h1
def Tryd.lays134_ren : Go.Shelf.Ren := ⟨fun | 134 => 83 | 129 => 77 | n => n, fun | 53 => 65 | 3 => 3 | 4 => 4 | 46 => 86 | 5 => 5 | 9 => 9 | n => n, fun | n => n⟩
theorem Tryd.lays134 : Go.Proofs.Lays.n134 Tryd.prog Tryd.lays134_ren := {
  mixed := by kernel_rfl
  f129 := Tryd.func77.trans (congrArg some (by kernel_rfl))
  f134 := Tryd.func83.trans (congrArg some (by kernel_rfl))
  t3 := Tryd.underlying3
  a3 := Tryd.isAgg3
  z3 := Tryd.sizeOf3
  v3 := Tryd.zeroValue3
  t4 := Tryd.underlying4
  a4 := Tryd.isAgg4
  z4 := Tryd.sizeOf4
  v4 := Tryd.zeroValue4
  t5 := Tryd.underlying5
  a5 := Tryd.isAgg5
  z5 := Tryd.sizeOf5
  v5 := Tryd.zeroValue5
  t9 := Tryd.underlying9
  a9 := Tryd.isAgg9
  z9 := Tryd.sizeOf9
  v9 := Tryd.zeroValue9
  t46 := Tryd.underlying86
  a46 := Tryd.isAgg86
  z46 := Tryd.sizeOf86
  v46 := Tryd.zeroValue86
  t53 := Tryd.underlying65
  a53 := Tryd.isAgg65
  z53 := Tryd.sizeOf65
  v53 := Tryd.zeroValue65 }
/-- bits.LeadingZeros64: "LeadingZeros64 returns the number of leading zero bits in x; the result is 64 for x == 0.": IT RETURNS '64 - Lib.bitLen x'; the world is as it was. ITS CALLEE bits.Len64 IS MET BY ITS OWN CONTRACT OFF THE SHELF (lay that first): entered in place it sends the kernel out of memory. (LAID: no walk: one application.) -/
theorem Tryd.bits_LeadingZeros64 (x : Int) (w : World) (h0 : 0 ≤ x) (h1 : x ≤ 18446744073709551615) :
    Calls Tryd.prog 83 #[.int .u64 x] w fun e w' => e = .returned (.int .i64 (64 - (Lib.bitLen x.toNat : Int))) ∧ w' = w := Any.bits_LeadingZeros64 Tryd.lays134 x w h0 h1
def Tryd.lays210_ren : Go.Shelf.Ren := ⟨fun | 210 => 74 | 206 => 93 | n => n, fun | 9 => 9 | 4 => 4 | 3 => 3 | n => n, fun | n => n⟩
theorem Tryd.lays210 : Go.Proofs.Lays.n210 Tryd.prog Tryd.lays210_ren := {
  mixed := by kernel_rfl
  f206 := Tryd.func93.trans (congrArg some (by kernel_rfl))
  f210 := Tryd.func74.trans (congrArg some (by kernel_rfl))
  t3 := Tryd.underlying3
  a3 := Tryd.isAgg3
  z3 := Tryd.sizeOf3
  v3 := Tryd.zeroValue3
  t4 := Tryd.underlying4
  a4 := Tryd.isAgg4
  z4 := Tryd.sizeOf4
  v4 := Tryd.zeroValue4
  t9 := Tryd.underlying9
  a9 := Tryd.isAgg9
  z9 := Tryd.sizeOf9
  v9 := Tryd.zeroValue9 }
open Go.RowKit in
/-- internal/stringslite.CutPrefix (what strings.CutPrefix calls). (LAID: no walk: one application.) -/
theorem Tryd.stringslite_CutPrefix (s p : ByteArray) (w : World) :
    Calls Tryd.prog 74 #[.string s, .string p] w fun e w' => e = .returned (.tuple #[.string ⟨(Lib.trimPrefix s.data.toList p.data.toList).toArray⟩, .bool (Lib.hasPrefix s.data.toList p.data.toList)]) ∧ w' = w := Any.stringslite_CutPrefix Tryd.lays210 s p w
def Tryd.lays103_ren : Go.Shelf.Ren := ⟨fun | 103 => 49 | 210 => 74 | 206 => 93 | n => n, fun | 9 => 9 | 4 => 4 | 24 => 79 | 3 => 3 | n => n, fun | n => n⟩
theorem Tryd.lays103 : Go.Proofs.Lays.n103 Tryd.prog Tryd.lays103_ren := {
  mixed := by kernel_rfl
  f103 := Tryd.func49.trans (congrArg some (by kernel_rfl))
  f206 := Tryd.func93.trans (congrArg some (by kernel_rfl))
  f210 := Tryd.func74.trans (congrArg some (by kernel_rfl))
  t3 := Tryd.underlying3
  a3 := Tryd.isAgg3
  z3 := Tryd.sizeOf3
  v3 := Tryd.zeroValue3
  t4 := Tryd.underlying4
  a4 := Tryd.isAgg4
  z4 := Tryd.sizeOf4
  v4 := Tryd.zeroValue4
  t9 := Tryd.underlying9
  a9 := Tryd.isAgg9
  z9 := Tryd.sizeOf9
  v9 := Tryd.zeroValue9
  t24 := Tryd.underlying79
  a24 := Tryd.isAgg79
  z24 := Tryd.sizeOf79
  v24 := Tryd.zeroValue79 }
open Go.RowKit in
/-- strings.CutPrefix: "CutPrefix returns s without the provided leading prefix string and reports whether it found the prefix. If s doesn't start with prefix, CutPrefix returns s, false. If prefix is the empty string, CutPrefix returns s, true.": IT RETURNS '(Lib.trimPrefix s p, Lib.hasPrefix s p)'; the world is as it was. (LAID: no walk: one application.) -/
theorem Tryd.strings_CutPrefix (s p : ByteArray) (w : World) :
    Calls Tryd.prog 49 #[.string s, .string p] w fun e w' => e = .returned (.tuple #[.string ⟨(Lib.trimPrefix s.data.toList p.data.toList).toArray⟩, .bool (Lib.hasPrefix s.data.toList p.data.toList)]) ∧ w' = w := Any.strings_CutPrefix Tryd.lays103 s p w
open Go.RowKit in
/-- (*strings.Builder).Len: "Len returns the number of accumulated bytes; b.Len() == len(b.String()).": the world is as it was. (THE FORM '_f': 'Lib.IsBuilderF'.) (LAID: no walk: one application.) -/
theorem Tryd.Builder_Len_f (B b : Nat) (bs : List Value) (w : World) (h : Lib.IsBuilderF 97 5 B b bs w) :
    Calls Tryd.prog 91 #[.pointer (some ⟨b, 0, none⟩)] w fun e w' => e = .returned (.int .i64 bs.length) ∧ w' = w := Any.Builder_Len_f Tryd.lays170 B b bs w h
open Go.RowKit in
/-- (*strings.Builder).String: "String returns the accumulated string.": OF A BUILDER THAT HOLDS AT LEAST ONE BYTE. ✋ THE MODEL FREEZES THOSE BYTES IN THE BUFFER (unsafe.String): a later write INTO them ends the model's run without an answer; a later append BEHIND them goes on. The statement's order of evaluation is drawn: one draw. THE FORM '_f': IT SAYS BESIDES THAT THE BUILDER IS A BUILDER STILL ('Lib.IsBuilderF', the same bytes): SO IT CAN BE WRITTEN ON: 'b.WriteString(b.String()[:k])'. (LAID: no walk: one application.) -/
theorem Tryd.Builder_String_f (B b : Nat) (l : List UInt8) (w : World) (h : Lib.IsBuilderF 97 5 B b (Lib.byteCells l) w) (h0 : l ≠ []) :
    Calls Tryd.prog 66 #[.pointer (some ⟨b, 0, none⟩)] w fun e w' => e = .returned (.string ⟨l.toArray⟩) ∧ (Lib.IsBuilderF 97 5 B b (Lib.byteCells l) w' ∧ Below B w w') := Any.Builder_String_f Tryd.lays169 Tryd.Builder_Extra_169 B b l w h h0
open Go.RowKit in
/-- (*strings.Builder).String OF A BUILDER THAT HOLDS NO BYTE: the empty string; THE FORM '_f': a builder still. (LAID: no walk: one application.) -/
theorem Tryd.Builder_String_empty_f (B b : Nat) (w : World) (h : Lib.IsBuilderF 97 5 B b [] w) (hBw : B ≤ w.heap.size) :
    Calls Tryd.prog 66 #[.pointer (some ⟨b, 0, none⟩)] w fun e w' => e = .returned (.string ⟨#[]⟩) ∧ (Lib.IsBuilderF 97 5 B b [] w' ∧ Below B w w') := Any.Builder_String_empty_f Tryd.lays169 Tryd.Builder_Extra_169 B b w h hBw
open Go.RowKit in
/-- (*strings.Builder).String: "String returns the accumulated string.": WHATEVER THE BUILDER HOLDS; THE FORM '_f': OF A BUILDER THAT MAY HAVE BEEN READ BEFORE; AND IT IS A BUILDER STILL, holding the same bytes: it can be written on. (LAID: no walk: one application.) -/
theorem Tryd.Builder_String_any_f (B b : Nat) (l : List UInt8) (w : World) (h : Lib.IsBuilderF 97 5 B b (Lib.byteCells l) w) (hBw : B ≤ w.heap.size) :
    Calls Tryd.prog 66 #[.pointer (some ⟨b, 0, none⟩)] w fun e w' => e = .returned (.string ⟨l.toArray⟩) ∧ (Lib.IsBuilderF 97 5 B b (Lib.byteCells l) w' ∧ Below B w w') := Any.Builder_String_any_f Tryd.lays169 Tryd.Builder_Extra_169 B b l w h hBw
open Go.RowKit in
/-- (*strings.Builder).String: "String returns the accumulated string.": OF A BUILDER THAT HOLDS AT LEAST ONE BYTE. ✋ THE MODEL FREEZES THOSE BYTES IN THE BUFFER (unsafe.String): a later write INTO them ends the model's run without an answer; a later append BEHIND them goes on. The statement's order of evaluation is drawn: one draw. THE FORM '_k': OVER 'Lib.IsBuilderF' (a builder that 'String()' may have read), AND WITH THE FRAME THAT REACHES ABOVE THE BUILDER: 'Lib.OthersKept': every block that is not b and is no row of uint8's stands as it stood: the iterator of a range among them. (LAID: no walk: one application.) -/
theorem Tryd.Builder_String_k (B b : Nat) (l : List UInt8) (w : World) (h : Lib.IsBuilderF 97 5 B b (Lib.byteCells l) w) (h0 : l ≠ []) :
    Calls Tryd.prog 66 #[.pointer (some ⟨b, 0, none⟩)] w fun e w' => e = .returned (.string ⟨l.toArray⟩) ∧ (Lib.IsBuilderF 97 5 B b (Lib.byteCells l) w' ∧ Below B w w' ∧ Lib.OthersKept 5 (some b) w w') := Any.Builder_String_k Tryd.lays169 Tryd.Builder_Extra_169 B b l w h h0
open Go.RowKit in
/-- (*strings.Builder).String OF A BUILDER THAT HOLDS NO BYTE: the empty string; THE FORM '_k': OVER 'Lib.IsBuilderF' (a builder that 'String()' may have read), AND WITH THE FRAME THAT REACHES ABOVE THE BUILDER: 'Lib.OthersKept': every block that is not b and is no row of uint8's stands as it stood: the iterator of a range among them. (LAID: no walk: one application.) -/
theorem Tryd.Builder_String_empty_k (B b : Nat) (w : World) (h : Lib.IsBuilderF 97 5 B b [] w) (hBw : B ≤ w.heap.size) :
    Calls Tryd.prog 66 #[.pointer (some ⟨b, 0, none⟩)] w fun e w' => e = .returned (.string ⟨#[]⟩) ∧ (Lib.IsBuilderF 97 5 B b [] w' ∧ Below B w w' ∧ Lib.OthersKept 5 (some b) w w') := Any.Builder_String_empty_k Tryd.lays169 Tryd.Builder_Extra_169 B b w h hBw
open Go.RowKit in
/-- (*strings.Builder).String: "String returns the accumulated string.": WHATEVER THE BUILDER HOLDS; THE FORM '_k': OVER 'Lib.IsBuilderF' (a builder that 'String()' may have read), AND WITH THE FRAME THAT REACHES ABOVE THE BUILDER: 'Lib.OthersKept': every block that is not b and is no row of uint8's stands as it stood: the iterator of a range among them. (LAID: no walk: one application.) -/
theorem Tryd.Builder_String_any_k (B b : Nat) (l : List UInt8) (w : World) (h : Lib.IsBuilderF 97 5 B b (Lib.byteCells l) w) (hBw : B ≤ w.heap.size) :
    Calls Tryd.prog 66 #[.pointer (some ⟨b, 0, none⟩)] w fun e w' => e = .returned (.string ⟨l.toArray⟩) ∧ (Lib.IsBuilderF 97 5 B b (Lib.byteCells l) w' ∧ Below B w w' ∧ Lib.OthersKept 5 (some b) w w') := Any.Builder_String_any_k Tryd.lays169 Tryd.Builder_Extra_169 B b l w h hBw
open Go.RowKit in
/-- (*strings.Builder).grow (no doc but "grow copies the buffer to a new, larger buffer so that there are at least n bytes of capacity beyond len(b.buf)."): AT A BUILDER WITHOUT A BUFFER: a new row of whatever bytes for its buffer, none of them its own yet. Three draws. (LAID: no walk: one application.) -/
theorem Tryd.Builder_grow_fresh_cap (B b n : Nat) (w : World) (hB : B ≤ b) (hbk : w.heap[b]? = some (.cells #[.pointer (some ⟨b, 0, none⟩), .slice none 0 0] 97 (0, 0))) (hBw : B ≤ w.heap.size) (hn : n ≤ 281474976710656) :
    Calls Tryd.prog 106 #[.pointer (some ⟨b, 0, none⟩), .int .i64 n] w fun e w' => e = .returned (.tuple #[]) ∧ (Lib.BuilderAt 97 5 B b (.pointer (some ⟨b, 0, none⟩)) [] w' ∧ Below B w w') ∧ ∃ p cap, w'.cell? ⟨b, 1, none⟩ = some (.slice p 0 cap) ∧ n ≤ cap := Any.Builder_grow_fresh_cap Tryd.lays241 Tryd.Builder_Extra_241 B b n w hB hbk hBw hn
open Go.RowKit in
/-- (*strings.Builder).Grow AT A BUILDER THAT HAS NOT BEEN WRITTEN ('var b strings.Builder; b.Grow(n)'): "Grow grows b's capacity, if necessary, to guarantee space for another n bytes.": it holds no byte behind it as before it. (LAID: no walk: one application.) -/
theorem Tryd.Builder_Grow_fresh_cap (B b n : Nat) (w : World) (hB : B ≤ b) (hbk : w.heap[b]? = some (.cells #[.pointer none, .slice none 0 0] 97 (0, 0))) (hBw : B ≤ w.heap.size) (hn : n ≤ 281474976710656) :
    Calls Tryd.prog 90 #[.pointer (some ⟨b, 0, none⟩), .int .i64 n] w fun e w' => e = .returned (.tuple #[]) ∧ (Lib.BuilderAt 97 5 B b (.pointer (some ⟨b, 0, none⟩)) [] w' ∧ Below B w w') ∧ ∃ p cap, w'.cell? ⟨b, 1, none⟩ = some (.slice p 0 cap) ∧ n ≤ cap := Any.Builder_Grow_fresh_cap Tryd.lays165 Tryd.Builder_Extra_165 B b n w hB hbk hBw hn
def Tryd.lays129_ren : Go.Shelf.Ren := ⟨fun | 129 => 77 | n => n, fun | 53 => 65 | 3 => 3 | 4 => 4 | 46 => 86 | 5 => 5 | 9 => 9 | n => n, fun | n => n⟩
theorem Tryd.lays129 : Go.Proofs.Lays.n129 Tryd.prog Tryd.lays129_ren := {
  mixed := by kernel_rfl
  f129 := Tryd.func77.trans (congrArg some (by kernel_rfl))
  t3 := Tryd.underlying3
  a3 := Tryd.isAgg3
  z3 := Tryd.sizeOf3
  v3 := Tryd.zeroValue3
  t4 := Tryd.underlying4
  a4 := Tryd.isAgg4
  z4 := Tryd.sizeOf4
  v4 := Tryd.zeroValue4
  t5 := Tryd.underlying5
  a5 := Tryd.isAgg5
  z5 := Tryd.sizeOf5
  v5 := Tryd.zeroValue5
  t9 := Tryd.underlying9
  a9 := Tryd.isAgg9
  z9 := Tryd.sizeOf9
  v9 := Tryd.zeroValue9
  t46 := Tryd.underlying86
  a46 := Tryd.isAgg86
  z46 := Tryd.sizeOf86
  v46 := Tryd.zeroValue86
  t53 := Tryd.underlying65
  a53 := Tryd.isAgg65
  z53 := Tryd.sizeOf65
  v53 := Tryd.zeroValue65 }
/-- bits.Len64: "Len64 returns the minimum number of bits required to represent x; the result is 0 for x == 0.": IT RETURNS 'Lib.bitLen x'; the world is as it was. ('h0', 'h1': x is a uint64.) (LAID: no walk: one application.) -/
theorem Tryd.bits_Len64 (x : Int) (w : World) (h0 : 0 ≤ x) (h1 : x ≤ 18446744073709551615) :
    Calls Tryd.prog 77 #[.int .u64 x] w fun e w' => e = .returned (.int .i64 (Lib.bitLen x.toNat)) ∧ w' = w := Any.bits_Len64 Tryd.lays129 x w h0 h1
def Tryd.lays317_ren : Go.Shelf.Ren := ⟨fun | 317 => 113 | n => n, fun | 3 => 3 | 46 => 86 | n => n, fun | n => n⟩
theorem Tryd.lays317 : Go.Proofs.Lays.n317 Tryd.prog Tryd.lays317_ren := {
  mixed := by kernel_rfl
  f317 := Tryd.func113.trans (congrArg some (by kernel_rfl))
  t3 := Tryd.underlying3
  a3 := Tryd.isAgg3
  z3 := Tryd.sizeOf3
  v3 := Tryd.zeroValue3
  t46 := Tryd.underlying86
  a46 := Tryd.isAgg86
  z46 := Tryd.sizeOf86
  v46 := Tryd.zeroValue86 }
open Go.Lib in
/-- internal/strconv.log10Pow2: "log10Pow2(x) returns ⌊log₁₀ 2**x⌋ = ⌊x * log₁₀ 2⌋.": '(x * 78913) >> 18', at an x up to 64 (a length in bits). The world is as it was. (LAID: no walk: one application.) -/
theorem Tryd.internal_strconv_log10Pow2 (x : Nat) (h : x ≤ 64) (w : World) :
    Calls Tryd.prog 113 #[.int .i64 x] w fun e w' => e = .returned (.int .i64 (Lib.l10 x)) ∧ w' = w := Any.internal_strconv_log10Pow2 Tryd.lays317 x h w
def Tryd.lays318_ren : Go.Shelf.Ren := ⟨fun | 318 => 114 | n => n, fun | 3 => 3 | 4 => 4 | n => n, fun | n => n⟩
theorem Tryd.lays318 : Go.Proofs.Lays.n318 Tryd.prog Tryd.lays318_ren := {
  mixed := by kernel_rfl
  f318 := Tryd.func114.trans (congrArg some (by kernel_rfl))
  t3 := Tryd.underlying3
  a3 := Tryd.isAgg3
  z3 := Tryd.sizeOf3
  v3 := Tryd.zeroValue3
  t4 := Tryd.underlying4
  a4 := Tryd.isAgg4
  z4 := Tryd.sizeOf4
  v4 := Tryd.zeroValue4 }
open Go.Lib in
/-- internal/strconv.bool2: "bool2 converts b to an integer: 1 for true, 0 for false." The world is as it was. (LAID: no walk: one application.) -/
theorem Tryd.internal_strconv_bool2_int (b : Bool) (w : World) :
    Calls Tryd.prog 114 #[.bool b] w fun e w' => e = .returned (.int .i64 (if b then 1 else 0)) ∧ w' = w := Any.internal_strconv_bool2_int Tryd.lays318 b w
def Tryd.lays283_ren : Go.Shelf.Ren := ⟨fun | 283 => 101 | n => n, fun | 3 => 3 | 9 => 9 | 4 => 4 | n => n, fun | n => n⟩
theorem Tryd.lays283 : Go.Proofs.Lays.n283 Tryd.prog Tryd.lays283_ren := {
  mixed := by kernel_rfl
  f283 := Tryd.func101.trans (congrArg some (by kernel_rfl))
  t3 := Tryd.underlying3
  a3 := Tryd.isAgg3
  z3 := Tryd.sizeOf3
  v3 := Tryd.zeroValue3
  t4 := Tryd.underlying4
  a4 := Tryd.isAgg4
  z4 := Tryd.sizeOf4
  v4 := Tryd.zeroValue4
  t9 := Tryd.underlying9
  a9 := Tryd.isAgg9
  z9 := Tryd.sizeOf9
  v9 := Tryd.zeroValue9 }
open Go.Lib in
/-- internal/strconv.small: "small returns the string for an i with 0 <= i < nSmalls.": i's decimal numeral. The world is as it was. (LAID: no walk: one application.) -/
theorem Tryd.internal_strconv_small (i : Nat) (h : i < 100) (w : World) :
    Calls Tryd.prog 101 #[.int .i64 i] w fun e w' => e = .returned (.string ⟨(Lib.decDigits i).toArray⟩) ∧ w' = w := Any.internal_strconv_small Tryd.lays283 i h w
def Tryd.laysM284_ren : Go.Shelf.Ren := ⟨fun | 284 => 102 | 129 => 77 | 317 => 113 | 318 => 114 | n => n, fun | 53 => 65 | 3 => 3 | 212 => 147 | 0 => 0 | 4 => 4 | 46 => 86 | 5 => 5 | 9 => 9 | n => n, fun | 17 => 2 | n => n⟩
theorem Tryd.laysM284 : Go.Proofs.LaysM.n284 Tryd.prog Tryd.laysM284_ren := {
  mixed := by kernel_rfl
  f129 := Tryd.func77.trans (congrArg some (by kernel_rfl))
  f284 := Tryd.func102.trans (congrArg some (by kernel_rfl))
  f317 := Tryd.func113.trans (congrArg some (by kernel_rfl))
  f318 := Tryd.func114.trans (congrArg some (by kernel_rfl))
  t0 := Tryd.underlying0
  a0 := Tryd.isAgg0
  z0 := Tryd.sizeOf0
  v0 := Tryd.zeroValue0
  t3 := Tryd.underlying3
  a3 := Tryd.isAgg3
  z3 := Tryd.sizeOf3
  v3 := Tryd.zeroValue3
  t4 := Tryd.underlying4
  a4 := Tryd.isAgg4
  z4 := Tryd.sizeOf4
  v4 := Tryd.zeroValue4
  t5 := Tryd.underlying5
  a5 := Tryd.isAgg5
  z5 := Tryd.sizeOf5
  v5 := Tryd.zeroValue5
  t9 := Tryd.underlying9
  a9 := Tryd.isAgg9
  z9 := Tryd.sizeOf9
  v9 := Tryd.zeroValue9
  t46 := Tryd.underlying86
  a46 := Tryd.isAgg86
  z46 := Tryd.sizeOf86
  v46 := Tryd.zeroValue86
  t53 := Tryd.underlying65
  a53 := Tryd.isAgg65
  z53 := Tryd.sizeOf65
  v53 := Tryd.zeroValue65
  t212 := Tryd.underlying147
  a212 := Tryd.isAgg147
  z212 := Tryd.sizeOf147
  v212 := Tryd.zeroValue147
  g17 := by kernel_rfl
  i0 := by kernel_rfl
  i3 := by kernel_rfl
  i4 := by kernel_rfl
  i5 := by kernel_rfl
  i9 := by kernel_rfl
  i46 := by kernel_rfl
  i53 := by kernel_rfl
  i212 := by kernel_rfl
  m17 := by kernel_rfl }
open Go.Lib in
/-- internal/strconv.numDigits, at a d that is not 0: THE NUMBER OF d's DECIMAL DIGITS. The world is as it was. (LAID: no walk: one application.) -/
theorem Tryd.internal_strconv_numDigits (u : Nat) (h1 : 1 ≤ u) (h2 : u < 18446744073709551616) (w : World) (htab : Lib.TabIs Tryd.prog w "internal/strconv.uint64pow10" .u64 Lib.pow10Tab) :
    Calls Tryd.prog 102 #[.int .u64 u] w fun e w' => e = .returned (.int .i64 (Lib.nDigits u)) ∧ w' = w := Any.internal_strconv_numDigits Tryd.laysM284 u h1 h2 w htab
def Tryd.lays285_ren : Go.Shelf.Ren := ⟨fun | 285 => 103 | n => n, fun | 37 => 95 | 53 => 65 | 3 => 3 | 4 => 4 | 51 => 115 | 9 => 9 | 5 => 5 | 0 => 0 | n => n, fun | n => n⟩
theorem Tryd.lays285 : Go.Proofs.Lays.n285 Tryd.prog Tryd.lays285_ren := {
  mixed := by kernel_rfl
  f285 := Tryd.func103.trans (congrArg some (by kernel_rfl))
  t0 := Tryd.underlying0
  a0 := Tryd.isAgg0
  z0 := Tryd.sizeOf0
  v0 := Tryd.zeroValue0
  t3 := Tryd.underlying3
  a3 := Tryd.isAgg3
  z3 := Tryd.sizeOf3
  v3 := Tryd.zeroValue3
  t4 := Tryd.underlying4
  a4 := Tryd.isAgg4
  z4 := Tryd.sizeOf4
  v4 := Tryd.zeroValue4
  t5 := Tryd.underlying5
  a5 := Tryd.isAgg5
  z5 := Tryd.sizeOf5
  v5 := Tryd.zeroValue5
  t9 := Tryd.underlying9
  a9 := Tryd.isAgg9
  z9 := Tryd.sizeOf9
  v9 := Tryd.zeroValue9
  t37 := Tryd.underlying95
  a37 := Tryd.isAgg95
  z37 := Tryd.sizeOf95
  v37 := Tryd.zeroValue95
  t51 := Tryd.underlying115
  a51 := Tryd.isAgg115
  z51 := Tryd.sizeOf115
  v51 := Tryd.zeroValue115
  t53 := Tryd.underlying65
  a53 := Tryd.isAgg65
  z53 := Tryd.sizeOf65
  v53 := Tryd.zeroValue65 }
open Go.RowKit Go.Sort Go.Lib in
/-- internal/strconv.formatBase10: "formatBase10 formats the decimal representation of u into a. The caller is responsible for ensuring that a is big enough to hold u. If a is too big, leading zeros will be filled in as needed.": THE ROW HOLDS u's DIGITS ('FmtInv .. 0 ..': every place t holds 'dg u (len - 1 - t)'); all else is as it was but for the count of draws. (LAID: no walk: one application.) -/
theorem Tryd.internal_strconv_formatBase10 (blk off cap : Nat) (u : Nat) (d : Array UInt8) (w : World) (hH : Holds (fun (b : UInt8) => Value.int .u8 (b.toNat : Int)) w blk off d) (hu : u < 10 ^ d.size) (hu64 : u < 18446744073709551616) (hsz : d.size < 4611686018427387904) :
    Calls Tryd.prog 103 #[.slice (some ⟨blk, off, none⟩) d.size cap, .int .u64 u] w fun e w' =>
      e = .returned (.tuple #[]) ∧ ∃ (n v' : Nat) (dk : Array UInt8), w' = (putRow (fun (b : UInt8) => Value.int .u8 (b.toNat : Int)) w blk off dk).drewN n ∧ FmtInv d.size u 0 v' dk := Any.internal_strconv_formatBase10 Tryd.lays285 blk off cap u d w hH hu hu64 hsz
def Tryd.laysM246_ren : Go.Shelf.Ren := ⟨fun | 246 => 124 | 283 => 101 | 284 => 102 | 285 => 103 | 286 => 104 | 129 => 77 | 317 => 113 | 318 => 114 | 319 => 115 | 320 => 116 | 337 => 121 | 338 => 122 | n => n, fun | 2 => 2 | 3 => 3 | 9 => 9 | 4 => 4 | 171 => 135 | 0 => 0 | 53 => 65 | 37 => 95 | 5 => 5 | 173 => 137 | 212 => 147 | 51 => 115 | 20 => 20 | 213 => 148 | 46 => 86 | 232 => 158 | 233 => 159 | n => n, fun | 17 => 2 | 18 => 6 | 19 => 7 | n => n⟩
theorem Tryd.laysM246 : Go.Proofs.LaysM.n246 Tryd.prog Tryd.laysM246_ren := {
  mixed := by kernel_rfl
  f129 := Tryd.func77.trans (congrArg some (by kernel_rfl))
  f246 := Tryd.func124.trans (congrArg some (by kernel_rfl))
  f283 := Tryd.func101.trans (congrArg some (by kernel_rfl))
  f284 := Tryd.func102.trans (congrArg some (by kernel_rfl))
  f285 := Tryd.func103.trans (congrArg some (by kernel_rfl))
  f286 := Tryd.func104.trans (congrArg some (by kernel_rfl))
  f317 := Tryd.func113.trans (congrArg some (by kernel_rfl))
  f318 := Tryd.func114.trans (congrArg some (by kernel_rfl))
  f319 := Tryd.func115.trans (congrArg some (by kernel_rfl))
  f320 := Tryd.func116.trans (congrArg some (by kernel_rfl))
  f337 := Tryd.func121.trans (congrArg some (by kernel_rfl))
  f338 := Tryd.func122.trans (congrArg some (by kernel_rfl))
  t0 := Tryd.underlying0
  a0 := Tryd.isAgg0
  z0 := Tryd.sizeOf0
  v0 := Tryd.zeroValue0
  t2 := Tryd.underlying2
  a2 := Tryd.isAgg2
  z2 := Tryd.sizeOf2
  v2 := Tryd.zeroValue2
  t3 := Tryd.underlying3
  a3 := Tryd.isAgg3
  z3 := Tryd.sizeOf3
  v3 := Tryd.zeroValue3
  t4 := Tryd.underlying4
  a4 := Tryd.isAgg4
  z4 := Tryd.sizeOf4
  v4 := Tryd.zeroValue4
  t5 := Tryd.underlying5
  a5 := Tryd.isAgg5
  z5 := Tryd.sizeOf5
  v5 := Tryd.zeroValue5
  t9 := Tryd.underlying9
  a9 := Tryd.isAgg9
  z9 := Tryd.sizeOf9
  v9 := Tryd.zeroValue9
  t20 := Tryd.underlying20
  a20 := Tryd.isAgg20
  z20 := Tryd.sizeOf20
  v20 := Tryd.zeroValue20
  t37 := Tryd.underlying95
  a37 := Tryd.isAgg95
  z37 := Tryd.sizeOf95
  v37 := Tryd.zeroValue95
  t46 := Tryd.underlying86
  a46 := Tryd.isAgg86
  z46 := Tryd.sizeOf86
  v46 := Tryd.zeroValue86
  t51 := Tryd.underlying115
  a51 := Tryd.isAgg115
  z51 := Tryd.sizeOf115
  v51 := Tryd.zeroValue115
  t53 := Tryd.underlying65
  a53 := Tryd.isAgg65
  z53 := Tryd.sizeOf65
  v53 := Tryd.zeroValue65
  t171 := Tryd.underlying135
  a171 := Tryd.isAgg135
  z171 := Tryd.sizeOf135
  v171 := Tryd.zeroValue135
  t173 := Tryd.underlying137
  a173 := Tryd.isAgg137
  z173 := Tryd.sizeOf137
  v173 := Tryd.zeroValue137
  t212 := Tryd.underlying147
  a212 := Tryd.isAgg147
  z212 := Tryd.sizeOf147
  v212 := Tryd.zeroValue147
  t213 := Tryd.underlying148
  a213 := Tryd.isAgg148
  z213 := Tryd.sizeOf148
  t232 := Tryd.underlying158
  a232 := Tryd.isAgg158
  z232 := Tryd.sizeOf158
  v232 := Tryd.zeroValue158
  t233 := Tryd.underlying159
  a233 := Tryd.isAgg159
  z233 := Tryd.sizeOf159
  v233 := Tryd.zeroValue159
  g17 := by kernel_rfl
  g18 := by kernel_rfl
  g19 := by kernel_rfl
  i0 := by kernel_rfl
  i2 := by kernel_rfl
  i3 := by kernel_rfl
  i4 := by kernel_rfl
  i5 := by kernel_rfl
  i9 := by kernel_rfl
  i20 := by kernel_rfl
  i37 := by kernel_rfl
  i46 := by kernel_rfl
  i51 := by kernel_rfl
  i53 := by kernel_rfl
  i171 := by kernel_rfl
  i173 := by kernel_rfl
  i212 := by kernel_rfl
  i232 := by kernel_rfl
  i233 := by kernel_rfl
  m17 := by kernel_rfl
  m18 := by kernel_rfl
  m19 := by kernel_rfl }
open Go.RowKit Go.Sort Go.Lib in
/-- internal/strconv.FormatInt: "FormatInt returns the string representation of i in the given base": AT BASE 10: i's decimal numeral, for every int64. The world behind the call: the world before it, new blocks behind the heap, draws. (LAID: no walk: one application.) -/
theorem Tryd.internal_strconv_FormatInt_10 (n : Int) (h0 : -9223372036854775808 ≤ n) (h1 : n ≤ 9223372036854775807) (w : World) (htab : Lib.TabIs Tryd.prog w "internal/strconv.uint64pow10" .u64 Lib.pow10Tab) :
    Calls Tryd.prog 124 #[.int .i64 n, .int .i64 10] w fun e w' => e = .returned (.string ⟨(Lib.itoa n).toArray⟩) ∧ ∃ k os, w' = grow (w.drewN k) os := Any.internal_strconv_FormatInt_10 Tryd.laysM246 n h0 h1 w htab
def Tryd.lays246_ren : Go.Shelf.Ren := ⟨fun | 246 => 124 | 283 => 101 | 284 => 102 | 285 => 103 | 286 => 104 | 129 => 77 | 317 => 113 | 318 => 114 | 319 => 115 | 320 => 116 | 337 => 121 | 338 => 122 | n => n, fun | 2 => 2 | 3 => 3 | 9 => 9 | 4 => 4 | 171 => 135 | 0 => 0 | 53 => 65 | 37 => 95 | 5 => 5 | 173 => 137 | 212 => 147 | 51 => 115 | 20 => 20 | 213 => 148 | 46 => 86 | 232 => 158 | 233 => 159 | n => n, fun | 17 => 2 | 18 => 6 | 19 => 7 | n => n⟩
theorem Tryd.lays246 : Go.Proofs.Lays.n246 Tryd.prog Tryd.lays246_ren := {
  mixed := by kernel_rfl
  f129 := Tryd.func77.trans (congrArg some (by kernel_rfl))
  f246 := Tryd.func124.trans (congrArg some (by kernel_rfl))
  f283 := Tryd.func101.trans (congrArg some (by kernel_rfl))
  f284 := Tryd.func102.trans (congrArg some (by kernel_rfl))
  f285 := Tryd.func103.trans (congrArg some (by kernel_rfl))
  f286 := Tryd.func104.trans (congrArg some (by kernel_rfl))
  f317 := Tryd.func113.trans (congrArg some (by kernel_rfl))
  f318 := Tryd.func114.trans (congrArg some (by kernel_rfl))
  f319 := Tryd.func115.trans (congrArg some (by kernel_rfl))
  f320 := Tryd.func116.trans (congrArg some (by kernel_rfl))
  f337 := Tryd.func121.trans (congrArg some (by kernel_rfl))
  f338 := Tryd.func122.trans (congrArg some (by kernel_rfl))
  t0 := Tryd.underlying0
  a0 := Tryd.isAgg0
  z0 := Tryd.sizeOf0
  v0 := Tryd.zeroValue0
  t2 := Tryd.underlying2
  a2 := Tryd.isAgg2
  z2 := Tryd.sizeOf2
  v2 := Tryd.zeroValue2
  t3 := Tryd.underlying3
  a3 := Tryd.isAgg3
  z3 := Tryd.sizeOf3
  v3 := Tryd.zeroValue3
  t4 := Tryd.underlying4
  a4 := Tryd.isAgg4
  z4 := Tryd.sizeOf4
  v4 := Tryd.zeroValue4
  t5 := Tryd.underlying5
  a5 := Tryd.isAgg5
  z5 := Tryd.sizeOf5
  v5 := Tryd.zeroValue5
  t9 := Tryd.underlying9
  a9 := Tryd.isAgg9
  z9 := Tryd.sizeOf9
  v9 := Tryd.zeroValue9
  t20 := Tryd.underlying20
  a20 := Tryd.isAgg20
  z20 := Tryd.sizeOf20
  v20 := Tryd.zeroValue20
  t37 := Tryd.underlying95
  a37 := Tryd.isAgg95
  z37 := Tryd.sizeOf95
  v37 := Tryd.zeroValue95
  t46 := Tryd.underlying86
  a46 := Tryd.isAgg86
  z46 := Tryd.sizeOf86
  v46 := Tryd.zeroValue86
  t51 := Tryd.underlying115
  a51 := Tryd.isAgg115
  z51 := Tryd.sizeOf115
  v51 := Tryd.zeroValue115
  t53 := Tryd.underlying65
  a53 := Tryd.isAgg65
  z53 := Tryd.sizeOf65
  v53 := Tryd.zeroValue65
  t171 := Tryd.underlying135
  a171 := Tryd.isAgg135
  z171 := Tryd.sizeOf135
  v171 := Tryd.zeroValue135
  t173 := Tryd.underlying137
  a173 := Tryd.isAgg137
  z173 := Tryd.sizeOf137
  v173 := Tryd.zeroValue137
  t212 := Tryd.underlying147
  a212 := Tryd.isAgg147
  z212 := Tryd.sizeOf147
  v212 := Tryd.zeroValue147
  t213 := Tryd.underlying148
  a213 := Tryd.isAgg148
  z213 := Tryd.sizeOf148
  t232 := Tryd.underlying158
  a232 := Tryd.isAgg158
  z232 := Tryd.sizeOf158
  v232 := Tryd.zeroValue158
  t233 := Tryd.underlying159
  a233 := Tryd.isAgg159
  z233 := Tryd.sizeOf159
  v233 := Tryd.zeroValue159
  g17 := by kernel_rfl
  g18 := by kernel_rfl
  g19 := by kernel_rfl }
open Go.RowKit Go.Sort Go.Lib in
/-- THE ROAD WITHOUT THE TABLE: 0 <= i < 100: two constants are read, nothing is laid: no premise on the world, and the world is as it was. (LAID: no walk: one application.) -/
theorem Tryd.internal_strconv_FormatInt_10_small (i : Nat) (hi : i < 100) (w : World) :
    Calls Tryd.prog 124 #[.int .i64 i, .int .i64 10] w fun e w' => e = .returned (.string ⟨(Lib.decDigits i).toArray⟩) ∧ w' = w := Any.internal_strconv_FormatInt_10_small Tryd.lays246 i hi w
def Tryd.laysM243_ren : Go.Shelf.Ren := ⟨fun | 243 => 123 | 246 => 124 | 283 => 101 | 284 => 102 | 285 => 103 | 286 => 104 | 129 => 77 | 317 => 113 | 318 => 114 | 319 => 115 | 320 => 116 | 337 => 121 | 338 => 122 | n => n, fun | 3 => 3 | 9 => 9 | 2 => 2 | 4 => 4 | 171 => 135 | 0 => 0 | 53 => 65 | 37 => 95 | 5 => 5 | 173 => 137 | 212 => 147 | 51 => 115 | 20 => 20 | 213 => 148 | 46 => 86 | 232 => 158 | 233 => 159 | n => n, fun | 17 => 2 | 18 => 6 | 19 => 7 | n => n⟩
theorem Tryd.laysM243 : Go.Proofs.LaysM.n243 Tryd.prog Tryd.laysM243_ren := {
  mixed := by kernel_rfl
  f129 := Tryd.func77.trans (congrArg some (by kernel_rfl))
  f243 := Tryd.func123.trans (congrArg some (by kernel_rfl))
  f246 := Tryd.func124.trans (congrArg some (by kernel_rfl))
  f283 := Tryd.func101.trans (congrArg some (by kernel_rfl))
  f284 := Tryd.func102.trans (congrArg some (by kernel_rfl))
  f285 := Tryd.func103.trans (congrArg some (by kernel_rfl))
  f286 := Tryd.func104.trans (congrArg some (by kernel_rfl))
  f317 := Tryd.func113.trans (congrArg some (by kernel_rfl))
  f318 := Tryd.func114.trans (congrArg some (by kernel_rfl))
  f319 := Tryd.func115.trans (congrArg some (by kernel_rfl))
  f320 := Tryd.func116.trans (congrArg some (by kernel_rfl))
  f337 := Tryd.func121.trans (congrArg some (by kernel_rfl))
  f338 := Tryd.func122.trans (congrArg some (by kernel_rfl))
  t0 := Tryd.underlying0
  a0 := Tryd.isAgg0
  z0 := Tryd.sizeOf0
  v0 := Tryd.zeroValue0
  t2 := Tryd.underlying2
  a2 := Tryd.isAgg2
  z2 := Tryd.sizeOf2
  v2 := Tryd.zeroValue2
  t3 := Tryd.underlying3
  a3 := Tryd.isAgg3
  z3 := Tryd.sizeOf3
  v3 := Tryd.zeroValue3
  t4 := Tryd.underlying4
  a4 := Tryd.isAgg4
  z4 := Tryd.sizeOf4
  v4 := Tryd.zeroValue4
  t5 := Tryd.underlying5
  a5 := Tryd.isAgg5
  z5 := Tryd.sizeOf5
  v5 := Tryd.zeroValue5
  t9 := Tryd.underlying9
  a9 := Tryd.isAgg9
  z9 := Tryd.sizeOf9
  v9 := Tryd.zeroValue9
  t20 := Tryd.underlying20
  a20 := Tryd.isAgg20
  z20 := Tryd.sizeOf20
  v20 := Tryd.zeroValue20
  t37 := Tryd.underlying95
  a37 := Tryd.isAgg95
  z37 := Tryd.sizeOf95
  v37 := Tryd.zeroValue95
  t46 := Tryd.underlying86
  a46 := Tryd.isAgg86
  z46 := Tryd.sizeOf86
  v46 := Tryd.zeroValue86
  t51 := Tryd.underlying115
  a51 := Tryd.isAgg115
  z51 := Tryd.sizeOf115
  v51 := Tryd.zeroValue115
  t53 := Tryd.underlying65
  a53 := Tryd.isAgg65
  z53 := Tryd.sizeOf65
  v53 := Tryd.zeroValue65
  t171 := Tryd.underlying135
  a171 := Tryd.isAgg135
  z171 := Tryd.sizeOf135
  v171 := Tryd.zeroValue135
  t173 := Tryd.underlying137
  a173 := Tryd.isAgg137
  z173 := Tryd.sizeOf137
  v173 := Tryd.zeroValue137
  t212 := Tryd.underlying147
  a212 := Tryd.isAgg147
  z212 := Tryd.sizeOf147
  v212 := Tryd.zeroValue147
  t213 := Tryd.underlying148
  a213 := Tryd.isAgg148
  z213 := Tryd.sizeOf148
  t232 := Tryd.underlying158
  a232 := Tryd.isAgg158
  z232 := Tryd.sizeOf158
  v232 := Tryd.zeroValue158
  t233 := Tryd.underlying159
  a233 := Tryd.isAgg159
  z233 := Tryd.sizeOf159
  v233 := Tryd.zeroValue159
  g17 := by kernel_rfl
  g18 := by kernel_rfl
  g19 := by kernel_rfl
  i0 := by kernel_rfl
  i2 := by kernel_rfl
  i3 := by kernel_rfl
  i4 := by kernel_rfl
  i5 := by kernel_rfl
  i9 := by kernel_rfl
  i20 := by kernel_rfl
  i37 := by kernel_rfl
  i46 := by kernel_rfl
  i51 := by kernel_rfl
  i53 := by kernel_rfl
  i171 := by kernel_rfl
  i173 := by kernel_rfl
  i212 := by kernel_rfl
  i232 := by kernel_rfl
  i233 := by kernel_rfl
  m17 := by kernel_rfl
  m18 := by kernel_rfl
  m19 := by kernel_rfl }
open Go.RowKit Go.Sort Go.Lib in
/-- internal/strconv.Itoa: "Itoa is equivalent to FormatInt(int64(i), 10).": i's decimal numeral, for every int. (LAID: no walk: one application.) -/
theorem Tryd.internal_strconv_Itoa (n : Int) (h0 : -9223372036854775808 ≤ n) (h1 : n ≤ 9223372036854775807) (w : World) (htab : Lib.TabIs Tryd.prog w "internal/strconv.uint64pow10" .u64 Lib.pow10Tab) :
    Calls Tryd.prog 123 #[.int .i64 n] w fun e w' => e = .returned (.string ⟨(Lib.itoa n).toArray⟩) ∧ ∃ k os, w' = grow (w.drewN k) os := Any.internal_strconv_Itoa Tryd.laysM243 n h0 h1 w htab
def Tryd.lays243_ren : Go.Shelf.Ren := ⟨fun | 243 => 123 | 246 => 124 | 283 => 101 | 284 => 102 | 285 => 103 | 286 => 104 | 129 => 77 | 317 => 113 | 318 => 114 | 319 => 115 | 320 => 116 | 337 => 121 | 338 => 122 | n => n, fun | 3 => 3 | 9 => 9 | 2 => 2 | 4 => 4 | 171 => 135 | 0 => 0 | 53 => 65 | 37 => 95 | 5 => 5 | 173 => 137 | 212 => 147 | 51 => 115 | 20 => 20 | 213 => 148 | 46 => 86 | 232 => 158 | 233 => 159 | n => n, fun | 17 => 2 | 18 => 6 | 19 => 7 | n => n⟩
theorem Tryd.lays243 : Go.Proofs.Lays.n243 Tryd.prog Tryd.lays243_ren := {
  mixed := by kernel_rfl
  f129 := Tryd.func77.trans (congrArg some (by kernel_rfl))
  f243 := Tryd.func123.trans (congrArg some (by kernel_rfl))
  f246 := Tryd.func124.trans (congrArg some (by kernel_rfl))
  f283 := Tryd.func101.trans (congrArg some (by kernel_rfl))
  f284 := Tryd.func102.trans (congrArg some (by kernel_rfl))
  f285 := Tryd.func103.trans (congrArg some (by kernel_rfl))
  f286 := Tryd.func104.trans (congrArg some (by kernel_rfl))
  f317 := Tryd.func113.trans (congrArg some (by kernel_rfl))
  f318 := Tryd.func114.trans (congrArg some (by kernel_rfl))
  f319 := Tryd.func115.trans (congrArg some (by kernel_rfl))
  f320 := Tryd.func116.trans (congrArg some (by kernel_rfl))
  f337 := Tryd.func121.trans (congrArg some (by kernel_rfl))
  f338 := Tryd.func122.trans (congrArg some (by kernel_rfl))
  t0 := Tryd.underlying0
  a0 := Tryd.isAgg0
  z0 := Tryd.sizeOf0
  v0 := Tryd.zeroValue0
  t2 := Tryd.underlying2
  a2 := Tryd.isAgg2
  z2 := Tryd.sizeOf2
  v2 := Tryd.zeroValue2
  t3 := Tryd.underlying3
  a3 := Tryd.isAgg3
  z3 := Tryd.sizeOf3
  v3 := Tryd.zeroValue3
  t4 := Tryd.underlying4
  a4 := Tryd.isAgg4
  z4 := Tryd.sizeOf4
  v4 := Tryd.zeroValue4
  t5 := Tryd.underlying5
  a5 := Tryd.isAgg5
  z5 := Tryd.sizeOf5
  v5 := Tryd.zeroValue5
  t9 := Tryd.underlying9
  a9 := Tryd.isAgg9
  z9 := Tryd.sizeOf9
  v9 := Tryd.zeroValue9
  t20 := Tryd.underlying20
  a20 := Tryd.isAgg20
  z20 := Tryd.sizeOf20
  v20 := Tryd.zeroValue20
  t37 := Tryd.underlying95
  a37 := Tryd.isAgg95
  z37 := Tryd.sizeOf95
  v37 := Tryd.zeroValue95
  t46 := Tryd.underlying86
  a46 := Tryd.isAgg86
  z46 := Tryd.sizeOf86
  v46 := Tryd.zeroValue86
  t51 := Tryd.underlying115
  a51 := Tryd.isAgg115
  z51 := Tryd.sizeOf115
  v51 := Tryd.zeroValue115
  t53 := Tryd.underlying65
  a53 := Tryd.isAgg65
  z53 := Tryd.sizeOf65
  v53 := Tryd.zeroValue65
  t171 := Tryd.underlying135
  a171 := Tryd.isAgg135
  z171 := Tryd.sizeOf135
  v171 := Tryd.zeroValue135
  t173 := Tryd.underlying137
  a173 := Tryd.isAgg137
  z173 := Tryd.sizeOf137
  v173 := Tryd.zeroValue137
  t212 := Tryd.underlying147
  a212 := Tryd.isAgg147
  z212 := Tryd.sizeOf147
  v212 := Tryd.zeroValue147
  t213 := Tryd.underlying148
  a213 := Tryd.isAgg148
  z213 := Tryd.sizeOf148
  t232 := Tryd.underlying158
  a232 := Tryd.isAgg158
  z232 := Tryd.sizeOf158
  v232 := Tryd.zeroValue158
  t233 := Tryd.underlying159
  a233 := Tryd.isAgg159
  z233 := Tryd.sizeOf159
  v233 := Tryd.zeroValue159
  g17 := by kernel_rfl
  g18 := by kernel_rfl
  g19 := by kernel_rfl }
open Go.RowKit Go.Sort Go.Lib in
/-- THE ROAD WITHOUT THE TABLE: 0 <= i < 100. (LAID: no walk: one application.) -/
theorem Tryd.internal_strconv_Itoa_small (i : Nat) (hi : i < 100) (w : World) :
    Calls Tryd.prog 123 #[.int .i64 i] w fun e w' => e = .returned (.string ⟨(Lib.decDigits i).toArray⟩) ∧ w' = w := Any.internal_strconv_Itoa_small Tryd.lays243 i hi w
def Tryd.laysM171_ren : Go.Shelf.Ren := ⟨fun | 171 => 120 | 243 => 123 | 246 => 124 | 283 => 101 | 284 => 102 | 285 => 103 | 286 => 104 | 129 => 77 | 317 => 113 | 318 => 114 | 319 => 115 | 320 => 116 | 337 => 121 | 338 => 122 | n => n, fun | 3 => 3 | 9 => 9 | 2 => 2 | 4 => 4 | 171 => 135 | 0 => 0 | 53 => 65 | 37 => 95 | 5 => 5 | 173 => 137 | 212 => 147 | 51 => 115 | 20 => 20 | 213 => 148 | 46 => 86 | 232 => 158 | 233 => 159 | n => n, fun | 17 => 2 | 18 => 6 | 19 => 7 | n => n⟩
theorem Tryd.laysM171 : Go.Proofs.LaysM.n171 Tryd.prog Tryd.laysM171_ren := {
  mixed := by kernel_rfl
  f129 := Tryd.func77.trans (congrArg some (by kernel_rfl))
  f171 := Tryd.func120.trans (congrArg some (by kernel_rfl))
  f243 := Tryd.func123.trans (congrArg some (by kernel_rfl))
  f246 := Tryd.func124.trans (congrArg some (by kernel_rfl))
  f283 := Tryd.func101.trans (congrArg some (by kernel_rfl))
  f284 := Tryd.func102.trans (congrArg some (by kernel_rfl))
  f285 := Tryd.func103.trans (congrArg some (by kernel_rfl))
  f286 := Tryd.func104.trans (congrArg some (by kernel_rfl))
  f317 := Tryd.func113.trans (congrArg some (by kernel_rfl))
  f318 := Tryd.func114.trans (congrArg some (by kernel_rfl))
  f319 := Tryd.func115.trans (congrArg some (by kernel_rfl))
  f320 := Tryd.func116.trans (congrArg some (by kernel_rfl))
  f337 := Tryd.func121.trans (congrArg some (by kernel_rfl))
  f338 := Tryd.func122.trans (congrArg some (by kernel_rfl))
  t0 := Tryd.underlying0
  a0 := Tryd.isAgg0
  z0 := Tryd.sizeOf0
  v0 := Tryd.zeroValue0
  t2 := Tryd.underlying2
  a2 := Tryd.isAgg2
  z2 := Tryd.sizeOf2
  v2 := Tryd.zeroValue2
  t3 := Tryd.underlying3
  a3 := Tryd.isAgg3
  z3 := Tryd.sizeOf3
  v3 := Tryd.zeroValue3
  t4 := Tryd.underlying4
  a4 := Tryd.isAgg4
  z4 := Tryd.sizeOf4
  v4 := Tryd.zeroValue4
  t5 := Tryd.underlying5
  a5 := Tryd.isAgg5
  z5 := Tryd.sizeOf5
  v5 := Tryd.zeroValue5
  t9 := Tryd.underlying9
  a9 := Tryd.isAgg9
  z9 := Tryd.sizeOf9
  v9 := Tryd.zeroValue9
  t20 := Tryd.underlying20
  a20 := Tryd.isAgg20
  z20 := Tryd.sizeOf20
  v20 := Tryd.zeroValue20
  t37 := Tryd.underlying95
  a37 := Tryd.isAgg95
  z37 := Tryd.sizeOf95
  v37 := Tryd.zeroValue95
  t46 := Tryd.underlying86
  a46 := Tryd.isAgg86
  z46 := Tryd.sizeOf86
  v46 := Tryd.zeroValue86
  t51 := Tryd.underlying115
  a51 := Tryd.isAgg115
  z51 := Tryd.sizeOf115
  v51 := Tryd.zeroValue115
  t53 := Tryd.underlying65
  a53 := Tryd.isAgg65
  z53 := Tryd.sizeOf65
  v53 := Tryd.zeroValue65
  t171 := Tryd.underlying135
  a171 := Tryd.isAgg135
  z171 := Tryd.sizeOf135
  v171 := Tryd.zeroValue135
  t173 := Tryd.underlying137
  a173 := Tryd.isAgg137
  z173 := Tryd.sizeOf137
  v173 := Tryd.zeroValue137
  t212 := Tryd.underlying147
  a212 := Tryd.isAgg147
  z212 := Tryd.sizeOf147
  v212 := Tryd.zeroValue147
  t213 := Tryd.underlying148
  a213 := Tryd.isAgg148
  z213 := Tryd.sizeOf148
  t232 := Tryd.underlying158
  a232 := Tryd.isAgg158
  z232 := Tryd.sizeOf158
  v232 := Tryd.zeroValue158
  t233 := Tryd.underlying159
  a233 := Tryd.isAgg159
  z233 := Tryd.sizeOf159
  v233 := Tryd.zeroValue159
  g17 := by kernel_rfl
  g18 := by kernel_rfl
  g19 := by kernel_rfl
  i0 := by kernel_rfl
  i2 := by kernel_rfl
  i3 := by kernel_rfl
  i4 := by kernel_rfl
  i5 := by kernel_rfl
  i9 := by kernel_rfl
  i20 := by kernel_rfl
  i37 := by kernel_rfl
  i46 := by kernel_rfl
  i51 := by kernel_rfl
  i53 := by kernel_rfl
  i171 := by kernel_rfl
  i173 := by kernel_rfl
  i212 := by kernel_rfl
  i232 := by kernel_rfl
  i233 := by kernel_rfl
  m17 := by kernel_rfl
  m18 := by kernel_rfl
  m19 := by kernel_rfl }
open Go.RowKit Go.Sort Go.Lib in
/-- strconv.Itoa: "Itoa is equivalent to FormatInt(int64(i), 10).": i's DECIMAL NUMERAL ('Lib.itoa': a '-' where i is negative, then the digits), FOR EVERY int. The world behind the call: the world before it, new blocks behind the heap (the library's 'var a [24]byte'), draws. (LAID: no walk: one application.) -/
theorem Tryd.strconv_Itoa (n : Int) (h0 : -9223372036854775808 ≤ n) (h1 : n ≤ 9223372036854775807) (w : World) (htab : Lib.TabIs Tryd.prog w "internal/strconv.uint64pow10" .u64 Lib.pow10Tab) :
    Calls Tryd.prog 120 #[.int .i64 n] w fun e w' => e = .returned (.string ⟨(Lib.itoa n).toArray⟩) ∧ ∃ k os, w' = grow (w.drewN k) os := Any.strconv_Itoa Tryd.laysM171 n h0 h1 w htab
def Tryd.lays171_ren : Go.Shelf.Ren := ⟨fun | 171 => 120 | 243 => 123 | 246 => 124 | 283 => 101 | 284 => 102 | 285 => 103 | 286 => 104 | 129 => 77 | 317 => 113 | 318 => 114 | 319 => 115 | 320 => 116 | 337 => 121 | 338 => 122 | n => n, fun | 3 => 3 | 9 => 9 | 2 => 2 | 4 => 4 | 171 => 135 | 0 => 0 | 53 => 65 | 37 => 95 | 5 => 5 | 173 => 137 | 212 => 147 | 51 => 115 | 20 => 20 | 213 => 148 | 46 => 86 | 232 => 158 | 233 => 159 | n => n, fun | 17 => 2 | 18 => 6 | 19 => 7 | n => n⟩
theorem Tryd.lays171 : Go.Proofs.Lays.n171 Tryd.prog Tryd.lays171_ren := {
  mixed := by kernel_rfl
  f129 := Tryd.func77.trans (congrArg some (by kernel_rfl))
  f171 := Tryd.func120.trans (congrArg some (by kernel_rfl))
  f243 := Tryd.func123.trans (congrArg some (by kernel_rfl))
  f246 := Tryd.func124.trans (congrArg some (by kernel_rfl))
  f283 := Tryd.func101.trans (congrArg some (by kernel_rfl))
  f284 := Tryd.func102.trans (congrArg some (by kernel_rfl))
  f285 := Tryd.func103.trans (congrArg some (by kernel_rfl))
  f286 := Tryd.func104.trans (congrArg some (by kernel_rfl))
  f317 := Tryd.func113.trans (congrArg some (by kernel_rfl))
  f318 := Tryd.func114.trans (congrArg some (by kernel_rfl))
  f319 := Tryd.func115.trans (congrArg some (by kernel_rfl))
  f320 := Tryd.func116.trans (congrArg some (by kernel_rfl))
  f337 := Tryd.func121.trans (congrArg some (by kernel_rfl))
  f338 := Tryd.func122.trans (congrArg some (by kernel_rfl))
  t0 := Tryd.underlying0
  a0 := Tryd.isAgg0
  z0 := Tryd.sizeOf0
  v0 := Tryd.zeroValue0
  t2 := Tryd.underlying2
  a2 := Tryd.isAgg2
  z2 := Tryd.sizeOf2
  v2 := Tryd.zeroValue2
  t3 := Tryd.underlying3
  a3 := Tryd.isAgg3
  z3 := Tryd.sizeOf3
  v3 := Tryd.zeroValue3
  t4 := Tryd.underlying4
  a4 := Tryd.isAgg4
  z4 := Tryd.sizeOf4
  v4 := Tryd.zeroValue4
  t5 := Tryd.underlying5
  a5 := Tryd.isAgg5
  z5 := Tryd.sizeOf5
  v5 := Tryd.zeroValue5
  t9 := Tryd.underlying9
  a9 := Tryd.isAgg9
  z9 := Tryd.sizeOf9
  v9 := Tryd.zeroValue9
  t20 := Tryd.underlying20
  a20 := Tryd.isAgg20
  z20 := Tryd.sizeOf20
  v20 := Tryd.zeroValue20
  t37 := Tryd.underlying95
  a37 := Tryd.isAgg95
  z37 := Tryd.sizeOf95
  v37 := Tryd.zeroValue95
  t46 := Tryd.underlying86
  a46 := Tryd.isAgg86
  z46 := Tryd.sizeOf86
  v46 := Tryd.zeroValue86
  t51 := Tryd.underlying115
  a51 := Tryd.isAgg115
  z51 := Tryd.sizeOf115
  v51 := Tryd.zeroValue115
  t53 := Tryd.underlying65
  a53 := Tryd.isAgg65
  z53 := Tryd.sizeOf65
  v53 := Tryd.zeroValue65
  t171 := Tryd.underlying135
  a171 := Tryd.isAgg135
  z171 := Tryd.sizeOf135
  v171 := Tryd.zeroValue135
  t173 := Tryd.underlying137
  a173 := Tryd.isAgg137
  z173 := Tryd.sizeOf137
  v173 := Tryd.zeroValue137
  t212 := Tryd.underlying147
  a212 := Tryd.isAgg147
  z212 := Tryd.sizeOf147
  v212 := Tryd.zeroValue147
  t213 := Tryd.underlying148
  a213 := Tryd.isAgg148
  z213 := Tryd.sizeOf148
  t232 := Tryd.underlying158
  a232 := Tryd.isAgg158
  z232 := Tryd.sizeOf158
  v232 := Tryd.zeroValue158
  t233 := Tryd.underlying159
  a233 := Tryd.isAgg159
  z233 := Tryd.sizeOf159
  v233 := Tryd.zeroValue159
  g17 := by kernel_rfl
  g18 := by kernel_rfl
  g19 := by kernel_rfl }
open Go.RowKit Go.Sort Go.Lib in
/-- THE ROAD WITHOUT THE TABLE: 0 <= i < 100: NO PREMISE ON THE WORLD, AND THE WORLD IS AS IT WAS: a row that keeps its argument in that range need list no table ('laid = []'). (LAID: no walk: one application.) -/
theorem Tryd.strconv_Itoa_small (i : Nat) (hi : i < 100) (w : World) :
    Calls Tryd.prog 120 #[.int .i64 i] w fun e w' => e = .returned (.string ⟨(Lib.decDigits i).toArray⟩) ∧ w' = w := Any.strconv_Itoa_small Tryd.lays171 i hi w
def Tryd.laysM316_ren : Go.Shelf.Ren := ⟨fun | 316 => 118 | n => n, fun | 9 => 9 | 3 => 3 | 4 => 4 | 37 => 95 | 0 => 0 | 127 => 127 | 5 => 5 | n => n, fun | n => n⟩
theorem Tryd.laysM316 : Go.Proofs.LaysM.n316 Tryd.prog Tryd.laysM316_ren := {
  mixed := by kernel_rfl
  f316 := Tryd.func118.trans (congrArg some (by kernel_rfl))
  t0 := Tryd.underlying0
  a0 := Tryd.isAgg0
  z0 := Tryd.sizeOf0
  v0 := Tryd.zeroValue0
  t3 := Tryd.underlying3
  a3 := Tryd.isAgg3
  z3 := Tryd.sizeOf3
  v3 := Tryd.zeroValue3
  t4 := Tryd.underlying4
  a4 := Tryd.isAgg4
  z4 := Tryd.sizeOf4
  v4 := Tryd.zeroValue4
  t9 := Tryd.underlying9
  a9 := Tryd.isAgg9
  z9 := Tryd.sizeOf9
  v9 := Tryd.zeroValue9
  t37 := Tryd.underlying95
  a37 := Tryd.isAgg95
  z37 := Tryd.sizeOf95
  v37 := Tryd.zeroValue95
  t127 := Tryd.underlying127
  a127 := Tryd.isAgg127
  z127 := Tryd.sizeOf127
  v127 := Tryd.zeroValue127
  t5 := Tryd.underlying5
  a5 := Tryd.isAgg5
  z5 := Tryd.sizeOf5
  v5 := Tryd.zeroValue5
  i0 := by kernel_rfl
  i3 := by kernel_rfl
  i4 := by kernel_rfl
  i5 := by kernel_rfl
  i9 := by kernel_rfl
  i37 := by kernel_rfl
  i127 := by kernel_rfl }
open Go.RowKit in
/-- internal/stringslite.Clone (what strings.Clone calls): "Clone returns a fresh copy of s.": THE SAME BYTES. Of what was there nothing has turned (a new row is laid, and frozen, where s is not empty). (LAID: no walk: one application.) -/
theorem Tryd.stringslite_Clone (s : ByteArray) (w : World) (hlim : s.size ≤ 281474976710656) :
    Calls Tryd.prog 118 #[.string s] w fun e w' => e = .returned (.string s) ∧ Below w.heap.size w w' := Any.stringslite_Clone Tryd.laysM316 s w hlim
def Tryd.laysM279_ren : Go.Shelf.Ren := ⟨fun | 279 => 109 | 316 => 118 | n => n, fun | 9 => 9 | 168 => 143 | 75 => 99 | 210 => 153 | 3 => 3 | 4 => 4 | 37 => 95 | 0 => 0 | 127 => 127 | 80 => 48 | 5 => 5 | n => n, fun | 15 => 3 | n => n⟩
theorem Tryd.laysM279 : Go.Proofs.LaysM.n279 Tryd.prog Tryd.laysM279_ren := {
  mixed := by kernel_rfl
  f279 := Tryd.func109.trans (congrArg some (by kernel_rfl))
  f316 := Tryd.func118.trans (congrArg some (by kernel_rfl))
  t0 := Tryd.underlying0
  a0 := Tryd.isAgg0
  z0 := Tryd.sizeOf0
  v0 := Tryd.zeroValue0
  t3 := Tryd.underlying3
  a3 := Tryd.isAgg3
  z3 := Tryd.sizeOf3
  v3 := Tryd.zeroValue3
  t4 := Tryd.underlying4
  a4 := Tryd.isAgg4
  z4 := Tryd.sizeOf4
  v4 := Tryd.zeroValue4
  t9 := Tryd.underlying9
  a9 := Tryd.isAgg9
  z9 := Tryd.sizeOf9
  v9 := Tryd.zeroValue9
  t37 := Tryd.underlying95
  a37 := Tryd.isAgg95
  z37 := Tryd.sizeOf95
  v37 := Tryd.zeroValue95
  t75 := Tryd.underlying99
  a75 := Tryd.isAgg99
  z75 := Tryd.sizeOf99
  v75 := Tryd.zeroValue99
  t127 := Tryd.underlying127
  a127 := Tryd.isAgg127
  z127 := Tryd.sizeOf127
  v127 := Tryd.zeroValue127
  t168 := Tryd.underlying143
  a168 := Tryd.isAgg143
  z168 := Tryd.sizeOf143
  v168 := Tryd.zeroValue143
  t210 := Tryd.underlying153
  a210 := Tryd.isAgg153
  z210 := Tryd.sizeOf153
  v210 := Tryd.zeroValue153
  g15 := by kernel_rfl
  t5 := Tryd.underlying5
  a5 := Tryd.isAgg5
  z5 := Tryd.sizeOf5
  v5 := Tryd.zeroValue5
  t80 := Tryd.underlying48
  a80 := Tryd.isAgg48
  z80 := Tryd.sizeOf48
  v80 := Tryd.zeroValue48
  i0 := by kernel_rfl
  i3 := by kernel_rfl
  i4 := by kernel_rfl
  i5 := by kernel_rfl
  i9 := by kernel_rfl
  i37 := by kernel_rfl
  i75 := by kernel_rfl
  i80 := by kernel_rfl
  i127 := by kernel_rfl
  i168 := by kernel_rfl
  i210 := by kernel_rfl
  m15 := by kernel_rfl }
open Go.RowKit in
/-- strconv.syntaxError: '&NumError{fn, stringslite.Clone(str), ErrSyntax}': A POINTER TO A NEW BLOCK that holds fn, str's bytes, and what the variable ErrSyntax holds. Of what was there nothing has turned. (LAID: no walk: one application.) -/
theorem Tryd.strconv_syntaxError (fn s : ByteArray) (ev : Value) (w : World) (hlim : s.size ≤ 281474976710656) (hv : w.cell? ⟨3, 0, none⟩ = some ev) (hev : ev = .nilIface ∨ ∃ te pe, ev = .iface te pe) :
    Calls Tryd.prog 109 #[.string fn, .string s] w fun e w' => ∃ N, e = .returned (.pointer (some ⟨N, 0, none⟩)) ∧ w.heap.size ≤ N ∧ w'.heap[N]? = some (.cells #[.string fn, .string s, ev] 153 (0, 0)) ∧ Below w.heap.size w w' := Any.strconv_syntaxError Tryd.laysM279 fn s ev w hlim hv hev
def Tryd.laysC245_ren : Go.Shelf.Ren := ⟨fun | 245 => 95 | 279 => 109 | 280 => 110 | 281 => 111 | 282 => 112 | 316 => 118 | 171 => 120 | 205 => 119 | 243 => 123 | 246 => 124 | 283 => 101 | 284 => 102 | 285 => 103 | 286 => 104 | 129 => 77 | 317 => 113 | 318 => 114 | 319 => 115 | 320 => 116 | 337 => 121 | 338 => 122 | n => n, fun | 9 => 9 | 3 => 3 | 75 => 99 | 167 => 141 | 4 => 4 | 168 => 143 | 210 => 153 | 37 => 95 | 0 => 0 | 127 => 127 | 145 => 157 | 143 => 155 | 2 => 2 | 171 => 135 | 53 => 65 | 5 => 5 | 173 => 137 | 212 => 147 | 51 => 115 | 20 => 20 | 213 => 148 | 46 => 86 | 232 => 158 | 233 => 159 | 80 => 48 | n => n, fun | 15 => 3 | 16 => 4 | 17 => 2 | 18 => 6 | 19 => 7 | n => n⟩
theorem Tryd.laysC245 : Go.Proofs.LaysC.n245 Tryd.prog Tryd.laysC245_ren := {
  mixed := by kernel_rfl
  f129 := Tryd.func77.trans (congrArg some (by kernel_rfl))
  f171 := Tryd.func120.trans (congrArg some (by kernel_rfl))
  f205 := Tryd.func119.trans (congrArg some (by kernel_rfl))
  f243 := Tryd.func123.trans (congrArg some (by kernel_rfl))
  f245 := Tryd.func95.trans (congrArg some (by kernel_rfl))
  f246 := Tryd.func124.trans (congrArg some (by kernel_rfl))
  f279 := Tryd.func109.trans (congrArg some (by kernel_rfl))
  f280 := Tryd.func110.trans (congrArg some (by kernel_rfl))
  f281 := Tryd.func111.trans (congrArg some (by kernel_rfl))
  f282 := Tryd.func112.trans (congrArg some (by kernel_rfl))
  f283 := Tryd.func101.trans (congrArg some (by kernel_rfl))
  f284 := Tryd.func102.trans (congrArg some (by kernel_rfl))
  f285 := Tryd.func103.trans (congrArg some (by kernel_rfl))
  f286 := Tryd.func104.trans (congrArg some (by kernel_rfl))
  f316 := Tryd.func118.trans (congrArg some (by kernel_rfl))
  f317 := Tryd.func113.trans (congrArg some (by kernel_rfl))
  f318 := Tryd.func114.trans (congrArg some (by kernel_rfl))
  f319 := Tryd.func115.trans (congrArg some (by kernel_rfl))
  f320 := Tryd.func116.trans (congrArg some (by kernel_rfl))
  f337 := Tryd.func121.trans (congrArg some (by kernel_rfl))
  f338 := Tryd.func122.trans (congrArg some (by kernel_rfl))
  t0 := Tryd.underlying0
  a0 := Tryd.isAgg0
  z0 := Tryd.sizeOf0
  v0 := Tryd.zeroValue0
  t2 := Tryd.underlying2
  a2 := Tryd.isAgg2
  z2 := Tryd.sizeOf2
  v2 := Tryd.zeroValue2
  t3 := Tryd.underlying3
  a3 := Tryd.isAgg3
  z3 := Tryd.sizeOf3
  v3 := Tryd.zeroValue3
  t4 := Tryd.underlying4
  a4 := Tryd.isAgg4
  z4 := Tryd.sizeOf4
  v4 := Tryd.zeroValue4
  t5 := Tryd.underlying5
  a5 := Tryd.isAgg5
  z5 := Tryd.sizeOf5
  v5 := Tryd.zeroValue5
  t9 := Tryd.underlying9
  a9 := Tryd.isAgg9
  z9 := Tryd.sizeOf9
  v9 := Tryd.zeroValue9
  t20 := Tryd.underlying20
  a20 := Tryd.isAgg20
  z20 := Tryd.sizeOf20
  v20 := Tryd.zeroValue20
  t37 := Tryd.underlying95
  a37 := Tryd.isAgg95
  z37 := Tryd.sizeOf95
  v37 := Tryd.zeroValue95
  t46 := Tryd.underlying86
  a46 := Tryd.isAgg86
  z46 := Tryd.sizeOf86
  v46 := Tryd.zeroValue86
  t51 := Tryd.underlying115
  a51 := Tryd.isAgg115
  z51 := Tryd.sizeOf115
  v51 := Tryd.zeroValue115
  t53 := Tryd.underlying65
  a53 := Tryd.isAgg65
  z53 := Tryd.sizeOf65
  v53 := Tryd.zeroValue65
  t75 := Tryd.underlying99
  a75 := Tryd.isAgg99
  z75 := Tryd.sizeOf99
  v75 := Tryd.zeroValue99
  t127 := Tryd.underlying127
  a127 := Tryd.isAgg127
  z127 := Tryd.sizeOf127
  v127 := Tryd.zeroValue127
  t143 := Tryd.underlying155
  a143 := Tryd.isAgg155
  z143 := Tryd.sizeOf155
  v143 := Tryd.zeroValue155
  t145 := Tryd.underlying157
  a145 := Tryd.isAgg157
  z145 := Tryd.sizeOf157
  v145 := Tryd.zeroValue157
  t167 := Tryd.underlying141
  a167 := Tryd.isAgg141
  z167 := Tryd.sizeOf141
  v167 := Tryd.zeroValue141
  t168 := Tryd.underlying143
  a168 := Tryd.isAgg143
  z168 := Tryd.sizeOf143
  v168 := Tryd.zeroValue143
  t171 := Tryd.underlying135
  a171 := Tryd.isAgg135
  z171 := Tryd.sizeOf135
  v171 := Tryd.zeroValue135
  t173 := Tryd.underlying137
  a173 := Tryd.isAgg137
  z173 := Tryd.sizeOf137
  v173 := Tryd.zeroValue137
  t210 := Tryd.underlying153
  a210 := Tryd.isAgg153
  z210 := Tryd.sizeOf153
  v210 := Tryd.zeroValue153
  t212 := Tryd.underlying147
  a212 := Tryd.isAgg147
  z212 := Tryd.sizeOf147
  v212 := Tryd.zeroValue147
  t213 := Tryd.underlying148
  a213 := Tryd.isAgg148
  z213 := Tryd.sizeOf148
  t232 := Tryd.underlying158
  a232 := Tryd.isAgg158
  z232 := Tryd.sizeOf158
  v232 := Tryd.zeroValue158
  t233 := Tryd.underlying159
  a233 := Tryd.isAgg159
  z233 := Tryd.sizeOf159
  v233 := Tryd.zeroValue159
  g15 := by kernel_rfl
  g16 := by kernel_rfl
  g17 := by kernel_rfl
  g18 := by kernel_rfl
  g19 := by kernel_rfl
  t80 := Tryd.underlying48
  a80 := Tryd.isAgg48
  z80 := Tryd.sizeOf48
  v80 := Tryd.zeroValue48
  i0 := by kernel_rfl
  i2 := by kernel_rfl
  i3 := by kernel_rfl
  i4 := by kernel_rfl
  i5 := by kernel_rfl
  i9 := by kernel_rfl
  i20 := by kernel_rfl
  i37 := by kernel_rfl
  i46 := by kernel_rfl
  i51 := by kernel_rfl
  i53 := by kernel_rfl
  i75 := by kernel_rfl
  i80 := by kernel_rfl
  i127 := by kernel_rfl
  i143 := by kernel_rfl
  i145 := by kernel_rfl
  i167 := by kernel_rfl
  i168 := by kernel_rfl
  i171 := by kernel_rfl
  i173 := by kernel_rfl
  i210 := by kernel_rfl
  i212 := by kernel_rfl
  i232 := by kernel_rfl
  i233 := by kernel_rfl
  m15 := by kernel_rfl
  m16 := by kernel_rfl
  m17 := by kernel_rfl
  m18 := by kernel_rfl
  m19 := by kernel_rfl
  c0 := by kernel_rfl
  c2 := by kernel_rfl
  c3 := by kernel_rfl
  c4 := by kernel_rfl
  c5 := by kernel_rfl
  c9 := by kernel_rfl
  c20 := by kernel_rfl
  c37 := by kernel_rfl
  c46 := by kernel_rfl
  c51 := by kernel_rfl
  c53 := by kernel_rfl
  c75 := by kernel_rfl
  c80 := by kernel_rfl
  c127 := by kernel_rfl
  c143 := by kernel_rfl
  c145 := by kernel_rfl
  c167 := by kernel_rfl
  c168 := by kernel_rfl
  c171 := by kernel_rfl
  c173 := by kernel_rfl
  c210 := by kernel_rfl
  c212 := by kernel_rfl
  c213 := by kernel_rfl
  c232 := by kernel_rfl
  c233 := by kernel_rfl }
open Go.RowKit in
/-- strconv.toError, at the inner package's ErrSyntax: 'syntaxError(fn, s)' as an error: A *NumError IN A NEW BLOCK. (LAID: no walk: one application.) -/
theorem Tryd.strconv_toError_syntax (fn s : ByteArray) (base bits : Int) (ev : Value) (w : World) (hlim : s.size ≤ 281474976710656) (hv : w.cell? ⟨3, 0, none⟩ = some ev) (hev : ev = .nilIface ∨ ∃ te pe, ev = .iface te pe) :
    Calls Tryd.prog 95 #[.string fn, .string s, .int .i64 base, .int .i64 bits, .iface 141 (.int .i64 2)] w fun e w' => ∃ N, e = .returned (.iface 143 (.pointer (some ⟨N, 0, none⟩))) ∧ w.heap.size ≤ N ∧ w'.heap[N]? = some (.cells #[.string fn, .string s, ev] 153 (0, 0)) ∧ Below w.heap.size w w' := Any.strconv_toError_syntax Tryd.laysC245 fn s base bits ev w hlim hv hev
def Tryd.lays321_ren : Go.Shelf.Ren := ⟨fun | 321 => 107 | n => n, fun | 5 => 5 | n => n, fun | n => n⟩
theorem Tryd.lays321 : Go.Proofs.Lays.n321 Tryd.prog Tryd.lays321_ren := {
  mixed := by kernel_rfl
  f321 := Tryd.func107.trans (congrArg some (by kernel_rfl))
  t5 := Tryd.underlying5
  a5 := Tryd.isAgg5
  z5 := Tryd.sizeOf5
  v5 := Tryd.zeroValue5 }
open Go.RowKit in
/-- internal/strconv.lower: 'c | ('x' - 'X')': the bit 32 set. The world is as it was. (LAID: no walk: one application.) -/
theorem Tryd.internal_strconv_lower (c : Int) (w : World) :
    Calls Tryd.prog 107 #[.int .u8 c] w fun e w' => e = .returned (.int .u8 (bits .or .u8 c 32)) ∧ w' = w := Any.internal_strconv_lower Tryd.lays321 c w
def Tryd.lays287_ren : Go.Shelf.Ren := ⟨fun | 287 => 94 | 321 => 107 | 322 => 108 | n => n, fun | 9 => 9 | 3 => 3 | 53 => 65 | 75 => 99 | 4 => 4 | 167 => 141 | 5 => 5 | 46 => 86 | 37 => 95 | 0 => 0 | 21 => 21 | 80 => 48 | n => n, fun | n => n⟩
theorem Tryd.lays287 : Go.Proofs.Lays.n287 Tryd.prog Tryd.lays287_ren := {
  mixed := by kernel_rfl
  f287 := Tryd.func94.trans (congrArg some (by kernel_rfl))
  f321 := Tryd.func107.trans (congrArg some (by kernel_rfl))
  f322 := Tryd.func108.trans (congrArg some (by kernel_rfl))
  t0 := Tryd.underlying0
  a0 := Tryd.isAgg0
  z0 := Tryd.sizeOf0
  v0 := Tryd.zeroValue0
  t3 := Tryd.underlying3
  a3 := Tryd.isAgg3
  z3 := Tryd.sizeOf3
  v3 := Tryd.zeroValue3
  t4 := Tryd.underlying4
  a4 := Tryd.isAgg4
  z4 := Tryd.sizeOf4
  v4 := Tryd.zeroValue4
  t5 := Tryd.underlying5
  a5 := Tryd.isAgg5
  z5 := Tryd.sizeOf5
  v5 := Tryd.zeroValue5
  t9 := Tryd.underlying9
  a9 := Tryd.isAgg9
  z9 := Tryd.sizeOf9
  v9 := Tryd.zeroValue9
  t21 := Tryd.underlying21
  a21 := Tryd.isAgg21
  z21 := Tryd.sizeOf21
  v21 := Tryd.zeroValue21
  t37 := Tryd.underlying95
  a37 := Tryd.isAgg95
  z37 := Tryd.sizeOf95
  v37 := Tryd.zeroValue95
  t46 := Tryd.underlying86
  a46 := Tryd.isAgg86
  z46 := Tryd.sizeOf86
  v46 := Tryd.zeroValue86
  t53 := Tryd.underlying65
  a53 := Tryd.isAgg65
  z53 := Tryd.sizeOf65
  v53 := Tryd.zeroValue65
  t75 := Tryd.underlying99
  a75 := Tryd.isAgg99
  z75 := Tryd.sizeOf99
  v75 := Tryd.zeroValue99
  t167 := Tryd.underlying141
  a167 := Tryd.isAgg141
  z167 := Tryd.sizeOf141
  v167 := Tryd.zeroValue141 }
open Go.RowKit in
/-- internal/strconv.ParseUint(s, 10, 0), s NOT EMPTY: 'Lib.parseUint10 0' OF ITS BYTES: the number; or (0, ErrSyntax); or (the greatest uint64, ErrRange). The world behind the call: the one new row that '[]byte(s)' lays. (LAID: no walk: one application.) -/
theorem Tryd.internal_strconv_ParseUint_10 (t : ByteArray) (hne : t.size ≠ 0) (hmax : t.size ≤ 9223372036854775806) (w : World) :
    Calls Tryd.prog 94 #[.string t, .int .i64 10, .int .i64 0] w fun e w' => e = .returned (Lib.uintTuple 141 (Lib.parseUint10 0 t.data.toList)) ∧ w' = Lib.bytesWorld w 5 t := Any.internal_strconv_ParseUint_10 Tryd.lays287 t hne hmax w
open Go.RowKit in
/-- internal/strconv.ParseUint("", 10, 0): (0, ErrSyntax). The world is as it was. (LAID: no walk: one application.) -/
theorem Tryd.internal_strconv_ParseUint_10_empty (w : World) :
    Calls Tryd.prog 94 #[.string ⟨#[]⟩, .int .i64 10, .int .i64 0] w fun e w' => e = .returned (Lib.uintTuple 141 .syntax) ∧ w' = w := Any.internal_strconv_ParseUint_10_empty Tryd.lays287 w
open Go.RowKit in
/-- internal/strconv.ParseUint(s, 10, 0): 'Lib.parseMag' OF ITS BYTES. The world: as it was (the empty string), or with the one new row that '[]byte(s)' lays. (LAID: no walk: one application.) -/
theorem Tryd.internal_strconv_ParseUint_10_any (t : ByteArray) (hmax : t.size ≤ 9223372036854775806) (w : World) :
    Calls Tryd.prog 94 #[.string t, .int .i64 10, .int .i64 0] w fun e w' => e = .returned (Lib.uintTuple 141 (Lib.parseMag t.data.toList)) ∧ (w' = w ∨ w' = Lib.bytesWorld w 5 t) := Any.internal_strconv_ParseUint_10_any Tryd.lays287 t hmax w
def Tryd.laysM280_ren : Go.Shelf.Ren := ⟨fun | 280 => 110 | 316 => 118 | n => n, fun | 9 => 9 | 168 => 143 | 75 => 99 | 210 => 153 | 3 => 3 | 4 => 4 | 37 => 95 | 0 => 0 | 127 => 127 | 80 => 48 | 5 => 5 | n => n, fun | 16 => 4 | n => n⟩
theorem Tryd.laysM280 : Go.Proofs.LaysM.n280 Tryd.prog Tryd.laysM280_ren := {
  mixed := by kernel_rfl
  f280 := Tryd.func110.trans (congrArg some (by kernel_rfl))
  f316 := Tryd.func118.trans (congrArg some (by kernel_rfl))
  t0 := Tryd.underlying0
  a0 := Tryd.isAgg0
  z0 := Tryd.sizeOf0
  v0 := Tryd.zeroValue0
  t3 := Tryd.underlying3
  a3 := Tryd.isAgg3
  z3 := Tryd.sizeOf3
  v3 := Tryd.zeroValue3
  t4 := Tryd.underlying4
  a4 := Tryd.isAgg4
  z4 := Tryd.sizeOf4
  v4 := Tryd.zeroValue4
  t9 := Tryd.underlying9
  a9 := Tryd.isAgg9
  z9 := Tryd.sizeOf9
  v9 := Tryd.zeroValue9
  t37 := Tryd.underlying95
  a37 := Tryd.isAgg95
  z37 := Tryd.sizeOf95
  v37 := Tryd.zeroValue95
  t75 := Tryd.underlying99
  a75 := Tryd.isAgg99
  z75 := Tryd.sizeOf99
  v75 := Tryd.zeroValue99
  t127 := Tryd.underlying127
  a127 := Tryd.isAgg127
  z127 := Tryd.sizeOf127
  v127 := Tryd.zeroValue127
  t168 := Tryd.underlying143
  a168 := Tryd.isAgg143
  z168 := Tryd.sizeOf143
  v168 := Tryd.zeroValue143
  t210 := Tryd.underlying153
  a210 := Tryd.isAgg153
  z210 := Tryd.sizeOf153
  v210 := Tryd.zeroValue153
  g16 := by kernel_rfl
  t5 := Tryd.underlying5
  a5 := Tryd.isAgg5
  z5 := Tryd.sizeOf5
  v5 := Tryd.zeroValue5
  t80 := Tryd.underlying48
  a80 := Tryd.isAgg48
  z80 := Tryd.sizeOf48
  v80 := Tryd.zeroValue48
  i0 := by kernel_rfl
  i3 := by kernel_rfl
  i4 := by kernel_rfl
  i5 := by kernel_rfl
  i9 := by kernel_rfl
  i37 := by kernel_rfl
  i75 := by kernel_rfl
  i80 := by kernel_rfl
  i127 := by kernel_rfl
  i168 := by kernel_rfl
  i210 := by kernel_rfl
  m16 := by kernel_rfl }
open Go.RowKit in
/-- strconv.rangeError: '&NumError{fn, stringslite.Clone(str), ErrRange}': A POINTER TO A NEW BLOCK that holds fn, str's bytes, and what the variable ErrRange holds. Of what was there nothing has turned. (LAID: no walk: one application.) -/
theorem Tryd.strconv_rangeError (fn s : ByteArray) (ev : Value) (w : World) (hlim : s.size ≤ 281474976710656) (hv : w.cell? ⟨4, 0, none⟩ = some ev) (hev : ev = .nilIface ∨ ∃ te pe, ev = .iface te pe) :
    Calls Tryd.prog 110 #[.string fn, .string s] w fun e w' => ∃ N, e = .returned (.pointer (some ⟨N, 0, none⟩)) ∧ w.heap.size ≤ N ∧ w'.heap[N]? = some (.cells #[.string fn, .string s, ev] 153 (0, 0)) ∧ Below w.heap.size w w' := Any.strconv_rangeError Tryd.laysM280 fn s ev w hlim hv hev
open Go.RowKit in
/-- strconv.toError, at the inner package's ErrRange: 'rangeError(fn, s)' as an error: A *NumError IN A NEW BLOCK. (LAID: no walk: one application.) -/
theorem Tryd.strconv_toError_range (fn s : ByteArray) (base bits : Int) (ev : Value) (w : World) (hlim : s.size ≤ 281474976710656) (hv : w.cell? ⟨4, 0, none⟩ = some ev) (hev : ev = .nilIface ∨ ∃ te pe, ev = .iface te pe) :
    Calls Tryd.prog 95 #[.string fn, .string s, .int .i64 base, .int .i64 bits, .iface 141 (.int .i64 1)] w fun e w' => ∃ N, e = .returned (.iface 143 (.pointer (some ⟨N, 0, none⟩))) ∧ w.heap.size ≤ N ∧ w'.heap[N]? = some (.cells #[.string fn, .string s, ev] 153 (0, 0)) ∧ Below w.heap.size w w' := Any.strconv_toError_range Tryd.laysC245 fn s base bits ev w hlim hv hev
open Go.RowKit in
/-- internal/strconv.ParseUint("", base, bitSize): (0, ErrSyntax): the first test of the text. The world is as it was. (LAID: no walk: one application.) -/
theorem Tryd.internal_strconv_ParseUint_empty (base bits : Int) (w : World) :
    Calls Tryd.prog 94 #[.string ⟨#[]⟩, .int .i64 base, .int .i64 bits] w fun e w' => e = .returned (.tuple #[.int .u64 0, .iface 141 (.int .i64 2)]) ∧ w' = w := Any.internal_strconv_ParseUint_empty Tryd.lays287 base bits w
open Go.RowKit in
/-- internal/strconv.ParseUint(s, 10, 64), s NOT EMPTY: 'Lib.parseUint10 0' OF ITS BYTES: the number; or (0, ErrSyntax); or (the greatest uint64, ErrRange). The world behind the call: the one new row that '[]byte(s)' lays. (LAID: no walk: one application.) -/
theorem Tryd.internal_strconv_ParseUint_10_b64 (t : ByteArray) (hne : t.size ≠ 0) (hmax : t.size ≤ 9223372036854775806) (w : World) :
    Calls Tryd.prog 94 #[.string t, .int .i64 10, .int .i64 64] w fun e w' => e = .returned (Lib.uintTuple 141 (Lib.parseUint10 0 t.data.toList)) ∧ w' = Lib.bytesWorld w 5 t := Any.internal_strconv_ParseUint_10_b64 Tryd.lays287 t hne hmax w
open Go.RowKit in
/-- internal/strconv.ParseUint(s, 10, 32), s NOT EMPTY: 'Lib.parseUintM 4294967295 0' OF ITS BYTES: the number; or (0, ErrSyntax); or (the greatest uint32, ErrRange). The world behind the call: the one new row that '[]byte(s)' lays. (LAID: no walk: one application.) -/
theorem Tryd.internal_strconv_ParseUint_10_b32 (t : ByteArray) (hne : t.size ≠ 0) (hmax : t.size ≤ 9223372036854775806) (w : World) :
    Calls Tryd.prog 94 #[.string t, .int .i64 10, .int .i64 32] w fun e w' => e = .returned (Lib.uintTupleM 141 4294967295 (Lib.parseUintM 4294967295 0 t.data.toList)) ∧ w' = Lib.bytesWorld w 5 t := Any.internal_strconv_ParseUint_10_b32 Tryd.lays287 t hne hmax w
open Go.RowKit in
/-- internal/strconv.ParseUint(s, 10, 16), s NOT EMPTY: 'Lib.parseUintM 65535 0' OF ITS BYTES: the number; or (0, ErrSyntax); or (the greatest uint16, ErrRange). The world behind the call: the one new row that '[]byte(s)' lays. (LAID: no walk: one application.) -/
theorem Tryd.internal_strconv_ParseUint_10_b16 (t : ByteArray) (hne : t.size ≠ 0) (hmax : t.size ≤ 9223372036854775806) (w : World) :
    Calls Tryd.prog 94 #[.string t, .int .i64 10, .int .i64 16] w fun e w' => e = .returned (Lib.uintTupleM 141 65535 (Lib.parseUintM 65535 0 t.data.toList)) ∧ w' = Lib.bytesWorld w 5 t := Any.internal_strconv_ParseUint_10_b16 Tryd.lays287 t hne hmax w
open Go.RowKit in
/-- internal/strconv.ParseUint(s, 10, 8), s NOT EMPTY: 'Lib.parseUintM 255 0' OF ITS BYTES: the number; or (0, ErrSyntax); or (the greatest uint8, ErrRange). The world behind the call: the one new row that '[]byte(s)' lays. (LAID: no walk: one application.) -/
theorem Tryd.internal_strconv_ParseUint_10_b8 (t : ByteArray) (hne : t.size ≠ 0) (hmax : t.size ≤ 9223372036854775806) (w : World) :
    Calls Tryd.prog 94 #[.string t, .int .i64 10, .int .i64 8] w fun e w' => e = .returned (Lib.uintTupleM 141 255 (Lib.parseUintM 255 0 t.data.toList)) ∧ w' = Lib.bytesWorld w 5 t := Any.internal_strconv_ParseUint_10_b8 Tryd.lays287 t hne hmax w
open Go.RowKit in
/-- internal/strconv.ParseUint(s, 10, 0): 'Lib.parseUintB 64' OF ITS BYTES. The world: as it was (the empty string), or with the one new row that '[]byte(s)' lays. (LAID: no walk: one application.) -/
theorem Tryd.internal_strconv_ParseUint_10_at0 (t : ByteArray) (hmax : t.size ≤ 9223372036854775806) (w : World) :
    Calls Tryd.prog 94 #[.string t, .int .i64 10, .int .i64 0] w fun e w' => e = .returned (Lib.uintTupleM 141 18446744073709551615 (Lib.parseUintB 64 t.data.toList)) ∧ (w' = w ∨ w' = Lib.bytesWorld w 5 t) := Any.internal_strconv_ParseUint_10_at0 Tryd.lays287 t hmax w
open Go.RowKit in
/-- internal/strconv.ParseUint(s, 10, 64): 'Lib.parseUintB 64' OF ITS BYTES. The world: as it was (the empty string), or with the one new row that '[]byte(s)' lays. (LAID: no walk: one application.) -/
theorem Tryd.internal_strconv_ParseUint_10_at64 (t : ByteArray) (hmax : t.size ≤ 9223372036854775806) (w : World) :
    Calls Tryd.prog 94 #[.string t, .int .i64 10, .int .i64 64] w fun e w' => e = .returned (Lib.uintTupleM 141 18446744073709551615 (Lib.parseUintB 64 t.data.toList)) ∧ (w' = w ∨ w' = Lib.bytesWorld w 5 t) := Any.internal_strconv_ParseUint_10_at64 Tryd.lays287 t hmax w
open Go.RowKit in
/-- internal/strconv.ParseUint(s, 10, 32): 'Lib.parseUintB 32' OF ITS BYTES. The world: as it was (the empty string), or with the one new row that '[]byte(s)' lays. (LAID: no walk: one application.) -/
theorem Tryd.internal_strconv_ParseUint_10_at32 (t : ByteArray) (hmax : t.size ≤ 9223372036854775806) (w : World) :
    Calls Tryd.prog 94 #[.string t, .int .i64 10, .int .i64 32] w fun e w' => e = .returned (Lib.uintTupleM 141 4294967295 (Lib.parseUintB 32 t.data.toList)) ∧ (w' = w ∨ w' = Lib.bytesWorld w 5 t) := Any.internal_strconv_ParseUint_10_at32 Tryd.lays287 t hmax w
open Go.RowKit in
/-- internal/strconv.ParseUint(s, 10, 16): 'Lib.parseUintB 16' OF ITS BYTES. The world: as it was (the empty string), or with the one new row that '[]byte(s)' lays. (LAID: no walk: one application.) -/
theorem Tryd.internal_strconv_ParseUint_10_at16 (t : ByteArray) (hmax : t.size ≤ 9223372036854775806) (w : World) :
    Calls Tryd.prog 94 #[.string t, .int .i64 10, .int .i64 16] w fun e w' => e = .returned (Lib.uintTupleM 141 65535 (Lib.parseUintB 16 t.data.toList)) ∧ (w' = w ∨ w' = Lib.bytesWorld w 5 t) := Any.internal_strconv_ParseUint_10_at16 Tryd.lays287 t hmax w
open Go.RowKit in
/-- internal/strconv.ParseUint(s, 10, 8): 'Lib.parseUintB 8' OF ITS BYTES. The world: as it was (the empty string), or with the one new row that '[]byte(s)' lays. (LAID: no walk: one application.) -/
theorem Tryd.internal_strconv_ParseUint_10_at8 (t : ByteArray) (hmax : t.size ≤ 9223372036854775806) (w : World) :
    Calls Tryd.prog 94 #[.string t, .int .i64 10, .int .i64 8] w fun e w' => e = .returned (Lib.uintTupleM 141 255 (Lib.parseUintB 8 t.data.toList)) ∧ (w' = w ∨ w' = Lib.bytesWorld w 5 t) := Any.internal_strconv_ParseUint_10_at8 Tryd.lays287 t hmax w
def Tryd.laysPu14_ren : Go.Shelf.Ren := ⟨fun | 14 => 76 | 16 => 94 | 17 => 95 | 19 => 107 | 20 => 108 | 21 => 109 | 22 => 110 | 23 => 111 | 24 => 112 | 25 => 118 | 27 => 120 | 26 => 119 | 28 => 123 | 29 => 124 | 30 => 101 | 31 => 102 | 32 => 103 | 33 => 104 | 35 => 77 | 34 => 113 | 36 => 114 | 37 => 115 | 38 => 116 | 39 => 121 | 40 => 122 | n => n, fun | 9 => 9 | 3 => 3 | 22 => 65 | 24 => 99 | 25 => 111 | 4 => 4 | 34 => 141 | 5 => 5 | 36 => 86 | 37 => 95 | 0 => 0 | 39 => 143 | 21 => 21 | 44 => 153 | 47 => 127 | 50 => 157 | 48 => 155 | 2 => 2 | 52 => 135 | 55 => 137 | 59 => 147 | 60 => 115 | 20 => 20 | 61 => 148 | 65 => 158 | 66 => 159 | 67 => 48 | n => n, fun | 0 => 3 | 1 => 4 | 2 => 2 | 3 => 6 | 4 => 7 | n => n⟩
theorem Tryd.laysPu14 : Go.Proofs.LaysPu.n14 Tryd.prog Tryd.laysPu14_ren := {
  mixed := by kernel_rfl
  f14 := Tryd.func76.trans (congrArg some (by kernel_rfl))
  f16 := Tryd.func94.trans (congrArg some (by kernel_rfl))
  f17 := Tryd.func95.trans (congrArg some (by kernel_rfl))
  f19 := Tryd.func107.trans (congrArg some (by kernel_rfl))
  f20 := Tryd.func108.trans (congrArg some (by kernel_rfl))
  f21 := Tryd.func109.trans (congrArg some (by kernel_rfl))
  f22 := Tryd.func110.trans (congrArg some (by kernel_rfl))
  f23 := Tryd.func111.trans (congrArg some (by kernel_rfl))
  f24 := Tryd.func112.trans (congrArg some (by kernel_rfl))
  f25 := Tryd.func118.trans (congrArg some (by kernel_rfl))
  f26 := Tryd.func119.trans (congrArg some (by kernel_rfl))
  f27 := Tryd.func120.trans (congrArg some (by kernel_rfl))
  f28 := Tryd.func123.trans (congrArg some (by kernel_rfl))
  f29 := Tryd.func124.trans (congrArg some (by kernel_rfl))
  f30 := Tryd.func101.trans (congrArg some (by kernel_rfl))
  f31 := Tryd.func102.trans (congrArg some (by kernel_rfl))
  f32 := Tryd.func103.trans (congrArg some (by kernel_rfl))
  f33 := Tryd.func104.trans (congrArg some (by kernel_rfl))
  f34 := Tryd.func113.trans (congrArg some (by kernel_rfl))
  f35 := Tryd.func77.trans (congrArg some (by kernel_rfl))
  f36 := Tryd.func114.trans (congrArg some (by kernel_rfl))
  f37 := Tryd.func115.trans (congrArg some (by kernel_rfl))
  f38 := Tryd.func116.trans (congrArg some (by kernel_rfl))
  f39 := Tryd.func121.trans (congrArg some (by kernel_rfl))
  f40 := Tryd.func122.trans (congrArg some (by kernel_rfl))
  t0 := Tryd.underlying0
  a0 := Tryd.isAgg0
  z0 := Tryd.sizeOf0
  v0 := Tryd.zeroValue0
  i0 := by kernel_rfl
  t2 := Tryd.underlying2
  a2 := Tryd.isAgg2
  z2 := Tryd.sizeOf2
  v2 := Tryd.zeroValue2
  i2 := by kernel_rfl
  t3 := Tryd.underlying3
  a3 := Tryd.isAgg3
  z3 := Tryd.sizeOf3
  v3 := Tryd.zeroValue3
  i3 := by kernel_rfl
  t4 := Tryd.underlying4
  a4 := Tryd.isAgg4
  z4 := Tryd.sizeOf4
  v4 := Tryd.zeroValue4
  i4 := by kernel_rfl
  t5 := Tryd.underlying5
  a5 := Tryd.isAgg5
  z5 := Tryd.sizeOf5
  v5 := Tryd.zeroValue5
  i5 := by kernel_rfl
  t9 := Tryd.underlying9
  a9 := Tryd.isAgg9
  z9 := Tryd.sizeOf9
  v9 := Tryd.zeroValue9
  i9 := by kernel_rfl
  t20 := Tryd.underlying20
  a20 := Tryd.isAgg20
  z20 := Tryd.sizeOf20
  v20 := Tryd.zeroValue20
  i20 := by kernel_rfl
  t21 := Tryd.underlying21
  a21 := Tryd.isAgg21
  z21 := Tryd.sizeOf21
  v21 := Tryd.zeroValue21
  i21 := by kernel_rfl
  t22 := Tryd.underlying65
  a22 := Tryd.isAgg65
  z22 := Tryd.sizeOf65
  v22 := Tryd.zeroValue65
  i22 := by kernel_rfl
  t24 := Tryd.underlying99
  a24 := Tryd.isAgg99
  z24 := Tryd.sizeOf99
  v24 := Tryd.zeroValue99
  i24 := by kernel_rfl
  t25 := Tryd.underlying111
  a25 := Tryd.isAgg111
  z25 := Tryd.sizeOf111
  v25 := Tryd.zeroValue111
  i25 := by kernel_rfl
  t34 := Tryd.underlying141
  a34 := Tryd.isAgg141
  z34 := Tryd.sizeOf141
  v34 := Tryd.zeroValue141
  i34 := by kernel_rfl
  c34 := by kernel_rfl
  t36 := Tryd.underlying86
  a36 := Tryd.isAgg86
  z36 := Tryd.sizeOf86
  v36 := Tryd.zeroValue86
  i36 := by kernel_rfl
  t37 := Tryd.underlying95
  a37 := Tryd.isAgg95
  z37 := Tryd.sizeOf95
  v37 := Tryd.zeroValue95
  i37 := by kernel_rfl
  t39 := Tryd.underlying143
  a39 := Tryd.isAgg143
  z39 := Tryd.sizeOf143
  v39 := Tryd.zeroValue143
  i39 := by kernel_rfl
  t44 := Tryd.underlying153
  a44 := Tryd.isAgg153
  z44 := Tryd.sizeOf153
  v44 := Tryd.zeroValue153
  i44 := by kernel_rfl
  t47 := Tryd.underlying127
  a47 := Tryd.isAgg127
  z47 := Tryd.sizeOf127
  v47 := Tryd.zeroValue127
  i47 := by kernel_rfl
  t48 := Tryd.underlying155
  a48 := Tryd.isAgg155
  z48 := Tryd.sizeOf155
  v48 := Tryd.zeroValue155
  i48 := by kernel_rfl
  t50 := Tryd.underlying157
  a50 := Tryd.isAgg157
  z50 := Tryd.sizeOf157
  v50 := Tryd.zeroValue157
  i50 := by kernel_rfl
  t52 := Tryd.underlying135
  a52 := Tryd.isAgg135
  z52 := Tryd.sizeOf135
  v52 := Tryd.zeroValue135
  i52 := by kernel_rfl
  t55 := Tryd.underlying137
  a55 := Tryd.isAgg137
  z55 := Tryd.sizeOf137
  v55 := Tryd.zeroValue137
  i55 := by kernel_rfl
  t59 := Tryd.underlying147
  a59 := Tryd.isAgg147
  z59 := Tryd.sizeOf147
  v59 := Tryd.zeroValue147
  i59 := by kernel_rfl
  t60 := Tryd.underlying115
  a60 := Tryd.isAgg115
  z60 := Tryd.sizeOf115
  v60 := Tryd.zeroValue115
  i60 := by kernel_rfl
  t61 := Tryd.underlying148
  a61 := Tryd.isAgg148
  z61 := Tryd.sizeOf148
  t65 := Tryd.underlying158
  a65 := Tryd.isAgg158
  z65 := Tryd.sizeOf158
  v65 := Tryd.zeroValue158
  i65 := by kernel_rfl
  t66 := Tryd.underlying159
  a66 := Tryd.isAgg159
  z66 := Tryd.sizeOf159
  v66 := Tryd.zeroValue159
  i66 := by kernel_rfl
  t67 := Tryd.underlying48
  a67 := Tryd.isAgg48
  z67 := Tryd.sizeOf48
  v67 := Tryd.zeroValue48
  i67 := by kernel_rfl
  g0 := by kernel_rfl
  m0 := by kernel_rfl
  g1 := by kernel_rfl
  m1 := by kernel_rfl
  g2 := by kernel_rfl
  m2 := by kernel_rfl
  g3 := by kernel_rfl
  m3 := by kernel_rfl
  g4 := by kernel_rfl
  m4 := by kernel_rfl }
open Go.RowKit in
/-- strconv.ParseUint(s, 10, 0), AT EVERY STRING THAT SPELLS A uint64 ('Lib.parseUintB 64 s.data.toList = .ok u'): u, AND NO ERROR. (LAID: no walk: one application.) -/
theorem Tryd.strconv_ParseUint_10_at0_ok (s : ByteArray) (hmax : s.size ≤ 9223372036854775806) (u : Nat) (h : Lib.parseUintB 64 s.data.toList = .ok u) (w : World) :
    Calls Tryd.prog 76 #[.string s, .int .i64 10, .int .i64 0] w fun e w' => e = .returned (.tuple #[.int .u64 u, .nilIface]) ∧ (w' = w ∨ w' = Lib.bytesWorld w 5 s) := Any.strconv_ParseUint_10_at0_ok Tryd.laysPu14 s hmax u h w
open Go.RowKit in
/-- strconv.ParseUint(s, 10, 0), AT EVERY NUMERAL THAT NO uint64 HOLDS: THE GREATEST uint64, AND AN ERROR THAT IS NOT nil: a *NumError in a new block N: {Func: "ParseUint", Num: s's bytes, Err: what the variable ErrRange holds}. Of what was there nothing has turned. (LAID: no walk: one application.) -/
theorem Tryd.strconv_ParseUint_10_at0_range (s : ByteArray) (hlim : s.size ≤ 281474976710656) (h : Lib.parseUintB 64 s.data.toList = .range) (ev : Value) (w : World) (hv : w.cell? ⟨4, 0, none⟩ = some ev) (hev : ev = .nilIface ∨ ∃ te pe, ev = .iface te pe) :
    Calls Tryd.prog 76 #[.string s, .int .i64 10, .int .i64 0] w fun e w' => ∃ N, e = .returned (.tuple #[.int .u64 18446744073709551615, .iface 143 (.pointer (some ⟨N, 0, none⟩))]) ∧ w.heap.size ≤ N ∧ w'.heap[N]? = some (.cells #[.string ⟨#[80, 97, 114, 115, 101, 85, 105, 110, 116]⟩, .string s, ev] 153 (0, 0)) ∧ Below w.heap.size w w' := Any.strconv_ParseUint_10_at0_range Tryd.laysPu14 s hlim h ev w hv hev
open Go.RowKit in
/-- strconv.ParseUint(s, 10, 64), AT EVERY STRING THAT SPELLS A uint64 ('Lib.parseUintB 64 s.data.toList = .ok u'): u, AND NO ERROR. (LAID: no walk: one application.) -/
theorem Tryd.strconv_ParseUint_10_at64_ok (s : ByteArray) (hmax : s.size ≤ 9223372036854775806) (u : Nat) (h : Lib.parseUintB 64 s.data.toList = .ok u) (w : World) :
    Calls Tryd.prog 76 #[.string s, .int .i64 10, .int .i64 64] w fun e w' => e = .returned (.tuple #[.int .u64 u, .nilIface]) ∧ (w' = w ∨ w' = Lib.bytesWorld w 5 s) := Any.strconv_ParseUint_10_at64_ok Tryd.laysPu14 s hmax u h w
open Go.RowKit in
/-- strconv.ParseUint(s, 10, 64), AT EVERY NUMERAL THAT NO uint64 HOLDS: THE GREATEST uint64, AND AN ERROR THAT IS NOT nil: a *NumError in a new block N: {Func: "ParseUint", Num: s's bytes, Err: what the variable ErrRange holds}. Of what was there nothing has turned. (LAID: no walk: one application.) -/
theorem Tryd.strconv_ParseUint_10_at64_range (s : ByteArray) (hlim : s.size ≤ 281474976710656) (h : Lib.parseUintB 64 s.data.toList = .range) (ev : Value) (w : World) (hv : w.cell? ⟨4, 0, none⟩ = some ev) (hev : ev = .nilIface ∨ ∃ te pe, ev = .iface te pe) :
    Calls Tryd.prog 76 #[.string s, .int .i64 10, .int .i64 64] w fun e w' => ∃ N, e = .returned (.tuple #[.int .u64 18446744073709551615, .iface 143 (.pointer (some ⟨N, 0, none⟩))]) ∧ w.heap.size ≤ N ∧ w'.heap[N]? = some (.cells #[.string ⟨#[80, 97, 114, 115, 101, 85, 105, 110, 116]⟩, .string s, ev] 153 (0, 0)) ∧ Below w.heap.size w w' := Any.strconv_ParseUint_10_at64_range Tryd.laysPu14 s hlim h ev w hv hev
open Go.RowKit in
/-- strconv.ParseUint(s, 10, 32), AT EVERY STRING THAT SPELLS A uint32 ('Lib.parseUintB 32 s.data.toList = .ok u'): u, AND NO ERROR. (LAID: no walk: one application.) -/
theorem Tryd.strconv_ParseUint_10_at32_ok (s : ByteArray) (hmax : s.size ≤ 9223372036854775806) (u : Nat) (h : Lib.parseUintB 32 s.data.toList = .ok u) (w : World) :
    Calls Tryd.prog 76 #[.string s, .int .i64 10, .int .i64 32] w fun e w' => e = .returned (.tuple #[.int .u64 u, .nilIface]) ∧ (w' = w ∨ w' = Lib.bytesWorld w 5 s) := Any.strconv_ParseUint_10_at32_ok Tryd.laysPu14 s hmax u h w
open Go.RowKit in
/-- strconv.ParseUint(s, 10, 32), AT EVERY NUMERAL THAT NO uint32 HOLDS: THE GREATEST uint32, AND AN ERROR THAT IS NOT nil: a *NumError in a new block N: {Func: "ParseUint", Num: s's bytes, Err: what the variable ErrRange holds}. Of what was there nothing has turned. (LAID: no walk: one application.) -/
theorem Tryd.strconv_ParseUint_10_at32_range (s : ByteArray) (hlim : s.size ≤ 281474976710656) (h : Lib.parseUintB 32 s.data.toList = .range) (ev : Value) (w : World) (hv : w.cell? ⟨4, 0, none⟩ = some ev) (hev : ev = .nilIface ∨ ∃ te pe, ev = .iface te pe) :
    Calls Tryd.prog 76 #[.string s, .int .i64 10, .int .i64 32] w fun e w' => ∃ N, e = .returned (.tuple #[.int .u64 4294967295, .iface 143 (.pointer (some ⟨N, 0, none⟩))]) ∧ w.heap.size ≤ N ∧ w'.heap[N]? = some (.cells #[.string ⟨#[80, 97, 114, 115, 101, 85, 105, 110, 116]⟩, .string s, ev] 153 (0, 0)) ∧ Below w.heap.size w w' := Any.strconv_ParseUint_10_at32_range Tryd.laysPu14 s hlim h ev w hv hev
open Go.RowKit in
/-- strconv.ParseUint(s, 10, 16), AT EVERY STRING THAT SPELLS A uint16 ('Lib.parseUintB 16 s.data.toList = .ok u'): u, AND NO ERROR. (LAID: no walk: one application.) -/
theorem Tryd.strconv_ParseUint_10_at16_ok (s : ByteArray) (hmax : s.size ≤ 9223372036854775806) (u : Nat) (h : Lib.parseUintB 16 s.data.toList = .ok u) (w : World) :
    Calls Tryd.prog 76 #[.string s, .int .i64 10, .int .i64 16] w fun e w' => e = .returned (.tuple #[.int .u64 u, .nilIface]) ∧ (w' = w ∨ w' = Lib.bytesWorld w 5 s) := Any.strconv_ParseUint_10_at16_ok Tryd.laysPu14 s hmax u h w
open Go.RowKit in
/-- strconv.ParseUint(s, 10, 16), AT EVERY NUMERAL THAT NO uint16 HOLDS: THE GREATEST uint16, AND AN ERROR THAT IS NOT nil: a *NumError in a new block N: {Func: "ParseUint", Num: s's bytes, Err: what the variable ErrRange holds}. Of what was there nothing has turned. (LAID: no walk: one application.) -/
theorem Tryd.strconv_ParseUint_10_at16_range (s : ByteArray) (hlim : s.size ≤ 281474976710656) (h : Lib.parseUintB 16 s.data.toList = .range) (ev : Value) (w : World) (hv : w.cell? ⟨4, 0, none⟩ = some ev) (hev : ev = .nilIface ∨ ∃ te pe, ev = .iface te pe) :
    Calls Tryd.prog 76 #[.string s, .int .i64 10, .int .i64 16] w fun e w' => ∃ N, e = .returned (.tuple #[.int .u64 65535, .iface 143 (.pointer (some ⟨N, 0, none⟩))]) ∧ w.heap.size ≤ N ∧ w'.heap[N]? = some (.cells #[.string ⟨#[80, 97, 114, 115, 101, 85, 105, 110, 116]⟩, .string s, ev] 153 (0, 0)) ∧ Below w.heap.size w w' := Any.strconv_ParseUint_10_at16_range Tryd.laysPu14 s hlim h ev w hv hev
open Go.RowKit in
/-- strconv.ParseUint(s, 10, 8), AT EVERY STRING THAT SPELLS A uint8 ('Lib.parseUintB 8 s.data.toList = .ok u'): u, AND NO ERROR. (LAID: no walk: one application.) -/
theorem Tryd.strconv_ParseUint_10_at8_ok (s : ByteArray) (hmax : s.size ≤ 9223372036854775806) (u : Nat) (h : Lib.parseUintB 8 s.data.toList = .ok u) (w : World) :
    Calls Tryd.prog 76 #[.string s, .int .i64 10, .int .i64 8] w fun e w' => e = .returned (.tuple #[.int .u64 u, .nilIface]) ∧ (w' = w ∨ w' = Lib.bytesWorld w 5 s) := Any.strconv_ParseUint_10_at8_ok Tryd.laysPu14 s hmax u h w
open Go.RowKit in
/-- strconv.ParseUint(s, 10, 8), AT EVERY NUMERAL THAT NO uint8 HOLDS: THE GREATEST uint8, AND AN ERROR THAT IS NOT nil: a *NumError in a new block N: {Func: "ParseUint", Num: s's bytes, Err: what the variable ErrRange holds}. Of what was there nothing has turned. (LAID: no walk: one application.) -/
theorem Tryd.strconv_ParseUint_10_at8_range (s : ByteArray) (hlim : s.size ≤ 281474976710656) (h : Lib.parseUintB 8 s.data.toList = .range) (ev : Value) (w : World) (hv : w.cell? ⟨4, 0, none⟩ = some ev) (hev : ev = .nilIface ∨ ∃ te pe, ev = .iface te pe) :
    Calls Tryd.prog 76 #[.string s, .int .i64 10, .int .i64 8] w fun e w' => ∃ N, e = .returned (.tuple #[.int .u64 255, .iface 143 (.pointer (some ⟨N, 0, none⟩))]) ∧ w.heap.size ≤ N ∧ w'.heap[N]? = some (.cells #[.string ⟨#[80, 97, 114, 115, 101, 85, 105, 110, 116]⟩, .string s, ev] 153 (0, 0)) ∧ Below w.heap.size w w' := Any.strconv_ParseUint_10_at8_range Tryd.laysPu14 s hlim h ev w hv hev
open Go.RowKit in
theorem Tryd.strconv_ParseUint_10_at0_range_var (s : ByteArray) (hlim : s.size ≤ 281474976710656) (h : Lib.parseUintB 64 s.data.toList = .range) (tp : TypeId) (p : Value) (w : World) (hvar : w.var? Tryd.prog "strconv.ErrRange" = some #[.iface tp p]) :
    Calls Tryd.prog 76 #[.string s, .int .i64 10, .int .i64 0] w fun e w' => ∃ N, e = .returned (.tuple #[.int .u64 18446744073709551615, .iface 143 (.pointer (some ⟨N, 0, none⟩))]) ∧ w.heap.size ≤ N ∧ w'.heap[N]? = some (.cells #[.string ⟨#[80, 97, 114, 115, 101, 85, 105, 110, 116]⟩, .string s, .iface tp p] 153 (0, 0)) ∧ Below w.heap.size w w' := Any.strconv_ParseUint_10_at0_range_var Tryd.laysPu14 s hlim h tp p w hvar
open Go.RowKit in
theorem Tryd.strconv_ParseUint_10_at64_range_var (s : ByteArray) (hlim : s.size ≤ 281474976710656) (h : Lib.parseUintB 64 s.data.toList = .range) (tp : TypeId) (p : Value) (w : World) (hvar : w.var? Tryd.prog "strconv.ErrRange" = some #[.iface tp p]) :
    Calls Tryd.prog 76 #[.string s, .int .i64 10, .int .i64 64] w fun e w' => ∃ N, e = .returned (.tuple #[.int .u64 18446744073709551615, .iface 143 (.pointer (some ⟨N, 0, none⟩))]) ∧ w.heap.size ≤ N ∧ w'.heap[N]? = some (.cells #[.string ⟨#[80, 97, 114, 115, 101, 85, 105, 110, 116]⟩, .string s, .iface tp p] 153 (0, 0)) ∧ Below w.heap.size w w' := Any.strconv_ParseUint_10_at64_range_var Tryd.laysPu14 s hlim h tp p w hvar
open Go.RowKit in
theorem Tryd.strconv_ParseUint_10_at32_range_var (s : ByteArray) (hlim : s.size ≤ 281474976710656) (h : Lib.parseUintB 32 s.data.toList = .range) (tp : TypeId) (p : Value) (w : World) (hvar : w.var? Tryd.prog "strconv.ErrRange" = some #[.iface tp p]) :
    Calls Tryd.prog 76 #[.string s, .int .i64 10, .int .i64 32] w fun e w' => ∃ N, e = .returned (.tuple #[.int .u64 4294967295, .iface 143 (.pointer (some ⟨N, 0, none⟩))]) ∧ w.heap.size ≤ N ∧ w'.heap[N]? = some (.cells #[.string ⟨#[80, 97, 114, 115, 101, 85, 105, 110, 116]⟩, .string s, .iface tp p] 153 (0, 0)) ∧ Below w.heap.size w w' := Any.strconv_ParseUint_10_at32_range_var Tryd.laysPu14 s hlim h tp p w hvar
open Go.RowKit in
theorem Tryd.strconv_ParseUint_10_at16_range_var (s : ByteArray) (hlim : s.size ≤ 281474976710656) (h : Lib.parseUintB 16 s.data.toList = .range) (tp : TypeId) (p : Value) (w : World) (hvar : w.var? Tryd.prog "strconv.ErrRange" = some #[.iface tp p]) :
    Calls Tryd.prog 76 #[.string s, .int .i64 10, .int .i64 16] w fun e w' => ∃ N, e = .returned (.tuple #[.int .u64 65535, .iface 143 (.pointer (some ⟨N, 0, none⟩))]) ∧ w.heap.size ≤ N ∧ w'.heap[N]? = some (.cells #[.string ⟨#[80, 97, 114, 115, 101, 85, 105, 110, 116]⟩, .string s, .iface tp p] 153 (0, 0)) ∧ Below w.heap.size w w' := Any.strconv_ParseUint_10_at16_range_var Tryd.laysPu14 s hlim h tp p w hvar
open Go.RowKit in
theorem Tryd.strconv_ParseUint_10_at8_range_var (s : ByteArray) (hlim : s.size ≤ 281474976710656) (h : Lib.parseUintB 8 s.data.toList = .range) (tp : TypeId) (p : Value) (w : World) (hvar : w.var? Tryd.prog "strconv.ErrRange" = some #[.iface tp p]) :
    Calls Tryd.prog 76 #[.string s, .int .i64 10, .int .i64 8] w fun e w' => ∃ N, e = .returned (.tuple #[.int .u64 255, .iface 143 (.pointer (some ⟨N, 0, none⟩))]) ∧ w.heap.size ≤ N ∧ w'.heap[N]? = some (.cells #[.string ⟨#[80, 97, 114, 115, 101, 85, 105, 110, 116]⟩, .string s, .iface tp p] 153 (0, 0)) ∧ Below w.heap.size w w' := Any.strconv_ParseUint_10_at8_range_var Tryd.laysPu14 s hlim h tp p w hvar
def Tryd.lays206_ren : Go.Shelf.Ren := ⟨fun | 206 => 93 | n => n, fun | 9 => 9 | 4 => 4 | 3 => 3 | n => n, fun | n => n⟩
theorem Tryd.lays206 : Go.Proofs.Lays.n206 Tryd.prog Tryd.lays206_ren := {
  mixed := by kernel_rfl
  f206 := Tryd.func93.trans (congrArg some (by kernel_rfl))
  t3 := Tryd.underlying3
  a3 := Tryd.isAgg3
  z3 := Tryd.sizeOf3
  v3 := Tryd.zeroValue3
  t4 := Tryd.underlying4
  a4 := Tryd.isAgg4
  z4 := Tryd.sizeOf4
  v4 := Tryd.zeroValue4
  t9 := Tryd.underlying9
  a9 := Tryd.isAgg9
  z9 := Tryd.sizeOf9
  v9 := Tryd.zeroValue9 }
open Go.RowKit Go.Lib in
/-- internal/stringslite.HasPrefix (what strings.HasPrefix calls). (LAID: no walk: one application.) -/
theorem Tryd.stringslite_HasPrefix (s p : ByteArray) (w : World) :
    Calls Tryd.prog 93 #[.string s, .string p] w fun e w' => e = .returned (.bool (Lib.hasPrefix s.data.toList p.data.toList)) ∧ w' = w := Any.stringslite_HasPrefix Tryd.lays206 s p w
def Tryd.lays99_ren : Go.Shelf.Ren := ⟨fun | 99 => 89 | 206 => 93 | n => n, fun | 9 => 9 | 4 => 4 | 3 => 3 | n => n, fun | n => n⟩
theorem Tryd.lays99 : Go.Proofs.Lays.n99 Tryd.prog Tryd.lays99_ren := {
  mixed := by kernel_rfl
  f99 := Tryd.func89.trans (congrArg some (by kernel_rfl))
  f206 := Tryd.func93.trans (congrArg some (by kernel_rfl))
  t3 := Tryd.underlying3
  a3 := Tryd.isAgg3
  z3 := Tryd.sizeOf3
  v3 := Tryd.zeroValue3
  t4 := Tryd.underlying4
  a4 := Tryd.isAgg4
  z4 := Tryd.sizeOf4
  v4 := Tryd.zeroValue4
  t9 := Tryd.underlying9
  a9 := Tryd.isAgg9
  z9 := Tryd.sizeOf9
  v9 := Tryd.zeroValue9 }
open Go.RowKit Go.Lib in
/-- strings.HasPrefix: "HasPrefix reports whether the string s begins with prefix.": IT RETURNS 'Lib.hasPrefix s prefix'; the world is as it was. (LAID: no walk: one application.) -/
theorem Tryd.strings_HasPrefix (s p : ByteArray) (w : World) :
    Calls Tryd.prog 89 #[.string s, .string p] w fun e w' => e = .returned (.bool (Lib.hasPrefix s.data.toList p.data.toList)) ∧ w' = w := Any.strings_HasPrefix Tryd.lays99 s p w
def Tryd.lays264_ren : Go.Shelf.Ren := ⟨fun | 264 => 96 | n => n, fun | 53 => 65 | 46 => 86 | n => n, fun | n => n⟩
theorem Tryd.lays264 : Go.Proofs.Lays.n264 Tryd.prog Tryd.lays264_ren := {
  mixed := by kernel_rfl
  f264 := Tryd.func96.trans (congrArg some (by kernel_rfl))
  t46 := Tryd.underlying86
  a46 := Tryd.isAgg86
  z46 := Tryd.sizeOf86
  v46 := Tryd.zeroValue86
  t53 := Tryd.underlying65
  a53 := Tryd.isAgg65
  z53 := Tryd.sizeOf65
  v53 := Tryd.zeroValue65 }
open Go.RowKit Go.Lib in
theorem Tryd.bits_Mul64 (x y : Nat) (hx : x < 18446744073709551616) (hy : y < 18446744073709551616) (w : World) :
    Calls Tryd.prog 96 #[.int .u64 x, .int .u64 y] w fun e w' => e = .returned (.tuple #[.int .u64 ((x * y / 18446744073709551616 : Nat) : Int), .int .u64 ((x * y % 18446744073709551616 : Nat) : Int)]) ∧ w' = w := Any.bits_Mul64 Tryd.lays264 x y hx hy w
def Tryd.lays212_ren : Go.Shelf.Ren := ⟨fun | 212 => 88 | 263 => 105 | 264 => 96 | n => n, fun | 46 => 86 | 51 => 115 | 146 => 139 | 53 => 65 | 148 => 107 | n => n, fun | n => n⟩
theorem Tryd.lays212 : Go.Proofs.Lays.n212 Tryd.prog Tryd.lays212_ren := {
  mixed := by kernel_rfl
  f212 := Tryd.func88.trans (congrArg some (by kernel_rfl))
  f263 := Tryd.func105.trans (congrArg some (by kernel_rfl))
  f264 := Tryd.func96.trans (congrArg some (by kernel_rfl))
  t46 := Tryd.underlying86
  a46 := Tryd.isAgg86
  z46 := Tryd.sizeOf86
  v46 := Tryd.zeroValue86
  t51 := Tryd.underlying115
  a51 := Tryd.isAgg115
  z51 := Tryd.sizeOf115
  v51 := Tryd.zeroValue115
  t53 := Tryd.underlying65
  a53 := Tryd.isAgg65
  z53 := Tryd.sizeOf65
  v53 := Tryd.zeroValue65
  t146 := Tryd.underlying139
  a146 := Tryd.isAgg139
  z146 := Tryd.sizeOf139
  v146 := Tryd.zeroValue139
  t148 := Tryd.underlying107
  a148 := Tryd.isAgg107
  z148 := Tryd.sizeOf107
  v148 := Tryd.zeroValue107 }
open Go.RowKit Go.Lib in
/-- math/bits.Mul: "Mul returns the full-width product of x and y": on a machine of 64 bits: Mul64's. (LAID: no walk: one application.) -/
theorem Tryd.bits_Mul (x y : Nat) (hx : x < 18446744073709551616) (hy : y < 18446744073709551616) (w : World) :
    Calls Tryd.prog 88 #[.int .u64 x, .int .u64 y] w fun e w' => e = .returned (.tuple #[.int .u64 ((x * y / 18446744073709551616 : Nat) : Int), .int .u64 ((x * y % 18446744073709551616 : Nat) : Int)]) ∧ w' = w := Any.bits_Mul Tryd.lays212 x y hx hy w
def Tryd.lays105_ren : Go.Shelf.Ren := ⟨fun | 105 => 65 | 212 => 88 | 99 => 89 | 165 => 90 | 166 => 63 | 170 => 91 | 169 => 66 | 263 => 105 | 264 => 96 | 206 => 93 | 240 => 86 | 241 => 106 | 276 => 100 | 277 => 117 | n => n, fun | 9 => 9 | 3 => 3 | 4 => 4 | 20 => 20 | 0 => 0 | 46 => 86 | 109 => 123 | 5 => 5 | 72 => 97 | 76 => 100 | 51 => 115 | 146 => 139 | 53 => 65 | 148 => 107 | 70 => 94 | 37 => 95 | 75 => 99 | 127 => 127 | 164 => 132 | 80 => 48 | n => n, fun | n => n⟩
theorem Tryd.lays105 : Go.Proofs.Lays.n105 Tryd.prog Tryd.lays105_ren := {
  mixed := by kernel_rfl
  f99 := Tryd.func89.trans (congrArg some (by kernel_rfl))
  f105 := Tryd.func65.trans (congrArg some (by kernel_rfl))
  f165 := Tryd.func90.trans (congrArg some (by kernel_rfl))
  f166 := Tryd.func63.trans (congrArg some (by kernel_rfl))
  f169 := Tryd.func66.trans (congrArg some (by kernel_rfl))
  f170 := Tryd.func91.trans (congrArg some (by kernel_rfl))
  f206 := Tryd.func93.trans (congrArg some (by kernel_rfl))
  f212 := Tryd.func88.trans (congrArg some (by kernel_rfl))
  f240 := Tryd.func86.trans (congrArg some (by kernel_rfl))
  f241 := Tryd.func106.trans (congrArg some (by kernel_rfl))
  f263 := Tryd.func105.trans (congrArg some (by kernel_rfl))
  f264 := Tryd.func96.trans (congrArg some (by kernel_rfl))
  f276 := Tryd.func100.trans (congrArg some (by kernel_rfl))
  f277 := Tryd.func117.trans (congrArg some (by kernel_rfl))
  t0 := Tryd.underlying0
  a0 := Tryd.isAgg0
  z0 := Tryd.sizeOf0
  v0 := Tryd.zeroValue0
  t3 := Tryd.underlying3
  a3 := Tryd.isAgg3
  z3 := Tryd.sizeOf3
  v3 := Tryd.zeroValue3
  t4 := Tryd.underlying4
  a4 := Tryd.isAgg4
  z4 := Tryd.sizeOf4
  v4 := Tryd.zeroValue4
  t5 := Tryd.underlying5
  a5 := Tryd.isAgg5
  z5 := Tryd.sizeOf5
  v5 := Tryd.zeroValue5
  t9 := Tryd.underlying9
  a9 := Tryd.isAgg9
  z9 := Tryd.sizeOf9
  v9 := Tryd.zeroValue9
  t20 := Tryd.underlying20
  a20 := Tryd.isAgg20
  z20 := Tryd.sizeOf20
  v20 := Tryd.zeroValue20
  t37 := Tryd.underlying95
  a37 := Tryd.isAgg95
  z37 := Tryd.sizeOf95
  v37 := Tryd.zeroValue95
  t46 := Tryd.underlying86
  a46 := Tryd.isAgg86
  z46 := Tryd.sizeOf86
  v46 := Tryd.zeroValue86
  t51 := Tryd.underlying115
  a51 := Tryd.isAgg115
  z51 := Tryd.sizeOf115
  v51 := Tryd.zeroValue115
  t53 := Tryd.underlying65
  a53 := Tryd.isAgg65
  z53 := Tryd.sizeOf65
  v53 := Tryd.zeroValue65
  t70 := Tryd.underlying94
  a70 := Tryd.isAgg94
  z70 := Tryd.sizeOf94
  v70 := Tryd.zeroValue94
  t72 := Tryd.underlying97
  a72 := Tryd.isAgg97
  z72 := Tryd.sizeOf97
  v72 := Tryd.zeroValue97
  t75 := Tryd.underlying99
  a75 := Tryd.isAgg99
  z75 := Tryd.sizeOf99
  v75 := Tryd.zeroValue99
  t76 := Tryd.underlying100
  a76 := Tryd.isAgg100
  z76 := Tryd.sizeOf100
  v76 := Tryd.zeroValue100
  t109 := Tryd.underlying123
  a109 := Tryd.isAgg123
  z109 := Tryd.sizeOf123
  v109 := Tryd.zeroValue123
  t127 := Tryd.underlying127
  a127 := Tryd.isAgg127
  z127 := Tryd.sizeOf127
  v127 := Tryd.zeroValue127
  t146 := Tryd.underlying139
  a146 := Tryd.isAgg139
  z146 := Tryd.sizeOf139
  v146 := Tryd.zeroValue139
  t148 := Tryd.underlying107
  a148 := Tryd.isAgg107
  z148 := Tryd.sizeOf107
  v148 := Tryd.zeroValue107
  t164 := Tryd.underlying132
  a164 := Tryd.isAgg132
  z164 := Tryd.sizeOf132
  v164 := Tryd.zeroValue132 }
theorem Tryd.Builder_Extra_105 : Builder.Extra Tryd.prog Tryd.lays105_ren := {
  sizeBuilder := by kernel_rfl
  liesBuilder := by kernel_rfl
  t5 := Tryd.underlying5
  a5 := Tryd.isAgg5
  z5 := Tryd.sizeOf5
  v5 := Tryd.zeroValue5
  infoByte := by kernel_rfl
  cellsByte := by kernel_rfl
  sizeByte := by kernel_rfl
  neB5 := by decide }
open Go.RowKit Go.Lib in
/-- THE MAIN CASE: at least two copies of a string that is not empty. (LAID: no walk: one application.) -/
theorem Tryd.strings_Repeat_main (s : ByteArray) (c : Nat) (w : World) (hc2 : 2 ≤ c) (hc : c ≤ 9223372036854775807) (hlen : s.size * c ≤ 140737488355328) (h0 : 0 < s.size) :
    Calls Tryd.prog 65 #[.string s, .int .i64 c] w fun e w' => e = .returned (.string ⟨(Lib.repeatL s.data.toList c).toArray⟩) ∧ Below w.heap.size w w' := Any.strings_Repeat_main Tryd.lays105 Tryd.Builder_Extra_105 s c w hc2 hc hlen h0
open Go.RowKit Go.Lib in
theorem Tryd.strings_Repeat_zero (s : ByteArray) (w : World) :
    Calls Tryd.prog 65 #[.string s, .int .i64 0] w fun e w' => e = .returned (.string ⟨#[]⟩) ∧ w' = w := Any.strings_Repeat_zero Tryd.lays105 s w
open Go.RowKit Go.Lib in
theorem Tryd.strings_Repeat_one (s : ByteArray) (w : World) :
    Calls Tryd.prog 65 #[.string s, .int .i64 1] w fun e w' => e = .returned (.string s) ∧ w' = w := Any.strings_Repeat_one Tryd.lays105 s w
open Go.RowKit Go.Lib in
/-- Copies of the empty string. (LAID: no walk: one application.) -/
theorem Tryd.strings_Repeat_empty (s : ByteArray) (c : Nat) (w : World) (hc2 : 2 ≤ c) (hc : c ≤ 9223372036854775807) (h0 : s.size = 0) :
    Calls Tryd.prog 65 #[.string s, .int .i64 c] w fun e w' => e = .returned (.string ⟨#[]⟩) ∧ w' = w := Any.strings_Repeat_empty Tryd.lays105 s c w hc2 hc h0
open Go.RowKit Go.Lib in
/-- count < 0: "It panics if count is negative". (LAID: no walk: one application.) -/
theorem Tryd.strings_Repeat_negative (s : ByteArray) (c : Int) (w : World) (hc : c < 0) :
    Calls Tryd.prog 65 #[.string s, .int .i64 c] w fun e w' => e = .panicked [{ v := repeatPanic Tryd.lays105_ren "strings: negative Repeat count", recovered := false }] ∧ w' = w := Any.strings_Repeat_negative Tryd.lays105 s c w hc
open Go.RowKit Go.Lib in
/-- len(s) * count is no int: ".. or if the result of (len(s) * count) overflows". (LAID: no walk: one application.) -/
theorem Tryd.strings_Repeat_overflow (s : ByteArray) (c : Nat) (w : World) (hc : c ≤ 9223372036854775807) (hs : s.size ≤ 9223372036854775807) (hbig : 9223372036854775807 < s.size * c) :
    Calls Tryd.prog 65 #[.string s, .int .i64 c] w fun e w' => e = .panicked [{ v := repeatPanic Tryd.lays105_ren "strings: Repeat output length overflow", recovered := false }] ∧ w' = w := Any.strings_Repeat_overflow Tryd.lays105 s c w hc hs hbig
open Go.RowKit Go.Lib in
/-- **strings.Repeat: count ≥ 0, the result within one allocation: count copies of s.** (LAID: no walk: one application.) -/
theorem Tryd.strings_Repeat (s : ByteArray) (c : Nat) (w : World) (hc : c ≤ 9223372036854775807) (hlen : s.size * c ≤ 140737488355328) :
    Calls Tryd.prog 65 #[.string s, .int .i64 c] w fun e w' => e = .returned (.string ⟨(Lib.repeatL s.data.toList c).toArray⟩) ∧ Below w.heap.size w w' := Any.strings_Repeat Tryd.lays105 Tryd.Builder_Extra_105 s c w hc hlen
def Tryd.laysSlE041_f52_ren : Go.Shelf.Ren := ⟨fun | 41 => 52 | n => n, fun | 22 => 22 | 23 => 65 | 4 => 4 | n => n, fun | n => n⟩
theorem Tryd.laysSlE041_f52 : Go.Proofs.SlLaysE0.n41 Tryd.prog Tryd.laysSlE041_f52_ren := {
  mixed := by kernel_rfl
  f41 := ⟨Tryd.f52.name, by decide, Tryd.func52.trans (congrArg some (by kernel_rfl))⟩
  t4 := Tryd.underlying4
  a4 := Tryd.isAgg4
  z4 := Tryd.sizeOf4
  v4 := Tryd.zeroValue4
  t22 := Tryd.underlying22
  a22 := Tryd.isAgg22
  z22 := Tryd.sizeOf22
  v22 := Tryd.zeroValue22 }
open Go.RowKit Go.Lib in
/-- slices.Clone: "Clone returns a copy of the slice. The elements are copied using assignment, so this is a shallow clone. The result may have additional unused capacity. The result preserves the nilness of s.": OF A SLICE THAT IS NOT nil IT RETURNS A SLICE THAT IS NOT nil, OF THE SAME CELLS, IN MEMORY OF THE CALL's OWN ('ownsRow': the how-to's 6f); below the heap's size at the call all is as it was. (LAID AT THE INSTANCE 'slices.Clone[[]uint64,uint64]': no walk: one application.) -/
theorem Tryd.slices_Clone (i0 : TypeInfo) (z : Value) (size bytes : Nat) (hi : Tryd.prog.info? 65 = some i0) (hz0 : i0.zero = some z) (hz1 : i0.size = size) (hz2 : i0.bytes = bytes) (hzs : z.cells.size = size) (hsz : 0 < size) (z23 : ∀ w, (Go.sizeOf 65).run Tryd.prog w = .ok size w) (b off n c : Nat) (news : List Value) (w : World) (hl : news.length = n * size) (hn : n ≤ maxLen) (hbig : n * bytes ≤ 140737488355328) (hc : ∀ j u, news[j]? = some u → w.cell? ⟨b, off + j, none⟩ = some u) (h1 : ∀ u ∈ news, u.oneCell' = true) :
    Calls Tryd.prog 52 #[.slice (some ⟨b, off, none⟩) n c] w fun e w' => ∃ v', e = .returned v' ∧ w'.ownsRow w.heap.size 65 size v' n news ∧ v' ≠ .slice none 0 0 ∧ Below w.heap.size w w' := AnyE.slices_Clone Tryd.laysSlE041_f52 i0 z size bytes hi hz0 hz1 hz2 hzs hsz z23 b off n c news w hl hn hbig hc h1
open Go.RowKit Go.Lib in
/-- The same at nil: nil comes back; the world is as it was; nothing is asked of the element's type. (LAID AT THE INSTANCE 'slices.Clone[[]uint64,uint64]': no walk: one application.) -/
theorem Tryd.slices_Clone_nil (n c : Nat) (w : World) :
    Calls Tryd.prog 52 #[.slice none n c] w fun e w' => e = .returned (.slice none 0 0) ∧ w' = w := AnyE.slices_Clone_nil Tryd.laysSlE041_f52 n c w
end Go.Proofs

/- strconv.FormatUint at base 10: every word's decimal digits. -/
namespace Go.Proofs.YtoklmfmoblkfcaaDoor
open Go.RowKit Go.Proofs.Tm Go.Sort Go.Lib
set_option linter.unusedVariables false
set_option maxRecDepth 20000

/-- The library's table of powers of ten lies where it was laid. -/
def Tab (w : World) : Prop := Lib.TabIs Tryd.prog w "internal/strconv.uint64pow10" .u64 Lib.pow10Tab
theorem Tab.upd0 {w w' : World} (h : Tab w) (u : Upd [] w w') : Tab w' := Lib.TabBelow.here (fun w2 h2 => (Lib.tabBelow_of_tabIs h) w2 (u.below.trans h2))

set_option maxRecDepth 100000 in
set_option maxHeartbeats 3200000 in
theorem fmtIn_any (u : Nat) (hu64 : u < 18446744073709551616) (w : World) (ht : Tab w) :
    Calls Tryd.prog 87 #[.int .u64 (u : Int), .int .i64 10] w fun e w' => e = .returned (.string ⟨(Lib.decDigits u).toArray⟩) ∧ Upd [] w w' := by
  by_cases hs : u < 100
  · have hc : IntKind.i64.wrap (u : Int) = (u : Int) := by rw [IntKind.wrap_i64]; omega
    go_enter Tryd.func87, Tryd.ntmps87
    go_wp2_with (go_at_call 101; refine (Tryd.internal_strconv_small u hs _).mono ?_; rintro e w' ⟨rfl, rfl⟩)
    go_ret
    exact ⟨rfl, Upd.refl _ _⟩
  · have hu1 : 1 ≤ u := by omega
    have hnd20 : Lib.nDigits u ≤ 20 := by have := Lib.numDigits_eq u hu1 hu64; split at this <;> omega
    have hal : Tryd.prog.arrayLen 135 = 24 := by simp [Program.arrayLen, Tryd.underlying135]
    have hsl1 : ∀ W, (Instr.sliceAt 135 (.pointer (some ⟨w.heap.size, 0, none⟩)) none (some (.int .i64 (Lib.nDigits u : Int))) none).run Tryd.prog W = .ok (.slice (some ⟨w.heap.size, 0, none⟩) (Lib.nDigits u) 24) W := fun W => by
      rw [run_sliceAt_array_h W 135 ⟨w.heap.size, 0, none⟩ (by simp [Program.arrayLen, Program.elem, Tryd.underlying135]) .i64 (Lib.nDigits u : Int) (by omega) (by rw [hal]; omega)]
      go_simp
      try omega
    have hH0 := Lib.holds_zero0 w 135 (Lib.nDigits u) (by omega)
    have hfmt := Tryd.internal_strconv_formatBase10 w.heap.size 0 24 u (Array.replicate (Lib.nDigits u) 0) (w.alloc (.cells Lib.zeros24 135)) hH0 (by rw [Array.size_replicate]; exact Lib.lt_pow_nDigits u) hu64 (by rw [Array.size_replicate]; omega)
    rw [Array.size_replicate] at hfmt
    have HH0 := Lib.hid hH0
    clear hH0 hal
    go_enter Tryd.func87, Tryd.ntmps87
    go_wp2_with (first
      | (go_at_call 102; refine (Tryd.internal_strconv_numDigits u hu1 hu64 _ (Lib.tabIs_alloc ht _)).mono ?_; rintro e w' ⟨rfl, rfl⟩))
    go_at_call 103
    refine hfmt.mono ?_
    rintro e w' ⟨rfl, k, v', dk, rfl, hF⟩
    have hcv : (convert 95 9 (.slice (some ⟨w.heap.size, 0, none⟩) (Lib.nDigits u) 24)).run Tryd.prog ((putRow (fun (b : UInt8) => Value.int .u8 (b.toNat : Int)) (w.alloc (.cells Lib.zeros24 135)) w.heap.size 0 dk).drewN k) = .ok (.string ⟨(Lib.decDigits u).toArray⟩) ((putRow (fun (b : UInt8) => Value.int .u8 (b.toNat : Int)) (w.alloc (.cells Lib.zeros24 135)) w.heap.size 0 dk).drewN k) := by
      have h := run_convert_bytes_back (P := Tryd.prog) ((putRow (fun (b : UInt8) => Value.int .u8 (b.toNat : Int)) (w.alloc (.cells Lib.zeros24 135)) w.heap.size 0 dk).drewN k) 95 9 5 ⟨w.heap.size, 0, none⟩ 24 (Lib.decDigits u) Tryd.underlying95 Tryd.underlying5 Tryd.underlying9 (fun j hj => by
        rw [Lib.row_is_numeral hF j hj, Lib.add_plain, World.cell?_drewN]
        exact cell?_putRow (fun (b : UInt8) => Value.int .u8 (b.toNat : Int)) _ w.heap.size 0 _ dk HH0.out (by rw [hF.size, Array.size_replicate]) j (by rw [hF.size]; rw [Lib.decDigits_length] at hj; exact hj))
      rw [Lib.decDigits_length] at h
      exact h
    go_wp2
    go_ret
    obtain ⟨os, eo⟩ := Lib.fin_at w (.cells Lib.zeros24 135) dk k 0
    refine ⟨rfl, ?_⟩
    rw [eo]
    exact Upd.of_below (Lib.below_grow _ _ (Nat.le_refl _) k os)

set_option maxRecDepth 100000 in
theorem fmt_any (u : Nat) (hu64 : u < 18446744073709551616) (w : World) (ht : Tab w) :
    Calls Tryd.prog 64 #[.int .u64 (u : Int), .int .i64 10] w fun e w' => e = .returned (.string ⟨(Lib.decDigits u).toArray⟩) ∧ Upd [] w w' := by
  go_enter Tryd.func64, Tryd.ntmps64
  go_wp2_with (go_at_call 87; refine (fmtIn_any u hu64 _ ht).mono ?_; rintro e w' ⟨rfl, hu⟩)
  go_ret
  exact ⟨rfl, hu⟩

#print axioms fmt_any
end Go.Proofs.YtoklmfmoblkfcaaDoor

/- What is laid: the library's table of powers of ten, and a start that meets the condition. -/
namespace Go.Proofs.YtoklmfmoblkfcaaDoor
open Go.RowKit Go.Proofs.Tm
set_option linter.unusedVariables false
set_option maxRecDepth 100000

def laid3 : List (String × DataW Unit) := [("math/bits.deBruijn32tab", Rows.laid_math_bits_deBruijn32tab), ("math/bits.deBruijn64tab", Rows.laid_math_bits_deBruijn64tab), ("internal/strconv.uint64pow10", Rows.laid_internal_strconv_uint64pow10)]

theorem gPow : Tryd.prog.globalNamed "internal/strconv.uint64pow10" = some 2 := by kernel_rfl
theorem tPow : (Tryd.prog.globals[2]?).map (·.type) = some 147 := by kernel_rfl

theorem tab_of_laid {W : World} (h : laidMetH Tryd.prog laid3 W) : Tab W := by
  rw [MakeChecks.laidMetH_plain _ _ _ (by kernel_rfl)] at h
  obtain ⟨ps, ⟨g0, t0, cs0, f0, p0, q0, _, _, _, _, ⟨g1, t1, cs1, f1, p1, q1, _, _, _, _, ⟨g2, t2, cs2, f2, p2, q2, hg2, ht2, hv2, hd2, _, _⟩, _⟩, _⟩, _, _⟩ := h
  obtain rfl := Option.some.inj (gPow.symm.trans hg2)
  obtain rfl := Option.some.inj (tPow.symm.trans ht2)
  have hd3 : DataW.trod (fun _ => ()) Tryd.prog W 0 (fun _ => true) false f2 147 cs2.toList = some (Lib.tabData .u64 Lib.pow10Tab, p2) := hd2
  show World.var? _ _ _ = _
  rw [hv2, ← Lib.cells_of_tab Tryd.underlying147 Tryd.underlying65 (by kernel_rfl) (by kernel_rfl) hd3]

/-- Words that come in. -/
theorem u64_nats (ys : List Int) (h : ∀ n ∈ ys, (Lit.int .u64 n).wf = true) : ∃ bs : List Nat, ys.map (Value.int .u64) = cu64 bs ∧ bs.length = ys.length ∧ ∀ b ∈ bs, b < 18446744073709551616 := by
  refine ⟨ys.map Int.toNat, ?_, by simp, ?_⟩
  · unfold cu64
    rw [List.map_map]
    refine List.map_congr_left fun n hn => ?_
    have := bounds_u64 (h n hn)
    simp only [Function.comp]
    congr 1
    omega
  · intro b hb
    obtain ⟨n, hn, rfl⟩ := List.mem_map.1 hb
    have := bounds_u64 (h n hn)
    omega

/-- The door's own heap meets the condition. -/
theorem door_met (os : Os) (args : Array Value) : laidMetH Tryd.prog laid3 ((World.doorLaid Tryd.prog 400 os).forCall (fun _ _ => 0) ⟨#[], args, []⟩).memory :=
  laidMetH_of_parts3 (fuel := 8) (laidMet_of_run' 8 (by kernel_rfl) (by kernel_rfl)) (by kernel_rfl) (by kernel_rfl)
end Go.Proofs.YtoklmfmoblkfcaaDoor

/- Arguments that came in: arrays of ints by value. -/
namespace Go.Proofs.Tm
open Go.RowKit Go.WideShapes
set_option linter.unusedVariables false
set_option maxRecDepth 20000

theorem okWide_arr {P : Program} {w : World} {r : Reach} {b0 : Nat} {t e : TypeId} {n : Nat} {v : Value} (ht : P.underlying t = some (.array n e)) (h : Value.okWide P w r b0 t v) : ∃ cs, v = .agg cs ∧ cs.size = P.cellsOf t := by
  simp only [Value.okWide, ht] at h
  obtain ⟨cs, h1, h2, _⟩ := h
  exact ⟨cs, h1, h2⟩

/-- An array of ints by value, as a list. -/
theorem open_int_array {H : Type} {enc : TypeId × Value → H} {P : Program} {w : World} {base : Nat} {spare : Nat → Bool} {held : Bool} {r : Reach} {b0 : Nat} {t e : TypeId} {n : Nat} {k : IntKind} {v : Value} {d : DataW H} {p : List MemPlace}
    (ht : P.underlying t = some (.array n e)) (he : P.underlying e = some (.int k)) (hce : P.cellsOf e = 1) (hct : P.cellsOf t = n)
    (hv : Value.okWide P w r b0 t v) (h : DataW.Trod enc P w base spare held t v d p) :
    ∃ zs : List Int, v = .agg (zs.map (Value.int k)).toArray ∧ zs.length = n ∧ ∀ z ∈ zs, (Lit.int k z).wf = true := by
  obtain ⟨cs, rfl, hsz⟩ := okWide_arr ht hv
  obtain ⟨fuel, hf⟩ := h
  obtain ⟨xs, m, _, _, hl, hxl, hel⟩ := DataW.trod_array ht hf
  rw [hct] at hsz
  have hc : ∀ i (hi : i < n), ∃ z : Int, cs[i]'(by omega) = .int k z ∧ (Lit.int k z).wf = true := by
    intro i hi
    have h1 := hel i hi
    rw [List.getElem?_eq_getElem (by omega), hce, Nat.mul_one] at h1
    have e1 : ((Value.agg cs).cells.toList.drop i).take 1 = [cs[i]'(by omega)] := by
      simp only [Value.cells]
      rw [List.drop_eq_getElem_cons (by simpa using by omega)]
      simp
    rw [e1] at h1
    obtain ⟨z, ez, _, wz⟩ := DataW.trod_int he h1
    simp only [List.cons.injEq, and_true] at ez
    exact ⟨z, ez, wz⟩
  refine ⟨(List.range n).map fun i => intOf (cs.getD i undef), ?_, by simp, ?_⟩
  · congr 1
    apply Array.ext
    · simp [hsz]
    · intro i h1 h2
      obtain ⟨z, ez, _⟩ := hc i (by omega)
      simp [ez, h1, intOf]
  · intro z hz
    obtain ⟨i, hi, rfl⟩ := List.mem_map.1 hz
    have hi' : i < n := List.mem_range.1 hi
    obtain ⟨z, ez, wz⟩ := hc i hi'
    simpa [ez, show i < cs.size by omega, intOf] using wz
end Go.Proofs.Tm

/- Arguments that came in: slices of bools, as lists. -/
namespace Go.Proofs.Tm
open Go.RowKit
set_option linter.unusedVariables false
set_option maxRecDepth 20000

theorem sl_bools_nil {w : World} : ∃ zs : List Bool, zs.length = 0 ∧ 0 ≤ maxLen ∧ Sl w (.slice none 0 0) (zs.map Value.bool) :=
  ⟨[], rfl, Nat.zero_le _, Sl.nil w⟩

theorem sl_of_bools {w : World} {x : Addr} {len cap : Nat} (hl : len ≤ cap) (hm : cap ≤ maxLen) (B : Nat → Bool) (h : ∀ i, i < cap → w.cell? (x.add i) = some (.bool (B i))) :
    ∃ zs : List Bool, zs.length = len ∧ len ≤ maxLen ∧ Sl w (.slice (some x) len cap) (zs.map Value.bool) := by
  refine ⟨(List.range len).map B, by simp, by omega, some x, cap, by simp, by simpa using hl, hm, fun hne => ?_⟩
  have hpos : 0 < len := by
    rcases Nat.eq_zero_or_pos len with h0 | h0
    · subst h0; simp at hne
    · exact h0
  obtain ⟨b, off, spot⟩ := x
  have hc0 := h 0 (by omega)
  have hspot : spot = none := by simpa [Addr.add] using World.cell?_spot hc0
  subst hspot
  refine ⟨b, off, rfl, fun i hi => ?_⟩
  simp only [List.length_map, List.length_range] at hi
  have hadd : (⟨b, off, none⟩ : Addr).add i = ⟨b, off + i, none⟩ := by unfold Addr.add; split <;> simp_all
  rw [← hadd, h i (by omega)]
  simp [hi]
end Go.Proofs.Tm

/- Arguments that came in: a struct by value of two ints, a slice, an array of two ints. -/
namespace Go.Proofs.Tm
open Go.RowKit Go.WideShapes
set_option linter.unusedVariables false
set_option maxRecDepth 20000

theorem array5 {α : Type} {cs : Array α} (h : cs.size = 5) : ∃ c0 c1 c2 c3 c4, cs = #[c0, c1, c2, c3, c4] := by
  obtain ⟨l⟩ := cs
  match l, h with
  | [c0, c1, c2, c3, c4], _ => exact ⟨c0, c1, c2, c3, c4, rfl⟩

theorem open_frame {H : Type} {enc : TypeId × Value → H} {P : Program} {w : World} {base : Nat} {spare : Nat → Bool} {held : Bool} {r : Reach} {b0 : Nat} {t e : TypeId} {f0 f1 f2 f3 : Field} {v : Value} {d : DataW H} {p : List MemPlace}
    (hs : P.underlying t = some (.struct #[f0, f1, f2, f3])) (o0 : f0.offset = 0) (o1 : f1.offset = 1) (o2 : f2.offset = 2) (o3 : f3.offset = 3)
    (u0 : P.underlying f0.type = some (.int .i64)) (u1 : P.underlying f1.type = some (.int .i64)) (u3 : P.underlying f3.type = some (.array 2 e)) (ue : P.underlying e = some (.int .i64))
    (c0 : P.cellsOf f0.type = 1) (c1 : P.cellsOf f1.type = 1) (c2 : P.cellsOf f2.type = 1) (c3 : P.cellsOf f3.type = 2) (ce : P.cellsOf e = 1) (hC : P.cellsOf t = 5)
    (hv : Value.okWide P w r b0 t v) (h : DataW.Trod enc P w base spare held t v d p) :
    ∃ a b sl z0 z1, v = .agg #[.int .i64 a, .int .i64 b, sl, .int .i64 z0, .int .i64 z1] ∧ ∃ (fuel : Nat) (y : DataW H × List MemPlace), DataW.trod enc P w base spare held fuel f2.type [sl] = some y := by
  obtain ⟨cs, rfl, hsz⟩ := okWide_struct hs hv
  obtain ⟨x0, x1, x2, x3, x4, rfl⟩ := array5 (hsz.trans hC)
  obtain ⟨fuel, hf⟩ := h
  obtain ⟨xs, m, _, _, _, hl, hfl⟩ := DataW.trod_struct hs hf
  have hl4 : xs.length = 4 := hl
  have g0 : DataW.trod enc P w base spare held m f0.type [x0] = xs[0]? := by simpa [Value.cells, o0, c0] using hfl 0 f0 rfl
  have g1 : DataW.trod enc P w base spare held m f1.type [x1] = xs[1]? := by simpa [Value.cells, o1, c1] using hfl 1 f1 rfl
  have g2 : DataW.trod enc P w base spare held m f2.type [x2] = xs[2]? := by simpa [Value.cells, o2, c2] using hfl 2 f2 rfl
  have g3 : DataW.trod enc P w base spare held m f3.type [x3, x4] = xs[3]? := by simpa [Value.cells, o3, c3] using hfl 3 f3 rfl
  rw [List.getElem?_eq_getElem (by omega)] at g0 g1 g2 g3
  obtain ⟨a, ea, _, _⟩ := DataW.trod_int u0 g0
  obtain ⟨b, eb, _, _⟩ := DataW.trod_int u1 g1
  obtain ⟨ys, m', _, _, _, hyl, hel⟩ := DataW.trod_array u3 g3
  have k0 : DataW.trod enc P w base spare held m' e [x3] = ys[0]? := by simpa [ce] using hel 0 (by decide)
  have k1 : DataW.trod enc P w base spare held m' e [x4] = ys[1]? := by simpa [ce] using hel 1 (by decide)
  rw [List.getElem?_eq_getElem (by omega)] at k0 k1
  obtain ⟨z0, ez0, _, _⟩ := DataW.trod_int ue k0
  obtain ⟨z1, ez1, _, _⟩ := DataW.trod_int ue k1
  simp only [List.cons.injEq, and_true] at ea eb ez0 ez1
  subst ea eb ez0 ez1
  exact ⟨a, b, x2, z0, z1, rfl, m, _, g2⟩
end Go.Proofs.Tm

/- How structs of two slices and a sign, of a slice and a sign, come in by value. Imports nothing of the program. -/
namespace Go.Proofs.Tm
open Go.RowKit Go.WideShapes
set_option linter.unusedVariables false

theorem array3 {α : Type} {a : Array α} (h : a.size = 3) : ∃ x y z, a = #[x, y, z] := by
  obtain ⟨l⟩ := a
  match l, h with
  | [x, y, z], _ => exact ⟨x, y, z, rfl⟩
theorem array2 {α : Type} {a : Array α} (h : a.size = 2) : ∃ x y, a = #[x, y] := by
  obtain ⟨l⟩ := a
  match l, h with
  | [x, y], _ => exact ⟨x, y, rfl⟩
theorem open_draw3 {H : Type} {enc : TypeId × Value → H} {P : Program} {w : World} {base : Nat} {spare : Nat → Bool} {held : Bool} {r : Reach} {b0 : Nat} {t : TypeId} {f0 f1 f2 : Field} {v : Value} {d : DataW H} {p : List MemPlace}
    (hs : P.underlying t = some (.struct #[f0, f1, f2])) (o0 : f0.offset = 0) (o1 : f1.offset = 1) (o2 : f2.offset = 2)
    (u2 : P.underlying f2.type = some .bool)
    (c0 : P.cellsOf f0.type = 1) (c1 : P.cellsOf f1.type = 1) (c2 : P.cellsOf f2.type = 1) (hC : P.cellsOf t = 3)
    (hv : Value.okWide P w r b0 t v) (h : DataW.Trod enc P w base spare held t v d p) :
    ∃ s0 s1 b, v = .agg #[s0, s1, .bool b] ∧ (∃ (fuel : Nat) (y : DataW H × List MemPlace), DataW.trod enc P w base spare held fuel f0.type [s0] = some y) ∧ (∃ (fuel : Nat) (y : DataW H × List MemPlace), DataW.trod enc P w base spare held fuel f1.type [s1] = some y) := by
  obtain ⟨cs, rfl, hsz⟩ := okWide_struct hs hv
  obtain ⟨x0, x1, x2, rfl⟩ := array3 (hsz.trans hC)
  obtain ⟨fuel, hf⟩ := h
  obtain ⟨xs, m, _, _, _, hl, hfl⟩ := DataW.trod_struct hs hf
  have hl3 : xs.length = 3 := hl
  have g0 : DataW.trod enc P w base spare held m f0.type [x0] = xs[0]? := by simpa [Value.cells, o0, c0] using hfl 0 f0 rfl
  have g1 : DataW.trod enc P w base spare held m f1.type [x1] = xs[1]? := by simpa [Value.cells, o1, c1] using hfl 1 f1 rfl
  have g2 : DataW.trod enc P w base spare held m f2.type [x2] = xs[2]? := by simpa [Value.cells, o2, c2] using hfl 2 f2 rfl
  rw [List.getElem?_eq_getElem (by omega)] at g0 g1 g2
  obtain ⟨b, eb, _⟩ := DataW.trod_bool u2 g2
  simp only [List.cons.injEq, and_true] at eb
  subst eb
  exact ⟨x0, x1, b, rfl, ⟨m, _, g0⟩, ⟨m, _, g1⟩⟩
theorem open_draw2 {H : Type} {enc : TypeId × Value → H} {P : Program} {w : World} {base : Nat} {spare : Nat → Bool} {held : Bool} {r : Reach} {b0 : Nat} {t : TypeId} {f0 f1 : Field} {v : Value} {d : DataW H} {p : List MemPlace}
    (hs : P.underlying t = some (.struct #[f0, f1])) (o0 : f0.offset = 0) (o1 : f1.offset = 1)
    (u1 : P.underlying f1.type = some .bool)
    (c0 : P.cellsOf f0.type = 1) (c1 : P.cellsOf f1.type = 1) (hC : P.cellsOf t = 2)
    (hv : Value.okWide P w r b0 t v) (h : DataW.Trod enc P w base spare held t v d p) :
    ∃ s0 b, v = .agg #[s0, .bool b] ∧ (∃ (fuel : Nat) (y : DataW H × List MemPlace), DataW.trod enc P w base spare held fuel f0.type [s0] = some y) := by
  obtain ⟨cs, rfl, hsz⟩ := okWide_struct hs hv
  obtain ⟨x0, x1, rfl⟩ := array2 (hsz.trans hC)
  obtain ⟨fuel, hf⟩ := h
  obtain ⟨xs, m, _, _, _, hl, hfl⟩ := DataW.trod_struct hs hf
  have hl3 : xs.length = 2 := hl
  have g0 : DataW.trod enc P w base spare held m f0.type [x0] = xs[0]? := by simpa [Value.cells, o0, c0] using hfl 0 f0 rfl
  have g1 : DataW.trod enc P w base spare held m f1.type [x1] = xs[1]? := by simpa [Value.cells, o1, c1] using hfl 1 f1 rfl
  rw [List.getElem?_eq_getElem (by omega)] at g0 g1
  obtain ⟨b, eb, _⟩ := DataW.trod_bool u1 g1
  simp only [List.cons.injEq, and_true] at eb
  subst eb
  exact ⟨x0, b, rfl, ⟨m, _, g0⟩⟩
end Go.Proofs.Tm

/- Blocks of a call's own that hold some cells. -/
namespace Go.Proofs.Tm
open Go.RowKit
set_option linter.unusedVariables false
set_option maxRecDepth 20000

/-- Block k holds just these cells. -/
def Row (W : World) (k : Nat) (cs : Array Value) (t : TypeId) : Prop := W.heap[k]? = some (.cells cs t (0, 0))
theorem Row.new (w : World) (cs : Array Value) (t : TypeId) : Row (w.alloc (.cells cs t)) w.heap.size cs t := heap_alloc_new w _
theorem Row.lt {W : World} {k : Nat} {cs : Array Value} {t : TypeId} (h : Row W k cs t) : k < W.heap.size := lt_of_block h
theorem Row.upd {S : List Nat} {w W : World} {k : Nat} {cs : Array Value} {t : TypeId} (h : Row w k cs t) (u : Upd S w W) (hk : k ∉ S) : Row W k cs t :=
  (u.block k h.lt hk).trans h
theorem Row.upd0 {w W : World} {k : Nat} {cs : Array Value} {t : TypeId} (h : Row w k cs t) (u : Upd [] w W) : Row W k cs t := h.upd u (by simp)
theorem Row.drew {w : World} {k : Nat} {cs : Array Value} {t : TypeId} (h : Row w k cs t) : Row w.drew k cs t := h
theorem Row.cell {W : World} {k : Nat} {cs : Array Value} {t : TypeId} (h : Row W k cs t) (i : Nat) : W.cell? ⟨k, i, none⟩ = cs[i]? := cell_of_row W k i cs t _ h
theorem Row.frozen {W : World} {k : Nat} {cs : Array Value} {t : TypeId} (h : Row W k cs t) (i : Nat) : W.frozen? ⟨k, i, none⟩ = false := frozen_of_row W k i cs t h
theorem Row.set {W : World} {k : Nat} {cs : Array Value} {t : TypeId} (h : Row W k cs t) (i : Nat) (v : Value) : Row (W.setCell ⟨k, i, none⟩ v) k (cs.setIfInBounds i v) t := heap_setCell_same W k i cs t v h
theorem Row.other {W : World} {k : Nat} {cs : Array Value} {t : TypeId} (h : Row W k cs t) (p : Addr) (v : Value) (hp : p.block ≠ k) : Row (W.setCell p v) k cs t :=
  (Below.heap_setCell _ _ _ _ (fun e => hp e.symm)).trans h
/-- A block just laid, behind what turned nothing. -/
theorem Row.of {w W : World} {cs : Array Value} {t : TypeId} (u : Upd [] (w.alloc (.cells cs t)) W) : Row W w.heap.size cs t := (Row.new w cs t).upd0 u
theorem Row.of1 {w W : World} {cs : Array Value} {t : TypeId} {o : Obj} (u : Upd [] ((w.alloc (.cells cs t)).alloc o) W) : Row W w.heap.size cs t :=
  Row.of (((Upd.refl _ _).alloc o).trans0 u)
theorem Row.of2 {w W : World} {cs : Array Value} {t : TypeId} {o o' : Obj} (u : Upd [] (((w.alloc (.cells cs t)).alloc o).alloc o') W) : Row W w.heap.size cs t :=
  Row.of ((((Upd.refl _ _).alloc o).alloc o').trans0 u)
theorem Row.of3 {w W : World} {cs : Array Value} {t : TypeId} {o o' o'' : Obj} (u : Upd [] ((((w.alloc (.cells cs t)).alloc o).alloc o').alloc o'') W) : Row W w.heap.size cs t :=
  Row.of (((((Upd.refl _ _).alloc o).alloc o').alloc o'').trans0 u)
theorem Upd.al {w W : World} {o : Obj} (u : Upd [] (w.alloc o) W) : Upd [] w W := ((Upd.refl _ _).alloc o).trans0 u

/-- Blocks laid at a call's head. -/
theorem rows1 (w : World) (cs : Array Value) (t : TypeId) (W : World) (h : W = w.alloc (.cells cs t)) (S : Nat) (hS : S = w.heap.size) :
    Upd [] w W ∧ Row W S cs t ∧ W.heap.size = S + 1 := by
  subst h hS
  exact ⟨(Upd.refl _ _).alloc _, Row.new _ _ _, by simp⟩
theorem rows2 (w : World) (c0 c1 : Array Value) (t0 t1 : TypeId) (W : World) (h : W = (w.alloc (.cells c0 t0)).alloc (.cells c1 t1)) (S : Nat) (hS : S = w.heap.size) :
    Upd [] w W ∧ Row W S c0 t0 ∧ Row W (S + 1) c1 t1 ∧ W.heap.size = S + 1 + 1 := by
  subst h hS
  refine ⟨((Upd.refl _ _).alloc _).alloc _, Row.of ((Upd.refl _ _).alloc _), ?_, by simp⟩
  have := Row.new (w.alloc (.cells c0 t0)) c1 t1
  simpa using this
theorem rows3 (w : World) (c0 c1 c2 : Array Value) (t0 t1 t2 : TypeId) (W : World) (h : W = ((w.alloc (.cells c0 t0)).alloc (.cells c1 t1)).alloc (.cells c2 t2)) (S : Nat) (hS : S = w.heap.size) :
    Upd [] w W ∧ Row W S c0 t0 ∧ Row W (S + 1) c1 t1 ∧ Row W (S + 1 + 1) c2 t2 ∧ W.heap.size = S + 1 + 1 + 1 := by
  obtain ⟨u, r0, r1, hz⟩ := rows2 w c0 c1 t0 t1 _ rfl S hS
  subst h
  refine ⟨u.alloc _, r0.upd0 ((Upd.refl _ _).alloc _), r1.upd0 ((Upd.refl _ _).alloc _), ?_, by simp [hS]⟩
  have := Row.new ((w.alloc (.cells c0 t0)).alloc (.cells c1 t1)) c2 t2
  rw [hz] at this
  exact this
theorem rows4 (w : World) (c0 c1 c2 c3 : Array Value) (t0 t1 t2 t3 : TypeId) (W : World) (h : W = (((w.alloc (.cells c0 t0)).alloc (.cells c1 t1)).alloc (.cells c2 t2)).alloc (.cells c3 t3)) (S : Nat) (hS : S = w.heap.size) :
    Upd [] w W ∧ Row W S c0 t0 ∧ Row W (S + 1) c1 t1 ∧ Row W (S + 1 + 1) c2 t2 ∧ Row W (S + 1 + 1 + 1) c3 t3 ∧ W.heap.size = S + 1 + 1 + 1 + 1 := by
  obtain ⟨u, r0, r1, r2, hz⟩ := rows3 w c0 c1 c2 t0 t1 t2 _ rfl S hS
  subst h
  refine ⟨u.alloc _, r0.upd0 ((Upd.refl _ _).alloc _), r1.upd0 ((Upd.refl _ _).alloc _), r2.upd0 ((Upd.refl _ _).alloc _), ?_, by simp [hS]⟩
  have := Row.new (((w.alloc (.cells c0 t0)).alloc (.cells c1 t1)).alloc (.cells c2 t2)) c3 t3
  rw [hz] at this
  exact this

/-- A block that came behind w. -/
structure NewRow (w : World) (k : Nat) (cs : Array Value) (t : TypeId) (W : World) : Prop where
  row : Row W k cs t
  lo : w.heap.size ≤ k
theorem NewRow.of {w W0 W : World} {cs : Array Value} {t : TypeId} (h : Upd [] w W0) (u : Upd [] (W0.alloc (.cells cs t)) W) : NewRow w W0.heap.size cs t W := ⟨Row.of u, h.size⟩
theorem NewRow.of0 {w W0 W : World} {cs : Array Value} {t : TypeId} (h : Upd [] w W0) (u : Upd [] (W0.drew.alloc (.cells cs t)) W) : NewRow w W0.heap.size cs t W := ⟨(Row.of u : Row W W0.drew.heap.size cs t), h.size⟩
theorem NewRow.upd {w W W' : World} {k : Nat} {cs : Array Value} {t : TypeId} (h : NewRow w k cs t W) (u : Upd [] W W') : NewRow w k cs t W' := ⟨h.row.upd0 u, h.lo⟩
theorem NewRow.new {w W : World} (cs : Array Value) (t : TypeId) (h : Upd [] w W) : NewRow w W.heap.size cs t (W.alloc (.cells cs t)) := ⟨Row.new _ _ _, h.size⟩
end Go.Proofs.Tm

/- Blocks that hold one value. -/
namespace Go.Proofs.YtoklmfmoblkfcaaDoor
open Go.RowKit Go.Proofs.Tm
set_option linter.unusedVariables false
set_option maxRecDepth 20000

/-- Block k holds the value x alone. -/
def Box (W : World) (k : Nat) (x : Value) (t : TypeId) : Prop := W.heap[k]? = some (.cells #[x] t (0, 0))
theorem Box.upd {w W : World} {k : Nat} {x : Value} {t : TypeId} (h : Box w k x t) (u : Upd [] w W) : Box W k x t :=
  (u.block k (Array.getElem?_eq_some_iff.1 h).1 (by simp)).trans h
theorem Box.cell {W : World} {k : Nat} {x : Value} {t : TypeId} (h : Box W k x t) : W.cell? ⟨k, 0, none⟩ = some x := by rw [cell_of_row W _ 0 _ _ _ h]; rfl
theorem Box.new (w : World) (x : Value) (t : TypeId) : Box (w.alloc (.cells #[x] t)) w.heap.size x t := heap_alloc_new w _

/-- Two values in blocks of the call's own. -/
theorem two_boxes (w : World) (x y : Value) (t t' : TypeId) (w8 : World) (h : w8 = (w.alloc (.cells #[x] t)).alloc (.cells #[y] t')) (k : Nat) (hk : k = w.heap.size) :
    Upd [] w w8 ∧ ∀ W, Upd [] w8 W → W.cell? ⟨k, 0, none⟩ = some x ∧ W.cell? ⟨k + 1, 0, none⟩ = some y := by
  subst h hk
  have b1 : Box ((w.alloc (.cells #[x] t)).alloc (.cells #[y] t')) w.heap.size x t := (Box.new _ _ _).upd ((Upd.refl _ _).alloc _)
  have b2 : Box ((w.alloc (.cells #[x] t)).alloc (.cells #[y] t')) (w.heap.size + 1) y t' := by have := Box.new (w.alloc (.cells #[x] t)) y t'; simpa using this
  exact ⟨((Upd.refl _ _).alloc _).alloc _, fun W h => ⟨(b1.upd h).cell, (b2.upd h).cell⟩⟩


end Go.Proofs.YtoklmfmoblkfcaaDoor

/- Blocks of a call's own, numbers and errors answered, numbers stored. -/
namespace Go.Proofs.YtoklmfmoblkfcaaDoor
open Go.RowKit Go.Proofs.Tm
set_option linter.unusedVariables false
set_option linter.unusedSimpArgs false
set_option maxRecDepth 20000

theorem run_max2 {P : Program} (a b : Int) (ts : Array TypeId) (t : TypeId) (W : World) : (Builtin.max_ ts t #[.int .i64 a, .int .i64 b]).run P W = .ok (.int .i64 (max a b)) W := by
  have e : Builtin.max_ ts t #[.int .i64 a, .int .i64 b] = pure (.int .i64 (if a < b then b else a)) := rfl
  rw [e, Sem.run_pure]
  congr 2
  split <;> omega

/-- Three blocks of a call's own. -/
theorem box3 {w w1 : World} {x y z : Value} {t t' t'' : TypeId} (u : Upd [] (((w.alloc (.cells #[x] t)).alloc (.cells #[y] t')).alloc (.cells #[z] t'')) w1) :
    w1.heap[w.heap.size]? = some (.cells #[x] t (0, 0)) ∧ w1.heap[w.heap.size + 1]? = some (.cells #[y] t' (0, 0)) ∧ w1.heap[w.heap.size + 1 + 1]? = some (.cells #[z] t'' (0, 0)) ∧ Upd [] w w1 ∧ w.heap.size + 1 + 1 + 1 ≤ w1.heap.size := by
  refine ⟨?_, ?_, ?_, ((((Upd.refl _ _).alloc _).alloc _).alloc _).trans0 u, by have := u.size; simpa using this⟩
  · rw [u.block _ (by simp; omega) (by simp), Below.heap_alloc _ _ _ (by simp; omega), Below.heap_alloc _ _ _ (by simp)]; exact heap_alloc_new w _
  · rw [u.block _ (by simp) (by simp), Below.heap_alloc _ _ _ (by simp)]; have := heap_alloc_new (w.alloc (.cells #[x] t)) (.cells #[y] t'); simpa using this
  · rw [u.block _ (by simp) (by simp)]; have := heap_alloc_new ((w.alloc (.cells #[x] t)).alloc (.cells #[y] t')) (.cells #[z] t''); simpa using this

theorem tdiv_nat (a b : Nat) : (a : Int).tdiv (b : Int) = ((a / b : Nat) : Int) := by rw [Int.tdiv_eq_ediv_of_nonneg (by omega)]; simp
theorem wrap_nat (n : Nat) (h : n < 18446744073709551616) : IntKind.u64.wrap (n : Int) = (n : Int) := by
  rw [IntKind.wrap_u64]; omega
theorem shr_nat (a s : Nat) : (a : Int) / 2 ^ s = ((a / 2 ^ s : Nat) : Int) := by simp

/-- A number and an error are answered. -/
def RNatE (n : Nat) (k : Int) (w : World) (e : Ending) (w' : World) : Prop := ∃ v, e = .returned (.tuple #[v, .int .i64 k]) ∧ NV w' v n ∧ Upd [] w w'

/-- Two numbers and an error are answered. -/
def RNat2E (q r : Nat) (k : Int) (w : World) (e : Ending) (w' : World) : Prop := ∃ v1 v2, e = .returned (.tuple #[v1, v2, .int .i64 k]) ∧ NV w' v1 q ∧ NV w' v2 r ∧ Upd [] w w'

theorem alloc4 (w : World) (a b c d : Obj) : Upd [] w ((((w.alloc a).alloc b).alloc c).alloc d) := ((((Upd.refl _ w).alloc a).alloc b).alloc c).alloc d

/-- Two numbers are stored into cells of the call's own. -/
structure Stored (w : World) (i j : Nat) (t t' : TypeId) (x y : Value) (m n : Nat) (W' : World) : Prop where
  b1 : W'.heap[i]? = some (.cells #[x] t (0, 0))
  b2 : W'.heap[j]? = some (.cells #[y] t' (0, 0))
  n1 : NV W' (.agg #[x]) m
  n2 : NV W' (.agg #[y]) n
  u : Upd [] w W'

theorem Stored.c1 {w : World} {i j : Nat} {t t' : TypeId} {x y : Value} {m n : Nat} {W : World} (h : Stored w i j t t' x y m n W) : W.cell? ⟨i, 0, none⟩ = some x := by rw [cell_of_row W _ 0 _ _ _ h.b1]; rfl
theorem Stored.c2 {w : World} {i j : Nat} {t t' : TypeId} {x y : Value} {m n : Nat} {W : World} (h : Stored w i j t t' x y m n W) : W.cell? ⟨j, 0, none⟩ = some y := by rw [cell_of_row W _ 0 _ _ _ h.b2]; rfl
theorem Stored.f1 {w : World} {i j : Nat} {t t' : TypeId} {x y : Value} {m n : Nat} {W : World} (h : Stored w i j t t' x y m n W) : W.frozen? ⟨i, 0, none⟩ = false := by simp [World.frozen?, h.b1]
theorem Stored.f2 {w : World} {i j : Nat} {t t' : TypeId} {x y : Value} {m n : Nat} {W : World} (h : Stored w i j t t' x y m n W) : W.frozen? ⟨j, 0, none⟩ = false := by simp [World.frozen?, h.b2]
theorem Stored.drew {w : World} {i j : Nat} {t t' : TypeId} {x y : Value} {m n : Nat} {W : World} (h : Stored w i j t t' x y m n W) : Stored w i j t t' x y m n W.drew := ⟨h.b1, h.b2, h.n1.upd0 (Upd.refl _ _).drew, h.n2.upd0 (Upd.refl _ _).drew, h.u.drew⟩

theorem store2 {w W : World} {i j : Nat} {t t' : TypeId} {x y : Value} {p1 p2 : Option Addr} {l1 c1 l2 c2 : Nat} {m n : Nat} (hij : i ≠ j) (hi : w.heap.size ≤ i) (hj : w.heap.size ≤ j) (hbi : W.heap[i]? = some (.cells #[.slice p1 l1 c1] t (0, 0))) (hbj : W.heap[j]? = some (.cells #[.slice p2 l2 c2] t' (0, 0))) (hu : Upd [] w W) (hx : NV W (.agg #[x]) m) (hy : NV W (.agg #[y]) n) :
    Stored w i j t t' x y m n ((W.setCell ⟨i, 0, none⟩ x).setCell ⟨j, 0, none⟩ y) := by
  have hb1 : (W.setCell ⟨i, 0, none⟩ x).heap[i]? = some (.cells #[x] t (0, 0)) := one_setCell hbi
  have hb2 : (W.setCell ⟨i, 0, none⟩ x).heap[j]? = some (.cells #[.slice p2 l2 c2] t' (0, 0)) := (Below.heap_setCell _ _ _ _ (by show j ≠ i; omega)).trans hbj
  exact ⟨(Below.heap_setCell _ _ _ _ (by show i ≠ j; omega)).trans hb1, one_setCell hb2, (hx.store hbi no_u64 _ rfl _).store hb2 no_u64 _ rfl _, (hy.store hbi no_u64 _ rfl _).store hb2 no_u64 _ rfl _, (hu.setCell (.inr hi) _).setCell (.inr hj) _⟩

end Go.Proofs.YtoklmfmoblkfcaaDoor

/- The contracts of a number's word and Zero. -/
namespace Go.Proofs.YtoklmfmoblkfcaaDoor
open Go.RowKit Go.Proofs.Tm
set_option linter.unusedVariables false
set_option maxRecDepth 20000

/-- word i: above the highest one there are noughts. -/
theorem word_any (v : Value) (n i : Nat) (w : World) (h : NV w v n) (hi : i < 4611686018427387904) :
    Calls Tryd.prog 59 #[v, .int .i64 (i : Int)] w fun e w' => e = .returned (.int .u64 (((wds n).getD i 0 : Nat) : Int)) ∧ Upd [] w w' := by
  obtain ⟨a, cap, rfl, hl, hm⟩ := h.open
  have HS := Lib.hid h.sl
  unfold maxLen at hm
  clear h
  by_cases hlt : i < (wds n).length
  · obtain ⟨b, o, cap', hv, hc⟩ := sl_at HS.out (by rw [cu64_nil]; intro e; rw [e] at hlt; simp at hlt)
    obtain ⟨rfl, rfl⟩ : a = some ⟨b, o, none⟩ ∧ cap = cap' := by simp at hv; exact hv
    have hcell := hc i (by rw [cu64_length]; exact hlt)
    rw [cu64_getD _ _ hlt] at hcell
    have hlb := World.block_lt_of_cell? w _ hcell
    have hcell' : (w.alloc (.cells #[.slice (some ⟨b, o, none⟩) (wds n).length cap] 27)).cell? ⟨b, o + i, none⟩ = some (.int .u64 (((wds n).getD i 0 : Nat) : Int)) := (Below.cell ((Below.refl _ w).alloc (Nat.le_refl _) _) (p := ⟨b, o + i, none⟩) hlb).trans hcell
    have i3 : decide ((wds n).length ≤ i) = false := by simp; omega
    have i0 : (0 : Int) ≤ (i : Int) := by omega
    have i1 : (i : Int) < ((wds n).length : Int) := by omega
    clear hc hv hcell hlb
    generalize (wds n).getD i 0 = x at *
    generalize (wds n).length = m at *
    go_enter Tryd.func59, Tryd.ntmps59
    go_wp2
    go_ret
    exact ⟨rfl, (Upd.refl _ _).alloc _⟩
  · have i3 : decide ((wds n).length ≤ i) = true := by simp; omega
    have hz : (wds n).getD i 0 = 0 := by simp [show (wds n).length ≤ i by omega]
    rw [hz]
    clear hz
    generalize (wds n).length = m at *
    go_enter Tryd.func59, Tryd.ntmps59
    go_wp2
    go_ret
    exact ⟨rfl, (Upd.refl _ _).alloc _⟩

theorem zero_any (v : Value) (n : Nat) (w : World) (h : NV w v n) :
    Calls Tryd.prog 36 #[v] w fun e w' => e = .returned (.bool (decide (n = 0))) ∧ Upd [] w w' := by
  obtain ⟨a, cap, rfl, hl, hm⟩ := h.open
  unfold maxLen at hm
  clear h
  have HZ : Hid ((((wds n).length : Int) == 0) = decide (n = 0)) := by
    show _ = _
    rw [Bool.eq_iff_iff, beq_iff_eq, decide_eq_true_eq, ← wds_length_zero]; omega
  generalize (wds n).length = m at *
  go_enter Tryd.func36, Tryd.ntmps36
  go_wp2
  go_ret
  exact ⟨ret_bool HZ.out, (Upd.refl _ _).alloc _⟩

end Go.Proofs.YtoklmfmoblkfcaaDoor

/- slices.Backward over words: the iterator's contract (from the highest place down). -/
namespace Go.Proofs.YtoklmfmoblkfcaaDoor
open Go.RowKit Go.Proofs.Tm Go.Shelf
set_option linter.unusedVariables false
set_option maxRecDepth 20000
attribute [local go_sem] Oper.semAt_some

/-- What has come when k rounds are over: the rounds' numbers 0, .., k - 1. -/
def upto (n k : Nat) : List (Fin n) := (List.finRange n).take k
theorem upto_succ {n k : Nat} (h : k < n) : upto n (k + 1) = upto n k ++ [⟨k, h⟩] := by
  unfold upto
  rw [List.take_succ_eq_append_getElem (by simpa using h)]
  simp
theorem upto_length {n k : Nat} (h : k ≤ n) : (upto n k).length = k := by simp [upto]; omega
theorem upto_all (n : Nat) : upto n n = List.finRange n := by unfold upto; rw [List.take_of_length_le (by simp)]

/-- The rounds came in their order. -/
def Good {n : Nat} (pre : List (Fin n)) : Prop := ∃ k, k ≤ n ∧ pre = upto n k
theorem good_snoc {n : Nat} {pre : List (Fin n)} {x : Fin n} (h : Good (pre ++ [x])) : Good pre ∧ x.val = pre.length := by
  obtain ⟨k, hk, he⟩ := h
  have hl := congrArg List.length he
  rw [upto_length hk] at hl
  simp at hl
  obtain ⟨j, rfl⟩ : ∃ j, k = j + 1 := ⟨k - 1, by omega⟩
  rw [upto_succ (by omega)] at he
  obtain ⟨h1, h2⟩ := List.append_inj' he rfl
  refine ⟨⟨j, by omega, h1⟩, ?_⟩
  simp only [List.cons.injEq, and_true] at h2
  rw [h2]
  show j = _
  omega
theorem good_upto {n k : Nat} (hk : k ≤ n) : Good (upto n k) := ⟨k, hk, rfl⟩

/-- The word at a place, under a name that no walk opens. -/
def gd (L : List Nat) (j : Nat) : Nat := L.getD j 0

/-- What a round keeps: of the blocks below n those of which Q says so. -/
structure Kq (Q : Nat → Prop) (n : Nat) (w w' : World) : Prop where
  size : w.heap.size ≤ w'.heap.size
  block : ∀ k, k < n → Q k → w'.heap[k]? = w.heap[k]?
theorem Kq.refl (Q : Nat → Prop) (n : Nat) (w : World) : Kq Q n w w := ⟨Nat.le_refl _, fun _ _ _ => rfl⟩
theorem Kq.trans {Q : Nat → Prop} {n : Nat} {A B C : World} (h : Kq Q n A B) (k : Kq Q n B C) : Kq Q n A C := ⟨Nat.le_trans h.size k.size, fun i h1 h2 => (k.block i h1 h2).trans (h.block i h1 h2)⟩
theorem Kq.put {Q : Nat → Prop} {w : World} (W : World) (l : Nat) (o o' : Obj) (hl : w.heap.size ≤ l) (h : W.heap[l]? = some o) (_ : o.isCells = false) (_ : o.isWalk = false) : Kq Q w.heap.size W (W.putObj l o') :=
  ⟨by simp, fun k hk _ => World.putObj_heap_other (by omega)⟩
theorem Kq.cell {Q : Nat → Prop} {n : Nat} {A B : World} (h : Kq Q n A B) {p : Addr} (hp : p.block < n) (hn : Q p.block) : B.cell? p = A.cell? p := World.cell?_of_block (w := A) (h.block p.block hp hn)
/-- .. all but those in S. -/
def Ks (S : List Nat) (k : Nat) : Prop := k ∉ S
theorem Kq.of_upd {S : List Nat} {n : Nat} {A B : World} (u : Upd S A B) (hn : n ≤ A.heap.size) : Kq (Ks S) n A B := ⟨u.size, fun k hk hs => u.block k (by omega) hs⟩

/-- What yield is handed in round x: the place and its word. -/
def encP (ws : List Nat) (x : Fin ws.length) : Array Value := #[Value.int .i64 ((ws.length - 1 - x.val : Nat) : Int), Value.int .u64 ((gd ws (ws.length - 1 - x.val) : Nat) : Int)]

set_option maxRecDepth 100000 in
set_option maxHeartbeats 2000000 in
theorem back1_in (Q : Nat → Prop) (n : Nat) (hn : 1 ≤ n) (l Bs n₀ b off cap : Nat) (ws : List Nat) (hreach : ws.length ≤ 1099511627776) (hb : b < n₀) (hbS : Q b) (hBS : Q Bs) (J Jx : List (Fin ws.length) → World → Prop)
    (hY : ∀ pre x W, J pre W → pre.length < ws.length → YieldAt Fence.wide (n - 1) Tryd.prog l (encP ws x) W fun e W' =>
      (e = .returned (.bool true) ∧ J (pre ++ [x]) W' ∧ Kq Q n₀ W W') ∨ (e = .returned (.bool false) ∧ Jx (pre ++ [x]) W'))
    (W : World) (hBs : W.cell? ⟨Bs, 0, none⟩ = some (.slice (some ⟨b, off, none⟩) ws.length cap)) (hBn : Bs < n₀) (hc : ∀ j, j < ws.length → W.cell? ⟨b, off + j, none⟩ = some (.int .u64 ((gd ws j : Nat) : Int))) (h0 : J [] W) :
    CallsIn Fence.wide n Tryd.prog 73 #[.func (.yield l) #[] #[], .pointer (some ⟨Bs, 0, none⟩)] W fun e W' => (∃ v, e = .returned v) ∧
      ((∃ ys, ys = upto ws.length ws.length ∧ J ys W') ∨ (∃ pre, (∃ k, k ≤ ws.length ∧ pre = upto ws.length k) ∧ Jx pre W')) := by
  refine callsIn_of_wp Tryd.func73 rfl trivial ?_ rfl
  simp only [Tryd.ntmps73, List.size_toArray, List.length_cons, List.length_nil, Nat.reduceAdd, Nat.reduceSub, Array.replicate_succ, Array.replicate_zero, List.push_toArray, List.append_toArray, List.nil_append, List.cons_append]
  gi_wp2
  gi_loopw [3] (fun i wr => ∃ k : Nat, k ≤ ws.length ∧ i = .int .i64 ((ws.length : Int) - 1 - k) ∧ J (upto ws.length k) wr ∧ Kq Q n₀ W wr)
    (fun i _ => (intOf i + 1).toNat)
  case atStart => exact ⟨0, Nat.zero_le _, by simp, h0, Kq.refl _ _ _⟩
  case round =>
    obtain ⟨k, hk, rfl, hJs, hnx⟩ := hrel
    have hcx : k < ws.length → wr.cell? ⟨b, off + (ws.length - 1 - k), none⟩ = some (.int .u64 ((gd ws (ws.length - 1 - k) : Nat) : Int)) := fun h => (hnx.cell (p := ⟨b, off + (ws.length - 1 - k), none⟩) hb hbS).trans (hc _ (by omega))
    have hbx : wr.cell? ⟨Bs, 0, none⟩ = some (.slice (some ⟨b, off, none⟩) ws.length cap) := (hnx.cell (p := ⟨Bs, 0, none⟩) hBn hBS).trans hBs
    by_cases hlt : k < ws.length
    · obtain ⟨j, hj⟩ : ∃ j, j = ws.length - 1 - k := ⟨_, rfl⟩
      obtain ⟨fn, tmps, assign, body, hy, hR⟩ := hY _ ⟨k, by omega⟩ wr hJs (by rw [upto_length (by omega)]; exact hlt)
      have hdp : upto ws.length (k + 1) = upto ws.length k ++ [⟨k, by omega⟩] := upto_succ (by omega)
      simp only [encP, ← hj] at hy
      have hcx' := hcx hlt
      rw [← hj] at hcx'
      have hjc : (ws.length : Int) - 1 - k = (j : Int) := by omega
      rw [hjc]
      have hjl : j < ws.length := by omega
      generalize gd ws j = x at *
      have HJ := Lib.hid hj
      have HD := Lib.hid hdp
      have HCX := Lib.hid hcx
      have HC := Lib.hid hc
      clear hj hdp hcx hc hBs hjc
      gi_wp2
      refine hR.mono ?_
      rintro e W3 (⟨rfl, hJ3, hk3⟩ | ⟨rfl, hJx3⟩)
      · gi_wp2
        go_roundw
        case rel => refine ⟨k + 1, by omega, congrArg (Value.int IntKind.i64) ?_, by rw [HD.out]; exact hJ3, hnx.trans hk3⟩; have := HJ.out; omega
        case measure => simp [intOf]
      · gi_wp2
        refine bodyPost_ret (results_none rfl _ _ _) rfl ?_
        exact ⟨⟨_, rfl⟩, .inr ⟨_, ⟨k + 1, by omega, HD.out.symm⟩, hJx3⟩⟩
    · have hk' : k = ws.length := by omega
      have hm1 : (ws.length : Int) - 1 - k = -1 := by omega
      rw [hk'] at hJs
      clear hk'
      rw [hm1]
      gi_wp2
      go_end0
      exact ⟨⟨_, rfl⟩, .inl ⟨_, rfl, hJs⟩⟩

set_option maxRecDepth 100000 in
set_option maxHeartbeats 1000000 in
theorem back1_nil_in (n : Nat) (l Bs cap : Nat) (a : Option Addr) (m : Nat) (J : List (Fin m) → World → Prop) (W : World) (hBs : W.cell? ⟨Bs, 0, none⟩ = some (.slice a 0 cap)) (h0 : J [] W) :
    CallsIn Fence.wide n Tryd.prog 73 #[.func (.yield l) #[] #[], .pointer (some ⟨Bs, 0, none⟩)] W fun e W' => (∃ v, e = .returned v) ∧ J [] W' := by
  refine callsIn_of_wp Tryd.func73 rfl trivial ?_ rfl
  simp only [Tryd.ntmps73, List.size_toArray, List.length_cons, List.length_nil, Nat.reduceAdd, Nat.reduceSub, Array.replicate_succ, Array.replicate_zero, List.push_toArray, List.append_toArray, List.nil_append, List.cons_append]
  gi_wp2
  gi_loopw [3] (fun i wr => i = .int .i64 (-1) ∧ J [] wr) (fun _ _ => 0)
  case atStart => exact ⟨rfl, h0⟩
  case round =>
    obtain ⟨rfl, hJs⟩ := hrel
    gi_wp2
    go_end0
    exact ⟨⟨_, rfl⟩, hJs⟩

set_option maxHeartbeats 1000000 in
/-- slices.Backward(s): the slice value is boxed; the function value captures the box. -/
theorem backward_any (a : Option Addr) (len cap : Nat) (w : World) :
    Calls Tryd.prog 48 #[.slice a len cap] w fun e w' => e = .returned (.func (.func 73) #[] #[.pointer (some ⟨w.heap.size, 0, none⟩)]) ∧ w' = w.alloc (.cells #[.slice a len cap] 22) := by
  go_enter Tryd.func48, Tryd.ntmps48
  go_wp2
  go_ret
  exact ⟨rfl, rfl⟩

/-- The value that it hands back goes through all the words from above, or a part of the way. -/
theorem back_stops (Q : Nat → Prop) (n : Nat) (hn : 1 ≤ n) (Bs n₀ : Nat) (a : Option Addr) (cap : Nat) (ws : List Nat) (hreach : ws.length ≤ 1099511627776) (w : World) (hBs : Bs < n₀) (hBS : Q Bs) (hn₀ : n₀ ≤ w.heap.size)
    (hc : w.cell? ⟨Bs, 0, none⟩ = some (.slice a ws.length cap)) (hI : Sl w (.slice a ws.length cap) (cu64 ws)) (hblk : ws ≠ [] → ∀ k, (Value.slice a ws.length cap).ownBlock = some k → k < n₀ ∧ Q k) :
    SeqStopsK Fence.wide n Tryd.prog 73 #[.pointer (some ⟨Bs, 0, none⟩)] (encP ws) (Kq Q n₀) (fun ys => ys = upto ws.length ws.length)
      (fun pre => ∃ k, k ≤ ws.length ∧ pre = upto ws.length k) ws.length w := fun l J Jx W hW _ _ hY h0 => by
  have hc' := (hW.cell (p := ⟨Bs, 0, none⟩) (by show Bs < _; omega)).trans hc
  by_cases hne : ws = []
  · subst hne
    exact (back1_nil_in n l Bs cap a _ J W hc' h0).mono fun e W' ⟨he, hj⟩ => ⟨he, .inl ⟨_, rfl, hj⟩⟩
  · obtain ⟨b, off, cap', hv, hcs⟩ := sl_at hI (cu64_nil.2 hne)
    simp only [Value.slice.injEq] at hv
    obtain ⟨rfl, _, rfl⟩ := hv
    have hb := hblk hne b rfl
    refine back1_in Q n hn l Bs n₀ b off cap ws hreach hb.1 hb.2 hBS J Jx hY W hc' hBs (fun j hj => ?_) h0
    have := hcs j (by rw [cu64_length]; exact hj)
    rw [cu64_getD _ _ hj] at this
    exact (hW.cell (p := ⟨b, off + j, none⟩) (by show b < _; have := hb.1; omega)).trans this
end Go.Proofs.YtoklmfmoblkfcaaDoor

/- The contract of nat.Cmp (layer 5). -/
namespace Go.Proofs.YtoklmfmoblkfcaaDoor
open Go.RowKit Go.Proofs.Tm Go.Shelf
set_option linter.unusedVariables false
set_option maxRecDepth 20000
attribute [local go_sem] Oper.semAt_some


theorem cmp_len (u v : Value) (m n : Nat) (w : World) (hu : NV w u m) (hv : NV w v n) (hne : (wds m).length ≠ (wds n).length) :
    Calls Tryd.prog 24 #[u, v] w fun e w' => e = .returned (.int .i64 (cmpN m n)) ∧ Upd [] w w' := by
  obtain ⟨a, cap, rfl, hl, hcm⟩ := hu.open
  obtain ⟨b, cap', rfl, hl', hcm'⟩ := hv.open
  have HR : Hid (cmpN m n = if (wds n).length < (wds m).length then 1 else -1) := by
    show _ = _
    unfold cmpN
    rcases Nat.lt_or_ge (wds n).length (wds m).length with h | h
    · have := wds_lt_of_length h
      rw [if_pos h, if_neg (by omega), if_neg (by omega)]
    · have := wds_lt_of_length (show (wds m).length < (wds n).length by omega)
      rw [if_pos this, if_neg (by omega)]
  unfold maxLen at hcm hcm'
  rw [HR.out]
  generalize (wds m).length = lm at *
  generalize (wds n).length = ln at *
  have hn : (((lm : Nat) : Int) != ((ln : Nat) : Int)) = true := by rw [bne_iff_ne]; omega
  obtain ⟨z, hz⟩ : ∃ z : Bool, z = decide (ln < lm) := ⟨_, rfl⟩
  have HZ : Hid ((if ln < lm then (1 : Int) else -1) = if z then 1 else -1) := by show _ = _; rw [hz]; by_cases h : ln < lm <;> simp [h]
  rw [HZ.out]
  have hz' : decide (ln < lm) = z := hz.symm
  clear hu hv hne HR hz
  go_enter Tryd.func24, Tryd.ntmps24
  go_wp2_with fail
  refine (sign_any z _).mono ?_
  rintro e w1 ⟨rfl, rfl⟩
  go_wp2
  · refine bodyPost_ret (v := .int .i64 1) (by simp [results, Tryd.results24, go_sem]) rfl ?_
    exact ⟨rfl, (((Upd.refl _ _).alloc _).alloc _).alloc _⟩
  · refine bodyPost_ret (v := .int .i64 (-1)) (by simp [results, Tryd.results24, go_sem]) rfl ?_
    exact ⟨rfl, (((Upd.refl _ _).alloc _).alloc _).alloc _⟩

/-- Held against one another from above. -/
theorem cmp_above (m n k : Nat) (hl : (wds m).length = (wds n).length) (hk : k < (wds m).length) (he : ∀ j, k < j → j < (wds m).length → (wds m).getD j 0 = (wds n).getD j 0) (hne : (wds m).getD k 0 ≠ (wds n).getD k 0) :
    cmpN m n = if (wds n).getD k 0 < (wds m).getD k 0 then 1 else -1 := by
  have hd : (wds m).drop (k + 1) = (wds n).drop (k + 1) := by
    apply List.ext_getElem
    · simp [hl]
    · intro i h1 h2
      simp only [List.length_drop] at h1 h2
      have := he (k + 1 + i) (by omega) (by omega)
      rw [List.getElem_drop, List.getElem_drop]
      simpa [show k + 1 + i < (wds m).length by omega, show k + 1 + i < (wds n).length by omega] using this
  have g1 : (wds m)[k]? = some ((wds m).getD k 0) := by rw [List.getElem?_eq_getElem hk]; simp [hk]
  have hk2 : k < (wds n).length := by omega
  have g2 : (wds n)[k]? = some ((wds n).getD k 0) := by rw [List.getElem?_eq_getElem hk2]; simp [hk2]
  unfold cmpN
  rcases Nat.lt_or_ge ((wds n).getD k 0) ((wds m).getD k 0) with h | h
  · have := wval_cmp (wds n) (wds m) k _ _ (wds_lt n) (wds_lt m) hl.symm g2 g1 h hd.symm
    rw [wval_wds, wval_wds] at this
    rw [if_neg (by omega), if_neg (by omega), if_pos h]
  · have := wval_cmp (wds m) (wds n) k _ _ (wds_lt m) (wds_lt n) hl g1 g2 (by omega) hd
    rw [wval_wds, wval_wds] at this
    rw [if_pos this, if_neg (by omega)]
theorem cmp_all (m n : Nat) (hl : (wds m).length = (wds n).length) (he : ∀ j, j < (wds m).length → (wds m).getD j 0 = (wds n).getD j 0) : cmpN m n = 0 := by
  have : wds m = wds n := by
    apply List.ext_getElem hl
    intro i h1 h2
    simpa [h1, h2] using he i h1
  have := wds_inj this
  unfold cmpN
  rw [if_neg (by omega), if_pos this]

/-- Between two rounds of Cmp: so far all words were the same. -/
def CmpIn (m n : Nat) (w0 : World) (pre : List (Fin (wds m).length)) (W : World) : Prop :=
  (∀ x ∈ pre, gd (wds m) ((wds m).length - 1 - x.val) = gd (wds n) ((wds m).length - 1 - x.val)) ∧ Below w0.heap.size w0 W
/-- A round of Cmp has left: the last words were unlike, and the answer is laid. -/
def CmpOut (m n p : Nat) (w : World) (c : Code) (pre : List (Fin (wds m).length)) (W : World) : Prop :=
  (c = .ret ∧ ∃ ini last, pre = ini ++ [last] ∧ (∀ x ∈ ini, gd (wds m) ((wds m).length - 1 - x.val) = gd (wds n) ((wds m).length - 1 - x.val)) ∧ gd (wds m) ((wds m).length - 1 - last.val) ≠ gd (wds n) ((wds m).length - 1 - last.val) ∧
       W.cell? ⟨p, 0, none⟩ = some (.int .i64 (if gd (wds n) ((wds m).length - 1 - last.val) < gd (wds m) ((wds m).length - 1 - last.val) then 1 else -1))) ∧ Below w.heap.size w W

set_option maxRecDepth 100000 in
set_option maxHeartbeats 2000000 in
theorem cmp_same (u v : Value) (m n : Nat) (w : World) (hu : NV w u m) (hv : NV w v n) (heq : (wds m).length = (wds n).length) (hlen : (wds m).length ≤ 1099511627776) :
    Calls Tryd.prog 24 #[u, v] w fun e w' => e = .returned (.int .i64 (cmpN m n)) ∧ Upd [] w w' := by
  obtain ⟨a, cap, rfl, hl, hcm⟩ := hu.open
  obtain ⟨b, cap', rfl, hl', hcm'⟩ := hv.open
  unfold maxLen at hcm hcm'
  have HA := Lib.hid hu
  have HB := Lib.hid hv
  have HEQ := Lib.hid heq
  rw [← heq] at hl' HB ⊢
  have hln : (((wds m).length : Int) != ((wds m).length : Int)) = false := by simp
  clear hu hv heq
  refine (callsIn_wide (n := 3)).1 ?_
  refine callsIn_of_wp_marks Tryd.func24 rfl trivial ?_ rfl
  simp only [Tryd.ntmps24, List.size_toArray, List.length_cons, List.length_nil, Nat.reduceAdd, Nat.reduceSub, Array.replicate_succ, Array.replicate_zero, List.push_toArray, List.append_toArray, List.nil_append, List.cons_append]
  gi_wp2_with (refine ⟨trivial, ?_⟩; gi_at_call 48; refine (callsIn_wide.2 (backward_any _ _ _ _)).mono ?_; rintro e w' ⟨rfl, rfl⟩)
  obtain ⟨w0, hw0⟩ : ∃ w0, w0 = (((w.alloc (.cells #[.slice a (wds m).length cap] 27)).alloc (.cells #[.slice b (wds m).length cap'] 27)).alloc (.cells #[.int .i64 0] 3)).alloc (.cells #[.slice a (wds m).length cap] 22) := ⟨_, rfl⟩
  have hu1 : Upd [] (((w.alloc (.cells #[.slice a (wds m).length cap] 27)).alloc (.cells #[.slice b (wds m).length cap'] 27)).alloc (.cells #[.int .i64 0] 3)) w0 := by rw [hw0]; exact (Upd.refl _ _).alloc _
  obtain ⟨hb2, hb3, hb4, hu0, hs0⟩ := box3 hu1
  have hs1 : w0.heap.size = w.heap.size + 1 + 1 + 1 + 1 := by rw [hw0]; simp
  have hb5 : w0.cell? ⟨w.heap.size + 1 + 1 + 1, 0, none⟩ = some (.slice a (wds m).length cap) := by
    rw [hw0]; exact World.cell?_alloc_at _ _ _ _ (by simp)
  rw [← hw0]
  have HU0 := Lib.hid hu0
  have hc2 : w0.cell? ⟨w.heap.size, 0, none⟩ = some (.slice a (wds m).length cap) := by rw [cell_of_row w0 _ 0 _ _ _ hb2]; rfl
  have hc3 : w0.cell? ⟨w.heap.size + 1, 0, none⟩ = some (.slice b (wds m).length cap') := by rw [cell_of_row w0 _ 0 _ _ _ hb3]; rfl
  have hc4 : w0.cell? ⟨w.heap.size + 1 + 1, 0, none⟩ = some (.int .i64 0) := by rw [cell_of_row w0 _ 0 _ _ _ hb4]; rfl
  have hf4 : w0.frozen? ⟨w.heap.size + 1 + 1, 0, none⟩ = false := by simp [World.frozen?, hb4]
  have HW0 := Lib.hid hw0
  have HS1 := Lib.hid hs1
  have hs3 := Nat.le_of_eq hs1.symm
  clear hs1 hw0 hu1 hb2 hb3 hb4 hu0
  refine wpIn_rangeFunc_ownF rfl (by decide) (gf := 73) (lb := #[.pointer (some ⟨w.heap.size + 1 + 1 + 1, 0, none⟩)]) rfl trivial (enters_of Tryd.func73 (by kernel_rfl) rfl)
    (back_stops (Ks []) 2 (by decide) (w.heap.size + 1 + 1 + 1) w0.heap.size a cap (wds m) hlen w0 (by omega) (by simp [Ks]) (Nat.le_refl _) hb5 (HA.out.upd0 HU0.out).sl (fun hne k hk => ⟨(HA.out.upd0 HU0.out).blk hne k hk, by simp [Ks]⟩)) Kq.trans Kq.put (Below.refl _ _) (fun _ => rfl)
    (CmpIn m n w0) (CmpOut m n (w.heap.size + 1 + 1) w)
    (OwnFrom.and (Own.from (fun s A B row hs hg hr => hs) _) (ownFrom_below (Nat.le_refl _) (Nat.le_refl _)))
    (fun c => OwnFrom.and (Own.from (fun s A B row hs hg hr => by obtain ⟨hc, ini, last, e1, e2, e3, e4⟩ := hs; exact ⟨hc, ini, last, e1, e2, e3, cell_kept e4 hg hr⟩) _) (ownFrom_below (Nat.le_refl _) (by have := HS1.out; omega)))
    ⟨by simp, Below.refl _ _⟩
    ?a1 ?assign ?body ?done ?stop
  case assign =>
    intro l x W K hK
    simp only [encP]
    gi_wp2
    exact hK
  case body =>
    rintro l pre x W ⟨hp, hB⟩ hlt
    obtain ⟨j, hj⟩ : ∃ j, j = (wds m).length - 1 - x.val := ⟨_, rfl⟩
    have hjl : j < (wds m).length := by have := x.isLt; omega
    have HJ := Lib.hid hj
    have hU : Upd [] w0 W := Upd.of_below hB
    obtain ⟨bb, bo, rfl, hbb, hcb⟩ := HB.out.at j (by rw [← HEQ.out]; exact hjl)
    have hcb' : W.cell? ⟨bb, bo + j, none⟩ = some (.int .u64 ((gd (wds n) j : Nat) : Int)) := ((HU0.out.trans0 hU).cell (p := ⟨bb, bo + j, none⟩) hbb (by simp)).trans hcb
    have k3 : W.cell? ⟨w.heap.size + 1, 0, none⟩ = some (.slice (some ⟨bb, bo, none⟩) (wds m).length cap') := (hU.cell (p := ⟨w.heap.size + 1, 0, none⟩) (by show w.heap.size + 1 < _; omega) (by simp)).trans hc3
    have k4 : W.cell? ⟨w.heap.size + 1 + 1, 0, none⟩ = some (.int .i64 0) := (hU.cell (p := ⟨w.heap.size + 1 + 1, 0, none⟩) (by show w.heap.size + 1 + 1 < _; omega) (by simp)).trans hc4
    have f4 : W.frozen? ⟨w.heap.size + 1 + 1, 0, none⟩ = false := (hU.frozen (p := ⟨w.heap.size + 1 + 1, 0, none⟩) (by show w.heap.size + 1 + 1 < _; omega) (by simp)).trans hf4
    have i0 : (0 : Int) ≤ (j : Int) := by omega
    have i1 : (j : Int) < ((wds m).length : Int) := by omega
    rw [← hj]
    have HB2 := Lib.hid hB
    have HP := Lib.hid hp
    have HBW : Hid (Below w.heap.size w W) := (HU0.out.trans0 hU).below
    have HX : Hid (∀ y : Fin (wds m).length, y = x → (wds m).length - 1 - y.val = j) := fun y hy => by rw [hy]; exact hj.symm
    clear hj hp hB hcb hc2 hc3 hc4 hf4 hb5 hU hbb
    have HME : Hid (gd (wds m) j = gd (wds m) j) := rfl
    by_cases hne : gd (wds m) j = gd (wds n) j
    · have hd : (((gd (wds m) j : Nat) : Int) != ((gd (wds n) j : Nat) : Int)) = false := by rw [hne]; simp
      have HNE := Lib.hid hne
      have HI : Hid (CmpIn m n w0 (pre ++ [x]) W) := by
        refine ⟨fun y hy => ?_, HB2.out⟩
        rcases List.mem_append.1 hy with h | h
        · exact HP.out y h
        · rw [HX.out y (by simpa using h)]; exact hne
      clear hne
      generalize gd (wds m) j = xm at *
      generalize gd (wds n) j = xn at *
      gi_wp2
      exact ⟨KeepsOthers.refl _, Kq.refl _ _ _, HI.out⟩
    · have hd : (((gd (wds m) j : Nat) : Int) != ((gd (wds n) j : Nat) : Int)) = true := by rw [bne_iff_ne]; omega
      obtain ⟨z, hz⟩ : ∃ z : Bool, z = decide (gd (wds n) j < gd (wds m) j) := ⟨_, rfl⟩
      have hz' : decide (gd (wds n) j < gd (wds m) j) = z := hz.symm
      have HZ : Hid ((if gd (wds n) j < gd (wds m) j then (1 : Int) else -1) = if z then 1 else -1) := by show _ = _; rw [hz]; by_cases h : gd (wds n) j < gd (wds m) j <;> simp [h]
      have HNE := Lib.hid hne
      have HL : Hid (∀ A : World, A.cell? ⟨w.heap.size + 1 + 1, 0, none⟩ = some (.int .i64 (if z then 1 else -1)) → Below w.heap.size w A → CmpOut m n (w.heap.size + 1 + 1) w .ret (pre ++ [x]) A) := fun A h1 h2 =>
        ⟨⟨rfl, pre, x, rfl, HP.out, by rw [HX.out x rfl]; exact hne, by rw [HX.out x rfl, HZ.out]; exact h1⟩, h2⟩
      clear hne hz
      generalize gd (wds m) j = xm at *
      generalize gd (wds n) j = xn at *
      gi_wp2_with (refine ⟨trivial, ?_⟩; gi_at_call 47; refine (CallsIn.inRound l (callsIn_wide.2 (sign_any z _))).mono ?_; rintro e w' ⟨rfl, rfl⟩)
      · have hz3 : z = true := by assumption
        exact ⟨KeepsOthers.setCell _ _ _, HL.out _ (by rw [hz3]; exact set_cell k4) (HBW.out.setCell (p := ⟨w.heap.size + 1 + 1, 0, none⟩) (by show w.heap.size ≤ w.heap.size + 1 + 1; omega) _)⟩
      · have hz3 : z = false := by (first | assumption | (cases z <;> simp_all))
        exact ⟨KeepsOthers.setCell _ _ _, HL.out _ (by rw [hz3]; exact set_cell k4) (HBW.out.setCell (p := ⟨w.heap.size + 1 + 1, 0, none⟩) (by show w.heap.size ≤ w.heap.size + 1 + 1; omega) _)⟩
  case done =>
    rintro D ys W hD rfl ⟨hp, hB⟩ hK
    have hU : Upd [] w0 W := Upd.of_below hB
    have k4 : W.cell? ⟨w.heap.size + 1 + 1, 0, none⟩ = some (.int .i64 0) := (hU.cell (p := ⟨w.heap.size + 1 + 1, 0, none⟩) (by show w.heap.size + 1 + 1 < _; omega) (by simp)).trans hc4
    have f4 : W.frozen? ⟨w.heap.size + 1 + 1, 0, none⟩ = false := (hU.frozen (p := ⟨w.heap.size + 1 + 1, 0, none⟩) (by show w.heap.size + 1 + 1 < _; omega) (by simp)).trans hf4
    have HV : Hid (cmpN m n = 0) := cmp_all m n HEQ.out (fun j hj => by
      have := hp ⟨(wds m).length - 1 - j, by omega⟩ (by rw [upto_all]; simp)
      simp only [show (wds m).length - 1 - ((wds m).length - 1 - j) = j by omega] at this
      exact this)
    have HBW : Hid (Below w.heap.size w W) := (HU0.out.trans0 hU).below
    have HK := Lib.hid hK
    clear hp hB hU hc2 hc3 hc4 hf4 hb5 hK
    gi_wp2
    have hK' := (KeepsOthers.setCell W ⟨w.heap.size + 1 + 1, 0, none⟩ (.int .i64 0)).same D _ HK.out rfl
    refine ⟨by simp, .inl ⟨_, _, rfl, run_takeDeferred hK', ?_⟩⟩
    have hc5 := cell_kept (set_cell (y := .int .i64 0) k4) (grownBy_putObj' _ D (.deferred none)) (fun r e => by cases e; exact ⟨_, hK', rfl⟩)
    refine ⟨.int .i64 0, by simp [results, Tryd.f24, go_sem, hc5], by rw [HV.out], Upd.of_below ((HBW.out.setCell (p := ⟨w.heap.size + 1 + 1, 0, none⟩) (by show w.heap.size ≤ w.heap.size + 1 + 1; omega) _).trans (belowK_b (w := w) (Nat.le_refl _) _ D _ _ (by omega) hK' rfl rfl))⟩
  case stop =>
    rintro D c pre W hD ⟨k, hk, rfl⟩ ⟨⟨rfl, ini, last, e1, e2, e3, hcr⟩, hB⟩ hK
    have hg := good_upto (n := (wds m).length) hk
    rw [e1] at hg
    obtain ⟨⟨k', hk', rfl⟩, hlast⟩ := good_snoc hg
    rw [upto_length hk'] at hlast
    have hll := last.isLt
    have HV : Hid (cmpN m n = if gd (wds n) ((wds m).length - 1 - last.val) < gd (wds m) ((wds m).length - 1 - last.val) then 1 else -1) :=
      cmp_above m n ((wds m).length - 1 - last.val) HEQ.out (by omega) (fun j h1 h2 => by
        have := e2 ⟨(wds m).length - 1 - j, by omega⟩ (by
          unfold upto
          rw [List.mem_take_iff_getElem]
          exact ⟨(wds m).length - 1 - j, by simp; omega, by simp⟩)
        simp only [show (wds m).length - 1 - ((wds m).length - 1 - j) = j by omega] at this
        exact this) e3
    have HK := Lib.hid hK
    have HBW := Lib.hid hB
    have HCR := Lib.hid hcr
    clear hcr hK hB e1 e2 e3 hg hlast hc2 hc3 hc4 hf4 hb5
    gi_wp2
    refine ⟨by simp, .inl ⟨_, _, rfl, run_takeDeferred HK.out, ?_⟩⟩
    have hc5 := cell_kept HCR.out (grownBy_putObj' _ D (.deferred none)) (fun r e => by cases e; exact ⟨_, HK.out, rfl⟩)
    refine ⟨.int .i64 (if gd (wds n) ((wds m).length - 1 - last.val) < gd (wds m) ((wds m).length - 1 - last.val) then 1 else -1), by simp [results, Tryd.f24, go_sem, hc5], by rw [HV.out], Upd.of_below (HBW.out.trans (belowK_b (w := w) (Nat.le_refl _) W D _ _ (by omega) HK.out rfl rfl))⟩

/-- Cmp: -1, 0, 1. -/
theorem cmp_any (u v : Value) (m n : Nat) (w : World) (hu : NV w u m) (hv : NV w v n) (hlen : (wds m).length ≤ 1099511627776) :
    Calls Tryd.prog 24 #[u, v] w fun e w' => e = .returned (.int .i64 (cmpN m n)) ∧ Upd [] w w' := by
  by_cases h : (wds m).length = (wds n).length
  · exact cmp_same u v m n w hu hv h hlen
  · exact cmp_len u v m n w hu hv h

theorem cmpN_lt {m n : Nat} (h : m < n) : cmpN m n = -1 := by unfold cmpN; rw [if_pos h]
theorem cmpN_ge {m n : Nat} (h : n ≤ m) : decide (cmpN m n < 0) = false := by unfold cmpN; rw [if_neg (by omega)]; split <;> rfl

end Go.Proofs.YtoklmfmoblkfcaaDoor

/- Whole numbers held against one another. -/
namespace Go.Proofs.YtoklmfmoblkfcaaDoor

/-- How two whole numbers compare. -/
def cmpZ (x y : Int) : Int := if x < y then -1 else if x = y then 0 else 1
end Go.Proofs.YtoklmfmoblkfcaaDoor
