/- Texts that belong together, joined: Base Base2 Base3 NatWds. -/
import Derived.WalkKit
import Derived.Deep.QuietTactic
import Derived.BigQuiet
import Derived.StillTailTactics
import Derived.Lib.Hide
import Derived.Laws.CopyOwn
import Derived.OpenShut
import Derived.Laws.Rows
/- Plain words on memory for the walks: what a call may change ('Upd'), slices that read as lists ('Sl'), append onto a row of the call's own from any such slice. Imports nothing of the program. -/
namespace Go.Proofs.Tm
open Go.RowKit
set_option linter.unusedVariables false
set_option maxRecDepth 20000

theorem ret_int {k : IntKind} {a b : Int} (h : a = b) : Ending.returned (.int k a) = .returned (.int k b) := by rw [h]
theorem ret_bool {a b : Bool} (h : a = b) : Ending.returned (.bool a) = .returned (.bool b) := by rw [h]

/-- From w to w' only the old blocks in S may have turned; new blocks may have come. -/
structure Upd (S : List Nat) (w w' : World) : Prop where
  os : w'.os = w.os
  tape : w'.tape = w.tape
  output : w'.output = w.output
  size : w.heap.size ≤ w'.heap.size
  block : ∀ k, k < w.heap.size → k ∉ S → w'.heap[k]? = w.heap[k]?

theorem Upd.refl (S : List Nat) (w : World) : Upd S w w := ⟨rfl, rfl, rfl, Nat.le_refl _, fun _ _ _ => rfl⟩

theorem Upd.trans {S T : List Nat} {a b c : World} (h : Upd S a b) (k : Upd T b c) (hT : ∀ x, x ∈ T → x ∈ S ∨ a.heap.size ≤ x) : Upd S a c :=
  ⟨k.os.trans h.os, k.tape.trans h.tape, k.output.trans h.output, Nat.le_trans h.size k.size, fun i hi hn =>
    (k.block i (Nat.lt_of_lt_of_le hi h.size) (fun hm => by rcases hT i hm with h1 | h1; exact hn h1; omega)).trans (h.block i hi hn)⟩

theorem Upd.trans0 {a b c : World} (h : Upd [] a b) (k : Upd [] b c) : Upd [] a c := h.trans k (fun _ hx => nomatch hx)

theorem Upd.mono {S T : List Nat} {a b : World} (h : Upd S a b) (hT : ∀ x, x ∈ S → x ∈ T) : Upd T a b :=
  ⟨h.os, h.tape, h.output, h.size, fun i hi hn => h.block i hi (fun hm => hn (hT i hm))⟩

/-- Blocks that were not there yet need not be named. -/
theorem Upd.narrow {S T : List Nat} {a b : World} (h : Upd S a b) (hT : ∀ x, x ∈ S → x ∈ T ∨ a.heap.size ≤ x) : Upd T a b :=
  ⟨h.os, h.tape, h.output, h.size, fun i hi hn => h.block i hi (fun hm => by rcases hT i hm with h1 | h1; exact hn h1; omega)⟩

theorem Upd.drew {S : List Nat} {a w : World} (h : Upd S a w) : Upd S a w.drew := ⟨h.os, h.tape, h.output, h.size, h.block⟩
theorem Upd.drewN {S : List Nat} {a w : World} (h : Upd S a w) (n : Nat) : Upd S a (w.drewN n) := ⟨h.os, h.tape, h.output, h.size, h.block⟩

theorem Upd.alloc {S : List Nat} {a w : World} (h : Upd S a w) (o : Obj) : Upd S a (w.alloc o) :=
  ⟨h.os, h.tape, h.output, Nat.le_trans h.size (by simp), fun k hk hn => (Below.heap_alloc _ _ _ (Nat.lt_of_lt_of_le hk h.size)).trans (h.block k hk hn)⟩

theorem Upd.setCell {S : List Nat} {a w : World} (h : Upd S a w) {p : Addr} (hp : p.block ∈ S ∨ a.heap.size ≤ p.block) (u : Value) : Upd S a (w.setCell p u) :=
  ⟨h.os, h.tape, h.output, by simpa [World.setCell] using h.size, fun k hk hn => (Below.heap_setCell _ _ _ _ (fun e => by subst e; rcases hp with h1 | h1; exact hn h1; omega)).trans (h.block k hk hn)⟩

theorem Upd.grown {S : List Nat} {a w w' : World} {row : Option Nat} (h : Upd S a w) (hg : w.grownBy w' row) (hr : ∀ k, row = some k → k ∈ S ∨ a.heap.size ≤ k) : Upd S a w' :=
  ⟨hg.os.trans h.os, hg.tape.trans h.tape, hg.output.trans h.output, Nat.le_trans h.size hg.size, fun k hk hn =>
    (hg.block k (Nat.lt_of_lt_of_le hk h.size) (fun e => by rcases hr k e.symm with h1 | h1; exact hn h1; omega)).trans (h.block k hk hn)⟩

theorem Upd.of_grown {w w' : World} {row : Option Nat} (hg : w.grownBy w' row) : Upd row.toList w w' :=
  (Upd.refl _ w).grown hg (fun k hk => by subst hk; simp)

theorem Upd.below {w w' : World} (h : Upd [] w w') : Below w.heap.size w w' := ⟨h.os, h.tape, h.output, h.size, fun k hk => h.block k hk (by simp)⟩

theorem Upd.of_below {w w' : World} (h : Below w.heap.size w w') : Upd [] w w' := ⟨h.os, h.tape, h.output, h.size, fun k hk _ => h.block k hk⟩

theorem Upd.cell {S : List Nat} {w w' : World} (h : Upd S w w') {p : Addr} (hp : p.block < w.heap.size) (hn : p.block ∉ S) : w'.cell? p = w.cell? p := World.cell?_of_block (w := w) (h.block p.block hp hn)
theorem Upd.frozen {S : List Nat} {w w' : World} (h : Upd S w w') {p : Addr} (hp : p.block < w.heap.size) (hn : p.block ∉ S) : w'.frozen? p = w.frozen? p := World.frozen?_of_block (w := w) (h.block p.block hp hn)

/-- What a call owns stays owned. -/
theorem ownsRow_upd {w w' : World} {S : List Nat} {base : Nat} {e : TypeId} {size : Nat} {v : Value} {n : Nat} {xs : List Value} (h : w.ownsRow base e size v n xs) (u : Upd S w w') (hn : ∀ k, v.ownBlock = some k → k ∉ S) : w'.ownsRow base e size v n xs := by
  refine ⟨h.1, ?_⟩
  rcases h.2 with h2 | ⟨g, cap, cur, rfl, hb, hg, rest⟩
  · exact .inl h2
  · refine .inr ⟨g, cap, cur, rfl, hb, ?_, rest⟩
    rw [u.block g (Array.getElem?_eq_some_iff.1 hg).1 (hn g rfl)]
    exact hg

theorem ownsRow_base {w : World} {base base' : Nat} {e : TypeId} {size : Nat} {v : Value} {n : Nat} {xs : List Value} (h : w.ownsRow base e size v n xs) (hb : base' ≤ base) : w.ownsRow base' e size v n xs := by
  refine ⟨h.1, ?_⟩
  rcases h.2 with h2 | ⟨g, cap, cur, hv, hg, rest⟩
  · exact .inl h2
  · exact .inr ⟨g, cap, cur, hv, Nat.le_trans hb hg, rest⟩

/-- A slice of one-cell elements that reads as the list xs; nothing is said of its spare room. -/
def Sl (w : World) (v : Value) (xs : List Value) : Prop :=
  ∃ a cap, v = .slice a xs.length cap ∧ xs.length ≤ cap ∧ cap ≤ maxLen ∧ (xs ≠ [] → ∃ b o, a = some ⟨b, o, none⟩ ∧ ∀ i, i < xs.length → w.cell? ⟨b, o + i, none⟩ = xs[i]?)

theorem Sl.nil (w : World) : Sl w (.slice none 0 0) [] := ⟨none, 0, rfl, Nat.le_refl _, by simp [maxLen], fun h => absurd rfl h⟩

theorem Sl.own {w : World} {base : Nat} {e : TypeId} {v : Value} {n : Nat} {xs : List Value} (h : w.ownsRow base e 1 v n xs) : Sl w v xs := by
  have hl : xs.length = n := by simpa using h.1
  rcases h.2 with ⟨rfl, rfl⟩ | ⟨g, cap, cur, rfl, _, hg, hn, hm, hs, ht⟩
  · obtain rfl : xs = [] := List.eq_nil_of_length_eq_zero hl
    exact Sl.nil w
  · refine ⟨some ⟨g, 0, none⟩, cap, by rw [hl], by omega, hm, fun _ => ⟨g, 0, rfl, fun i hi => ?_⟩⟩
    have := h.cellAt i (by omega)
    simpa using this

theorem Sl.len_le {w : World} {v : Value} {xs : List Value} (h : Sl w v xs) : xs.length ≤ maxLen := by
  obtain ⟨a, cap, _, h1, h2, _⟩ := h; omega

theorem Sl.block_lt {w : World} {v : Value} {xs : List Value} (h : Sl w v xs) (hx : xs ≠ []) : ∀ k, v.ownBlock = some k → k < w.heap.size := by
  intro k hk
  obtain ⟨a, cap, rfl, h1, h2, h3⟩ := h
  obtain ⟨b, o, rfl, hc⟩ := h3 hx
  have hp : 0 < xs.length := List.length_pos_iff.2 hx
  have := hc 0 hp
  rw [List.getElem?_eq_getElem hp] at this
  have := World.block_lt_of_cell? w _ this
  simp [Value.ownBlock] at hk
  subst hk
  exact this

theorem Sl.upd {w w' : World} {S : List Nat} {v : Value} {xs : List Value} (h : Sl w v xs) (u : Upd S w w') (hn : xs ≠ [] → ∀ k, v.ownBlock = some k → k ∉ S) : Sl w' v xs := by
  have hlt := h.block_lt
  obtain ⟨a, cap, rfl, h1, h2, h3⟩ := h
  refine ⟨a, cap, rfl, h1, h2, fun hx => ?_⟩
  obtain ⟨b, o, rfl, hc⟩ := h3 hx
  refine ⟨b, o, rfl, fun i hi => ?_⟩
  rw [u.cell (p := ⟨b, o + i, none⟩) (hlt hx b rfl) (hn hx b rfl)]
  exact hc i hi

theorem Sl.upd0 {w w' : World} {v : Value} {xs : List Value} (h : Sl w v xs) (u : Upd [] w w') : Sl w' v xs := h.upd u (fun _ _ _ => by simp)

/-- The slice's own shape, for a walk. -/
theorem Sl.open {w : World} {v : Value} {xs : List Value} (h : Sl w v xs) : ∃ a cap, v = .slice a xs.length cap ∧ xs.length ≤ cap ∧ cap ≤ maxLen ∧ (xs ≠ [] → ∃ b o, a = some ⟨b, o, none⟩ ∧ ∀ i, i < xs.length → w.cell? ⟨b, o + i, none⟩ = xs[i]?) := h

/-- A literal of one element, just made. -/
theorem Sl.lit1 (w : World) (x : Value) (e : TypeId) : Sl (w.alloc (.cells #[x] e)) (.slice (some ⟨w.heap.size, 0, none⟩) 1 1) [x] :=
  ⟨_, 1, rfl, Nat.le_refl _, by simp [maxLen], fun _ => ⟨w.heap.size, 0, rfl, fun i hi => by
    obtain rfl : i = 0 := by simpa using hi
    rw [World.cell?_alloc_at _ _ _ _ rfl]; rfl⟩⟩

/-- Behind an append the row is the old one, or a new one. -/
def Fresh (w : World) (v v' : Value) : Prop := v'.ownBlock = v.ownBlock ∨ ∃ k, v'.ownBlock = some k ∧ w.heap.size ≤ k

/-- 'append(v, ys...)': v of the call's own, ys any slice that can be read (nil, too). -/
theorem run_append_sl {P : Program} (w : World) (t ty : TypeId)
    (base : Nat) (e : TypeId) (z : Value) (bytes : Nat) (ht : P.underlying t = some (.slice e)) (hinfo : (P.info? e).map (fun i => (i.zero, i.size, i.bytes)) = some (some z, 1, bytes)) (hzs : z.cells.size = 1)
    (v : Value) (n : Nat) (xs : List Value) (hown : w.ownsRow base e 1 v n xs)
    (u : Value) (ys : List Value) (hy : Sl w u ys) (h1 : ∀ y ∈ ys, y.oneCell' = true)
    (h63 : n + ys.length ≤ maxLen) (hbytes : (n + ys.length) * bytes ≤ 140737488355328) (hbase : base ≤ w.heap.size) :
    ∃ v' w', (Builtin.append_ #[t, t] ty #[v, u]).run P w = .ok v' w' ∧ w'.ownsRow base e 1 v' (n + ys.length) (xs ++ ys) ∧ w.grownBy w' v.ownBlock ∧ Fresh w v v' := by
  obtain ⟨i, hi, hz, hsz, hby⟩ := info_parts hinfo
  obtain ⟨ad, cap, rfl, hl, hm, hc⟩ := hy
  have hxl : xs.length = n := by simpa using hown.1
  cases ad with
  | none =>
    have hys : ys = [] := by
      cases ys with
      | nil => rfl
      | cons y ys => obtain ⟨b, o', hb, _⟩ := hc (by simp); cases hb
    subst hys
    refine ⟨v, w, ?_, by simpa using hown, World.grownBy.refl _ _, .inl rfl⟩
    rcases hown.2 with ⟨rfl, _⟩ | ⟨g, cap', cur, rfl, _, _, hnc, _⟩
    · simp [Builtin.append_, run_underlying ht, sizeOf, typeInfo, hi, Builtin.lenOf, Builtin.firstCells]
    · simp [Builtin.append_, run_underlying ht, sizeOf, typeInfo, hi, Builtin.lenOf, Builtin.firstCells, hnc, storeCells]
  | some ad =>
    have hnews : ∀ j y, ys[j]? = some y → w.cell? (ad.add j) = some y := by
      intro j y hj
      have hjl : j < ys.length := (List.getElem?_eq_some_iff.1 hj).1
      have hne : ys ≠ [] := by intro he; subst he; simp at hjl
      obtain ⟨b, o', hb, hcell⟩ := hc hne
      obtain rfl : ad = ⟨b, o', none⟩ := by simpa using hb
      have hadd : (⟨b, o', none⟩ : Addr).add j = ⟨b, o' + j, none⟩ := by unfold Addr.add; split <;> simp_all
      rw [hadd, hcell j hjl, hj]
    rcases hown.2 with ⟨rfl, hn⟩ | ⟨g, cap', cur, rfl, hbg, hg, hnc, _⟩
    · have hown2 : w.ownsRow w.heap.size e 1 (.slice none 0 0) n xs := ⟨hown.1, .inl ⟨rfl, hn⟩⟩
      obtain ⟨v', w', hr, ho, hgr, _⟩ := run_append_own (P := P) w w.heap.size t ty e i z 1 bytes ht hi hz hsz hby hzs (by decide) _ n xs hown2 ad ys.length cap ys (by simp) hnews h1 h63 hbytes (Nat.le_refl _)
      refine ⟨v', w', hr, ownsRow_base ho hbase, hgr, ?_⟩
      cases hv : v'.ownBlock with
      | none => exact .inl (by rw [hv]; rfl)
      | some k =>
        rcases ho.2 with ⟨rfl, _⟩ | ⟨g, cap, cur, rfl, hb, _⟩
        · simp [Value.ownBlock] at hv
        · simp [Value.ownBlock] at hv; subst hv; exact .inr ⟨_, rfl, hb⟩
    · by_cases hroom : n + ys.length ≤ cap'
      · obtain ⟨w', hr, ho, hgr⟩ := run_append_fits (P := P) (ty := ty) w base t e i 1 ht hi hsz g n cap' xs hown ad ys.length cap ys (by simp) hnews h1 hroom
        exact ⟨_, w', hr, ho, hgr, .inl rfl⟩
      · obtain ⟨v', w', hr, ho, hgr⟩ := run_append_arg_grows (P := P) w t ty e i z 1 bytes ht hi hz hsz hby hzs (by decide) ⟨g, 0, none⟩ n cap' xs (by simpa using hxl)
            (hown.cells (g := g) rfl) ad ys.length cap ys (by simp) hnews (by omega) h63 hbytes
        refine ⟨v', w', hr, ownsRow_base ho hbase, ⟨hgr.os, hgr.tape, hgr.output, hgr.size, fun k hk _ => hgr.block k hk (by simp)⟩, ?_⟩
        rcases ho.2 with ⟨rfl, h0⟩ | ⟨g', cap, cur, rfl, hb, _⟩
        · simp only [maxLen] at *; omega
        · exact .inr ⟨_, rfl, hb⟩

theorem wpList_append_sl {P : Program} (w : World) {ops : Array Oper} {rest : List Oper} {o : Oper} {a : Act} {Q : Exit → Act → World → Prop} (hgd : o.guard = none) (s x : Operand) (t : TypeId)
    (ho : o.op = .call { callee := .builtin .append, args := #[s, x], argTypes := #[t, t] })
    (base : Nat) (e : TypeId) (z : Value) (bytes : Nat) (ht : P.underlying t = some (.slice e)) (hinfo : (P.info? e).map (fun i => (i.zero, i.size, i.bytes)) = some (some z, 1, bytes)) (hzs : z.cells.size = 1)
    (v : Value) (n : Nat) (xs : List Value) (hs : a.eval s = v) (hown : w.ownsRow base e 1 v n xs)
    (u : Value) (ys : List Value) (hx : a.eval x = u) (hy : Sl w u ys) (h1 : ∀ y ∈ ys, y.oneCell' = true)
    (h63 : n + ys.length ≤ maxLen) (hbytes : (n + ys.length) * bytes ≤ 140737488355328) (hbase : base ≤ w.heap.size)
    (h : ∀ v' w', w'.ownsRow base e 1 v' (n + ys.length) (xs ++ ys) → w.grownBy w' v.ownBlock → Fresh w v v' → wpList P ops Q rest (a.put o.dst v') w') : wpList P ops Q (o :: rest) a w := by
  obtain ⟨v', w', hr, h2, h3, h4⟩ := run_append_sl (P := P) w t o.type base e z bytes ht hinfo hzs v n xs hown u ys hy h1 h63 hbytes hbase
  refine wpList_plain hgd fun K hK => ?_
  unfold Oper.wp execOp
  simp only [ho, resolve, invoke, builtin, Sem.run_bind, Sem.run_pure, Result.andThen_ok, List.map_toArray, List.map_cons, List.map_nil, hs, hx, hr]
  exact hK _ _ (h v' w' h2 h3 h4)

/-- 'copy(d, u)' onto a row of the call's own from its head on, from any slice that can be read. -/
theorem wpList_copy_sl {P : Program} (w : World) {ops : Array Oper} {rest : List Oper} {o : Oper} {a : Act} {Q : Exit → Act → World → Prop} (hgd : o.guard = none) (d s : Operand) (t : TypeId)
    (ho : o.op = .call { callee := .builtin .copy, args := #[d, s], argTypes := #[t, t] }) (base : Nat) (e : TypeId) (hu : P.underlying t = some (.slice e)) (hsz : (P.info? e).map (·.size) = some 1)
    (dv : Value) (n : Nat) (xs : List Value) (hd : a.eval d = dv) (hown : w.ownsRow base e 1 dv n xs) (u : Value) (ys : List Value) (hs : a.eval s = u) (hy : Sl w u ys) (h1 : ∀ y ∈ ys, y.oneCell' = true)
    (h : ∀ w', w'.ownsRow base e 1 dv n (ys.take n ++ xs.drop ys.length) → w.grownBy w' dv.ownBlock → wpList P ops Q rest (a.put o.dst (goInt (Nat.min ys.length n))) w') : wpList P ops Q (o :: rest) a w := by
  have hxl : xs.length = n := by simpa using hown.1
  obtain ⟨sp, scap, rfl, hl, hm, hc⟩ := hy
  by_cases h0 : Nat.min ys.length n = 0
  · have hres : ys.take n ++ xs.drop ys.length = xs := by
      rcases (by simpa [Nat.min_def] using h0 : _) with h0
      by_cases hy0 : ys.length = 0
      · have : ys = [] := List.eq_nil_of_length_eq_zero hy0
        subst this; simp
      · have hn0 : n = 0 := by
          by_cases hle : ys.length ≤ n
          · have : Nat.min ys.length n = ys.length := Nat.min_eq_left hle
            omega
          · have : Nat.min ys.length n = n := Nat.min_eq_right (by omega)
            omega
        subst hn0
        have : xs = [] := List.eq_nil_of_length_eq_zero hxl
        subst this; simp
    have hdv : ∃ dp dc, dv = .slice dp n dc := by
      rcases hown.2 with ⟨rfl, rfl⟩ | ⟨g, cap, cur, rfl, _⟩
      · exact ⟨none, 0, rfl⟩
      · exact ⟨_, cap, rfl⟩
    obtain ⟨dp, dc, rfl⟩ := hdv
    refine wpList_copy_nothing hgd d s t t ho e hu hsz dp sp n dc ys.length scap hd hs h0 ?_
    have := h w (by rw [hres]; exact hown) (World.grownBy.refl _ _)
    rw [h0] at this
    exact this
  · have hyne : ys ≠ [] := by rintro rfl; simp at h0
    obtain ⟨b, off, rfl, hcell⟩ := hc hyne
    rcases hown.2 with ⟨rfl, rfl⟩ | ⟨g, cap, cur, rfl, hb, hg, hnc, hcm, hcs, htake⟩
    · simp at h0
    · have hln : (ys.take n).length = Nat.min ys.length n := by simp [Nat.min_comm]
      refine wpList_copy_own hgd d s t t ho e hu hsz g 0 n cap ⟨b, off, none⟩ ys.length scap hd hs cur e hg (ys.take n) hln ?_ (by rw [hln, show Nat.min ys.length n = min ys.length n from rfl]; omega) (fun v hv => h1 v (List.mem_of_mem_take hv)) ?_
      · intro j v hj
        have hjl : j < (ys.take n).length := (List.getElem?_eq_some_iff.1 hj).1
        have hadd : (⟨b, off, none⟩ : Addr).add j = ⟨b, off + j, none⟩ := by unfold Addr.add; split <;> simp_all
        rw [hadd, hcell j (by simp at hjl; omega), ← hj, List.getElem?_take]
        simp at hjl
        rw [if_pos (by omega)]
      · rw [hln]
        refine h _ ⟨by simp; omega, .inr ⟨g, cap, _, rfl, hb, setRow_heap w g cur _ e _ hg, hnc, hcm, ?_, ?_⟩⟩ ⟨rfl, rfl, rfl, by simp [World.setRow], fun k _ hk => setRow_other w g k _ (fun e => hk (by simp [Value.ownBlock, e]))⟩
        · simp only [show Nat.min ys.length n = min ys.length n from rfl, List.size_toArray, List.length_append, List.length_take, List.length_drop, Array.length_toList]; omega
        · simp only [List.take_zero, List.nil_append, Nat.zero_add, Nat.mul_one] at htake ⊢
          rw [← htake]
          apply List.ext_getElem?
          intro i
          rw [List.getElem?_take]
          by_cases hi : i < n
          · rw [if_pos hi, List.getElem?_append, List.getElem?_append]
            split
            · rfl
            · rename_i hge
              simp only [List.length_take, List.getElem?_drop, List.getElem?_take] at hge ⊢
              have hmm : Nat.min ys.length n = ys.length := by
                by_cases hle : ys.length ≤ n
                · exact Nat.min_eq_left hle
                · exfalso; omega
              have hmm' : min n ys.length = ys.length := by rw [Nat.min_comm]; exact hmm
              rw [hmm', hmm, if_pos (by omega)]
          · rw [if_neg hi, List.getElem?_eq_none]
            simp only [List.length_append, List.length_take, List.length_drop]
            omega

end Go.Proofs.Tm

/- More plain words on memory: arguments that came in, as lists. -/
namespace Go.Proofs.Tm
open Go.RowKit
set_option linter.unusedVariables false
set_option maxRecDepth 20000

/-- A slice of integers that came in (the rows' own form), as a list. -/
theorem sl_of_isrow {k : IntKind} {w : World} {a : Option Addr} {len cap : Nat} {zs : List Int}
    (h : (a = none ∧ len = 0 ∧ cap = 0 ∧ zs = []) ∨ ∃ x : Addr, a = some x ∧ len ≤ cap ∧ cap ≤ maxLen ∧ zs.length = cap ∧ (∀ i, i < zs.length → w.cell? (x.add i) = some (.int k (zs.getD i 0))) ∧ ∀ n ∈ zs, (Lit.int k n).wf = true) :
    ∃ ys : List Int, ys.length = len ∧ len ≤ maxLen ∧ Sl w (.slice a len cap) (ys.map (Value.int k)) ∧ ∀ n ∈ ys, (Lit.int k n).wf = true := by
  rcases h with ⟨rfl, rfl, rfl, rfl⟩ | ⟨x, rfl, hl, hm, hz, hc, hw⟩
  · exact ⟨[], rfl, by simp [maxLen], Sl.nil w, by simp⟩
  · have hlen : (zs.take len).length = len := by simp; omega
    refine ⟨zs.take len, hlen, by omega, ⟨some x, cap, by rw [List.length_map, hlen], by rw [List.length_map, hlen]; omega, hm, fun hne => ?_⟩, fun n hn => hw n (List.mem_of_mem_take hn)⟩
    have hpos : 0 < len := by
      rcases Nat.eq_zero_or_pos len with h0 | h0
      · subst h0; simp at hne
      · exact h0
    obtain ⟨b, off, spot⟩ := x
    have hc0 := hc 0 (by omega)
    have hspot : spot = none := by simpa [Addr.add] using World.cell?_spot hc0
    subst hspot
    refine ⟨b, off, rfl, fun i hi => ?_⟩
    simp only [List.length_map, hlen] at hi
    have hadd : (⟨b, off, none⟩ : Addr).add i = ⟨b, off + i, none⟩ := by unfold Addr.add; split <;> simp_all
    rw [← hadd, hc i (by omega)]
    simp [hi, show i < zs.length by omega]

/-- Bytes are natural numbers below 256. -/
theorem u8_nats (ys : List Int) (h : ∀ n ∈ ys, (Lit.int .u8 n).wf = true) : ∃ bs : List Nat, ys.map (Value.int .u8) = bs.map (fun (b : Nat) => Value.int .u8 (b : Int)) ∧ bs.length = ys.length ∧ ∀ b ∈ bs, b < 256 := by
  refine ⟨ys.map Int.toNat, ?_, by simp, ?_⟩
  · rw [List.map_map]
    refine List.map_congr_left fun n hn => ?_
    have := bounds_u8 (h n hn)
    simp only [Function.comp]
    congr 1
    omega
  · intro b hb
    obtain ⟨n, hn, rfl⟩ := List.mem_map.1 hb
    have := bounds_u8 (h n hn)
    omega

end Go.Proofs.Tm

/- More plain words on memory: whole rows. -/
namespace Go.Proofs.Tm
open Go.RowKit
set_option linter.unusedVariables false
set_option maxRecDepth 20000

theorem Upd.setRow {S : List Nat} {a w : World} (h : Upd S a w) {g : Nat} (hp : g ∈ S ∨ a.heap.size ≤ g) (cs : Array Value) : Upd S a (w.setRow g cs) :=
  ⟨h.os, h.tape, h.output, by simpa using h.size, fun k hk hn => (setRow_other w g k cs (by rintro rfl; rcases hp with h1 | h1; exact hn h1; omega)).trans (h.block k hk hn)⟩

theorem all_one_of {arr : Array Value} {n : Nat} {k : IntKind} (f : Nat → Int) (hs : arr.size = n) (h : ∀ i, i < n → arr[i]? = some (.int k (f i))) : arr.all (·.oneCell') = true := by
  rw [Array.all_eq_true]
  intro i hi
  have := h i (by omega)
  rw [Array.getElem?_eq_getElem hi] at this
  have e : arr[i] = .int k (f i) := by simpa using this
  rw [e]; rfl

/-- A literal of elements of one cell is the call's own row. -/
theorem own_lit (w : World) (e : TypeId) (xs : Array Value) (hm : xs.size ≤ maxLen) :
    (w.alloc (.cells xs e)).ownsRow w.heap.size e 1 (.slice (some ⟨w.heap.size, 0, none⟩) xs.size xs.size) xs.size xs.toList :=
  ⟨by simp, .inr ⟨w.heap.size, xs.size, xs, rfl, Nat.le_refl _, heap_alloc_new w _, Nat.le_refl _, hm, by simp, by simp [List.take_of_length_le]⟩⟩

theorem own_ex {w : World} {base : Nat} {e : TypeId} {v : Value} {n : Nat} {xs : List Value} (h : w.ownsRow base e 1 v n xs) : ∃ a cap, v = .slice a n cap := by
  rcases h.2 with ⟨rfl, rfl⟩ | ⟨g, cap, _, rfl, _⟩
  · exact ⟨none, 0, rfl⟩
  · exact ⟨_, cap, rfl⟩

/-- The same, at an operation that a region draws. -/
theorem step_append_sl {P : Program} (w : World) {ops : Array Oper} {o : Oper} {a : Act} {K : Act → World → Prop} {Q : Exit → Act → World → Prop} {E : Prop} (hgd : o.guard = none) (s x : Operand) (t : TypeId)
    (ho : o.op = .call { callee := .builtin .append, args := #[s, x], argTypes := #[t, t] })
    (base : Nat) (e : TypeId) (z : Value) (bytes : Nat) (ht : P.underlying t = some (.slice e)) (hinfo : (P.info? e).map (fun i => (i.zero, i.size, i.bytes)) = some (some z, 1, bytes)) (hzs : z.cells.size = 1)
    (v : Value) (n : Nat) (xs : List Value) (hs : a.eval s = v) (hown : w.ownsRow base e 1 v n xs)
    (u : Value) (ys : List Value) (hx : a.eval x = u) (hy : Sl w u ys) (h1 : ∀ y ∈ ys, y.oneCell' = true)
    (h63 : n + ys.length ≤ maxLen) (hbytes : (n + ys.length) * bytes ≤ 140737488355328) (hbase : base ≤ w.heap.size)
    (h : ∀ v' w', w'.ownsRow base e 1 v' (n + ys.length) (xs ++ ys) → w.grownBy w' v.ownBlock → Fresh w v v' → K (a.put o.dst v') w') :
    if Region.wanted o (yielded ops a.tmps) = true then Oper.wp P o a w K Q else E := by
  have hw : Region.wanted o (yielded ops a.tmps) = true := by simp [Region.wanted, hgd]
  rw [if_pos hw]
  obtain ⟨v', w', hr, h2, h3, h4⟩ := run_append_sl (P := P) w t o.type base e z bytes ht hinfo hzs v n xs hown u ys hy h1 h63 hbytes hbase
  unfold Oper.wp execOp
  simp only [ho, resolve, invoke, builtin, Sem.run_bind, Sem.run_pure, Result.andThen_ok, List.map_toArray, List.map_cons, List.map_nil, hs, hx, hr]
  exact h v' w' h2 h3 h4

theorem madeCells_one (z : Value) (hz : z.cells = #[z]) (c : Nat) : (madeCells z.cells c).toList = List.replicate c z := by
  rw [hz]
  apply List.ext_getElem
  · simp [madeCells]
  · intro i h1 h2
    simp [madeCells, Nat.mod_one]

/-- 'make([]T, n, c)': n zero elements of one cell are owned; there is room for c. -/
theorem wpList_make_lc {P : Program} (w : World) {ops : Array Oper} {rest : List Oper} {o : Oper} {a : Act} {Q : Exit → Act → World → Prop}
    (hg : o.guard = none) (l c : Operand) (t : TypeId) (hop : o.op = Op.makeSlice t l c)
    (e : TypeId) (z : Value) (bytes : Nat) (h1 : P.underlying t = some (.slice e)) (hinfo : (P.info? e).map (fun i => (i.zero, i.size, i.bytes)) = some (some z, 1, bytes)) (hz : z.cells = #[z])
    (kl kc : IntKind) (L C : Int) (n m : Nat) (hl : a.eval l = .int kl L) (hc : a.eval c = .int kc C) (hL : L = (n : Int)) (hC : C = (m : Int)) (hnm : n ≤ m) (b2 : bytes * m ≤ 281474976710656) (b3 : m ≤ maxLen)
    (hK : ∀ w', w'.ownsRow w.heap.size e 1 (.slice (some ⟨w.heap.size, 0, none⟩) n m) n (List.replicate n z) → Upd [] w w' → w.heap.size < w'.heap.size → wpList P ops Q rest (a.put o.dst (.slice (some ⟨w.heap.size, 0, none⟩) n m)) w') :
    wpList P ops Q (o :: rest) a w := by
  refine wpList_plain hg fun K hK' => ?_
  obtain ⟨i, hi, hiz, his, hib⟩ := info_parts hinfo
  have hr := run_make (P := P) w t e i z h1 hi hiz kl kc L C (by omega) (by omega) (by rw [hib, hC, ← Int.natCast_mul]; omega) (by unfold maxLen at b3; omega)
  subst hL
  subst hC
  simp only [Int.toNat_natCast, his, Nat.mul_one] at hr
  unfold Oper.wp
  simp [execOp, hop, hl, hc, hr, Result.andThen]
  refine hK' _ _ (hK _ ⟨by simp, .inr ⟨w.heap.size, m, _, rfl, Nat.le_refl _, heap_alloc_new w _, hnm, b3, by simp [size_madeCells], ?_⟩⟩ ((Upd.refl _ _).alloc _) (by simp))
  rw [madeCells_one z hz, List.take_replicate]
  congr 1
  omega
end Go.Proofs.Tm

/- Plain mathematics of digits of base 2^64 (words): value and digits. Nothing of the program is imported. -/
namespace Go.Proofs.Tm
set_option linter.unusedVariables false
set_option maxRecDepth 20000

/-- The value of digits of base 18446744073709551616, the lowest first. -/
def wval : List Nat → Nat
  | [] => 0
  | d :: l => d + 18446744073709551616 * wval l

/-- The digits of a number: none of them 0 at the end. -/
def wds (n : Nat) : List Nat := if h : n = 0 then [] else n % 18446744073709551616 :: wds (n / 18446744073709551616)
termination_by n
decreasing_by omega

theorem wds_zero : wds 0 = [] := by rw [wds]; simp
theorem wds_pos (n : Nat) (h : n ≠ 0) : wds n = n % 18446744073709551616 :: wds (n / 18446744073709551616) := by rw [wds]; simp [h]

theorem wval_wds (n : Nat) : wval (wds n) = n := by
  induction n using Nat.strongRecOn with
  | _ n ih =>
    by_cases h : n = 0
    · subst h; rw [wds_zero]; rfl
    · rw [wds_pos n h, wval, ih (n / 18446744073709551616) (by omega)]; omega

theorem wds_lt (n : Nat) : ∀ d ∈ wds n, d < 18446744073709551616 := by
  induction n using Nat.strongRecOn with
  | _ n ih =>
    intro d hd
    by_cases h : n = 0
    · subst h; rw [wds_zero] at hd; simp at hd
    · rw [wds_pos n h] at hd
      rcases List.mem_cons.1 hd with rfl | hd
      · exact Nat.mod_lt _ (by decide)
      · exact ih _ (by omega) d hd

theorem wval_append (l m : List Nat) : wval (l ++ m) = wval l + 18446744073709551616 ^ l.length * wval m := by
  induction l with
  | nil => simp [wval]
  | cons d l ih =>
    simp only [List.cons_append, wval, ih, List.length_cons, Nat.pow_succ]
    rw [Nat.mul_add, ← Nat.mul_assoc, Nat.mul_comm 18446744073709551616 (18446744073709551616 ^ l.length)]
    omega

theorem wval_snoc (l : List Nat) (d : Nat) : wval (l ++ [d]) = wval l + 18446744073709551616 ^ l.length * d := by rw [wval_append]; simp [wval]

theorem wval_lt (l : List Nat) (h : ∀ d ∈ l, d < 18446744073709551616) : wval l < 18446744073709551616 ^ l.length := by
  induction l with
  | nil => simp [wval]
  | cons d l ih =>
    have h1 : d < 18446744073709551616 := h d (by simp)
    have h2 := ih (fun x hx => h x (by simp [hx]))
    simp only [wval, List.length_cons, Nat.pow_succ]
    omega

theorem wval_zeros (l : List Nat) (h : ∀ d ∈ l, d = 0) : wval l = 0 := by
  induction l with
  | nil => rfl
  | cons d l ih => simp only [wval]; rw [h d (by simp), ih (fun x hx => h x (by simp [hx]))]

/-- Digits without noughts at the end are the number's. -/
theorem wds_wval (l : List Nat) (h : ∀ d ∈ l, d < 18446744073709551616) (hl : ∀ d, l.getLast? = some d → d ≠ 0) : wds (wval l) = l := by
  induction l with
  | nil => exact wds_zero
  | cons d l ih =>
    have h1 : d < 18446744073709551616 := h d (by simp)
    have hv : wval (d :: l) ≠ 0 := by
      intro h0
      simp only [wval] at h0
      have hd : d = 0 := by omega
      have hl0 : wval l = 0 := by omega
      cases l with
      | nil => exact hl d rfl hd
      | cons e m =>
        have e1 := ih (fun x hx => h x (by simp [hx])) (fun x hx => hl x (by simpa [List.getLast?_cons_cons] using hx))
        rw [hl0, wds_zero] at e1
        cases e1
    rw [wds_pos _ hv]
    simp only [wval]
    rw [show (d + 18446744073709551616 * wval l) % 18446744073709551616 = d by omega, show (d + 18446744073709551616 * wval l) / 18446744073709551616 = wval l by omega]
    cases l with
    | nil => simp [wval, wds_zero]
    | cons e m => rw [ih (fun x hx => h x (by simp [hx])) (fun x hx => hl x (by simpa [List.getLast?_cons_cons] using hx))]

/-- What trim leaves. -/
theorem fit_wds (l : List Nat) (n : Nat) (h : ∀ d ∈ l, d < 18446744073709551616) (hn : n ≤ l.length) (h1 : n = 0 ∨ l[n - 1]? ≠ some 0) (h2 : ∀ j, n ≤ j → j < l.length → l[j]? = some 0) : l.take n = wds (wval l) := by
  have hz : wval (l.drop n) = 0 := wval_zeros _ (by
    intro d hd
    obtain ⟨j, hj, rfl⟩ := List.mem_iff_getElem.1 hd
    have hj' : j < l.length - n := by simpa using hj
    have := h2 (n + j) (by omega) (by omega)
    rw [List.getElem_drop]
    rw [List.getElem?_eq_getElem (by omega)] at this
    simpa using this)
  have hv : wval l = wval (l.take n) := by
    have := wval_append (l.take n) (l.drop n)
    rw [List.take_append_drop, hz] at this
    simpa using this
  rw [hv]
  refine (wds_wval (l.take n) (fun d hd => h d (List.mem_of_mem_take hd)) ?_).symm
  intro d hd
  rcases h1 with rfl | h1
  · simp at hd
  · rintro rfl
    apply h1
    rw [List.getLast?_eq_getElem?, List.length_take, Nat.min_eq_left hn] at hd
    rw [List.getElem?_take] at hd
    split at hd
    · exact hd
    · cases hd

theorem wds_length_le {m n : Nat} (h : m ≤ n) : (wds m).length ≤ (wds n).length := by
  induction n using Nat.strongRecOn generalizing m with
  | _ n ih =>
    by_cases h0 : m = 0
    · subst h0; rw [wds_zero]; simp
    · rw [wds_pos m h0, wds_pos n (by omega), List.length_cons, List.length_cons]
      exact Nat.succ_le_succ (ih (n / 18446744073709551616) (by omega) (by omega))

theorem wds_lt_of_length {m n : Nat} (h : (wds m).length < (wds n).length) : m < n := by
  rcases Nat.lt_or_ge m n with h' | h'
  · exact h'
  · have := wds_length_le h'; omega

/-- Held against one another from above: the first unlike digit tells. -/
theorem wval_cmp (a b : List Nat) (k : Nat) (x y : Nat) (ha : ∀ d ∈ a, d < 18446744073709551616) (hb : ∀ d ∈ b, d < 18446744073709551616) (hl : a.length = b.length) (hx : a[k]? = some x) (hy : b[k]? = some y) (hxy : x < y) (he : a.drop (k + 1) = b.drop (k + 1)) : wval a < wval b := by
  have hka : k < a.length := (List.getElem?_eq_some_iff.1 hx).1
  have hkb : k < b.length := (List.getElem?_eq_some_iff.1 hy).1
  have e1 : a = a.take k ++ (x :: a.drop (k + 1)) := by
    have : a[k] = x := by rw [List.getElem?_eq_getElem hka] at hx; simpa using hx
    rw [← this, ← List.drop_eq_getElem_cons hka, List.take_append_drop]
  have e2 : b = b.take k ++ (y :: b.drop (k + 1)) := by
    have : b[k] = y := by rw [List.getElem?_eq_getElem hkb] at hy; simpa using hy
    rw [← this, ← List.drop_eq_getElem_cons hkb, List.take_append_drop]
  have v1 := wval_append (a.take k) (x :: a.drop (k + 1))
  have v2 := wval_append (b.take k) (y :: b.drop (k + 1))
  rw [← e1] at v1
  rw [← e2] at v2
  have l1 : (a.take k).length = k := by simp; omega
  have l2 : (b.take k).length = k := by simp; omega
  have t1 := wval_lt (a.take k) (fun d hd => ha d (List.mem_of_mem_take hd))
  rw [l1] at v1 t1
  rw [l2] at v2
  rw [v1, v2, ← he]
  simp only [wval]
  generalize 18446744073709551616 * wval (a.drop (k + 1)) = r at *
  have : 18446744073709551616 ^ k * (x + r) + 18446744073709551616 ^ k ≤ 18446744073709551616 ^ k * (y + r) := by
    rw [← Nat.mul_succ]; exact Nat.mul_le_mul_left _ (by omega)
  omega
end Go.Proofs.Tm
