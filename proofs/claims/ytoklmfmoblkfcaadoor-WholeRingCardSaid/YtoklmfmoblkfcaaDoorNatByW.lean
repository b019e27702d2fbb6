/- The contract of nat.byWord (layer 5). -/
import Derived.Test.YtoklmfmoblkfcaaDoorAa
import Derived.Test.YtoklmfmoblkfcaaDoorNatRound
import Derived.Test.YtoklmfmoblkfcaaDoorNatDiv64
namespace Go.Proofs.YtoklmfmoblkfcaaDoor
open Go.RowKit Go.Proofs.Tm Go.Shelf
set_option linter.unusedVariables false
set_option linter.unusedSimpArgs false
set_option maxRecDepth 20000
attribute [local go_sem] Oper.semAt_some

/-- The newest block. -/
theorem alloc_nth (w : World) (c : Array Value) (t : TypeId) (k : Nat) (hk : k = w.heap.size) : (w.alloc (.cells c t)).heap[k]? = some (.cells c t (0, 0)) := by
  subst hk; exact heap_alloc_new w _

/-- Two numbers are answered. -/
def RNat2 (q r : Nat) (w : World) (e : Ending) (w' : World) : Prop := ∃ v1 v2, e = .returned (.tuple #[v1, v2]) ∧ NV w' v1 q ∧ NV w' v2 r ∧ Upd [] w w'

/-- The same; the first one's words lie in no old block. -/
def RNat2F (q r : Nat) (w : World) (e : Ending) (w' : World) : Prop := ∃ v1 v2, e = .returned (.tuple #[v1, v2]) ∧ NV w' v1 q ∧ NV w' v2 r ∧ Upd [] w w' ∧ ∀ k, nblk v1 = some k → w.heap.size ≤ k

/-- Four blocks of a call's own. -/
theorem box4 {w w1 : World} {x y z z' : Value} {t t' t'' t4 : TypeId} (u : Upd [] ((((w.alloc (.cells #[x] t)).alloc (.cells #[y] t')).alloc (.cells #[z] t'')).alloc (.cells #[z'] t4)) w1) :
    w1.heap[w.heap.size]? = some (.cells #[x] t (0, 0)) ∧ w1.heap[w.heap.size + 1]? = some (.cells #[y] t' (0, 0)) ∧ w1.heap[w.heap.size + 1 + 1]? = some (.cells #[z] t'' (0, 0)) ∧ w1.heap[w.heap.size + 1 + 1 + 1]? = some (.cells #[z'] t4 (0, 0)) ∧ Upd [] w w1 ∧ w.heap.size + 1 + 1 + 1 + 1 ≤ w1.heap.size := by
  obtain ⟨h1, h2, h3, h4, h5⟩ := box3 (((Upd.refl [] (((w.alloc (.cells #[x] t)).alloc (.cells #[y] t')).alloc (.cells #[z] t''))).alloc (.cells #[z'] t4)).trans0 u)
  refine ⟨h1, h2, h3, ?_, h4, by have := u.size; simpa using this⟩
  rw [u.block _ (by simp) (by simp)]
  have := heap_alloc_new (((w.alloc (.cells #[x] t)).alloc (.cells #[y] t')).alloc (.cells #[z] t'')) (.cells #[z'] t4)
  simpa using this

theorem ownsRow_kept {w w' : World} {base : Nat} {e : TypeId} {size : Nat} {v : Value} {n : Nat} {xs : List Value} (h : w.ownsRow base e size v n xs) (u : ∀ g, v.ownBlock = some g → w'.heap[g]? = w.heap[g]?) : w'.ownsRow base e size v n xs := by
  refine ⟨h.1, ?_⟩
  rcases h.2 with h2 | ⟨g, cap, cur, rfl, hb, hg, rest⟩
  · exact .inl h2
  · exact .inr ⟨g, cap, cur, rfl, hb, by rw [u g rfl]; exact hg, rest⟩

theorem make_run (n : Nat) (hn : n ≤ 1099511627776) (W : World) :
    (Instr.makeSlice 22 (.int .i64 (n : Int)) (.int .i64 (n : Int))).run Tryd.prog W = .ok (.slice (some ⟨W.heap.size, 0, none⟩) n n) (W.alloc (.cells (madeCells (Value.int .u64 0).cells n) 65)) := by
  obtain ⟨i, hi, hiz, his, hib⟩ := info_parts infoU64
  have hr := run_make (P := Tryd.prog) W 22 65 i (.int .u64 0) Tryd.underlying22 hi hiz .i64 .i64 (n : Int) (n : Int) (by omega) (by omega) (by rw [hib]; omega) (by omega)
  simp only [Int.toNat_natCast, his, Nat.mul_one] at hr
  exact hr
theorem made_own (n : Nat) (hn : n ≤ 1099511627776) (W : World) :
    (W.alloc (.cells (madeCells (Value.int .u64 0).cells n) 65)).ownsRow W.heap.size 65 1 (.slice (some ⟨W.heap.size, 0, none⟩) n n) n (cu64 (List.replicate n 0)) := by
  refine ⟨by simp, .inr ⟨W.heap.size, n, _, rfl, Nat.le_refl _, heap_alloc_new W _, Nat.le_refl _, by unfold maxLen; omega, by simp [size_madeCells, Value.cells], ?_⟩⟩
  rw [madeCells_one (.int .u64 0) rfl, List.take_replicate, cu64_zero]
  congr 1
  omega

theorem sl_put {w : World} {v : Value} {xs : List Value} (h : Sl w v xs) {D : Nat} {o : Obj} (hD : w.heap[D]? = some o) (ho : o.isCells = false) (o' : Obj) : Sl (w.putObj D o') v xs := by
  obtain ⟨a, cap, rfl, h1, h2, h3⟩ := h
  refine ⟨a, cap, rfl, h1, h2, fun hx => ?_⟩
  obtain ⟨b, q, rfl, hc⟩ := h3 hx
  refine ⟨b, q, rfl, fun i hi => ?_⟩
  have := hc i hi
  rw [List.getElem?_eq_getElem hi] at this ⊢
  exact cell_kept this (grownBy_putObj' _ D o') (fun r e => by cases e; exact ⟨_, hD, ho⟩)
theorem NV.put {w : World} {v : Value} {n : Nat} (h : NV w v n) {D : Nat} {o : Obj} (hD : w.heap[D]? = some o) (ho : o.isCells = false) (o' : Obj) : NV (w.putObj D o') v n := by
  obtain ⟨sv, rfl, h⟩ := h
  exact ⟨sv, rfl, sl_put h hD ho o'⟩

theorem keeps_upd {A B : World} (u : Upd [] A B) : KeepsOthers A B :=
  ⟨u.size, fun k o hk _ => (u.block k (Array.getElem?_eq_some_iff.1 hk).1 (by simp)).trans hk⟩

/-- Between two rounds of byWord. -/
structure BwI (w w0 : World) (g p ln b : Nat) (ws : List Nat) (n : Nat) (gd' : Prop) (L : List Nat) (r : Nat) (W : World) : Prop where
  own : W.ownsRow w.heap.size 65 1 (.slice (some ⟨g, 0, none⟩) ln ln) ln (cu64 L)
  len : L.length = ln
  lt : ∀ d ∈ L, d < 18446744073709551616
  rb : r < b
  cell : W.cell? ⟨p, 0, none⟩ = some (.int .u64 (r : Int))
  froz : W.frozen? ⟨p, 0, none⟩ = false
  upd : Upd [g, p] w0 W
  good : gd' → (∀ j, j < ln - n → L.getD j 0 = 0) ∧ wval (ws.drop (ln - n)) = wval (L.drop (ln - n)) * b + r

def BwIn (w w0 : World) (g p b : Nat) (ws : List Nat) (pre : List (Fin ws.length)) (W : World) : Prop :=
  ∃ L r, BwI w w0 g p ws.length b ws pre.length (Good pre) L r W

theorem BwIn.from (w w0 : World) (g p b : Nat) (ws : List Nat) (hg : g < w0.heap.size) (hp : p < w0.heap.size) : OwnFrom w0.heap.size (BwIn w w0 g p b ws) := fun s A B row hs hgr hr => by
  obtain ⟨L, r, h⟩ := hs
  have hk : ∀ k, k < w0.heap.size → B.heap[k]? = A.heap[k]? := fun k hk => hgr.block k (Nat.lt_of_lt_of_le hk h.upd.size) (fun e => by have := (hr k e.symm).1; omega)
  refine ⟨L, r, ownsRow_kept h.own (fun k e => ?_), h.len, h.lt, h.rb, (World.cell?_of_block (w := A) (hk p hp)).trans h.cell, (World.frozen?_of_block (w := A) (hk p hp)).trans h.froz, h.upd.grown hgr (fun k e => .inr (hr k e).1), h.good⟩
  simp [Value.ownBlock] at e
  subst e
  exact hk _ hg

set_option maxRecDepth 100000 in
set_option maxHeartbeats 3200000 in
theorem byWord_fresh (u : Value) (m b : Nat) (w : World) (hu : NV w u m) (hb : 0 < b) (hb2 : b < 18446744073709551616) (hlen : (wds m).length ≤ 1099511627776) :
    Calls Tryd.prog 60 #[u, .int .u64 (b : Int)] w (RNat2F (m / b) (m % b) w) := by
  obtain ⟨a, cap, rfl, hl, hcm⟩ := hu.open
  unfold maxLen at hcm
  have HA := Lib.hid hu
  have HB2 := Lib.hid hb2
  clear hu hb2
  refine (callsIn_wide (n := 3)).1 ?_
  refine callsIn_of_wp_marks Tryd.func60 rfl trivial ?_ rfl
  simp only [Tryd.ntmps60, List.size_toArray, List.length_cons, List.length_nil, Nat.reduceAdd, Nat.reduceSub, Array.replicate_succ, Array.replicate_zero, List.push_toArray, List.append_toArray, List.nil_append, List.cons_append]
  have hmk := make_run (wds m).length hlen
  gi_wp2_with (refine ⟨trivial, ?_⟩; gi_at_call 48; refine (callsIn_wide.2 (backward_any _ _ _ _)).mono ?_; rintro e w' ⟨rfl, rfl⟩)
  obtain ⟨s, hs⟩ : ∃ s, s = w.heap.size := ⟨_, rfl⟩
  obtain ⟨ws, hws⟩ : ∃ l, l = wds m := ⟨_, rfl⟩
  rw [← hws] at hl HA hlen hmk
  rw [← hs, ← hws]
  obtain ⟨w0, hw0⟩ : ∃ w0, w0 = (((((((w.alloc (.cells #[.slice a ws.length cap] 27)).alloc (.cells #[.int .u64 (b : Int)] 65)).alloc (.cells #[.slice none 0 0] 27)).alloc (.cells #[.slice none 0 0] 27)).alloc (.cells (madeCells #[.int .u64 0] ws.length) 65)).alloc (.cells #[.slice (some ⟨s + 1 + 1 + 1 + 1, 0, none⟩) ws.length ws.length] 22)).alloc (.cells #[.int .u64 0] 65)).alloc (.cells #[.slice a ws.length cap] 22) := ⟨_, rfl⟩
  have hz : w0.heap.size = s + 1 + 1 + 1 + 1 + 1 + 1 + 1 + 1 := by rw [hw0]; simp [hs]
  have hb0 : w0.heap[s]? = some (.cells #[.slice a ws.length cap] 27 (0, 0)) := by rw [hw0, hs, Below.heap_alloc _ _ _ (by simp <;> omega), Below.heap_alloc _ _ _ (by simp <;> omega), Below.heap_alloc _ _ _ (by simp <;> omega), Below.heap_alloc _ _ _ (by simp <;> omega), Below.heap_alloc _ _ _ (by simp <;> omega), Below.heap_alloc _ _ _ (by simp <;> omega), Below.heap_alloc _ _ _ (by simp <;> omega), alloc_nth _ _ _ _ (by simp)]
  have hb1 : w0.heap[s + 1]? = some (.cells #[.int .u64 (b : Int)] 65 (0, 0)) := by rw [hw0, hs, Below.heap_alloc _ _ _ (by simp <;> omega), Below.heap_alloc _ _ _ (by simp <;> omega), Below.heap_alloc _ _ _ (by simp <;> omega), Below.heap_alloc _ _ _ (by simp <;> omega), Below.heap_alloc _ _ _ (by simp <;> omega), Below.heap_alloc _ _ _ (by simp <;> omega), alloc_nth _ _ _ _ (by simp)]
  have hb2 : w0.heap[s + 1 + 1]? = some (.cells #[.slice none 0 0] 27 (0, 0)) := by rw [hw0, hs, Below.heap_alloc _ _ _ (by simp <;> omega), Below.heap_alloc _ _ _ (by simp <;> omega), Below.heap_alloc _ _ _ (by simp <;> omega), Below.heap_alloc _ _ _ (by simp <;> omega), Below.heap_alloc _ _ _ (by simp <;> omega), alloc_nth _ _ _ _ (by simp)]
  have hb3 : w0.heap[s + 1 + 1 + 1]? = some (.cells #[.slice none 0 0] 27 (0, 0)) := by rw [hw0, hs, Below.heap_alloc _ _ _ (by simp <;> omega), Below.heap_alloc _ _ _ (by simp <;> omega), Below.heap_alloc _ _ _ (by simp <;> omega), Below.heap_alloc _ _ _ (by simp <;> omega), alloc_nth _ _ _ _ (by simp)]
  have hb4 : w0.heap[s + 1 + 1 + 1 + 1]? = some (.cells (madeCells #[.int .u64 0] ws.length) 65 (0, 0)) := by rw [hw0, hs, Below.heap_alloc _ _ _ (by simp <;> omega), Below.heap_alloc _ _ _ (by simp <;> omega), Below.heap_alloc _ _ _ (by simp <;> omega), alloc_nth _ _ _ _ (by simp)]
  have hb5 : w0.heap[s + 1 + 1 + 1 + 1 + 1]? = some (.cells #[.slice (some ⟨s + 1 + 1 + 1 + 1, 0, none⟩) ws.length ws.length] 22 (0, 0)) := by rw [hw0, hs, Below.heap_alloc _ _ _ (by simp <;> omega), Below.heap_alloc _ _ _ (by simp <;> omega), alloc_nth _ _ _ _ (by simp)]
  have hb6 : w0.heap[s + 1 + 1 + 1 + 1 + 1 + 1]? = some (.cells #[.int .u64 0] 65 (0, 0)) := by rw [hw0, hs, Below.heap_alloc _ _ _ (by simp <;> omega), alloc_nth _ _ _ _ (by simp)]
  have hb7 : w0.heap[s + 1 + 1 + 1 + 1 + 1 + 1 + 1]? = some (.cells #[.slice a ws.length cap] 22 (0, 0)) := by rw [hw0, hs, alloc_nth _ _ _ _ (by simp)]
  have hU0 : Upd [] w w0 := by rw [hw0]; exact ((((((((Upd.refl _ _).alloc _).alloc _).alloc _).alloc _).alloc _).alloc _).alloc _).alloc _
  have hown : w0.ownsRow w.heap.size 65 1 (.slice (some ⟨s + 1 + 1 + 1 + 1, 0, none⟩) ws.length ws.length) ws.length (cu64 (List.replicate ws.length 0)) := by
    refine ⟨by simp, .inr ⟨s + 1 + 1 + 1 + 1, ws.length, _, rfl, by omega, hb4, Nat.le_refl _, by unfold maxLen; omega, by have := size_madeCells #[Value.int .u64 0] ws.length; simpa using this, ?_⟩⟩
    have := madeCells_one (.int .u64 0) rfl ws.length
    rw [show (Value.int IntKind.u64 0).cells = #[Value.int .u64 0] from rfl] at this
    rw [this, List.take_replicate, cu64_zero]
    congr 1
    omega
  rw [← hw0]
  obtain ⟨g, hg⟩ : ∃ g, g = s + 1 + 1 + 1 + 1 := ⟨_, rfl⟩
  rw [← hg]
  rw [← hg] at hb5 hb6 hb7 hown
  obtain ⟨p, hp⟩ : ∃ p, p = g + 1 + 1 := ⟨_, rfl⟩
  rw [← hp]
  rw [← hp] at hb6 hb7
  have hgl : g < w0.heap.size := by omega
  have hpl : p < w0.heap.size := by omega
  have c0 : w0.cell? ⟨s, 0, none⟩ = some (.slice a ws.length cap) := by rw [cell_of_row w0 _ 0 _ _ _ hb0]; rfl
  have c1 : w0.cell? ⟨s + 1, 0, none⟩ = some (.int .u64 (b : Int)) := by rw [cell_of_row w0 _ 0 _ _ _ hb1]; rfl
  have c5 : w0.cell? ⟨g + 1, 0, none⟩ = some (.slice (some ⟨g, 0, none⟩) ws.length ws.length) := by rw [cell_of_row w0 _ 0 _ _ _ hb5]; rfl
  have c6 : w0.cell? ⟨p, 0, none⟩ = some (.int .u64 ((0 : Nat) : Int)) := by rw [cell_of_row w0 _ 0 _ _ _ hb6]; rfl
  have f6 : w0.frozen? ⟨p, 0, none⟩ = false := by simp [World.frozen?, hb6]
  have c7 : w0.cell? ⟨p + 1, 0, none⟩ = some (.slice a ws.length cap) := by rw [cell_of_row w0 _ 0 _ _ _ hb7]; rfl
  have HB2' := Lib.hid hb2
  have HB3' := Lib.hid hb3
  have HU0 := Lib.hid hU0
  have HCF : Hid (∀ W, Upd [g, p] w0 W → W.cell? ⟨s + 1, 0, none⟩ = some (.int .u64 (b : Int)) ∧ W.cell? ⟨g + 1, 0, none⟩ = some (.slice (some ⟨g, 0, none⟩) ws.length ws.length)) := fun W h =>
    ⟨(h.cell (p := ⟨s + 1, 0, none⟩) (by show s + 1 < _; omega) (by simp; omega)).trans c1, (h.cell (p := ⟨g + 1, 0, none⟩) (by show g + 1 < _; omega) (by simp; omega)).trans c5⟩
  have HBI : Hid (BwIn w w0 g p b ws [] w0) := ⟨List.replicate ws.length 0, 0, hown, by simp, fun d hd => by rw [List.eq_of_mem_replicate hd]; decide, hb, c6, f6, Upd.refl _ _, fun _ => ⟨fun j _ => by simp [List.getD_eq_getElem?_getD, List.getElem?_replicate]; split <;> rfl, by simp [wval]⟩⟩
  have hNV := HA.out.upd0 hU0
  have hab : ws ≠ [] → ∀ k, (Value.slice a ws.length cap).ownBlock = some k → k < w.heap.size := fun hne k hk => by rw [hws] at hne hk; exact HA.out.blk hne k (by rw [← hws] at hk; exact hk)
  have HW0 := Lib.hid hw0
  have HS := Lib.hid hs
  have HWS := Lib.hid hws
  have HG := Lib.hid hg
  have HP := Lib.hid hp
  have hsz := Nat.le_of_eq hz
  have hsz2 := Nat.le_of_eq hz.symm
  have hg1 := Nat.le_of_eq hg
  have hg2 := Nat.le_of_eq hg.symm
  have hp1 := Nat.le_of_eq hp
  have hp2 := Nat.le_of_eq hp.symm
  have hs1 := Nat.le_of_eq hs
  have hs2 := Nat.le_of_eq hs.symm
  have hNS : Sl w0 (.slice a ws.length cap) (cu64 ws) := by rw [hws]; rw [hws] at hNV; exact hNV.sl
  clear hw0 hs hws hg hp hz hb0 hb1 hb2 hb3 hb4 hb5 hb6 hb7 hU0 hown hNV c0 c1 c5 c6 f6
  refine wpIn_rangeFunc_ownF rfl (by decide) (gf := 73) (lb := #[.pointer (some ⟨p + 1, 0, none⟩)]) rfl trivial (enters_of Tryd.func73 (by kernel_rfl) rfl)
    (back_stops (Ks [g, p]) 2 (by decide) (p + 1) w0.heap.size a cap ws hlen w0 (by omega) (by simp [Ks]; omega) (Nat.le_refl _) c7 hNS (fun hne k hk => ⟨by have := hab hne k hk; omega, by have := hab hne k hk; simp [Ks]; omega⟩)) Kq.trans Kq.put (Below.refl _ _) (fun _ => rfl)
    (BwIn w w0 g p b ws) (fun _ _ _ => False) (BwIn.from w w0 g p b ws hgl hpl) (fun _ _ _ _ _ hs _ _ => hs) HBI.out
    ?a1 ?assign ?body ?done ?stop
  case assign =>
    intro l x W K hK
    simp only [encP]
    gi_wp2
    exact hK
  case body =>
    rintro l pre x W ⟨L, r, hI⟩ hlt
    obtain ⟨j, hj⟩ : ∃ j, j = ws.length - 1 - x.val := ⟨_, rfl⟩
    have hjl : j < ws.length := by have := x.isLt; omega
    rw [← hj]
    have HI := Lib.hid hI
    have HJ := Lib.hid hj
    obtain ⟨hc1, hc5⟩ := HCF.out W hI.upd
    have hcp := hI.cell
    have hfp := hI.froz
    have hgj : gd ws j < 18446744073709551616 := by
      unfold gd
      have h1 := HWS.out
      rw [h1]
      exact getD_lt (wds_lt m) j
    have hrb := hI.rb
    have HDIV0 : Hid (∀ W, Calls Tryd.prog 82 #[.int .u64 (r : Int), .int .u64 ((gd ws j : Nat) : Int), .int .u64 (b : Int)] W fun e w' =>
      e = .returned (.tuple #[.int .u64 (((r * 18446744073709551616 + gd ws j) / b : Nat) : Int), .int .u64 (((r * 18446744073709551616 + gd ws j) % b : Nat) : Int)]) ∧ Upd [] W w') := fun W => div64_any r (gd ws j) b W hrb hgj HB2.out
    clear hI hj hgj
    have hrow := HI.out.own.cellAt j (by omega)
    rw [cu64_getD _ _ (by rw [HI.out.len]; exact hjl)] at hrow
    have hfr := HI.out.own.frozenAt j
    have hgW := World.block_lt_of_cell? W _ hrow
    have hpW := World.block_lt_of_cell? W _ hcp
    have i0 : (0 : Int) ≤ (j : Int) := by omega
    have i1 : (j : Int) < (ws.length : Int) := by omega
    have hdiv := HDIV0.out
    obtain ⟨d, hd⟩ : ∃ d, d = (r * 18446744073709551616 + gd ws j) / b := ⟨_, rfl⟩
    obtain ⟨r', hr'⟩ : ∃ d, d = (r * 18446744073709551616 + gd ws j) % b := ⟨_, rfl⟩
    rw [← hd, ← hr'] at hdiv
    have HD := Lib.hid hd
    have HR' := Lib.hid hr'
    have HDIV := Lib.hid hdiv
    clear hd hr' hdiv
    obtain ⟨y, hy⟩ : ∃ y, y = L.getD j 0 := ⟨_, rfl⟩
    rw [← hy] at hrow
    clear hy
    gi_wp2
    refine region_round (fun A => A.cell? ⟨g + 1, 0, none⟩ = some (.slice (some ⟨g, 0, none⟩) ws.length ws.length) ∧ A.cell? ⟨s + 1, 0, none⟩ = some (.int .u64 (b : Int))) l _ (by kernel_rfl) (by kernel_rfl) (fun ⟨_, _, h⟩ => h) ⟨hc5, hc1⟩ (fun hHeld => ?_)
    refine wpAnyH_take (i := 0) (v := ?_) rfl (by kernel_rfl) (by kernel_rfl) (by kernel_rfl) (fun _ _ _ h => h) (Or.inl ⟨by rfl, ?_⟩) (by assumption) ?_
    rotate_left
    · (intro w hSw; (try dsimp only at hSw); go_simp; (try with_reducible rfl))
    try simp only [Act.put, List.getElem_toArray, List.getElem_cons_succ, List.getElem_cons_zero, List.setIfInBounds_toArray, List.set_cons_zero, List.set_cons_succ]
    refine wpAnyH_take (i := 1) (v := ?_) rfl (by kernel_rfl) (by kernel_rfl) (by kernel_rfl) (fun _ _ _ h => h) (Or.inl ⟨by rfl, ?_⟩) (by assumption) ?_
    rotate_left
    · (intro w hSw; (try dsimp only at hSw); go_simp; (try with_reducible rfl))
    try simp only [Act.put, List.getElem_toArray, List.getElem_cons_succ, List.getElem_cons_zero, List.setIfInBounds_toArray, List.set_cons_zero, List.set_cons_succ]
    refine wpAnyH_take (i := 3) (v := ?_) rfl (by kernel_rfl) (by kernel_rfl) (by kernel_rfl) (fun _ _ _ h => h) (Or.inl ⟨by rfl, ?_⟩) (by assumption) ?_
    rotate_left
    · (intro w hSw; (try dsimp only at hSw); go_simp; (try with_reducible rfl))
    try simp only [Act.put, List.getElem_toArray, List.getElem_cons_succ, List.getElem_cons_zero, List.setIfInBounds_toArray, List.set_cons_zero, List.set_cons_succ]
    refine wpAnyH_take (i := 4) (v := ?_) rfl (by kernel_rfl) (by kernel_rfl) (by kernel_rfl) (fun _ _ _ h => h) (Or.inl ⟨by rfl, ?_⟩) (by assumption) ?_
    rotate_left
    · (intro w hSw; (try dsimp only at hSw); go_simp; (try with_reducible rfl))
    try simp only [Act.put, List.getElem_toArray, List.getElem_cons_succ, List.getElem_cons_zero, List.setIfInBounds_toArray, List.set_cons_zero, List.set_cons_succ]
    refine wpAnyH_ready (rs := [2]) (by kernel_rfl) (by simp) ?_
    refine AllReadyH.cons rfl (fun K hK => ?_) AllReadyH.nil
    go_simp
    refine hK.out _ _ ?_ (fun hHeld => ?_)
    · exact ⟨hc5, hc1⟩
    clear hK K
    try simp only [Act.put, List.getElem_toArray, List.getElem_cons_succ, List.getElem_cons_zero, List.setIfInBounds_toArray, List.set_cons_zero, List.set_cons_succ]
    refine wpAnyH_ready (rs := [5]) (by kernel_rfl) (by simp) ?_
    refine AllReadyH.cons rfl (fun K hK => ?_) AllReadyH.nil
    go_simp
    refine (HDIV.out _).mono ?_
    rintro e wy ⟨rfl, hdy⟩
    have huy : Upd [] W wy := ((Upd.refl _ _).drew).trans0 hdy
    dsimp only
    refine hK.out _ _ ?_ (fun hHeld => ?_)
    · exact ⟨(HCF.out _ (HI.out.upd.trans huy (by simp))).2, (HCF.out _ (HI.out.upd.trans huy (by simp))).1⟩
    clear hK K
    try simp only [Act.put, List.getElem_toArray, List.getElem_cons_succ, List.getElem_cons_zero, List.setIfInBounds_toArray, List.set_cons_zero, List.set_cons_succ]
    refine wpAnyH_take (i := 6) (v := ?_) rfl (by kernel_rfl) (by kernel_rfl) (by kernel_rfl) (fun _ _ _ h => h) (Or.inl ⟨by rfl, ?_⟩) (by assumption) ?_
    rotate_left
    · (intro w hSw; (try dsimp only at hSw); go_simp; (try with_reducible rfl))
    try simp only [Act.put, List.getElem_toArray, List.getElem_cons_succ, List.getElem_cons_zero, List.setIfInBounds_toArray, List.set_cons_zero, List.set_cons_succ]
    refine wpAnyH_take (i := 7) (v := ?_) rfl (by kernel_rfl) (by kernel_rfl) (by kernel_rfl) (fun _ _ _ h => h) (Or.inl ⟨by rfl, ?_⟩) (by assumption) ?_
    rotate_left
    · (intro w hSw; (try dsimp only at hSw); go_simp; (try with_reducible rfl))
    try simp only [Act.put, List.getElem_toArray, List.getElem_cons_succ, List.getElem_cons_zero, List.setIfInBounds_toArray, List.set_cons_zero, List.set_cons_succ]
    refine wpAnyH_take (i := 8) (v := ?_) rfl (by kernel_rfl) (by kernel_rfl) (by kernel_rfl) (fun _ _ _ h => h) (Or.inl ⟨by rfl, ?_⟩) (by assumption) ?_
    rotate_left
    · (intro w hSw; (try dsimp only at hSw); go_simp; (try with_reducible rfl))
    try simp only [Act.put, List.getElem_toArray, List.getElem_cons_succ, List.getElem_cons_zero, List.setIfInBounds_toArray, List.set_cons_zero, List.set_cons_succ]
    refine wpAnyH_take (i := 9) (v := ?_) rfl (by kernel_rfl) (by kernel_rfl) (by kernel_rfl) (fun _ _ _ h => h) (Or.inl ⟨by rfl, ?_⟩) (by assumption) ?_
    rotate_left
    · (intro w hSw; (try dsimp only at hSw); go_simp; (try with_reducible rfl))
    try simp only [Act.put, List.getElem_toArray, List.getElem_cons_succ, List.getElem_cons_zero, List.setIfInBounds_toArray, List.set_cons_zero, List.set_cons_succ]
    have hsr : wy.cell? ⟨g, j, none⟩ = some (.int .u64 (y : Int)) := (huy.cell (p := ⟨g, j, none⟩) hgW (by simp)).trans hrow
    have hsf : wy.frozen? ⟨g, j, none⟩ = false := (huy.frozen (p := ⟨g, j, none⟩) hgW (by simp)).trans hfr
    have hpr : wy.cell? ⟨p, 0, none⟩ = some (.int .u64 (r : Int)) := (huy.cell (p := ⟨p, 0, none⟩) hpW (by simp)).trans hcp
    have hpf : wy.frozen? ⟨p, 0, none⟩ = false := (huy.frozen (p := ⟨p, 0, none⟩) hpW (by simp)).trans hfp
    have huA : Upd [g, p] w0 (wy.setCell ⟨g, j, none⟩ (.int .u64 (d : Int))) := (HI.out.upd.trans huy (by simp)).setCell (.inl (by simp)) _
    have huB : Upd [g, p] w0 ((wy.setCell ⟨g, j, none⟩ (.int .u64 (d : Int))).setCell ⟨p, 0, none⟩ (.int .u64 (r' : Int))) := huA.setCell (.inl (by simp)) _
    have hgp : g ≠ p := by omega
    have hpr2 : (wy.setCell ⟨g, j, none⟩ (.int .u64 (d : Int))).cell? ⟨p, 0, none⟩ = some (.int .u64 (r : Int)) := by rw [World.cell?_setCell_far _ _ _ _ hgp]; exact hpr
    have hpf2 : (wy.setCell ⟨g, j, none⟩ (.int .u64 (d : Int))).frozen? ⟨p, 0, none⟩ = false := by rw [World.frozen?_setCell]; exact hpf
    refine wpAnyH_ready (rs := [10]) (by kernel_rfl) (by simp) ?_
    refine AllReadyH.cons rfl (fun K hK => ?_) AllReadyH.nil
    go_simp
    refine hK.out _ _ ?_ (fun hHeld => ?_)
    · exact ⟨(HCF.out _ huA).2, (HCF.out _ huA).1⟩
    clear hK K
    try simp only [Act.put, List.getElem_toArray, List.getElem_cons_succ, List.getElem_cons_zero, List.setIfInBounds_toArray, List.set_cons_zero, List.set_cons_succ]
    refine wpAnyH_ready (rs := [11]) (by kernel_rfl) (by simp) ?_
    refine AllReadyH.cons rfl (fun K hK => ?_) AllReadyH.nil
    go_simp
    refine hK.out _ _ ?_ (fun hHeld => ?_)
    · exact ⟨(HCF.out _ huB).2, (HCF.out _ huB).1⟩
    clear hK K
    try simp only [Act.put, List.getElem_toArray, List.getElem_cons_succ, List.getElem_cons_zero, List.setIfInBounds_toArray, List.set_cons_zero, List.set_cons_succ]
    refine wpAnyH_done (by kernel_rfl) ?_ _
    have hdm : r * 18446744073709551616 + ws.getD j 0 = d * b + r' := by
      rw [HD.out, HR'.out, Nat.mul_comm _ b]
      exact (Nat.div_add_mod _ _).symm
    have hd64 : d < 18446744073709551616 := by
      rw [HD.out, Nat.div_lt_iff_lt_mul hb]
      have h1 := Nat.mul_le_mul_right 18446744073709551616 (show r + 1 ≤ b from hrb)
      have h2 := getD_lt (wds_lt m) j
      have h3 : gd ws j < 18446744073709551616 := by unfold gd; rw [HWS.out]; exact h2
      rw [Nat.mul_comm 18446744073709551616]
      omega
    have hown2 := (ownsRow_upd HI.out.own huy (by simp)).stored j (.int .u64 (d : Int))
    have hown3 : ((wy.setCell ⟨g, j, none⟩ (.int .u64 (d : Int))).setCell ⟨p, 0, none⟩ (.int .u64 (r' : Int))).ownsRow w.heap.size 65 1 (.slice (some ⟨g, 0, none⟩) ws.length ws.length) ws.length (cu64 (L.set j d)) := by
      rw [cu64_set]
      exact ownsRow_kept hown2.1 (fun k hk => by
        simp [Value.ownBlock] at hk
        subst hk
        exact Below.heap_setCell _ _ _ _ (by show g ≠ p; exact hgp))
    refine (show _ ∧ _ ∧ BwIn w w0 g p b ws (pre ++ [x]) _ from ⟨((keeps_upd huy).trans (KeepsOthers.setCell _ _ _)).trans (KeepsOthers.setCell _ _ _), Kq.of_upd (((huy.mono (T := [g, p]) (by simp)).setCell (.inl (by simp)) _).setCell (.inl (by simp)) _) HI.out.upd.size,
      L.set j d, r', hown3, by rw [List.length_set]; exact HI.out.len, fun q hq => ?_, by rw [HR'.out]; exact Nat.mod_lt _ hb, set_cell hpr2, by rw [World.frozen?_setCell]; exact hpf2, huB, fun hg => ?_⟩)
    · rcases List.mem_or_eq_of_mem_set hq with hq | rfl
      · exact HI.out.lt q hq
      · exact hd64
    · obtain ⟨hg1', hx⟩ := good_snoc hg
      obtain ⟨hz, hv⟩ := HI.out.good hg1'
      have hjx : j = ws.length - 1 - pre.length := by rw [HJ.out, hx]
      have e1 : ws.length - pre.length = j + 1 := by omega
      have e2 : ws.length - (pre ++ [x]).length = j := by simp; omega
      rw [e1] at hz hv
      rw [e2]
      refine ⟨fun i hi => ?_, wdiv_step ws L b j r d r' hjl (by rw [HI.out.len]; exact hjl) (hz j (by omega)) hv hdm⟩
      rw [List.getD_eq_getElem?_getD, List.getElem?_set_ne (by omega), ← List.getD_eq_getElem?_getD]
      exact hz i (by omega)
  case done =>
    rintro D ys W hD rfl ⟨L, r, hI⟩ hK
    rw [upto_length (Nat.le_refl _)] at hI
    obtain ⟨hz, hv⟩ := hI.good (good_upto (Nat.le_refl _))
    rw [Nat.sub_self, List.drop_zero, List.drop_zero, HWS.out, wval_wds] at hv
    have HQ : Hid (m / b = wval L ∧ m % b = r) := by
      show _ ∧ _
      rw [hv, Nat.mul_comm, Nat.mul_add_div hb, Nat.mul_add_mod, Nat.mod_eq_of_lt hI.rb, Nat.div_eq_of_lt hI.rb]
      exact ⟨rfl, rfl⟩
    have HI := Lib.hid hI
    have HK := Lib.hid hK
    obtain ⟨hc1, hc5⟩ := HCF.out W hI.upd
    have hcp := hI.cell
    have hr64 : r < 18446744073709551616 := by have := hI.rb; have := HB2.out; omega
    have hb2W : W.heap[s + 1 + 1]? = some (.cells #[.slice none 0 0] 27 (0, 0)) := (HI.out.upd.block _ (by omega) (by simp; omega)).trans HB2'.out
    have hb3W : W.heap[s + 1 + 1 + 1]? = some (.cells #[.slice none 0 0] 27 (0, 0)) := (HI.out.upd.block _ (by omega) (by simp; omega)).trans HB3'.out
    have hsW := HI.out.upd.size
    have HUW : Hid (Upd [] w W) := HU0.out.trans HI.out.upd (by simp; omega)
    have HFIT : Hid (∀ A, Upd [] W A → Calls Tryd.prog 51 #[.slice (some ⟨g, 0, none⟩) ws.length ws.length] A (fun e w' => ∃ v, e = .returned v ∧ NV w' v (wval L) ∧ Upd [] A w' ∧ ∀ k, nblk v = some k → (Value.slice (some ⟨g, 0, none⟩) ws.length ws.length).ownBlock = some k)) := fun A h => fit_own _ L A (Sl.own (ownsRow_upd HI.out.own h (by simp))) HI.out.lt
    have HOF : Hid (∀ (A : World) (v : Value), Sl A v (cu64 [r]) → Calls Tryd.prog 29 #[v] A (RNat r A)) := fun A v hs => by
      have := of_any v [r] A hs (by simp) (by simpa using hr64)
      simpa [wval] using this
    have hcA : ∀ A, Upd [] W A → A.cell? ⟨s + 1 + 1, 0, none⟩ = some (.slice none 0 0) := fun A h => by rw [h.cell (p := ⟨s + 1 + 1, 0, none⟩) (by show s + 1 + 1 < _; omega) (by simp), cell_of_row W _ 0 _ _ _ hb2W]; rfl
    have hcB : ∀ A, Upd [] W A → A.cell? ⟨s + 1 + 1 + 1, 0, none⟩ = some (.slice none 0 0) := fun A h => by rw [h.cell (p := ⟨s + 1 + 1 + 1, 0, none⟩) (by show s + 1 + 1 + 1 < _; omega) (by simp), cell_of_row W _ 0 _ _ _ hb3W]; rfl
    have hfA : ∀ A, Upd [] W A → A.frozen? ⟨s + 1 + 1, 0, none⟩ = false := fun A h => by rw [h.frozen (p := ⟨s + 1 + 1, 0, none⟩) (by show s + 1 + 1 < _; omega) (by simp)]; simp [World.frozen?, hb2W]
    have hfB : ∀ A, Upd [] W A → A.frozen? ⟨s + 1 + 1 + 1, 0, none⟩ = false := fun A h => by rw [h.frozen (p := ⟨s + 1 + 1 + 1, 0, none⟩) (by show s + 1 + 1 + 1 < _; omega) (by simp)]; simp [World.frozen?, hb3W]
    have HCQ : Hid (∀ A, Upd [s + 1 + 1, s + 1 + 1 + 1] W A → A.cell? ⟨g + 1, 0, none⟩ = some (.slice (some ⟨g, 0, none⟩) ws.length ws.length) ∧ A.cell? ⟨p, 0, none⟩ = some (.int .u64 (r : Int)) ∧ Upd [s + 1 + 1, s + 1 + 1 + 1] W A) := fun A h =>
      ⟨(h.cell (p := ⟨g + 1, 0, none⟩) (by show g + 1 < _; omega) (by simp; omega)).trans hc5, (h.cell (p := ⟨p, 0, none⟩) (by show p < _; omega) (by simp; omega)).trans hcp, h⟩
    have HB2W := Lib.hid hb2W
    have HB3W := Lib.hid hb3W
    have hrf : Upd [] W W := Upd.refl _ _
    clear hI hK hz hv hb2W hb3W
    gi_wp2
    refine wpIn_wide.2 ?_
    go_region_held3 (fun A => A.cell? ⟨g + 1, 0, none⟩ = some (.slice (some ⟨g, 0, none⟩) ws.length ws.length) ∧ A.cell? ⟨p, 0, none⟩ = some (.int .u64 (r : Int)) ∧ Upd [s + 1 + 1, s + 1 + 1 + 1] W A)
      (first
        | exact HCQ.out _ (huy.mono (by simp))
        | exact HCQ.out _ (hrf.drew.mono (by simp))
        | exact HCQ.out _ ((huy.alloc _).mono (by simp))
        | exact HCQ.out _ ((huy.mono (by simp)).setCell (.inl (by simp)) _)
        | exact HCQ.out _ (((huy.mono (by simp)).setCell (.inl (by simp)) _).setCell (.inl (by simp)) _)
        | exact HCQ.out _ ((hrf.drew.alloc _).mono (by simp)))
      (first
        | (go_at_call 51; refine (HFIT.out _ (by first | exact huy | exact hrf.drew | exact (hrf.alloc _).drew | exact hrf.drew.alloc _)).mono ?_; rintro e wy ⟨v1, rfl, hn1, hu1, hk1⟩; obtain ⟨a1, cap1, rfl, hl1, hm1⟩ := hn1.open; have HN1 := Lib.hid hn1; have HUF := Lib.hid hu1; have HK1 := Lib.hid hk1; clear hk1; have huy : Upd [] W wy := Upd.trans0 (by first | exact huy | exact hrf.drew | exact (hrf.alloc _).drew | exact hrf.drew.alloc _) hu1; clear hn1 hu1)
        | (go_at_call 29; refine (HOF.out _ _ (by first | exact Sl.lit1 _ _ _ | exact ((Sl.lit1 _ _ _).upd0 ((Upd.refl _ _).drew)).upd0 HUF.out | exact (Sl.lit1 _ _ _).upd0 HUF.out)).mono ?_; rintro e wz ⟨v2, rfl, hn2, hu2⟩; obtain ⟨a2, cap2, rfl, hl2, hm2⟩ := hn2.open; have HN2 := Lib.hid hn2; have HUZ := Lib.hid hu2; have huy : Upd [] W wz := Upd.trans0 (by first | exact huy | exact huy.alloc _) hu2; clear hn2 hu2))
    all_goals
      have hyz : Upd [] wy wz := by first | exact HUZ.out | exact ((Upd.refl _ _).alloc _).trans0 HUZ.out
      have hkz : wz.heap[D]? = some (.deferred (some [])) := (huy.block D (Array.getElem?_eq_some_iff.1 HK.out).1 (by simp)).trans HK.out
      have hbA : wz.heap[s + 1 + 1]? = some (.cells #[.slice none 0 0] 27 (0, 0)) := (huy.block _ (by omega) (by simp)).trans HB2W.out
      have hbB : wz.heap[s + 1 + 1 + 1]? = some (.cells #[.slice none 0 0] 27 (0, 0)) := (huy.block _ (by omega) (by simp)).trans HB3W.out
      have hcA1 := hcA wz huy
      have hcB1 := hcB wz huy
      have hbB2 : (wz.setCell ⟨s + 1 + 1, 0, none⟩ (.slice a1 (wds (wval L)).length cap1)).heap[s + 1 + 1 + 1]? = some (.cells #[.slice none 0 0] 27 (0, 0)) := (Below.heap_setCell _ _ _ _ (by show s + 1 + 1 + 1 ≠ s + 1 + 1; omega)).trans hbB
      have n1 := ((HN1.out.upd0 hyz).store hbA no_u64 ⟨s + 1 + 1, 0, none⟩ rfl (.slice a1 (wds (wval L)).length cap1)).store hbB2 no_u64 ⟨s + 1 + 1 + 1, 0, none⟩ rfl (.slice a2 (wds r).length cap2)
      have n2 := (HN2.out.store hbA no_u64 ⟨s + 1 + 1, 0, none⟩ rfl (.slice a1 (wds (wval L)).length cap1)).store hbB2 no_u64 ⟨s + 1 + 1 + 1, 0, none⟩ rfl (.slice a2 (wds r).length cap2)
      have hUF : Upd [] w ((wz.setCell ⟨s + 1 + 1, 0, none⟩ (.slice a1 (wds (wval L)).length cap1)).setCell ⟨s + 1 + 1 + 1, 0, none⟩ (.slice a2 (wds r).length cap2)) := ((HUW.out.trans0 huy).setCell (.inr (by show w.heap.size ≤ s + 1 + 1; omega)) _).setCell (.inr (by show w.heap.size ≤ s + 1 + 1 + 1; omega)) _
      have hkF := (KeepsOthers.setCell (wz.setCell ⟨s + 1 + 1, 0, none⟩ (.slice a1 (wds (wval L)).length cap1)) ⟨s + 1 + 1 + 1, 0, none⟩ (.slice a2 (wds r).length cap2)).same D _ ((KeepsOthers.setCell wz ⟨s + 1 + 1, 0, none⟩ (.slice a1 (wds (wval L)).length cap1)).same D _ hkz rfl) rfl
      have hB1 : ((wz.setCell ⟨s + 1 + 1, 0, none⟩ (.slice a1 (wds (wval L)).length cap1)).setCell ⟨s + 1 + 1 + 1, 0, none⟩ (.slice a2 (wds r).length cap2)).cell? ⟨s + 1 + 1, 0, none⟩ = some (.slice a1 (wds (wval L)).length cap1) := by rw [World.cell?_setCell_far _ _ _ _ (by show s + 1 + 1 + 1 ≠ s + 1 + 1; omega)]; exact set_cell hcA1
      have hB2 : ((wz.setCell ⟨s + 1 + 1, 0, none⟩ (.slice a1 (wds (wval L)).length cap1)).setCell ⟨s + 1 + 1 + 1, 0, none⟩ (.slice a2 (wds r).length cap2)).cell? ⟨s + 1 + 1 + 1, 0, none⟩ = some (.slice a2 (wds r).length cap2) := set_cell (by rw [World.cell?_setCell_far _ _ _ _ (by show s + 1 + 1 ≠ s + 1 + 1 + 1; omega)]; exact hcB1)
      have HN1' := Lib.hid n1
      have HN2' := Lib.hid n2
      have HUF' := Lib.hid hUF
      have HKF := Lib.hid hkF
      have HB1' := Lib.hid hB1
      have HB2'' := Lib.hid hB2
      clear hcA hcB hfA hfB hyz hkz hbA hbB hcA1 hcB1 hbB2 n1 n2 hUF hkF hB1 hB2 huy
      gi_wp2
      refine ⟨by simp, .inl ⟨_, _, rfl, run_takeDeferred HKF.out, ?_⟩⟩
      have k1 := cell_kept HB1'.out (grownBy_putObj' _ D (.deferred none)) (fun r e => by cases e; exact ⟨_, HKF.out, rfl⟩)
      have k2 := cell_kept HB2''.out (grownBy_putObj' _ D (.deferred none)) (fun r e => by cases e; exact ⟨_, HKF.out, rfl⟩)
      refine ⟨.tuple #[.agg #[.slice a1 (wds (wval L)).length cap1], .agg #[.slice a2 (wds r).length cap2]], by simp [results, Tryd.f60, go_sem, k1, k2], ?_⟩
      exact ⟨_, _, rfl, by rw [HQ.out.1]; exact HN1'.out.put HKF.out rfl _, by rw [HQ.out.2]; exact HN2'.out.put HKF.out rfl _, HUF'.out.grown (grownBy_putObj' _ D (.deferred none)) (fun k e => by cases e; exact .inr (by omega)), fun k hk => by have := HK1.out k hk; simp [Value.ownBlock] at this; omega⟩
  case stop =>
    rintro D c pre W _ _ h _
    exact h.elim

theorem byWord_any (u : Value) (m b : Nat) (w : World) (hu : NV w u m) (hb : 0 < b) (hb2 : b < 18446744073709551616) (hlen : (wds m).length ≤ 1099511627776) :
    Calls Tryd.prog 60 #[u, .int .u64 (b : Int)] w (RNat2 (m / b) (m % b) w) := by
  refine (byWord_fresh u m b w hu hb hb2 hlen).mono ?_
  rintro e w' ⟨v1, v2, he, h1, h2, h3, _⟩
  exact ⟨v1, v2, he, h1, h2, h3⟩
end Go.Proofs.YtoklmfmoblkfcaaDoor
