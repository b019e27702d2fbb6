/- The numbers of layer 5 in memory ('NV': a number as words); contracts of fit, word, Zero, sign, slices.Clone, Of, Words. -/
import Derived.Test.YtcehkflkekefpaaDoorProg
import Derived.Test.YtcehkflkekefpaaDoorAa
import Derived.Test.YtcehkflkekefpaaDoorNatWds2
import Derived.Laws.BitsAllLaws
import Derived.BigRegion
import Derived.Deep.RegionHeld3
import Derived.Lib.SliceRun
namespace Go.Proofs.YtcehkflkekefpaaDoor
open Go.RowKit Go.Proofs.Tm
set_option linter.unusedVariables false
set_option maxRecDepth 20000

/-- Numbers of 64 bits as cells. -/
def cu64 (ws : List Nat) : List Value := ws.map fun (b : Nat) => Value.int .u64 (b : Int)
@[simp] theorem cu64_length (ws : List Nat) : (cu64 ws).length = ws.length := by simp [cu64]
theorem cu64_one (ws : List Nat) : ∀ u ∈ cu64 ws, u.oneCell' = true := by intro u hu; obtain ⟨b, _, rfl⟩ := List.mem_map.1 hu; rfl
theorem cu64_getElem? (ws : List Nat) (i : Nat) : (cu64 ws)[i]? = ws[i]?.map fun (b : Nat) => Value.int .u64 (b : Int) := by simp [cu64]
theorem cu64_getD (ws : List Nat) (i : Nat) (h : i < ws.length) : (cu64 ws)[i]? = some (.int .u64 ((ws.getD i 0 : Nat) : Int)) := by rw [cu64_getElem?, List.getElem?_eq_getElem h]; simp [h]
theorem cu64_set (ws : List Nat) (i b : Nat) : cu64 (ws.set i b) = (cu64 ws).set i (.int .u64 (b : Int)) := by simp [cu64, List.map_set]
theorem cu64_take (ws : List Nat) (i : Nat) : cu64 (ws.take i) = (cu64 ws).take i := by simp [cu64, List.map_take]
theorem cu64_drop (ws : List Nat) (i : Nat) : cu64 (ws.drop i) = (cu64 ws).drop i := by simp [cu64, List.map_drop]
theorem cu64_zero (n : Nat) : cu64 (List.replicate n 0) = List.replicate n (.int .u64 0) := by simp [cu64]
theorem cu64_nil {ws : List Nat} : cu64 ws ≠ [] ↔ ws ≠ [] := by cases ws <;> simp [cu64]
theorem infoU64 : (Tryd.prog.info? 84).map (fun i => (i.zero, i.size, i.bytes)) = some (some (.int .u64 0), 1, 8) := by kernel_rfl

theorem sl_at {w : World} {v : Value} {xs : List Value} (h : Sl w v xs) (hx : xs ≠ []) : ∃ b o cap, v = .slice (some ⟨b, o, none⟩) xs.length cap ∧ ∀ i, i < xs.length → w.cell? ⟨b, o + i, none⟩ = xs[i]? := by
  obtain ⟨a, cap, rfl, _, _, h3⟩ := h
  obtain ⟨b, o, rfl, hc⟩ := h3 hx
  exact ⟨b, o, cap, rfl, hc⟩

/-- The first k of a slice. -/
theorem Sl.take {w : World} {a : Option Addr} {n cap : Nat} {xs : List Value} (h : Sl w (.slice a n cap) xs) (k : Nat) (hk : k ≤ n) : Sl w (.slice a k cap) (xs.take k) := by
  obtain ⟨a', cap', he, h1, h2, h3⟩ := h
  simp only [Value.slice.injEq] at he
  obtain ⟨rfl, hl, rfl⟩ := he
  have hlen : (xs.take k).length = k := by simp; omega
  refine ⟨a, cap, by rw [hlen], by rw [hlen]; omega, h2, fun hne => ?_⟩
  obtain ⟨b, o, rfl, hc⟩ := h3 (by rintro rfl; simp at hne)
  refine ⟨b, o, rfl, fun i hi => ?_⟩
  rw [hlen] at hi
  rw [hc i (by omega), List.getElem?_take, if_pos hi]

/-- How two numbers are held against one another. -/
def cmpN (m n : Nat) : Int := if m < n then -1 else if m = n then 0 else 1
/-- v is the number n: its words, as few as may be. -/
def NV (w : World) (v : Value) (n : Nat) : Prop := ∃ sv, v = .agg #[sv] ∧ Sl w sv (cu64 (wds n))

theorem NV.upd0 {w w' : World} {v : Value} {n : Nat} (h : NV w v n) (u : Upd [] w w') : NV w' v n := by
  obtain ⟨sv, rfl, h⟩ := h; exact ⟨sv, rfl, h.upd0 u⟩
/-- The number's own shape, for a walk. -/
theorem NV.open {w : World} {v : Value} {n : Nat} (h : NV w v n) : ∃ a cap, v = .agg #[.slice a (wds n).length cap] ∧ (wds n).length ≤ cap ∧ cap ≤ maxLen := by
  obtain ⟨sv, rfl, a, cap, rfl, h1, h2, _⟩ := h
  rw [cu64_length] at *
  exact ⟨a, cap, rfl, h1, h2⟩
theorem NV.sl {w : World} {sv : Value} {n : Nat} (h : NV w (.agg #[sv]) n) : Sl w sv (cu64 (wds n)) := by
  obtain ⟨sv', he, h⟩ := h
  simp only [Value.agg.injEq, Array.mk.injEq, List.cons.injEq, and_true] at he
  rw [he]; exact h
theorem NV.zero (w : World) : NV w (.agg #[.slice none 0 0]) 0 := ⟨_, rfl, by rw [wds_zero]; exact Sl.nil w⟩

/-- A number's word i, in memory. -/
theorem NV.at {w : World} {a : Option Addr} {n len cap : Nat} (h : NV w (.agg #[.slice a len cap]) n) (i : Nat) (hi : i < (wds n).length) : ∃ b o, a = some ⟨b, o, none⟩ ∧ b < w.heap.size ∧ w.cell? ⟨b, o + i, none⟩ = some (.int .u64 (((wds n).getD i 0 : Nat) : Int)) := by
  obtain ⟨b, o, cap', hv, hc⟩ := sl_at h.sl (by rw [cu64_nil]; intro e; rw [e] at hi; simp at hi)
  simp only [Value.slice.injEq] at hv
  have := hc i (by rw [cu64_length]; exact hi)
  rw [cu64_getD _ _ hi] at this
  exact ⟨b, o, hv.1, World.block_lt_of_cell? w _ this, this⟩
theorem NV.blk {w : World} {a : Option Addr} {n len cap : Nat} (h : NV w (.agg #[.slice a len cap]) n) (hn : wds n ≠ []) : ∀ k, (Value.slice a len cap).ownBlock = some k → k < w.heap.size :=
  h.sl.block_lt (cu64_nil.2 hn)

/-- A store into a block that holds no words changes no number. -/
theorem sl_store {w : World} {v : Value} {L : List Nat} (h : Sl w v (cu64 L)) {k : Nat} {cs : Array Value} {t : TypeId} {fr : Nat × Nat} (hk : w.heap[k]? = some (.cells cs t fr)) (hcs : ∀ (j : Nat) (z : Int), cs[j]? ≠ some (.int .u64 z)) (p : Addr) (hp : p.block = k) (x : Value) : Sl (w.setCell p x) v (cu64 L) := by
  refine h.upd (S := [k]) ((Upd.refl _ _).setCell (.inl (by simp [hp])) _) (fun hx j hj => ?_)
  obtain ⟨b, o, cap, rfl, hc⟩ := sl_at h hx
  simp [Value.ownBlock] at hj
  subst hj
  have hpos : 0 < (cu64 L).length := List.length_pos_iff.2 hx
  have h0 := hc 0 hpos
  simp only [List.mem_singleton]
  rintro rfl
  rw [cell_of_row w b (o + 0) _ _ _ hk, cu64_getD _ _ (by simpa using hpos)] at h0
  exact hcs _ _ h0
theorem NV.store {w : World} {v : Value} {n : Nat} (h : NV w v n) {k : Nat} {cs : Array Value} {t : TypeId} {fr : Nat × Nat} (hk : w.heap[k]? = some (.cells cs t fr)) (hcs : ∀ (j : Nat) (z : Int), cs[j]? ≠ some (.int .u64 z)) (p : Addr) (hp : p.block = k) (x : Value) : NV (w.setCell p x) v n := by
  obtain ⟨sv, rfl, h⟩ := h
  exact ⟨sv, rfl, sl_store h hk hcs p hp x⟩
theorem no_u64 {a : Option Addr} {l c : Nat} (j : Nat) (z : Int) : (#[Value.slice a l c] : Array Value)[j]? ≠ some (.int .u64 z) := by
  rcases j with _ | j <;> simp
theorem no_u64i {y : Int} (j : Nat) (z : Int) : (#[Value.int .i64 y] : Array Value)[j]? ≠ some (.int .u64 z) := by
  rcases j with _ | j <;> simp

/-- The result's own block, behind calls that turn nothing. -/
theorem res_block {w w2 : World} {cs : Array Value} {t : TypeId} (u : Upd [] (w.alloc (.cells cs t)) w2) : w2.heap[w.heap.size]? = some (.cells cs t (0, 0)) :=
  (u.block _ (by simp) (by simp)).trans (heap_alloc_new w _)
theorem res_cell {w w2 : World} {x : Value} {t : TypeId} (u : Upd [] (w.alloc (.cells #[x] t)) w2) : w2.cell? ⟨w.heap.size, 0, none⟩ = some x ∧ w2.frozen? ⟨w.heap.size, 0, none⟩ = false := by
  have h := res_block u
  refine ⟨by rw [cell_of_row w2 _ 0 _ _ _ h]; rfl, ?_⟩
  rw [u.frozen (p := ⟨w.heap.size, 0, none⟩) (by simp) (by simp)]
  exact World.frozen?_alloc_new w _ _ 0
theorem set_cell {w : World} {p : Addr} {x y : Value} (h : w.cell? p = some x) : (w.setCell p y).cell? p = some y := World.cell?_setCell_same' _ _ _ (by rw [h]; rfl)

/-- A call answers the number n; nothing old has turned. -/
def RNat (n : Nat) (w : World) (e : Ending) (w' : World) : Prop := ∃ v, e = .returned v ∧ NV w' v n ∧ Upd [] w w'

theorem sign_any (b : Bool) (w : World) : Calls Tryd.prog 65 #[.bool b] w fun e w' => e = .returned (.int .i64 (if b then 1 else -1)) ∧ w = w' := by
  cases b
  all_goals
    go_enter Tryd.func65, Tryd.ntmps65
    go_wp2
    go_ret
    exact ⟨rfl, rfl⟩

/-- The block of a number's words. -/
def nblk : Value → Option Nat | .agg a => a[0]?.bind Value.ownBlock | _ => none

set_option maxHeartbeats 800000 in
/-- What fit answers lies where its words did. -/
theorem fit_own (sv : Value) (L : List Nat) (w : World) (h : Sl w sv (cu64 L)) (hW : ∀ d ∈ L, d < 18446744073709551616) :
    Calls Tryd.prog 57 #[sv] w (fun e w' => ∃ v, e = .returned v ∧ NV w' v (wval L) ∧ Upd [] w w' ∧ ∀ k, nblk v = some k → sv.ownBlock = some k) := by
  have HS := Lib.hid h
  have HW := Lib.hid hW
  obtain ⟨a, cap, rfl, hlc, hcm, _⟩ := h
  unfold maxLen at hcm
  simp only [cu64_length] at *
  obtain ⟨n, hn⟩ : ∃ n, n = L.length := ⟨_, rfl⟩
  rw [← hn] at hlc
  have HN := Lib.hid hn
  rw [← hn] at HS ⊢
  clear hn hW
  go_enter Tryd.func57, Tryd.ntmps57
  go_wp2
  go_loop [3] (fun v3 => ∃ k : Nat, k ≤ n ∧ v3 = .int .i64 k ∧ Hid (∀ j, k ≤ j → j < n → L[j]? = some 0)) (fun v3 => (intOf v3).toNat)
  case atStart => exact ⟨n, Nat.le_refl _, rfl, fun j h1 h2 => by omega⟩
  case round =>
    obtain ⟨k, hk, rfl, HZ⟩ := hrel
    by_cases hk0 : k = 0
    · subst hk0
      go_wp2
      have hz : wval L = 0 := wval_zeros _ (fun d hd => by
        obtain ⟨j, hj, rfl⟩ := List.mem_iff_getElem.1 hd
        have := HZ.out j (Nat.zero_le _) (by rw [HN.out]; exact hj)
        rw [List.getElem?_eq_getElem hj] at this
        simpa using this)
      refine bodyPost_ret (v := .agg #[.slice none 0 0]) (by simp [results, Tryd.results57, go_sem]) rfl ?_
      exact ⟨_, rfl, by rw [hz]; exact NV.zero _, (Upd.refl _ _).alloc _, by simp [nblk, Value.ownBlock]⟩
    · obtain ⟨b, o, cap', hv, hc⟩ := sl_at HS.out (by rw [cu64_nil]; rintro rfl; have := HN.out; simp at this; omega)
      have hlen := HN.out
      obtain ⟨rfl, rfl⟩ : a = some ⟨b, o, none⟩ ∧ cap = cap' := by simp at hv; exact ⟨hv.1, hv.2.2⟩
      have hcell := hc (k - 1) (by rw [cu64_length]; omega)
      rw [cu64_getD _ _ (by omega)] at hcell
      have HX : Hid (L[k - 1]? = some (L.getD (k - 1) 0)) := by show _ = _; rw [List.getElem?_eq_getElem (show k - 1 < L.length by omega)]; simp [show k - 1 < L.length by omega]
      have hl := World.block_lt_of_cell? w _ hcell
      have hcell' : (w.alloc (.cells #[.slice none 0 0] 26)).cell? ⟨b, o + (k - 1), none⟩ = some (.int .u64 ((L.getD (k - 1) 0 : Nat) : Int)) := (Below.cell ((Below.refl _ w).alloc (Nat.le_refl _) _) (p := ⟨b, o + (k - 1), none⟩) hl).trans hcell
      have i0 : (0 : Int) ≤ (k : Int) - 1 := by omega
      have i1 : (k : Int) - 1 < (n : Int) := by omega
      have i2 : ((k : Int) - 1).toNat = k - 1 := by omega
      have i3 : decide (0 < k) = true := by simp; omega
      have i4 : IntKind.i64.wrap ((k : Int) - 1) = (k : Int) - 1 := IntWalk.i64_in _ (by omega)
      clear hc hv hlen hcell hl
      generalize L.getD (k - 1) 0 = x at *
      by_cases hx : x = 0
      · subst hx
        go_wp2
        refine ⟨⟨k - 1, by omega, by rw [Int.natCast_sub (by omega)]; rfl, fun j h1 h2 => ?_⟩, by simp [intOf]; omega⟩
        rcases Nat.lt_or_ge j k with h | h
        · obtain rfl : j = k - 1 := by omega
          exact HX.out
        · exact HZ.out j h h2
      · have hx' : ((x : Int) == 0) = false := by simp; omega
        go_wp2
        have ht := fit_wds L k HW.out (by have := HN.out; omega) (.inr (by rw [HX.out]; simpa using hx)) (fun j h1 h2 => HZ.out j h1 (by have := HN.out; omega))
        refine bodyPost_ret (v := .agg #[.slice (some ⟨b, o, none⟩) k cap]) (by simp [results, Tryd.results57, go_sem]) rfl ?_
        refine ⟨_, rfl, ⟨_, rfl, ?_⟩, (Upd.refl _ _).alloc _, by simp [nblk, Value.ownBlock]⟩
        rw [← ht, cu64_take]
        exact (Sl.take HS.out k hk).upd0 ((Upd.refl _ _).alloc _)

theorem fit_any (sv : Value) (L : List Nat) (w : World) (h : Sl w sv (cu64 L)) (hW : ∀ d ∈ L, d < 18446744073709551616) :
    Calls Tryd.prog 57 #[sv] w (RNat (wval L) w) := by
  refine (fit_own sv L w h hW).mono ?_
  rintro e w' ⟨v, he, hn, hu, _⟩
  exact ⟨v, he, hn, hu⟩

/-- What slices.Clone answers: the same words. -/
def RSl (xs : List Value) (w : World) (e : Ending) (w' : World) : Prop := ∃ v, e = .returned v ∧ Sl w' v xs ∧ Upd [] w w' ∧ ∀ k, v.ownBlock = some k → w.heap.size ≤ k

set_option maxHeartbeats 400000 in
theorem sclone_any (v : Value) (ws : List Nat) (w : World) (h : Sl w v (cu64 ws)) (hl : ws.length ≤ 1099511627776) :
    Calls Tryd.prog 58 #[v] w (RSl (cu64 ws) w) := by
  have HS := Lib.hid h
  obtain ⟨a, cap, rfl, _, _, hc⟩ := h
  rw [cu64_length] at HS ⊢
  have hq := fun W => Lib.run_eql_slice_nil (P := Tryd.prog) W 22 84 a ws.length cap 0 0 Tryd.underlying22
  cases a with
  | none =>
    simp only [Option.isNone_none] at hq
    have hw0 : ws = [] := by
      cases ws with
      | nil => rfl
      | cons x l => obtain ⟨b, o, hb, _⟩ := hc (by simp [cu64]); cases hb
    have HW0 := Lib.hid hw0
    clear hc hw0
    go_enter Tryd.func58, Tryd.ntmps58
    go_wp2
    go_ret
    exact ⟨_, rfl, by rw [HW0.out]; exact Sl.nil _, Upd.refl _ _, by simp [Value.ownBlock]⟩
  | some ad =>
    simp only [Option.isNone_some] at hq
    clear hc
    go_enter Tryd.func58, Tryd.ntmps58
    go_wp2_with (at_builtin; refine wpList_append_sl _ rfl (.tmp 5) (.tmp 6) 22 rfl w.heap.size 84 (.int .u64 0) 8 Tryd.underlying22 infoU64 rfl _ _ _ rfl (own_lit w 84 #[] (by decide)) _ (cu64 ws) rfl (HS.out.upd0 ((Upd.refl _ _).alloc _)) (cu64_one _) ?c2 ?c3 ?c4 ?go)
    case c2 => unfold maxLen; simp; omega
    case c3 => simp; omega
    case c4 => simp
    case go =>
      intro v1 w1 ho hg _
      have HO : Hid (w1.ownsRow w.heap.size 84 1 v1 ws.length (cu64 ws)) := by show World.ownsRow _ _ _ _ _ _ _; simpa using ho
      have HU : Hid (Upd [] w w1) := ((Upd.refl _ _).alloc _).grown hg (fun k hk => .inr (by simp [Value.ownBlock] at hk; omega))
      clear ho hg
      go_wp2
      go_ret
      exact ⟨_, rfl, Sl.own HO.out, HU.out, fun k hk => (HO.out.lt k hk).1⟩

theorem wval_eq_of (L : List Nat) : wval L = wval L := rfl

set_option maxHeartbeats 400000 in
theorem of_any (v : Value) (L : List Nat) (w : World) (h : Sl w v (cu64 L)) (hl : L.length ≤ 1099511627776) (hW : ∀ d ∈ L, d < 18446744073709551616) :
    Calls Tryd.prog 14 #[v] w (RNat (wval L) w) := by
  have HS := Lib.hid h
  have HW := Lib.hid hW
  have HL := Lib.hid hl
  clear h hW hl
  go_enter Tryd.func14, Tryd.ntmps14
  go_wp2_with fail
  refine (sclone_any _ _ _ (HS.out.upd0 ((Upd.refl _ _).alloc _)) HL.out).mono ?_
  rintro e w1 ⟨v1, rfl, hs1, hu1, _⟩
  have HS1 := Lib.hid hs1
  have HU1 := Lib.hid (((Upd.refl _ w).alloc _).trans0 hu1)
  clear hs1
  go_wp2_with fail
  refine (fit_any _ _ _ HS1.out HW.out).mono ?_
  rintro e w2 ⟨v2, rfl, hn2, hu2⟩
  obtain ⟨a2, cap2, rfl, hl2, hm2⟩ := hn2.open
  have HN2 := Lib.hid hn2
  have HU2 := Lib.hid (HU1.out.trans0 hu2)
  have hu := hu1.trans0 hu2
  have hbk := res_block hu
  obtain ⟨hc2, hf2⟩ := res_cell hu
  have HBK := Lib.hid hbk
  clear hn2 hu2 hu1 hu hbk
  go_wp2
  have hset := set_cell (y := .slice a2 (wds (wval L)).length cap2) hc2
  refine bodyPost_ret (v := .agg #[.slice a2 (wds (wval L)).length cap2]) (by simp [results, Tryd.results14, go_sem, hset]) rfl ?_
  exact ⟨_, rfl, HN2.out.store HBK.out no_u64 _ rfl _, HU2.out.setCell (.inr (Nat.le_refl _)) _⟩
end Go.Proofs.YtcehkflkekefpaaDoor
