/- The contract of nat.byWords (layer 5). -/
import Derived.Test.YtoklmfmoblkfcaaDoorNatByW
import Derived.Test.YtoklmfmoblkfcaaDoorNatBackI
import Derived.Test.YtoklmfmoblkfcaaDoorNatDigF
import Derived.Test.YtoklmfmoblkfcaaDoorNatShift
import Derived.Test.YtoklmfmoblkfcaaDoorNatUp
import Derived.Test.YtoklmfmoblkfcaaDoorByWMath
import Derived.Deep.DeepCutAuto
import Derived.Deep.RegionHeld3
namespace Go.Proofs.YtoklmfmoblkfcaaDoor
open Go.RowKit Go.Proofs.Tm Go.Shelf
set_option linter.unusedVariables false
set_option linter.unusedSimpArgs false
set_option maxRecDepth 20000
attribute [local go_sem] Oper.semAt_some

/-- Both numbers, raised; the places where their slices stand. -/
structure ByA (w5 W : World) (p8 p9 gA gB la n1 x y : Nat) (LA LB : List Nat) : Prop where
  c8 : W.cell? ⟨p8, 0, none⟩ = some (.slice (some ⟨gA, 0, none⟩) (la + 1) (la + 1))
  c9 : W.cell? ⟨p9, 0, none⟩ = some (.slice (some ⟨gB, 0, none⟩) (n1 + 1) (n1 + 1 + 1))
  lo : w5.heap.size ≤ p8 ∧ w5.heap.size ≤ p9 ∧ w5.heap.size ≤ gA ∧ w5.heap.size ≤ gB
  ne : p8 ≠ p9 ∧ p8 ≠ gA ∧ p8 ≠ gB ∧ p9 ≠ gA ∧ p9 ≠ gB ∧ gA ≠ gB
  own : W.ownsRow w5.heap.size 65 1 (.slice (some ⟨gA, 0, none⟩) (la + 1) (la + 1)) (la + 1) (cu64 LA)
  rb : W.ownsRow w5.heap.size 65 1 (.slice (some ⟨gB, 0, none⟩) (n1 + 1 + 1) (n1 + 1 + 1)) (n1 + 1 + 1) (cu64 LB)
  words : LA.length = la + 1 ∧ (∀ d ∈ LA, d < 18446744073709551616) ∧ wval LA = x ∧ LB.length = n1 + 1 + 1 ∧ (∀ d ∈ LB, d < 18446744073709551616) ∧ wval LB = y
  upd : Upd [] w5 W

theorem ownsRow_low {w : World} {base base' : Nat} {e : TypeId} {size : Nat} {v : Value} {n : Nat} {xs : List Value} (h : w.ownsRow base e size v n xs) (hb : base' ≤ base) : w.ownsRow base' e size v n xs := by
  refine ⟨h.1, ?_⟩
  rcases h.2 with h2 | ⟨g, cap, cur, rfl, hg, rest⟩
  · exact .inl h2
  · exact .inr ⟨g, cap, cur, rfl, Nat.le_trans hb hg, rest⟩

theorem ByA.of {w5 W wA wB vA vB : World} {p8 p9 gA gB la n1 x y : Nat} {LA LB : List Nat} (rA : WRow vA gA (la + 1) LA wA) (rB : WRow vB gB (n1 + 1 + 1) LB wB) (hA : wval LA = x) (hB : wval LB = y) (sA : w5.heap.size ≤ vA.heap.size) (sB : w5.heap.size ≤ vB.heap.size)
    (c8 : W.cell? ⟨p8, 0, none⟩ = some (.slice (some ⟨gA, 0, none⟩) (la + 1) (la + 1))) (c9 : W.cell? ⟨p9, 0, none⟩ = some (.slice (some ⟨gB, 0, none⟩) (n1 + 1) (n1 + 1 + 1)))
    (lo : w5.heap.size ≤ p8 ∧ w5.heap.size ≤ p9 ∧ w5.heap.size ≤ gA ∧ w5.heap.size ≤ gB) (ne : p8 ≠ p9 ∧ p8 ≠ gA ∧ p8 ≠ gB ∧ p9 ≠ gA ∧ p9 ≠ gB ∧ gA ≠ gB)
    (uA : Upd [p8, p9] wA W) (uB : Upd [p8, p9] wB W) (u : Upd [] w5 W) : ByA w5 W p8 p9 gA gB la n1 x y LA LB := by
  obtain ⟨n1', n2, n3, n4, n5, n6⟩ := ne
  refine ⟨c8, c9, lo, ⟨n1', n2, n3, n4, n5, n6⟩, ownsRow_upd (ownsRow_low rA.own sA) uA (fun k hk => ?_), ownsRow_upd (ownsRow_low rB.own sB) uB (fun k hk => ?_), ⟨rA.len, rA.lt, hA, rB.len, rB.lt, hB⟩, u⟩
  · simp [Value.ownBlock] at hk
    subst hk
    simp only [List.mem_cons, List.not_mem_nil, or_false, not_or]
    omega
  · simp [Value.ownBlock] at hk
    subst hk
    simp only [List.mem_cons, List.not_mem_nil, or_false, not_or]
    omega

/-- Between two rounds of byWords. -/
structure BsI (w5 w0 : World) (q gA c la n1 VB A k : Nat) (gd' : Prop) (L M : List Nat) (W : World) : Prop where
  ownA : W.ownsRow w5.heap.size 65 1 (.slice (some ⟨gA, 0, none⟩) (la + 1) (la + 1)) (la + 1) (cu64 L)
  lenA : L.length = la + 1
  ltA : ∀ d ∈ L, d < 18446744073709551616
  ownM : W.ownsRow w5.heap.size 65 1 (.slice (some ⟨q, 0, none⟩) c c) c (cu64 M)
  lenM : M.length = c
  ltM : ∀ d ∈ M, d < 18446744073709551616
  upd : Upd [gA, q] w0 W
  good : gd' → A = wval (M.drop (c - k)) * VB * 18446744073709551616 ^ (c - k) + seg L 0 (c - k + (n1 + 1)) ∧ seg L (c - k) (n1 + 1) < VB

def BsIn (w5 w0 : World) (q gA c la n1 VB A : Nat) (pre : List (Fin c × Int)) (W : World) : Prop :=
  ∃ L M, BsI w5 w0 q gA c la n1 VB A pre.length (Good (pre.map Prod.fst)) L M W

theorem BsIn.from (w5 w0 : World) (q gA c la n1 VB A : Nat) (hq : q < w0.heap.size) (hg : gA < w0.heap.size) : OwnFrom w0.heap.size (BsIn w5 w0 q gA c la n1 VB A) := fun s X Y row hs hgr hr => by
  obtain ⟨L, M, h⟩ := hs
  have hk : ∀ k, k < w0.heap.size → Y.heap[k]? = X.heap[k]? := fun k hk => hgr.block k (Nat.lt_of_lt_of_le hk h.upd.size) (fun e => by have := (hr k e.symm).1; omega)
  refine ⟨L, M, ownsRow_kept h.ownA (fun k e => ?_), h.lenA, h.ltA, ownsRow_kept h.ownM (fun k e => ?_), h.lenM, h.ltM, h.upd.grown hgr (fun k e => .inr (hr k e).1), h.good⟩
  · simp [Value.ownBlock] at e
    subst e
    exact hk _ hg
  · simp [Value.ownBlock] at e
    subst e
    exact hk _ hq

/-- What is no cells is as it was. -/
theorem keeps_updS {S : List Nat} {X Y : World} (u : Upd S X Y) (h : ∀ k ∈ S, ∃ cs t f, X.heap[k]? = some (.cells cs t f)) : KeepsOthers X Y :=
  ⟨u.size, fun k o hk ho => by
    by_cases hS : k ∈ S
    · obtain ⟨cs, t, f, hc⟩ := h k hS
      rw [hc] at hk
      cases hk
      cases ho
    · exact (u.block k (Array.getElem?_eq_some_iff.1 hk).1 hS).trans hk⟩
theorem own_cells {w : World} {base : Nat} {e : TypeId} {g len cap n : Nat} {xs : List Value} (h : w.ownsRow base e 1 (.slice (some ⟨g, 0, none⟩) len cap) n xs) : ∃ cs t f, w.heap[g]? = some (.cells cs t f) := by
  rcases h.2 with h2 | ⟨g', cap', cur, hv, hb, hg, _⟩
  · exact absurd h2.1 (by simp)
  · cases hv
    exact ⟨_, _, _, hg⟩

theorem slice_mid_run (g j m la k : Nat) (hj : j ≤ m) (hm : m ≤ la) (hk : k = m - j) (h1 : j < la) (W : World) : (Instr.slice 22 (.slice (some ⟨g, 0, none⟩) la la) (some (.int .i64 (j : Int))) (some (.int .i64 (m : Int))) none).run Tryd.prog W = .ok (.slice (some ⟨g, j, none⟩) k (la - j)) W := by
  subst hk
  rw [run_slice_lh (P := Tryd.prog) W 22 (some ⟨g, 0, none⟩) la la Tryd.underlying22 .i64 .i64 (j : Int) (m : Int) (by omega) (by omega) (by omega)]
  have hsz : ∀ W : World, (sizeOf (Tryd.prog.elem 22)).run Tryd.prog W = .ok 1 W := fun W => by kernel_rfl
  have hne : ¬ la = j := by omega
  simp [sliced, Result.andThen, hsz, Addr.add, hne]
  try (intro h9; exact h9.symm)

theorem facts_of_upd {X A : World} (u : Upd [] X A) : (∀ k, k < X.heap.size → A.cell? ⟨k, 0, none⟩ = X.cell? ⟨k, 0, none⟩) ∧ (∀ k, k < X.heap.size → A.frozen? ⟨k, 0, none⟩ = X.frozen? ⟨k, 0, none⟩) ∧ X.heap.size ≤ A.heap.size :=
  ⟨fun k hk => u.cell (p := ⟨k, 0, none⟩) hk (by simp), fun k hk => u.frozen (p := ⟨k, 0, none⟩) hk (by simp), u.size⟩

theorem wds_le {m n : Nat} (h : m ≤ n) : (wds m).length ≤ (wds n).length := by
  rw [wds_length_le_iff]
  exact Nat.lt_of_le_of_lt h ((wds_length_le_iff _ _).1 (Nat.le_refl _))

set_option maxRecDepth 100000 in
set_option maxHeartbeats 3200000 in
theorem byWords_fresh (u v : Value) (a b : Nat) (w : World) (hu : NV w u a) (hv : NV w v b) (hn : 2 ≤ (wds b).length) (hab : b ≤ a) (hlen : (wds a).length ≤ 1073741824) :
    Calls Tryd.prog 61 #[u, v] w (RNat2F (a / b) (a % b) w) := by
  obtain ⟨aa, ca, rfl, hla, hca⟩ := hu.open
  obtain ⟨ab, cb, rfl, hlb, hcb⟩ := hv.open
  unfold maxLen at hca hcb
  have HA := Lib.hid hu
  have HB := Lib.hid hv
  obtain ⟨la, hla'⟩ : ∃ l, l = (wds a).length := ⟨_, rfl⟩
  obtain ⟨n, hn'⟩ : ∃ l, l = (wds b).length := ⟨_, rfl⟩
  have hnla : n ≤ la := by rw [hn', hla']; exact wds_le hab
  rw [← hla'] at hlen hla HA ⊢
  rw [← hn'] at hn hlb HB ⊢
  have HLA := Lib.hid hla'
  have HN := Lib.hid hn'
  clear hu hv hla' hn'
  refine (callsIn_wide (n := 3)).1 ?_
  refine callsIn_of_wp_marks Tryd.func61 rfl trivial ?_ rfl
  simp only [Tryd.ntmps61, List.size_toArray, List.length_cons, List.length_nil, Nat.reduceAdd, Nat.reduceSub, Array.replicate_succ, Array.replicate_zero, List.push_toArray, List.append_toArray, List.nil_append, List.cons_append]
  obtain ⟨n1, rfl⟩ : ∃ k, n = k + 1 := ⟨n - 1, by omega⟩
  obtain ⟨x, o, cb', hv, hc⟩ := sl_at (w := w) HB.out.sl (by intro h; have := congrArg List.length h; rw [cu64_length, ← HN.out] at this; simp at this)
  obtain ⟨rfl, rfl⟩ : ab = some ⟨x, o, none⟩ ∧ cb = cb' := by simp at hv; exact ⟨hv.1, hv.2.2⟩
  have ky := hc n1 (by rw [cu64_length, ← HN.out]; omega)
  rw [cu64_getD _ _ (by rw [← HN.out]; omega)] at ky
  obtain ⟨t, ht⟩ : ∃ t, t = (wds b).getD n1 0 := ⟨_, rfl⟩
  rw [← ht] at ky
  have hxw := World.block_lt_of_cell? w _ ky
  have k5 : (((((w.alloc (.cells #[.slice aa la ca] 27)).alloc (.cells #[.slice (some ⟨x, o, none⟩) (n1 + 1) cb] 27)).alloc (.cells #[.slice none 0 0] 27)).alloc (.cells #[.slice none 0 0] 27)).alloc (.cells #[.int .i64 ((n1 : Int) + 1)] 3)).cell? ⟨x, o + n1, none⟩ = some (.int .u64 (t : Int)) :=
    ((((((Upd.refl [] w).alloc _).alloc _).alloc _).alloc _).alloc _ |>.cell (p := ⟨x, o + n1, none⟩) hxw (by simp)).trans ky
  have i1 : (0 : Int) ≤ (n1 : Int) := by omega
  have i2 : (n1 : Int) < ((n1 + 1 : Nat) : Int) := by omega
  have HT := Lib.hid ht
  have htd : t = b / 18446744073709551616 ^ n1 := by
    rw [ht, wds_getD, Nat.mod_eq_of_lt]
    rw [Nat.div_lt_iff_lt_mul (Nat.pow_pos (by decide)), ← Nat.pow_succ']
    exact (wds_length_le_iff b (n1 + 1)).1 (by rw [← HN.out]; exact Nat.le_refl _)
  have ht0 : t ≠ 0 := by
    rw [htd]
    intro h0
    have h1 : b < 18446744073709551616 ^ n1 := by
      rcases Nat.lt_or_ge b (18446744073709551616 ^ n1) with h | h
      · exact h
      · have := (Nat.le_div_iff_mul_le (Nat.pow_pos (show 0 < 18446744073709551616 by decide))).2 (show 1 * 18446744073709551616 ^ n1 ≤ b by omega); omega
    have := (wds_length_le_iff b n1).2 h1
    rw [← HN.out] at this; omega
  have ht1 : t < 18446744073709551616 := by rw [ht]; exact getD_lt (wds_lt b) n1
  obtain ⟨s, hs63, hsb, hs1, hs2⟩ := lz_spec t ht0 ht1
  obtain ⟨HV1, HV2⟩ := bw_by (b := b) (n := n1 + 1) (s := s) (by omega) htd hs1 hs2 hs63
  have HV1 := Lib.hid HV1
  have HV2 := Lib.hid HV2
  have HSB := Lib.hid hsb
  clear hc hv ky ht htd hsb hs1 hs2
  gi_wp2_with (refine ⟨trivial, ?_⟩; gi_at_call 83; refine (callsIn_wide.2 (Tryd.bits_LeadingZeros64 (t : Int) _ (by omega) (by omega))).mono ?_; rintro e w' ⟨rfl, rfl⟩; rw [Int.toNat_natCast, HSB.out])
  obtain ⟨S, hS⟩ : ∃ S, S = w.heap.size := ⟨_, rfl⟩
  have HS0 := Lib.hid hS
  obtain ⟨w5, hw5⟩ : ∃ W, W = (((((w.alloc (.cells #[.slice aa la ca] 27)).alloc (.cells #[.slice (some ⟨x, o, none⟩) (n1 + 1) cb] 27)).alloc (.cells #[.slice none 0 0] 27)).alloc (.cells #[.slice none 0 0] 27)).alloc (.cells #[.int .i64 ((n1 : Int) + 1)] 3)) := ⟨_, rfl⟩
  rw [← hw5, ← hS]
  have hz : w5.heap.size = S + 1 + 1 + 1 + 1 + 1 := by rw [hw5]; simp [hS]
  have hb0 : w5.heap[S]? = some (.cells #[.slice aa la ca] 27 (0, 0)) := by rw [hw5, hS, Below.heap_alloc _ _ _ (by simp <;> omega), Below.heap_alloc _ _ _ (by simp <;> omega), Below.heap_alloc _ _ _ (by simp <;> omega), Below.heap_alloc _ _ _ (by simp <;> omega), alloc_nth _ _ _ _ (by simp)]
  have hb1 : w5.heap[S + 1]? = some (.cells #[.slice (some ⟨x, o, none⟩) (n1 + 1) cb] 27 (0, 0)) := by rw [hw5, hS, Below.heap_alloc _ _ _ (by simp <;> omega), Below.heap_alloc _ _ _ (by simp <;> omega), Below.heap_alloc _ _ _ (by simp <;> omega), alloc_nth _ _ _ _ (by simp)]
  have hb2 : w5.heap[S + 1 + 1]? = some (.cells #[.slice none 0 0] 27 (0, 0)) := by rw [hw5, hS, Below.heap_alloc _ _ _ (by simp <;> omega), Below.heap_alloc _ _ _ (by simp <;> omega), alloc_nth _ _ _ _ (by simp)]
  have hb3 : w5.heap[S + 1 + 1 + 1]? = some (.cells #[.slice none 0 0] 27 (0, 0)) := by rw [hw5, hS, Below.heap_alloc _ _ _ (by simp <;> omega), alloc_nth _ _ _ _ (by simp)]
  have hb4 : w5.heap[S + 1 + 1 + 1 + 1]? = some (.cells #[.int .i64 ((n1 : Int) + 1)] 3 (0, 0)) := by rw [hw5, hS, alloc_nth _ _ _ _ (by simp)]
  have hU5 : Upd [] w w5 := by rw [hw5]; exact (((((Upd.refl _ _).alloc _).alloc _).alloc _).alloc _).alloc _
  have HC5 : Hid (∀ W, Upd [] w5 W → W.cell? ⟨S, 0, none⟩ = some (.slice aa la ca) ∧ W.cell? ⟨S + 1, 0, none⟩ = some (.slice (some ⟨x, o, none⟩) (n1 + 1) cb) ∧ W.cell? ⟨S + 1 + 1 + 1 + 1, 0, none⟩ = some (.int .i64 ((n1 : Int) + 1)) ∧ Upd [] w5 W) := fun W h =>
    ⟨(h.cell (p := ⟨S, 0, none⟩) (by show S < _; omega) (by simp)).trans (by rw [cell_of_row w5 _ 0 _ _ _ hb0]; rfl), (h.cell (p := ⟨S + 1, 0, none⟩) (by show S + 1 < _; omega) (by simp)).trans (by rw [cell_of_row w5 _ 0 _ _ _ hb1]; rfl), (h.cell (p := ⟨S + 1 + 1 + 1 + 1, 0, none⟩) (by show S + 1 + 1 + 1 + 1 < _; omega) (by simp)).trans (by rw [cell_of_row w5 _ 0 _ _ _ hb4]; rfl), h⟩
  have HU5 := Lib.hid hU5
  have HB2 := Lib.hid hb2
  have HB3 := Lib.hid hb3
  have HZ := Lib.hid hz
  have HUPA : Hid (∀ W, Upd [] w5 W → Calls Tryd.prog 53 #[.slice aa la ca, .int .i64 (s : Int)] W fun e w' => ∃ g L, e = .returned (.slice (some ⟨g, 0, none⟩) (la + 1) (la + 1)) ∧ W.heap.size ≤ g ∧ WRow W g (la + 1) L w' ∧ wval L = a * 2 ^ s) := fun W h => by
    have h1 := up_any _ (wds a) s W ((HA.out.upd0 (HU5.out.trans0 h)).sl) (wds_lt a) (by rw [← HLA.out]; omega) (by omega)
    unfold UpPost at h1
    rw [← HLA.out, show s / 64 = 0 by omega, wval_wds] at h1
    exact h1.mono fun e w' ⟨g, L, h2, h3, h4, h5, _⟩ => ⟨g, L, h2, h3, h4, h5⟩
  have HUPB : Hid (∀ W, Upd [] w5 W → Calls Tryd.prog 53 #[.slice (some ⟨x, o, none⟩) (n1 + 1) cb, .int .i64 (s : Int)] W fun e w' => ∃ g L, e = .returned (.slice (some ⟨g, 0, none⟩) (n1 + 1 + 1) (n1 + 1 + 1)) ∧ W.heap.size ≤ g ∧ WRow W g (n1 + 1 + 1) L w' ∧ wval L = b * 2 ^ s) := fun W h => by
    have h1 := up_any _ (wds b) s W ((HB.out.upd0 (HU5.out.trans0 h)).sl) (wds_lt b) (by rw [← HN.out]; omega) (by omega)
    unfold UpPost at h1
    rw [← HN.out, show s / 64 = 0 by omega, wval_wds] at h1
    exact h1.mono fun e w' ⟨g, L, h2, h3, h4, h5, _⟩ => ⟨g, L, h2, h3, h4, h5⟩
  have hrf : Upd [] w5 w5 := Upd.refl _ _
  obtain ⟨hc0, hc1, hc4, _⟩ := HC5.out w5 hrf
  clear hw5 hS hz hb0 hb1 hb2 hb3 hb4 hU5 k5 hxw
  have hns : ∀ (g : Nat) (W : World), (Instr.slice 22 (.slice (some ⟨g, 0, none⟩) (n1 + 1 + 1) (n1 + 1 + 1)) none (some (.int .i64 ((n1 : Int) + 1))) none).run Tryd.prog W = .ok (.slice (some ⟨g, 0, none⟩) (n1 + 1) (n1 + 1 + 1)) W := fun g W => by
    rw [run_slice_h (P := Tryd.prog) W 22 (some ⟨g, 0, none⟩) (n1 + 1 + 1) (n1 + 1 + 1) Tryd.underlying22 .i64 ((n1 : Int) + 1) (by omega) (by omega)]
    have hsz : ∀ W : World, (sizeOf (Tryd.prog.elem 22)).run Tryd.prog W = .ok 1 W := fun W => by kernel_rfl
    simp [sliced, Result.andThen, show ((n1 : Int) + 1).toNat = n1 + 1 by omega, hsz, Addr.add]
  have hal : ∀ (W : World) (o : Obj) (k : Nat), k < W.heap.size → (W.alloc o).cell? ⟨k, 0, none⟩ = W.cell? ⟨k, 0, none⟩ := fun W o k hk => World.cell?_of_block (w := W) (Below.heap_alloc _ _ _ hk)
  have haf : ∀ (W : World) (o : Obj) (k : Nat), k < W.heap.size → (W.alloc o).frozen? ⟨k, 0, none⟩ = W.frozen? ⟨k, 0, none⟩ := fun W o k hk => World.frozen?_of_block (w := W) (Below.heap_alloc _ _ _ hk)
  refine wpIn_wide.2 ?_
  go_cut [8, 9] from 12 to 60 (fun v8 v9 wx => ∃ (p8 p9 gA gB : Nat) (LA LB : List Nat), v8 = .pointer (some ⟨p8, 0, none⟩) ∧ v9 = .pointer (some ⟨p9, 0, none⟩) ∧ Hid (ByA w5 wx p8 p9 gA gB la n1 (a * 2 ^ s) (b * 2 ^ s) LA LB))
  case first =>
    go_region_held3 (fun A => A.cell? ⟨S, 0, none⟩ = some (.slice aa la ca) ∧ A.cell? ⟨S + 1, 0, none⟩ = some (.slice (some ⟨x, o, none⟩) (n1 + 1) cb) ∧ A.cell? ⟨S + 1 + 1 + 1 + 1, 0, none⟩ = some (.int .i64 ((n1 : Int) + 1)) ∧ Upd [] w5 A)
      ((refine HC5.out _ ?_; (repeat' (first | (with_reducible exact huB) | (with_reducible exact huA) | (with_reducible exact hrf) | (with_reducible refine Upd.drew ?_) | (with_reducible refine Upd.alloc ?_ _) | (with_reducible refine Upd.setCell ?_ (.inr ?_) _) | exact huA.size | exact huB.size | exact (huA.alloc _).size | exact (huB.alloc _).size | exact Nat.le_succ_of_le huA.size | exact Nat.le_succ_of_le huB.size | exact Nat.le_refl _ | exact Nat.le_succ _))))
      (first
        | (go_at_call 53; (with_reducible refine Calls.mono (HUPA.out _ ?_) ?_); (focus ((repeat (first | (with_reducible exact huB) | (with_reducible exact hrf) | (with_reducible refine Upd.drew ?_) | (with_reducible refine Upd.alloc ?_ _))); done)); rintro e wA ⟨gA, LA, rfl, hgA, hrA, hvA⟩; obtain ⟨hcA, hfA, hszA⟩ := facts_of_upd hrA.upd; (try simp only [World.size_alloc, World.size_drew] at hszA); (try have hlA : wB.heap.size < wA.heap.size := by omega); (try have hl2A : wB.heap.size + 1 < wA.heap.size := by omega); (try have hl3A : w5.heap.size < wA.heap.size := by omega); (try have hl4A : w5.heap.size + 1 < wA.heap.size := by omega); have HGA := Lib.hid hgA; have HRA := Lib.hid hrA; have HVA := Lib.hid hvA; have huA : Upd [] w5 wA := Upd.trans0 (by (repeat (first | (with_reducible exact huB) | (with_reducible exact hrf) | (with_reducible refine Upd.drew ?_) | (with_reducible refine Upd.alloc ?_ _)))) hrA.upd; clear hgA hrA hvA)
        | (go_at_call 53; (with_reducible refine Calls.mono (HUPB.out _ ?_) ?_); (focus ((repeat (first | (with_reducible exact huA) | (with_reducible exact hrf) | (with_reducible refine Upd.drew ?_) | (with_reducible refine Upd.alloc ?_ _))); done)); rintro e wB ⟨gB, LB, rfl, hgB, hrB, hvB⟩; obtain ⟨hcB, hfB, hszB⟩ := facts_of_upd hrB.upd; (try simp only [World.size_alloc, World.size_drew] at hszB); (try have hlB : wA.heap.size < wB.heap.size := by omega); (try have hl2B : wA.heap.size + 1 < wB.heap.size := by omega); (try have hl3B : w5.heap.size < wB.heap.size := by omega); (try have hl4B : w5.heap.size + 1 < wB.heap.size := by omega); have HGB := Lib.hid hgB; have HRB := Lib.hid hrB; have HVB := Lib.hid hvB; have huB : Upd [] w5 wB := Upd.trans0 (by (repeat (first | (with_reducible exact huA) | (with_reducible exact hrf) | (with_reducible refine Upd.drew ?_) | (with_reducible refine Upd.alloc ?_ _)))) hrB.upd; clear hgB hrB hvB))
    all_goals
      go_wp2_with fail
      go_meet
      have rA := HRA.out
      have rB := HRB.out
      have gAl := HGA.out
      have gBl := HGB.out
      have lA := (rA.own.lt gA rfl).2
      have lB := (rB.own.lt gB rfl).2
      simp only [World.size_alloc, World.size_drew] at gAl gBl
      have uA := huA.size
      have uB := huB.size
      refine ⟨_, _, gA, gB, LA, LB, rfl, rfl, Lib.hid (ByA.of rA rB HVA.out HVB.out (by first | exact Nat.le_refl _ | omega | (simp <;> omega)) (by first | exact Nat.le_refl _ | omega | (simp <;> omega)) ?_ ?_ ⟨by (first | omega | (simp <;> omega)), by (first | omega | (simp <;> omega)), by omega, by omega⟩ ⟨by (first | omega | (simp <;> omega)), by (first | omega | (simp <;> omega)), by (first | omega | (simp <;> omega)), by (first | omega | (simp <;> omega)), by (first | omega | (simp <;> omega)), by omega⟩ ?_ ?_ ?_)⟩
      · (try go_simp) <;> first
          | exact set_cell (show _ = some (Value.slice none 0 0) by go_simp)
          | (rw [World.cell?_setCell_far _ _ _ _ (by show _ ≠ _; omega)]; exact set_cell (show _ = some (Value.slice none 0 0) by go_simp))
      · (try go_simp) <;> first
          | exact set_cell (show _ = some (Value.slice none 0 0) by go_simp)
          | (rw [World.cell?_setCell_far _ _ _ _ (by show _ ≠ _; omega)]; exact set_cell (show _ = some (Value.slice none 0 0) by go_simp))
      · (repeat' (first | (with_reducible exact Upd.refl _ _) | (with_reducible refine Upd.drew ?_) | (with_reducible refine Upd.alloc ?_ _) | (with_reducible refine Upd.setCell ?_ (.inl (by simp)) _) | (with_reducible refine Upd.mono (Upd.trans0 ?_ rB.upd) (by simp)) | (with_reducible refine Upd.mono (Upd.trans0 ?_ rA.upd) (by simp))))
      · (repeat' (first | (with_reducible exact Upd.refl _ _) | (with_reducible refine Upd.drew ?_) | (with_reducible refine Upd.alloc ?_ _) | (with_reducible refine Upd.setCell ?_ (.inl (by simp)) _) | (with_reducible refine Upd.mono (Upd.trans0 ?_ rB.upd) (by simp)) | (with_reducible refine Upd.mono (Upd.trans0 ?_ rA.upd) (by simp))))
      · (repeat' (first | (with_reducible exact huB) | (with_reducible exact huA) | (with_reducible exact hrf) | (with_reducible refine Upd.drew ?_) | (with_reducible refine Upd.alloc ?_ _) | (with_reducible refine Upd.setCell ?_ (.inr ?_) _) | exact huA.size | exact huB.size | exact (huA.alloc _).size | exact (huB.alloc _).size | exact Nat.le_succ_of_le huA.size | exact Nat.le_succ_of_le huB.size | exact Nat.le_refl _ | exact Nat.le_succ _))
  case rest =>
    obtain ⟨p8, p9, gA, gB, LA, LB, rfl, rfl, HBY⟩ := hcut
    obtain ⟨hc0, hc1, hc4, hu5⟩ := HC5.out wc HBY.out.upd
    have hc8 := HBY.out.c8
    have hc9 := HBY.out.c9
    obtain ⟨c, hcd⟩ : ∃ c, c = la - n1 := ⟨_, rfl⟩
    have hsc : ((la : Int) + 1) - ((n1 : Int) + 1) = (c : Int) := by omega
    have hsc2 : (((la + 1 : Nat) : Int)) - ((n1 : Int) + 1) = (c : Int) := by omega
    have hc1c : 1 ≤ c := by omega
    have hcl : c + n1 ≤ la := by omega
    have hcl2 : la ≤ c + n1 := by omega
    have hmk := make_run c (by omega)
    clear hcd hu5
    gi_wp2_with (refine ⟨trivial, ?_⟩; gi_at_call 48; refine (callsIn_wide.2 (backward_any _ _ _ _)).mono ?_; rintro e w' ⟨rfl, rfl⟩)
    obtain ⟨q, hq⟩ : ∃ q, q = wc.heap.size := ⟨_, rfl⟩
    obtain ⟨w0, hw0⟩ : ∃ W, W = ((wc.alloc (.cells (madeCells #[.int .u64 0] c) 65)).alloc (.cells #[.slice (some ⟨q, 0, none⟩) c c] 22)).alloc (.cells #[.slice (some ⟨q, 0, none⟩) c c] 22) := ⟨_, rfl⟩
    rw [← hq, ← hw0]
    have hz : w0.heap.size = q + 1 + 1 + 1 := by rw [hw0]; simp [hq]
    have hb0 : w0.heap[q]? = some (.cells (madeCells #[.int .u64 0] c) 65 (0, 0)) := by rw [hw0, hq, Below.heap_alloc _ _ _ (by simp <;> omega), Below.heap_alloc _ _ _ (by simp <;> omega), alloc_nth _ _ _ _ (by simp)]
    have hb1 : w0.heap[q + 1]? = some (.cells #[.slice (some ⟨q, 0, none⟩) c c] 22 (0, 0)) := by rw [hw0, hq, Below.heap_alloc _ _ _ (by simp <;> omega), alloc_nth _ _ _ _ (by simp)]
    have hb2 : w0.heap[q + 1 + 1]? = some (.cells #[.slice (some ⟨q, 0, none⟩) c c] 22 (0, 0)) := by rw [hw0, hq, alloc_nth _ _ _ _ (by simp)]
    have hU0 : Upd [] wc w0 := by rw [hw0]; exact (((Upd.refl _ _).alloc _).alloc _).alloc _
    have hown : w0.ownsRow w5.heap.size 65 1 (.slice (some ⟨q, 0, none⟩) c c) c (cu64 (List.replicate c 0)) := by
      refine ⟨by simp, .inr ⟨q, c, _, rfl, by rw [hq]; exact HBY.out.upd.size, hb0, Nat.le_refl _, by unfold maxLen; omega, by have := size_madeCells #[Value.int .u64 0] c; simpa using this, ?_⟩⟩
      have := madeCells_one (.int .u64 0) rfl c
      rw [show (Value.int IntKind.u64 0).cells = #[Value.int .u64 0] from rfl] at this
      rw [this, List.take_replicate, cu64_zero]
      congr 1
      omega
    have hownA : w0.ownsRow w5.heap.size 65 1 (.slice (some ⟨gA, 0, none⟩) (la + 1) (la + 1)) (la + 1) (cu64 LA) := ownsRow_upd HBY.out.own hU0 (by simp)
    have hownB : w0.ownsRow w5.heap.size 65 1 (.slice (some ⟨gB, 0, none⟩) (n1 + 1 + 1) (n1 + 1 + 1)) (n1 + 1 + 1) (cu64 LB) := ownsRow_upd HBY.out.rb hU0 (by simp)
    have hgAq : gA < q := by rw [hq]; exact (HBY.out.own.lt gA rfl).2
    have hgBq : gB < q := by rw [hq]; exact (HBY.out.rb.lt gB rfl).2
    have hp8q : p8 < q := by rw [hq]; exact World.block_lt_of_cell? wc _ HBY.out.c8
    have hp9q : p9 < q := by rw [hq]; exact World.block_lt_of_cell? wc _ HBY.out.c9
    have hVB : wval (LB.take (n1 + 1)) = b * 2 ^ s := by
      have h1 := wval_take_succ LB (n1 + 1)
      rw [List.take_of_length_le (by rw [HBY.out.words.2.2.2.1]; exact Nat.le_refl _), HBY.out.words.2.2.2.2.2] at h1
      rcases Nat.eq_zero_or_pos (LB.getD (n1 + 1) 0) with h | h
      · rw [h, Nat.mul_zero, Nat.add_zero] at h1; exact h1.symm
      · exfalso
        have h2 := HV2.out
        have h3 := Nat.le_mul_of_pos_right (18446744073709551616 ^ (n1 + 1)) h
        omega
    have hfirst : seg LA c (n1 + 1) < b * 2 ^ s := bw_first (la := la) (a := a) (s := s) (by rw [HBY.out.words.1]; omega) HBY.out.words.2.2.1 ((wds_length_le_iff a la).1 (by rw [← HLA.out]; exact Nat.le_refl _)) (by omega) (by omega) HBY.out.words.1 hs63 HV1.out
    have c10 : w0.cell? ⟨q + 1, 0, none⟩ = some (.slice (some ⟨q, 0, none⟩) c c) := by rw [cell_of_row w0 _ 0 _ _ _ hb1]; rfl
    have c11 : w0.cell? ⟨q + 1 + 1, 0, none⟩ = some (.slice (some ⟨q, 0, none⟩) c c) := by rw [cell_of_row w0 _ 0 _ _ _ hb2]; rfl
    have hwcq : wc.heap.size = q := hq.symm
    have hlo := HBY.out.lo
    have hne8 := HBY.out.ne
    have hzz := HZ.out
    have c8' : w0.cell? ⟨p8, 0, none⟩ = some (.slice (some ⟨gA, 0, none⟩) (la + 1) (la + 1)) := (hU0.cell (p := ⟨p8, 0, none⟩) (by show p8 < _; omega) (by simp)).trans HBY.out.c8
    have c9' : w0.cell? ⟨p9, 0, none⟩ = some (.slice (some ⟨gB, 0, none⟩) (n1 + 1) (n1 + 1 + 1)) := (hU0.cell (p := ⟨p9, 0, none⟩) (by show p9 < _; omega) (by simp)).trans HBY.out.c9
    have c4' : w0.cell? ⟨S + 1 + 1 + 1 + 1, 0, none⟩ = some (.int .i64 ((n1 : Int) + 1)) := (hU0.cell (p := ⟨S + 1 + 1 + 1 + 1, 0, none⟩) (by show S + 1 + 1 + 1 + 1 < _; omega) (by simp)).trans hc4
    have HCF : Hid (∀ W, Upd [gA, q] w0 W → W.cell? ⟨q + 1, 0, none⟩ = some (.slice (some ⟨q, 0, none⟩) c c) ∧ W.cell? ⟨p8, 0, none⟩ = some (.slice (some ⟨gA, 0, none⟩) (la + 1) (la + 1)) ∧ W.cell? ⟨S + 1 + 1 + 1 + 1, 0, none⟩ = some (.int .i64 ((n1 : Int) + 1)) ∧ W.cell? ⟨p9, 0, none⟩ = some (.slice (some ⟨gB, 0, none⟩) (n1 + 1) (n1 + 1 + 1))) := fun W h =>
      ⟨(h.cell (p := ⟨q + 1, 0, none⟩) (by show q + 1 < _; omega) (by simp; omega)).trans c10, (h.cell (p := ⟨p8, 0, none⟩) (by show p8 < _; omega) (by simp; omega)).trans c8',
        (h.cell (p := ⟨S + 1 + 1 + 1 + 1, 0, none⟩) (by show S + 1 + 1 + 1 + 1 < _; omega) (by simp; omega)).trans c4', (h.cell (p := ⟨p9, 0, none⟩) (by show p9 < _; omega) (by simp; omega)).trans c9'⟩
    have hVBp : 0 < b * 2 ^ s := by omega
    have hLAl := HBY.out.words.1
    have HBI : Hid (BsIn w5 w0 q gA c la n1 (b * 2 ^ s) (a * 2 ^ s) [] w0) := ⟨LA, List.replicate c 0, hownA, HBY.out.words.1, HBY.out.words.2.1, hown, by simp, fun d hd => by rw [List.eq_of_mem_replicate hd]; decide, Upd.refl _ _, fun _ => by
      simp only [List.length_nil, Nat.sub_zero]
      refine ⟨?_, hfirst⟩
      rw [List.drop_eq_nil_of_le (by simp), seg_whole LA (c + (n1 + 1)) (by omega), HBY.out.words.2.2.1]
      simp [wval]⟩
    have HDG : Hid (∀ (W : World) (L : List Nat) (j : Nat), W.ownsRow w5.heap.size 65 1 (.slice (some ⟨gA, 0, none⟩) (la + 1) (la + 1)) (la + 1) (cu64 L) → L.length = la + 1 → (∀ d ∈ L, d < 18446744073709551616) → Upd [gA, q] w0 W → j < c →
        Calls Tryd.prog 84 #[.slice (some ⟨gA, j, none⟩) (n1 + 1 + 1) (la + 1 - j), .slice (some ⟨gB, 0, none⟩) (n1 + 1) (n1 + 1 + 1)] W (DigFPost w5.heap.size gA (la + 1) (la + 1) j (LB.take (n1 + 1)) L W)) := fun W L j h1 h2 h3 h4 h5 => by
      have hBl : (LB.take (n1 + 1)).length = n1 + 1 := by rw [List.length_take, HBY.out.words.2.2.2.1]; omega
      have hsB : Sl W (.slice (some ⟨gB, 0, none⟩) (n1 + 1) (n1 + 1 + 1)) (cu64 (LB.take (n1 + 1))) := by
        rw [cu64_take]
        exact Sl.take (Sl.upd (Sl.own hownB) h4 (fun _ k hk => by simp [Value.ownBlock] at hk; subst hk; simp; omega)) (n1 + 1) (by omega)
      have := digit_free w5.heap.size gA (la + 1) (la + 1) j (la + 1 - j) _ (LB.take (n1 + 1)) L W h1 h2 h3 hsB (fun d hd => HBY.out.words.2.2.2.2.1 d (List.mem_of_mem_take hd)) (fun k hk => by simp [Value.ownBlock] at hk; omega) (by rw [hBl]; omega) (by rw [hBl]; omega) (by rw [hBl]; omega) (by omega) (by rw [hVB]; exact hVBp)
      rw [hBl] at this
      exact this
    have HVB := Lib.hid hVB
    have HHOWN := Lib.hid hown
    have HU0 := Lib.hid hU0
    have hgAl : gA < w0.heap.size := by omega
    have hql : q < w0.heap.size := by omega
    have h0q : ∀ j, j < c → ∃ z : Int, w0.cell? ⟨q, 0 + j, none⟩ = some (.int .u64 z) := fun j hj => by
      rw [Nat.zero_add]
      have := hown.cellAt j (by omega)
      rw [cu64_getD _ _ (by simpa using hj)] at this
      exact ⟨_, this⟩
    have hqc : c ≤ 1099511627776 := by omega
    have HZ0 := Lib.hid hz
    have HW0 := Lib.hid hw0
    have HQ0 : Hid (wc.heap.size = q) := hq.symm
    have HLO := Lib.hid hlo
    have HNE := Lib.hid hne8
    have HLAL := Lib.hid hLAl
    clear hz hw0 hq hb0 hb1 hb2 hU0 hown hownA hownB hVB hfirst c10 c8' c9' c4' hlo hne8 hwcq hc8 hc9 hc0 hc1 hc4 hmk hsc hsc2 hVBp hLAl hzz
    refine wpIn_rangeFunc_ownF rfl (by decide) (gf := 73) (lb := #[.pointer (some ⟨q + 1 + 1, 0, none⟩)]) rfl trivial (enters_of Tryd.func73 (by kernel_rfl) rfl)
      (backi_stops (Ks [gA, q]) 2 (by decide) (q + 1 + 1) w0.heap.size q 0 c c hqc w0 (by have := HZ0.out; omega) (by simp [Ks]; omega) (Nat.le_refl _) c11 hql h0q) Ki.trans (Ki.put hql) (Below.refl _ _) (fun _ => rfl)
      (BsIn w5 w0 q gA c la n1 (b * 2 ^ s) (a * 2 ^ s)) (fun _ _ _ => False) (BsIn.from w5 w0 q gA c la n1 _ _ hql hgAl) (fun _ _ _ _ _ hs _ _ => hs) HBI.out
      ?a1 ?assign ?body ?done ?stop
    case assign =>
      intro l x W K hK
      simp only [encI]
      gi_wp2
      exact hK
    case body =>
      rintro l pre x W ⟨L, M, hI⟩ hlt
      obtain ⟨j, hj⟩ : ∃ j, j = c - 1 - x.1.val := ⟨_, rfl⟩
      have hjc : j < c := by have := x.1.isLt; omega
      rw [← hj]
      have HI := Lib.hid hI
      have HJ := Lib.hid hj
      obtain ⟨hc10, hc8, hc4, hc9⟩ := HCF.out W hI.upd
      obtain ⟨m, hm⟩ : ∃ m, m = j + (n1 + 1) + 1 := ⟨_, rfl⟩
      have e1 : IntKind.i64.wrap ((j : Int) + ((n1 : Int) + 1)) = (j : Int) + ((n1 : Int) + 1) := IntWalk.i64_in _ (by omega)
      have e2 : IntKind.i64.wrap ((j : Int) + ((n1 : Int) + 1) + 1) = (m : Int) := by rw [IntWalk.i64_in _ (by omega)]; omega
      have hsl := slice_mid_run gA j m (la + 1) (n1 + 1 + 1) (by omega) (by omega) (by omega) (by omega)
      have HDIG : Hid (∀ X, Upd [] W X → Calls Tryd.prog 84 #[.slice (some ⟨gA, j, none⟩) (n1 + 1 + 1) (la + 1 - j), .slice (some ⟨gB, 0, none⟩) (n1 + 1) (n1 + 1 + 1)] X (DigFPost w5.heap.size gA (la + 1) (la + 1) j (LB.take (n1 + 1)) L X)) := fun X h =>
        HDG.out X L j (ownsRow_upd hI.ownA h (by simp)) hI.lenA hI.ltA (hI.upd.trans h (by simp)) hjc
      have hrow := hI.ownM.cellAt j (by omega)
      rw [cu64_getD _ _ (by rw [hI.lenM]; exact hjc)] at hrow
      have hfr := hI.ownM.frozenAt j
      have hqW := World.block_lt_of_cell? W _ hrow
      have i0 : (0 : Int) ≤ (j : Int) := by omega
      have i1 : (j : Int) < (c : Int) := by omega
      obtain ⟨y, hy⟩ : ∃ y, y = M.getD j 0 := ⟨_, rfl⟩
      rw [← hy] at hrow
      clear hy hm hj hI
      gi_wp2
      refine region_round (fun A => A.cell? ⟨q + 1, 0, none⟩ = some (.slice (some ⟨q, 0, none⟩) c c) ∧ A.cell? ⟨p8, 0, none⟩ = some (.slice (some ⟨gA, 0, none⟩) (la + 1) (la + 1)) ∧ A.cell? ⟨S + 1 + 1 + 1 + 1, 0, none⟩ = some (.int .i64 ((n1 : Int) + 1)) ∧ A.cell? ⟨p9, 0, none⟩ = some (.slice (some ⟨gB, 0, none⟩) (n1 + 1) (n1 + 1 + 1))) l _ (by kernel_rfl) (by kernel_rfl) (fun ⟨_, _, h⟩ => h) ⟨hc10, hc8, hc4, hc9⟩ (fun hHeld => ?_)
      refine wpAnyH_take (i := 0) (v := ?_) rfl (by kernel_rfl) (by kernel_rfl) (by kernel_rfl) (fun _ _ _ h => h) (Or.inl ⟨by rfl, ?_⟩) (by assumption) ?_
      rotate_left
      · (intro w hSw; (try dsimp only at hSw); go_simp; (try with_reducible rfl))
      try simp only [Act.put, List.getElem_toArray, List.getElem_cons_succ, List.getElem_cons_zero, List.setIfInBounds_toArray, List.set_cons_zero, List.set_cons_succ]
      refine wpAnyH_take (i := 1) (v := ?_) rfl (by kernel_rfl) (by kernel_rfl) (by kernel_rfl) (fun _ _ _ h => h) (Or.inl ⟨by rfl, ?_⟩) (by assumption) ?_
      rotate_left
      · (intro w hSw; (try dsimp only at hSw); go_simp; (try with_reducible rfl))
      try simp only [Act.put, List.getElem_toArray, List.getElem_cons_succ, List.getElem_cons_zero, List.setIfInBounds_toArray, List.set_cons_zero, List.set_cons_succ]
      refine wpAnyH_take (i := 2) (v := ?_) rfl (by kernel_rfl) (by kernel_rfl) (by kernel_rfl) (fun _ _ _ h => h) (Or.inl ⟨by rfl, ?_⟩) (by assumption) ?_
      rotate_left
      · (intro w hSw; (try dsimp only at hSw); go_simp; (try with_reducible rfl))
      try simp only [Act.put, List.getElem_toArray, List.getElem_cons_succ, List.getElem_cons_zero, List.setIfInBounds_toArray, List.set_cons_zero, List.set_cons_succ]
      refine wpAnyH_take (i := 3) (v := ?_) rfl (by kernel_rfl) (by kernel_rfl) (by kernel_rfl) (fun _ _ _ h => h) (Or.inl ⟨by rfl, ?_⟩) (by assumption) ?_
      rotate_left
      · (intro w hSw; (try dsimp only at hSw); go_simp; (try with_reducible rfl))
      try simp only [Act.put, List.getElem_toArray, List.getElem_cons_succ, List.getElem_cons_zero, List.setIfInBounds_toArray, List.set_cons_zero, List.set_cons_succ]
      refine wpAnyH_take (i := 4) (v := ?_) rfl (by kernel_rfl) (by kernel_rfl) (by kernel_rfl) (fun _ _ _ h => h) (Or.inl ⟨by rfl, ?_⟩) (by assumption) ?_
      rotate_left
      · (intro w hSw; (try dsimp only at hSw); go_simp; (try with_reducible rfl))
      try simp only [Act.put, List.getElem_toArray, List.getElem_cons_succ, List.getElem_cons_zero, List.setIfInBounds_toArray, List.set_cons_zero, List.set_cons_succ]
      refine wpAnyH_take (i := 5) (v := ?_) rfl (by kernel_rfl) (by kernel_rfl) (by kernel_rfl) (fun _ _ _ h => h) (Or.inl ⟨by rfl, ?_⟩) (by assumption) ?_
      rotate_left
      · (intro w hSw; (try dsimp only at hSw); go_simp; (try with_reducible rfl))
      try simp only [Act.put, List.getElem_toArray, List.getElem_cons_succ, List.getElem_cons_zero, List.setIfInBounds_toArray, List.set_cons_zero, List.set_cons_succ]
      refine wpAnyH_take (i := 6) (v := ?_) rfl (by kernel_rfl) (by kernel_rfl) (by kernel_rfl) (fun _ _ _ h => h) (Or.inl ⟨by rfl, ?_⟩) (by assumption) ?_
      rotate_left
      · (intro w hSw; (try dsimp only at hSw); go_simp; (try with_reducible rfl))
      try simp only [Act.put, List.getElem_toArray, List.getElem_cons_succ, List.getElem_cons_zero, List.setIfInBounds_toArray, List.set_cons_zero, List.set_cons_succ]
      refine wpAnyH_take (i := 7) (v := ?_) rfl (by kernel_rfl) (by kernel_rfl) (by kernel_rfl) (fun _ _ _ h => h) (Or.inl ⟨by rfl, ?_⟩) (by assumption) ?_
      rotate_left
      · (intro w hSw; (try dsimp only at hSw); go_simp; (try with_reducible rfl))
      try simp only [Act.put, List.getElem_toArray, List.getElem_cons_succ, List.getElem_cons_zero, List.setIfInBounds_toArray, List.set_cons_zero, List.set_cons_succ]
      refine wpAnyH_take (i := 8) (v := ?_) rfl (by kernel_rfl) (by kernel_rfl) (by kernel_rfl) (fun _ _ _ h => h) (Or.inl ⟨by rfl, ?_⟩) (by assumption) ?_
      rotate_left
      · (intro w hSw; (try dsimp only at hSw); go_simp; (try with_reducible rfl))
      try simp only [Act.put, List.getElem_toArray, List.getElem_cons_succ, List.getElem_cons_zero, List.setIfInBounds_toArray, List.set_cons_zero, List.set_cons_succ]
      refine wpAnyH_take (i := 9) (v := ?_) rfl (by kernel_rfl) (by kernel_rfl) (by kernel_rfl) (fun _ _ _ h => h) (Or.inl ⟨by rfl, ?_⟩) (by assumption) ?_
      rotate_left
      · (intro w hSw; (try dsimp only at hSw); go_simp; (try with_reducible rfl))
      try simp only [Act.put, List.getElem_toArray, List.getElem_cons_succ, List.getElem_cons_zero, List.setIfInBounds_toArray, List.set_cons_zero, List.set_cons_succ]
      refine wpAnyH_ready (rs := [10]) (by kernel_rfl) (by simp) ?_
      refine AllReadyH.cons rfl (fun K hK => ?_) AllReadyH.nil
      go_simp
      refine (HDIG.out _ (Upd.refl _ _).drew).mono ?_
      rintro e wy ⟨d, L', rfl, hd64, hA, hval⟩
      have HA := Lib.hid hA
      have HVAL := Lib.hid hval
      have huy : Upd [gA] W wy := ((Upd.refl _ _).drew).trans hA.upd (fun x hx => .inl hx)
      dsimp only
      refine hK.out _ _ ?_ (fun hHeld => ?_)
      · exact HCF.out _ (HI.out.upd.trans huy (by simp))
      clear hK K
      try simp only [Act.put, List.getElem_toArray, List.getElem_cons_succ, List.getElem_cons_zero, List.setIfInBounds_toArray, List.set_cons_zero, List.set_cons_succ]
      refine wpAnyH_take (i := 11) (v := ?_) rfl (by kernel_rfl) (by kernel_rfl) (by kernel_rfl) (fun _ _ _ h => h) (Or.inl ⟨by rfl, ?_⟩) (by assumption) ?_
      rotate_left
      · (intro w hSw; (try dsimp only at hSw); go_simp; (try with_reducible rfl))
      try simp only [Act.put, List.getElem_toArray, List.getElem_cons_succ, List.getElem_cons_zero, List.setIfInBounds_toArray, List.set_cons_zero, List.set_cons_succ]
      have hqg : q ≠ gA := by have := HLO.out; omega
      have hsr : wy.cell? ⟨q, j, none⟩ = some (.int .u64 (y : Int)) := (huy.cell (p := ⟨q, j, none⟩) hqW (by simpa using hqg)).trans hrow
      have hsf : wy.frozen? ⟨q, j, none⟩ = false := (huy.frozen (p := ⟨q, j, none⟩) hqW (by simpa using hqg)).trans hfr
      have huA : Upd [gA, q] W (wy.setCell ⟨q, j, none⟩ (.int .u64 (d : Int))) := (huy.mono (by simp)).setCell (.inl (by simp)) _
      have huB : Upd [gA, q] w0 (wy.setCell ⟨q, j, none⟩ (.int .u64 (d : Int))) := HI.out.upd.trans huA (fun x hx => .inl hx)
      refine wpAnyH_ready (rs := [12]) (by kernel_rfl) (by simp) ?_
      refine AllReadyH.cons rfl (fun K hK => ?_) AllReadyH.nil
      go_simp
      refine hK.out _ _ ?_ (fun hHeld => ?_)
      · exact HCF.out _ huB
      clear hK K
      try simp only [Act.put, List.getElem_toArray, List.getElem_cons_succ, List.getElem_cons_zero, List.setIfInBounds_toArray, List.set_cons_zero, List.set_cons_succ]
      refine wpAnyH_done (by kernel_rfl) ?_ _
      have hownM := ((ownsRow_upd HI.out.ownM huy (by simp [Value.ownBlock]; exact hqg)).stored j (.int .u64 (d : Int))).1
      rw [← cu64_set] at hownM
      have hownA : (wy.setCell ⟨q, j, none⟩ (.int .u64 (d : Int))).ownsRow w5.heap.size 65 1 (.slice (some ⟨gA, 0, none⟩) (la + 1) (la + 1)) (la + 1) (cu64 L') := ownsRow_kept HA.out.own (fun k hk => by
        simp [Value.ownBlock] at hk
        subst hk
        exact Below.heap_setCell _ _ _ _ (by show gA ≠ q; exact fun e => hqg e.symm))
      have hBl : (LB.take (n1 + 1)).length = n1 + 1 := by rw [List.length_take, HBY.out.words.2.2.2.1]; omega
      refine (show _ ∧ _ ∧ BsIn w5 w0 q gA c la n1 (b * 2 ^ s) (a * 2 ^ s) (pre ++ [x]) _ from ⟨keeps_updS huA (fun k hk => ?_), ⟨huA.size, fun k h1 h2 => huA.block k (Nat.lt_of_lt_of_le h1 HI.out.upd.size) h2, fun _ i hi => ?_⟩,
        L', M.set j d, hownA, HA.out.len, HA.out.lt, hownM, by rw [List.length_set]; exact HI.out.lenM, fun e he => ?_, huB, fun hg => ?_⟩)
      · simp at hk
        rcases hk with rfl | rfl
        · exact own_cells HI.out.ownA
        · exact own_cells HI.out.ownM
      · have := hownM.cellAt i (by omega)
        rw [cu64_getD _ _ (by rw [List.length_set, HI.out.lenM]; exact hi)] at this
        rw [Nat.zero_add]
        exact ⟨_, this⟩
      · rcases List.mem_or_eq_of_mem_set he with he | rfl
        · exact HI.out.ltM e he
        · exact hd64
      · rw [List.map_append] at hg
        obtain ⟨hg1, hx⟩ := good_snoc hg
        rw [List.length_map] at hx
        obtain ⟨h1, h2⟩ := HI.out.good hg1
        have hjx : j = c - 1 - pre.length := by rw [HJ.out, hx]
        have e3 : c - pre.length = j + 1 := by omega
        have e4 : c - (pre ++ [x]).length = j := by simp; omega
        rw [e3] at h1 h2
        rw [e4]
        have hval := HVAL.out
        rw [hBl, HVB.out] at hval
        obtain ⟨v1, v2⟩ := hval (bw_room HI.out.ltA h2)
        have hout := HA.out.out
        rw [hBl] at hout
        refine ⟨bw_step (by rw [HI.out.lenM]; exact hjc) (by rw [HI.out.lenA]; omega) (by rw [HA.out.len, HI.out.lenA]) h1 v1 v2 ?_, by rw [v2]; exact Nat.mod_lt _ (by omega)⟩
        refine getD_ext (by rw [List.length_take, List.length_take, HA.out.len, HI.out.lenA]) (fun i hi => ?_)
        simp only [List.length_take] at hi
        have := hout i (.inl (by omega))
        rw [List.getD_eq_getElem?_getD, List.getD_eq_getElem?_getD, List.getElem?_take, List.getElem?_take, if_pos (by omega), if_pos (by omega), ← List.getD_eq_getElem?_getD, ← List.getD_eq_getElem?_getD]
        exact this
    case done =>
      rintro D ys W hD hys ⟨L, M, hI⟩ hK
      have hyl : ys.length = c := by have := congrArg List.length hys; rw [upto_length (Nat.le_refl _)] at this; simpa using this
      rw [hyl, hys] at hI
      obtain ⟨h1, h2⟩ := hI.good (good_upto (Nat.le_refl _))
      rw [Nat.sub_self, List.drop_zero, Nat.pow_zero, Nat.mul_one, Nat.zero_add] at h1
      rw [Nat.sub_self] at h2
      have hb0 : 0 < b := by
        rcases Nat.eq_zero_or_pos b with h | h
        · subst h; simp at h2
        · exact h
      obtain ⟨e1, e2⟩ := bw_end hb0 h1 h2
      have hsegt : wval (L.take (n1 + 1)) = seg L 0 (n1 + 1) := by unfold seg; rw [List.drop_zero]
      have HQ : Hid (wval M = a / b ∧ wval (L.take (n1 + 1)) / 2 ^ s = a % b) := ⟨e1, by rw [hsegt]; exact e2⟩
      have HR64 : Hid (wval (L.take (n1 + 1)) < 18446744073709551616 ^ (n1 + 1)) := by show _ < _; rw [hsegt]; exact seg_lt 0 (n1 + 1) hI.ltA
      have HI := Lib.hid hI
      have HK := Lib.hid hK
      obtain ⟨hc10, hc8, hc4, hc9⟩ := HCF.out W hI.upd
      have hzW : w0.heap.size ≤ W.heap.size := hI.upd.size
      have hSw5 : S + 1 + 1 + 1 + 1 + 1 = w5.heap.size := HZ.out.symm
      have hw5w0 : w5.heap.size ≤ w0.heap.size := by have := HBY.out.upd.size; have := HU0.out.size; omega
      have hlo5 := HLO.out
      have hqwc : wc.heap.size = q := HQ0.out
      have hb2W : W.heap[S + 1 + 1]? = some (.cells #[.slice none 0 0] 27 (0, 0)) := by
        rw [HI.out.upd.block _ (by omega) (by simp; have := HBY.out.upd.size; omega), HU0.out.block _ (by have := HBY.out.upd.size; omega) (by simp), HBY.out.upd.block _ (by omega) (by simp)]; exact HB2.out
      have hb3W : W.heap[S + 1 + 1 + 1]? = some (.cells #[.slice none 0 0] 27 (0, 0)) := by
        rw [HI.out.upd.block _ (by omega) (by simp; have := HBY.out.upd.size; omega), HU0.out.block _ (by have := HBY.out.upd.size; omega) (by simp), HBY.out.upd.block _ (by omega) (by simp)]; exact HB3.out
      have HUW : Hid (Upd [] w W) := (HU5.out.trans0 (HBY.out.upd.trans0 HU0.out)).trans HI.out.upd (fun x hx => by
        simp at hx
        have := HU5.out.size
        have := HBY.out.upd.size
        rcases hx with rfl | rfl <;> exact .inr (by omega))
      have HFM : Hid (∀ X, Upd [] W X → Calls Tryd.prog 51 #[.slice (some ⟨q, 0, none⟩) c c] X (fun e w' => ∃ v, e = .returned v ∧ NV w' v (wval M) ∧ Upd [] X w' ∧ ∀ k, nblk v = some k → (Value.slice (some ⟨q, 0, none⟩) c c).ownBlock = some k)) := fun X h => fit_own _ M X (Sl.own (ownsRow_upd HI.out.ownM h (by simp))) HI.out.ltM
      have HFL : Hid (∀ X, Upd [] W X → Calls Tryd.prog 51 #[.slice (some ⟨gA, 0, none⟩) (n1 + 1) (la + 1)] X (RNat (wval (L.take (n1 + 1))) X)) := fun X h => by
        refine fit_any _ (L.take (n1 + 1)) X ?_ (fun d hd => HI.out.ltA d (List.mem_of_mem_take hd))
        rw [cu64_take]
        exact Sl.take (Sl.own (ownsRow_upd HI.out.ownA h (by simp))) (n1 + 1) (by omega)
      have HSH : Hid (∀ X v, NV X v (wval (L.take (n1 + 1))) → Calls Tryd.prog 85 #[v, .int .i64 (s : Int)] X (RNat (wval (L.take (n1 + 1)) / 2 ^ s) X)) := fun X v h => by
        have := shr_any v (wval (L.take (n1 + 1))) (s : Int) X h (Nat.le_trans ((wds_length_le_iff _ (n1 + 1)).2 HR64.out) (by omega)) (by omega)
        rw [Int.toNat_natCast] at this
        exact this
      have hsl2 : ∀ W : World, (Instr.slice 22 (.slice (some ⟨gA, 0, none⟩) (la + 1) (la + 1)) none (some (.int .i64 ((n1 : Int) + 1))) none).run Tryd.prog W = .ok (.slice (some ⟨gA, 0, none⟩) (n1 + 1) (la + 1)) W := fun W => by
        rw [run_slice_h (P := Tryd.prog) W 22 (some ⟨gA, 0, none⟩) (la + 1) (la + 1) Tryd.underlying22 .i64 ((n1 : Int) + 1) (by omega) (by omega)]
        have hsz : ∀ W : World, (sizeOf (Tryd.prog.elem 22)).run Tryd.prog W = .ok 1 W := fun W => by kernel_rfl
        simp [sliced, Result.andThen, show ((n1 : Int) + 1).toNat = n1 + 1 by omega, hsz, Addr.add]
      have hcA : ∀ A, Upd [] W A → A.cell? ⟨S + 1 + 1, 0, none⟩ = some (.slice none 0 0) := fun A h => by rw [h.cell (p := ⟨S + 1 + 1, 0, none⟩) (by show S + 1 + 1 < _; omega) (by simp), cell_of_row W _ 0 _ _ _ hb2W]; rfl
      have hcB : ∀ A, Upd [] W A → A.cell? ⟨S + 1 + 1 + 1, 0, none⟩ = some (.slice none 0 0) := fun A h => by rw [h.cell (p := ⟨S + 1 + 1 + 1, 0, none⟩) (by show S + 1 + 1 + 1 < _; omega) (by simp), cell_of_row W _ 0 _ _ _ hb3W]; rfl
      have hfA : ∀ A, Upd [] W A → A.frozen? ⟨S + 1 + 1, 0, none⟩ = false := fun A h => by rw [h.frozen (p := ⟨S + 1 + 1, 0, none⟩) (by show S + 1 + 1 < _; omega) (by simp)]; simp [World.frozen?, hb2W]
      have hfB : ∀ A, Upd [] W A → A.frozen? ⟨S + 1 + 1 + 1, 0, none⟩ = false := fun A h => by rw [h.frozen (p := ⟨S + 1 + 1 + 1, 0, none⟩) (by show S + 1 + 1 + 1 < _; omega) (by simp)]; simp [World.frozen?, hb3W]
      have HCQ : Hid (∀ A, Upd [S + 1 + 1, S + 1 + 1 + 1] W A → A.cell? ⟨q + 1, 0, none⟩ = some (.slice (some ⟨q, 0, none⟩) c c) ∧ A.cell? ⟨p8, 0, none⟩ = some (.slice (some ⟨gA, 0, none⟩) (la + 1) (la + 1)) ∧ A.cell? ⟨S + 1 + 1 + 1 + 1, 0, none⟩ = some (.int .i64 ((n1 : Int) + 1)) ∧ Upd [S + 1 + 1, S + 1 + 1 + 1] W A) := fun A h =>
        ⟨(h.cell (p := ⟨q + 1, 0, none⟩) (by show q + 1 < _; have := HZ0.out; omega) (by simp; have := HBY.out.upd.size; omega)).trans hc10, (h.cell (p := ⟨p8, 0, none⟩) (by show p8 < _; omega) (by simp; omega)).trans hc8, (h.cell (p := ⟨S + 1 + 1 + 1 + 1, 0, none⟩) (by show S + 1 + 1 + 1 + 1 < _; omega) (by show S + 1 + 1 + 1 + 1 ∉ [S + 1 + 1, S + 1 + 1 + 1]; simp only [List.mem_cons, List.not_mem_nil, or_false, not_or]; omega)).trans hc4, h⟩
      have HB2W := Lib.hid hb2W
      have HB3W := Lib.hid hb3W
      have HSW5 := Lib.hid hSw5
      have HW5W0 := Lib.hid hw5w0
      have hrf : Upd [] W W := Upd.refl _ _
      have hSW : S + 1 + 1 + 1 + 1 < W.heap.size := by omega
      have hSs : w.heap.size ≤ S + 1 + 1 := by have := HS0.out; omega
      have hDW := hD
      clear hI hK h1 h2 hb2W hb3W hys hyl hsegt e1 e2 hb0 hc9 hSw5 hw5w0 hlo5 hqwc hzW hD
      obtain ⟨R, hR⟩ : ∃ R, R = wval (L.take (n1 + 1)) / 2 ^ s := ⟨_, rfl⟩
      rw [← hR] at HQ HSH
      have HFIN : Hid (∀ (wz : World) (x1 x2 : Option Addr) (l1 c1 l2 c2 : Nat), Upd [] W wz → NV wz (.agg #[.slice x1 l1 c1]) (wval M) → NV wz (.agg #[.slice x2 l2 c2]) R → ∃ X, X = (wz.setCell ⟨S + 1 + 1, 0, none⟩ (.slice x1 l1 c1)).setCell ⟨S + 1 + 1 + 1, 0, none⟩ (.slice x2 l2 c2) ∧
          NV X (.agg #[.slice x1 l1 c1]) (wval M) ∧ NV X (.agg #[.slice x2 l2 c2]) R ∧ Upd [] w X ∧ X.heap[D]? = some (.deferred (some [])) ∧ X.cell? ⟨S + 1 + 1, 0, none⟩ = some (.slice x1 l1 c1) ∧ X.cell? ⟨S + 1 + 1 + 1, 0, none⟩ = some (.slice x2 l2 c2)) := fun wz x1 x2 l1 c1 l2 c2 huz h1 h2 => by
        have hkz : wz.heap[D]? = some (.deferred (some [])) := (huz.block D (Array.getElem?_eq_some_iff.1 HK.out).1 (by simp)).trans HK.out
        have hbA : wz.heap[S + 1 + 1]? = some (.cells #[.slice none 0 0] 27 (0, 0)) := (huz.block _ (lt_of_block HB2W.out) (by simp)).trans HB2W.out
        have hbB : wz.heap[S + 1 + 1 + 1]? = some (.cells #[.slice none 0 0] 27 (0, 0)) := (huz.block _ (lt_of_block HB3W.out) (by simp)).trans HB3W.out
        have hbB2 : (wz.setCell ⟨S + 1 + 1, 0, none⟩ (.slice x1 l1 c1)).heap[S + 1 + 1 + 1]? = some (.cells #[.slice none 0 0] 27 (0, 0)) := (Below.heap_setCell _ _ _ _ (by show S + 1 + 1 + 1 ≠ S + 1 + 1; omega)).trans hbB
        refine ⟨_, rfl, (h1.store hbA no_u64 ⟨S + 1 + 1, 0, none⟩ rfl _).store hbB2 no_u64 ⟨S + 1 + 1 + 1, 0, none⟩ rfl _, (h2.store hbA no_u64 ⟨S + 1 + 1, 0, none⟩ rfl _).store hbB2 no_u64 ⟨S + 1 + 1 + 1, 0, none⟩ rfl _,
          ((HUW.out.trans0 huz).setCell (.inr (by show w.heap.size ≤ S + 1 + 1; omega)) _).setCell (.inr (by show w.heap.size ≤ S + 1 + 1 + 1; omega)) _, ?_, ?_, ?_⟩
        · exact (KeepsOthers.setCell (wz.setCell ⟨S + 1 + 1, 0, none⟩ (.slice x1 l1 c1)) ⟨S + 1 + 1 + 1, 0, none⟩ (.slice x2 l2 c2)).same D _ ((KeepsOthers.setCell wz ⟨S + 1 + 1, 0, none⟩ (.slice x1 l1 c1)).same D _ hkz rfl) rfl
        · rw [World.cell?_setCell_far _ _ _ _ (by show S + 1 + 1 + 1 ≠ S + 1 + 1; omega)]; exact set_cell (show _ = some (Value.slice none 0 0) by rw [cell_of_row wz _ 0 _ _ _ hbA]; rfl)
        · exact set_cell (show _ = some (Value.slice none 0 0) by rw [World.cell?_setCell_far _ _ _ _ (by show S + 1 + 1 ≠ S + 1 + 1 + 1; omega), cell_of_row wz _ 0 _ _ _ hbB]; rfl)
      have HSS := Lib.hid hSs
      have HDS : Hid (w.heap.size ≤ D) := by show _ ≤ _; have := HS0.out; have := HZ.out; have := HBY.out.upd.size; have := HU0.out.size; omega
      have hQb : w.heap.size ≤ q := by have := HS0.out; have := HZ.out; have := HBY.out.upd.size; have := HQ0.out; omega
      have HQB := Lib.hid hQb
      clear hR hSs hSW hDW hQb
      gi_wp2
      refine wpIn_wide.2 ?_
      go_region_held3 (fun A => A.cell? ⟨q + 1, 0, none⟩ = some (.slice (some ⟨q, 0, none⟩) c c) ∧ A.cell? ⟨p8, 0, none⟩ = some (.slice (some ⟨gA, 0, none⟩) (la + 1) (la + 1)) ∧ A.cell? ⟨S + 1 + 1 + 1 + 1, 0, none⟩ = some (.int .i64 ((n1 : Int) + 1)) ∧ Upd [S + 1 + 1, S + 1 + 1 + 1] W A)
        (first
          | (refine HCQ.out _ (Upd.mono (S := []) ?_ (by simp)); (repeat (first | (with_reducible exact huR) | (with_reducible exact huL) | (with_reducible exact huM) | (with_reducible exact hrf) | (with_reducible refine Upd.drew ?_))); done)
          | (refine HCQ.out _ (Upd.setCell (Upd.mono (S := []) ?_ (by simp)) (.inl (by simp)) _); (repeat (first | (with_reducible exact huR) | (with_reducible exact huM) | (with_reducible refine Upd.drew ?_))); done)
          | (refine HCQ.out _ (Upd.setCell (Upd.setCell (Upd.mono (S := []) ?_ (by simp)) (.inl (by simp)) _) (.inl (by simp)) _); (repeat (first | (with_reducible exact huR) | (with_reducible exact huM) | (with_reducible refine Upd.drew ?_))); done))
        (first
          | (go_at_call 51; (with_reducible refine Calls.mono (HFM.out _ ?_) ?_); (focus ((repeat (first | (with_reducible exact huR) | (with_reducible exact huL) | (with_reducible exact hrf) | (with_reducible refine Upd.drew ?_))); done)); rintro e wM ⟨vM, rfl, hnM, huM0, hkM⟩; obtain ⟨aM, capM, rfl, hlM, hmM⟩ := hnM.open; have HNM := Lib.hid hnM; have HKM := Lib.hid hkM; have HUM := Lib.hid huM0; have huM : Upd [] W wM := Upd.trans0 (by (repeat (first | (with_reducible exact huR) | (with_reducible exact huL) | (with_reducible exact hrf) | (with_reducible refine Upd.drew ?_)))) huM0; clear hnM hkM huM0)
          | (go_at_call 51; (with_reducible refine Calls.mono (HFL.out _ ?_) ?_); (focus ((repeat (first | (with_reducible exact huM) | (with_reducible exact hrf) | (with_reducible refine Upd.drew ?_))); done)); rintro e wL ⟨vL, rfl, hnL, huL0⟩; have HNL := Lib.hid hnL; have HUL := Lib.hid huL0; have huL : Upd [] W wL := Upd.trans0 (by (repeat (first | (with_reducible exact huM) | (with_reducible exact hrf) | (with_reducible refine Upd.drew ?_)))) huL0; clear hnL huL0)
          | (go_at_call 85; (with_reducible refine Calls.mono (HSH.out _ _ ?_) ?_); (focus (first | exact HNL.out | exact HNL.out.upd0 (Upd.refl _ _).drew | exact HNL.out.upd0 HUM.out | exact (HNL.out.upd0 (Upd.refl _ _).drew).upd0 HUM.out)); rintro e wR ⟨vR, rfl, hnR, huR0⟩; obtain ⟨aR, capR, rfl, hlR, hmR⟩ := hnR.open; have HNR := Lib.hid hnR; have HUR := Lib.hid huR0; have huR : Upd [] W wR := Upd.trans0 (by (repeat (first | (with_reducible exact huM) | (with_reducible exact huL) | (with_reducible refine Upd.drew ?_)))) huR0; clear hnR huR0))
      all_goals
        have hfin := by first
          | exact HFIN.out wR aM aR (wds (wval M)).length capM (wds R).length capR huR (HNM.out.upd0 (HUL.out.trans0 HUR.out)) HNR.out
          | exact HFIN.out wR aM aR (wds (wval M)).length capM (wds R).length capR huR (HNM.out.upd0 HUR.out) HNR.out
          | exact HFIN.out wM aM aR (wds (wval M)).length capM (wds R).length capR huM HNM.out (HNR.out.upd0 HUM.out)
        obtain ⟨X, hX, q1, q2, q3, q4, q5, q6⟩ := hfin
        rw [← hX]
        have Q1 := Lib.hid q1
        have Q2 := Lib.hid q2
        have Q3 := Lib.hid q3
        have Q4 := Lib.hid q4
        have Q5 := Lib.hid q5
        have Q6 := Lib.hid q6
        clear hX q1 q2 q3 q4 q5 q6 hcA hcB hfA hfB
        gi_wp2
        refine ⟨by simp, .inl ⟨_, _, rfl, run_takeDeferred Q4.out, ?_⟩⟩
        have k1 := cell_kept Q5.out (grownBy_putObj' _ D (.deferred none)) (fun r e => by cases e; exact ⟨_, Q4.out, rfl⟩)
        have k2 := cell_kept Q6.out (grownBy_putObj' _ D (.deferred none)) (fun r e => by cases e; exact ⟨_, Q4.out, rfl⟩)
        refine ⟨.tuple #[.agg #[.slice aM (wds (wval M)).length capM], .agg #[.slice aR (wds R).length capR]], by simp [results, Tryd.f61, go_sem, k1, k2], ?_⟩
        refine ⟨_, _, rfl, ?_, ?_, Q3.out.grown (grownBy_putObj' _ D (.deferred none)) (fun k e => by cases e; exact .inr HDS.out), fun k hk => ?_⟩
        · rw [← HQ.out.1]; exact Q1.out.put Q4.out rfl _
        · rw [← HQ.out.2]; exact Q2.out.put Q4.out rfl _
        · have := HKM.out k hk
          simp [Value.ownBlock] at this
          subst this
          exact HQB.out
    case stop =>
      rintro D c pre W _ _ h _
      exact h.elim
end Go.Proofs.YtoklmfmoblkfcaaDoor
