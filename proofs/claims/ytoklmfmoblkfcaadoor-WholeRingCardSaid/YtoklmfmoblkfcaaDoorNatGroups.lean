/- The contract of nat's groups. -/
import Derived.Test.YtoklmfmoblkfcaaDoorAa
import Derived.Test.YtoklmfmoblkfcaaDoorNatDM
import Derived.Test.YtoklmfmoblkfcaaDoorNatGrp
namespace Go.Proofs.YtoklmfmoblkfcaaDoor
open Go.RowKit Go.Proofs.Tm Go.Shelf
set_option linter.unusedVariables false
set_option maxRecDepth 20000

def slen : Value → Nat | .slice _ n _ => n | _ => 0

theorem NV.updN {w w' : World} {S : List Nat} {a : Option Addr} {l c n : Nat} (h : NV w (.agg #[.slice a l c]) n) (u : Upd S w w') (hS : n ≠ 0 → ∀ k, nblk (.agg #[.slice a l c]) = some k → k ∉ S) : NV w' (.agg #[.slice a l c]) n := by
  refine ⟨_, rfl, h.sl.upd u (fun hx => ?_)⟩
  have hn : n ≠ 0 := by rintro rfl; rw [wds_zero] at hx; exact hx rfl
  intro k hk
  exact hS hn k (by simpa [nblk] using hk)

/-- Between two rounds: the groups so far, what is left, the cells. -/
structure GrpI (w : World) (i j base : Nat) (n : Nat) (v : Value) (W : World) : Prop where
  ex : ∃ (q : Nat) (L : List Nat) (a b : Option Addr) (l c l' c' : Nat), W.heap[i]? = some (.cells #[.slice a l c] 27 (0, 0)) ∧ W.heap[j]? = some (.cells #[.slice b l' c'] 27 (0, 0)) ∧ NV W (.agg #[.slice a l c]) q ∧ W.ownsRow base 65 1 v L.length (cu64 L) ∧ L ++ rest q = grps n ∧ q ≤ n ∧ (q ≠ 0 → ∀ k, nblk (.agg #[.slice a l c]) = some k → v.ownBlock ≠ some k)
  u : Upd [] w W

set_option maxHeartbeats 1600000 in
theorem groups_any (u : Value) (n : Nat) (w : World) (hu : NV w u n) (hlen : (wds n).length ≤ 1073741824) :
    Calls Tryd.prog 62 #[u] w (RSl (cu64 (grps n)) w) := by
  obtain ⟨a, cap, rfl, hl, hcm⟩ := hu.open
  have HA := Lib.hid hu
  have hlen' : (wds n).length ≤ 1099511627776 := by omega
  have HLN := Lib.hid hlen'
  have HM : Hid ((grps n).length ≤ 2147483649) := by show _ ≤ _; have := grps_length_le n; omega
  have HBW : Hid (∀ W v q, NV W v q → q ≤ n → Calls Tryd.prog 60 #[v, .int .u64 10000000000000000000] W (RNat2F (q / 10000000000000000000) (q % 10000000000000000000) W)) := fun W v q h hq => by
    have := byWord_fresh v q 10000000000000000000 W h (by decide) (by decide) (Nat.le_trans (wds_length_le hq) HLN.out)
    simpa using this
  have HW0 : Hid (∀ W v k, NV W v k → k < 18446744073709551616 → Calls Tryd.prog 59 #[v, .int .i64 0] W fun e w' => e = .returned (.int .u64 (k : Int)) ∧ Upd [] W w') := fun W v k h hk => by
    have := word_any v k 0 W h (by decide)
    rw [wds_getD] at this
    simpa [Nat.mod_eq_of_lt hk] using this
  generalize (wds n).length = lm at *
  clear hu
  go_enter Tryd.func62, Tryd.ntmps62
  go_wp2_with fail
  refine (HBW.out _ _ n (HA.out.upd0 ((Upd.refl _ _).alloc _)) (Nat.le_refl _)).mono ?_
  rintro e w1 ⟨v1, v2, rfl, hn1, hn2, hu1, _⟩
  obtain ⟨a1, cap1, rfl, hl1, hm1⟩ := hn1.open
  obtain ⟨a2, cap2, rfl, hl2, hm2⟩ := hn2.open
  generalize (wds (n / 10000000000000000000)).length = l1 at *
  generalize (wds (n % 10000000000000000000)).length = l2 at *
  have hu01 := ((Upd.refl [] w).alloc _).trans0 hu1
  have HN1 := Lib.hid hn1
  have HN2 := Lib.hid hn2
  have HU1 := Lib.hid hu01
  clear hn1 hn2 hu1 hu01
  go_wp2_with fail
  obtain ⟨i, hi⟩ : ∃ i, i = w1.heap.size := ⟨_, rfl⟩
  have hwi : w.heap.size ≤ i := by rw [hi]; exact HU1.out.size
  refine (HW0.out _ _ _ (HN2.out.upd0 (((Upd.refl _ _).alloc _).alloc _)) (by omega)).mono ?_
  rintro e w2 ⟨rfl, hu2⟩
  have hb1 : w2.heap[i]? = some (.cells #[.slice a1 l1 cap1] 27 (0, 0)) := by
    rw [hu2.block _ (by simp; omega) (by simp), Below.heap_alloc _ _ _ (by simp; omega), hi]; exact heap_alloc_new w1 _
  have hb2 : w2.heap[i + 1]? = some (.cells #[.slice a2 l2 cap2] 27 (0, 0)) := by
    rw [hu2.block _ (by simp; omega) (by simp), hi]; have := heap_alloc_new (w1.alloc (.cells #[.slice a1 l1 cap1] 27)) (.cells #[.slice a2 l2 cap2] 27); simpa using this
  have hu12 : Upd [] w1 w2 := (((Upd.refl _ _).alloc _).alloc _).trans0 hu2
  have hsz : i + 2 ≤ w2.heap.size := by have := hu2.size; simp at this; omega
  have H0 : Hid (GrpI w i (i + 1) (i + 2) n (.slice (some ⟨w2.heap.size, 0, none⟩) 1 1) (w2.alloc (.cells #[.int .u64 ((n % 10000000000000000000 : Nat) : Int)] 65))) :=
    ⟨⟨_, [n % 10000000000000000000], _, _, _, _, _, _, (Below.heap_alloc _ _ _ (by omega)).trans hb1, (Below.heap_alloc _ _ _ (by omega)).trans hb2, HN1.out.upd0 (hu12.alloc _), by have := own_lit w2 65 #[.int .u64 ((n % 10000000000000000000 : Nat) : Int)] (by simp [maxLen]); exact ownsRow_base this hsz, rfl, Nat.div_le_self _ _, fun h0 k hk e => by have := HN1.out.blk (by rw [Ne, wds_nil]; exact h0) k (by simpa [nblk] using hk); simp [Value.ownBlock] at e; omega⟩, (HU1.out.trans0 hu12).alloc _⟩
  rw [← hi]
  clear hb1 hb2 hu12 hu2 hi hsz
  go_wp2_with fail
  go_loopw [5] (fun v5 wr => GrpI w i (i + 1) (i + 2) n v5 wr) (fun v5 _ => (grps n).length - slen v5)
  case atStart => simpa using H0.out
  case round =>
    obtain ⟨⟨q, L, a3, a4, l3, c3, l4, c4, hb1, hb2, hx, ho, he, hq, _⟩, hu⟩ := hrel
    obtain ⟨a5, c5, rfl⟩ := own_ex ho
    have HX := Lib.hid hx
    have HO := Lib.hid ho
    have HE := Lib.hid he
    have HU := Lib.hid hu
    have HB1 := Lib.hid hb1
    have HB2 := Lib.hid hb2
    have hc1 : wr.cell? ⟨i, 0, none⟩ = some (.slice a3 l3 c3) := by rw [cell_of_row wr _ 0 _ _ _ hb1]; rfl
    clear hx ho he hu hb1 hb2 H0
    by_cases h0 : q = 0
    · go_wp2_with fail
      refine (zero_any _ _ _ HX.out).mono ?_
      rintro e w3 ⟨rfl, hu3⟩
      have hd : decide (q = 0) = true := by simpa using h0
      rw [hd]
      have hL : L = grps n := by have := HE.out; rw [h0, rest_zero, List.append_nil] at this; exact this
      have HO3 := Lib.hid (ownsRow_upd HO.out hu3 (by simp))
      have HU3 := Lib.hid (HU.out.trans0 hu3)
      have HL := Lib.hid hL
      clear hu3 hL
      go_wp2
      go_ret
      refine ⟨_, rfl, by rw [← HL.out]; exact Sl.own HO3.out, HU3.out, fun k hk => ?_⟩
      have := (HO3.out.lt k hk).1
      omega
    · go_wp2_with fail
      refine (zero_any _ _ _ HX.out).mono ?_
      rintro e w3 ⟨rfl, hu3⟩
      have hd : decide (q = 0) = false := by simpa using h0
      rw [hd]
      have hb1 := (hu3.block i (Array.getElem?_eq_some_iff.1 HB1.out).1 (by simp)).trans HB1.out
      have hb2 := (hu3.block (i + 1) (Array.getElem?_eq_some_iff.1 HB2.out).1 (by simp)).trans HB2.out
      have hx := HX.out.upd0 hu3
      have ho := ownsRow_upd HO.out hu3 (by simp)
      have hu := HU.out.trans0 hu3
      have hc3' : w3.cell? ⟨i, 0, none⟩ = some (.slice a3 l3 c3) := by rw [cell_of_row w3 _ 0 _ _ _ hb1]; rfl
      have hi3 := (Array.getElem?_eq_some_iff.1 hb1).1
      have hj3 := (Array.getElem?_eq_some_iff.1 hb2).1
      clear hu3 HX HO HU HB1 HB2 hc1
      have HX := Lib.hid hx
      have HO := Lib.hid ho
      have HU := Lib.hid hu
      have HB1 := Lib.hid hb1
      have HB2 := Lib.hid hb2
      clear hx ho hu hb1 hb2
      go_wp2_with fail
      refine (HBW.out _ _ q HX.out hq).mono ?_
      rintro e w4 ⟨v1, v2, rfl, hn1, hn2, hu4, hk4⟩
      obtain ⟨a6, c6, rfl, hl6, hm6⟩ := hn1.open
      obtain ⟨a7, c7, rfl, hl7, hm7⟩ := hn2.open
      generalize (wds (q / 10000000000000000000)).length = l6 at *
      generalize (wds (q % 10000000000000000000)).length = l7 at *
      have hb1 := (hu4.block i hi3 (by simp)).trans HB1.out
      have hb2 := (hu4.block (i + 1) hj3 (by simp)).trans HB2.out
      have hst := store2 (by omega) (by omega) (by omega) hb1 hb2 (HU.out.trans0 hu4) hn1 hn2
      have ho := ownsRow_kept (ownsRow_upd HO.out hu4 (by simp)) (w' := (w4.setCell ⟨i, 0, none⟩ (.slice a6 l6 c6)).setCell ⟨i + 1, 0, none⟩ (.slice a7 l7 c7)) (fun g hg => by
        have := (HO.out.lt g hg).1
        rw [Below.heap_setCell _ _ _ _ (by show g ≠ i + 1; omega), Below.heap_setCell _ _ _ _ (by show g ≠ i; omega)])
      have g1 : w4.cell? ⟨i, 0, none⟩ = some (.slice a3 l3 c3) := by rw [cell_of_row w4 _ 0 _ _ _ hb1]; rfl
      have g2 : w4.frozen? ⟨i, 0, none⟩ = false := by simp [World.frozen?, hb1]
      have g3 : w4.cell? ⟨i + 1, 0, none⟩ = some (.slice a4 l4 c4) := by rw [cell_of_row w4 _ 0 _ _ _ hb2]; rfl
      have g4 : w4.frozen? ⟨i + 1, 0, none⟩ = false := by simp [World.frozen?, hb2]
      have HST := Lib.hid hst
      have HK4 := Lib.hid hk4
      have HLT : Hid (∀ g, (Value.slice a5 L.length c5).ownBlock = some g → g < w3.heap.size) := fun g hg => (HO.out.lt g hg).2
      have HO4 := Lib.hid ho
      have g5 := hst.c2
      have g6 : q % 10000000000000000000 < 18446744073709551616 := by have := Nat.mod_lt q (y := 10000000000000000000) (by decide); omega
      have HG6 := Lib.hid g6
      clear hk4 hn1 hn2 hu4 hb1 hb2 hst ho HX HO HU HB1 HB2 g6
      go_wp2_with fail
      refine (HW0.out _ _ _ HST.out.n2 HG6.out).mono ?_
      rintro e w5 ⟨rfl, hu5⟩
      have HO5 := Lib.hid (ownsRow_upd HO4.out hu5 (by simp))
      have hb1 := (hu5.block i (Array.getElem?_eq_some_iff.1 HST.out.b1).1 (by simp)).trans HST.out.b1
      have hb2 := (hu5.block (i + 1) (Array.getElem?_eq_some_iff.1 HST.out.b2).1 (by simp)).trans HST.out.b2
      have HN1 := Lib.hid (HST.out.n1.upd0 hu5)
      have HN2 := Lib.hid (HST.out.n2.upd0 hu5)
      have HU5 := Lib.hid (HST.out.u.trans0 hu5)
      have hsz : i + 2 ≤ w5.heap.size := by have := (Array.getElem?_eq_some_iff.1 hb2).1; omega
      have HB1 := Lib.hid hb1
      have HB2 := Lib.hid hb2
      have HEQ : Hid ((L ++ [q % 10000000000000000000]) ++ rest (q / 10000000000000000000) = grps n) := by
        show _ = _
        rw [← HE.out, rest_pos h0]
        simp
      have HLL : Hid (L.length < (grps n).length) := by
        show _ < _
        rw [← HE.out, rest_pos h0]
        simp
      have HSZ := Lib.hid hsz
      obtain ⟨d, hd'⟩ : ∃ d, d = q % 10000000000000000000 := ⟨_, rfl⟩
      rw [← hd'] at HEQ HN2 ⊢
      clear hu5 hb1 hb2 hd' HST HO4 g1 g2 g3 g4 g5 HG6 hsz hd HE
      go_wp2_with (at_builtin; refine wpList_append_sl _ rfl (.tmp 22) (.tmp 25) 22 rfl (i + 2) 65 (.int .u64 0) 8 Tryd.underlying22 infoU64 rfl _ _ _ rfl (ownsRow_upd HO5.out ((Upd.refl [] _).alloc _) (by simp)) _ (cu64 [d]) rfl (Sl.lit1 _ _ _) (cu64_one _) ?c2 ?c3 ?c4 ?go)
      case c2 => have := HM.out; have := HLL.out; unfold maxLen; simp; omega
      case c3 => have := HM.out; have := HLL.out; simp; omega
      case c4 => have := HSZ.out; simp; omega
      case go =>
        intro v6 w6 ho6 hg6 hfr
        have hown : ∀ g, (Value.slice a5 L.length c5).ownBlock = some g → i + 2 ≤ g := fun g hg => (HO5.out.lt g hg).1
        have k1 : w6.heap[i]? = some (.cells #[.slice a6 l6 c6] 27 (0, 0)) := by
          rw [hg6.block i (by have := HSZ.out; simp; omega) (fun e => by have := hown i e.symm; omega), Below.heap_alloc _ _ _ (by have := HSZ.out; omega)]
          exact HB1.out
        have k2 : w6.heap[i + 1]? = some (.cells #[.slice a7 l7 c7] 27 (0, 0)) := by
          rw [hg6.block (i + 1) (by have := HSZ.out; simp; omega) (fun e => by have := hown (i + 1) e.symm; omega), Below.heap_alloc _ _ _ (by have := HSZ.out; omega)]
          exact HB2.out
        have hu6 : Upd [] w w6 := (HU5.out.alloc _).grown hg6 (fun k hk => .inr (by have := hown k hk; omega))
        have hsep : ∀ k, nblk (.agg #[.slice a6 l6 c6]) = some k → (Value.slice a5 L.length c5).ownBlock ≠ some k := fun k h1 h2 => by
          have := HK4.out k h1
          have := HLT.out k h2
          omega
        have hn6 : NV w6 (.agg #[.slice a6 l6 c6]) (q / 10000000000000000000) := (HN1.out.upd0 ((Upd.refl _ _).alloc _)).updN (Upd.of_grown hg6) (fun _ k hk hm => by
          rw [Option.mem_toList] at hm
          exact hsep k hk hm)
        have hsep6 : q / 10000000000000000000 ≠ 0 → ∀ k, nblk (.agg #[.slice a6 l6 c6]) = some k → v6.ownBlock ≠ some k := fun h0 k h1 h2 => by
          have hb := HN1.out.blk (by rw [Ne, wds_nil]; exact h0) k (by simpa [nblk] using h1)
          rcases hfr with hf | ⟨g, hg, hg2⟩
          · rw [hf] at h2; exact hsep k h1 h2
          · rw [hg] at h2
            simp at h2 hg2
            omega
        obtain ⟨a8, c8, rfl⟩ := own_ex ho6
        have HF : Hid (GrpI w i (i + 1) (i + 2) n (.slice a8 (L.length + 1) c8) w6) := ⟨⟨_, L ++ [d], _, _, _, _, _, _, k1, k2, hn6, by simpa [cu64] using ho6, HEQ.out, Nat.le_trans (Nat.div_le_self _ _) hq, hsep6⟩, hu6⟩
        clear ho6 hg6 k1 k2 hu6 hn6 hown hsep hsep6 hfr
        go_wp2_with fail
        exact ⟨HF.out, by have := HLL.out; simp only [slen]; omega⟩
end Go.Proofs.YtoklmfmoblkfcaaDoor
