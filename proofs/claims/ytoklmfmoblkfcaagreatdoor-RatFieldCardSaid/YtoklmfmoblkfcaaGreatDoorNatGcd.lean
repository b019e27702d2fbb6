/- The contract of nat.Gcd (layer 5). -/
import Derived.Test.YtoklmfmoblkfcaaGreatDoorNatNear
import Derived.Test.YtoklmfmoblkfcaaGreatDoorNatGcdW
import Derived.Test.YtoklmfmoblkfcaaGreatDoorAb
import Derived.Test.YtoklmfmoblkfcaaGreatDoorUniq
namespace Go.Proofs.YtoklmfmoblkfcaaGreatDoor
open Go.RowKit Go.Proofs.Tm
set_option linter.unusedVariables false
set_option maxRecDepth 20000

/-- Two rests, as they stand in memory. -/
structure GcdAt (w : World) (S x y : Nat) (a b : Option Addr) (lx ly ca cb : Nat) (W : World) : Prop where
  r0 : W.heap[S]? = some (.cells #[.slice a lx ca] 27 (0, 0))
  r1 : W.heap[S + 1]? = some (.cells #[.slice b ly cb] 27 (0, 0))
  r2 : W.heap[S + 1 + 1]? = some (.cells #[.slice none 0 0] 27 (0, 0))
  na : NV W (.agg #[.slice a lx ca]) x
  nb : NV W (.agg #[.slice b ly cb]) y
  hx : lx = (wds x).length
  hy : ly = (wds y).length
  u : Upd [] w W

theorem GcdAt.upd0 {w W W' : World} {S x y : Nat} {a b : Option Addr} {lx ly ca cb : Nat} (h : GcdAt w S x y a b lx ly ca cb W) (u : Upd [] W W') : GcdAt w S x y a b lx ly ca cb W' :=
  ⟨(u.block _ (lt_of_block h.r0) (by simp)).trans h.r0, (u.block _ (lt_of_block h.r1) (by simp)).trans h.r1, (u.block _ (lt_of_block h.r2) (by simp)).trans h.r2, h.na.upd0 u, h.nb.upd0 u, h.hx, h.hy, h.u.trans0 u⟩
theorem GcdAt.cells {w W : World} {S x y : Nat} {a b : Option Addr} {lx ly ca cb : Nat} (h : GcdAt w S x y a b lx ly ca cb W) : W.cell? ⟨S, 0, none⟩ = some (.slice a lx ca) ∧ W.cell? ⟨S + 1, 0, none⟩ = some (.slice b ly cb) ∧ W.cell? ⟨S + 1 + 1, 0, none⟩ = some (.slice none 0 0) ∧ W.frozen? ⟨S, 0, none⟩ = false ∧ W.frozen? ⟨S + 1, 0, none⟩ = false ∧ W.frozen? ⟨S + 1 + 1, 0, none⟩ = false :=
  ⟨by rw [cell_of_row W _ 0 _ _ _ h.r0]; rfl, by rw [cell_of_row W _ 0 _ _ _ h.r1]; rfl, by rw [cell_of_row W _ 0 _ _ _ h.r2]; rfl, frozen_of_row W _ 0 _ _ h.r0, frozen_of_row W _ 0 _ _ h.r1, frozen_of_row W _ 0 _ _ h.r2⟩
theorem GcdAt.put {w W : World} {S x y x' y' : Nat} {a b a' b' : Option Addr} {lx ly ca cb lx' ly' ca' cb' : Nat} (hS : w.heap.size ≤ S) (h : GcdAt w S x y a b lx ly ca cb W) (nx : NV W (.agg #[.slice a' lx' ca']) x') (ny : NV W (.agg #[.slice b' ly' cb']) y') (hx : lx' = (wds x').length) (hy : ly' = (wds y').length) :
    GcdAt w S x' y' a' b' lx' ly' ca' cb' ((W.setCell ⟨S, 0, none⟩ (.slice a' lx' ca')).setCell ⟨S + 1, 0, none⟩ (.slice b' ly' cb')) := by
  have hs := store2 (w := w) (i := S) (j := S + 1) (by omega) hS (by omega) h.r0 h.r1 h.u nx ny
  refine ⟨hs.b1, hs.b2, ?_, hs.n1, hs.n2, hx, hy, hs.u⟩
  rw [Below.heap_setCell _ _ _ _ (by show S + 1 + 1 ≠ S + 1; omega), Below.heap_setCell _ _ _ _ (by show S + 1 + 1 ≠ S; omega)]
  exact h.r2
/-- What the cell of the lesser rest reads as. -/
noncomputable def lessOf (S : Nat) (W : World) : Nat := natOf W ((W.cell? ⟨S + 1, 0, none⟩).getD (.int .u64 0))
theorem GcdAt.less {w W : World} {S x y : Nat} {a b : Option Addr} {lx ly ca cb : Nat} (h : GcdAt w S x y a b lx ly ca cb W) : lessOf S W = y := by
  unfold lessOf
  rw [h.cells.2.1]
  exact natOf_is h.nb.sl

theorem three_rows (w : World) (x y : Nat) (a b : Option Addr) (lx ly ca cb : Nat) (w0 : World) (h : w0 = ((w.alloc (.cells #[.slice a lx ca] 27)).alloc (.cells #[.slice b ly cb] 27)).alloc (.cells #[.slice none 0 0] 27)) (S : Nat) (hS : S = w.heap.size)
    (nx : NV w (.agg #[.slice a lx ca]) x) (ny : NV w (.agg #[.slice b ly cb]) y) (hx : lx = (wds x).length) (hy : ly = (wds y).length) : GcdAt w S x y a b lx ly ca cb w0 := by
  have hu : Upd [] w w0 := by rw [h]; exact (((Upd.refl _ _).alloc _).alloc _).alloc _
  refine ⟨?_, ?_, ?_, nx.upd0 hu, ny.upd0 hu, hx, hy, hu⟩
  all_goals
    subst h hS
  · rw [Below.heap_alloc _ _ _ (by simp <;> omega), Below.heap_alloc _ _ _ (by simp <;> omega)]; exact heap_alloc_new w _
  · rw [Below.heap_alloc _ _ _ (by simp <;> omega)]; have := heap_alloc_new (w.alloc (.cells #[.slice a lx ca] 27)) (.cells #[.slice b ly cb] 27); simpa using this
  · have := heap_alloc_new ((w.alloc (.cells #[.slice a lx ca] 27)).alloc (.cells #[.slice b ly cb] 27)) (.cells #[.slice none 0 0] 27); simpa using this

set_option maxHeartbeats 3200000 in
theorem gcd_any (u v : Value) (m n : Nat) (w : World) (hu : NV w u m) (hv : NV w v n) (hlm : (wds m).length ≤ 1073741824) (hln : (wds n).length ≤ 1073741824) :
    Calls Tryz.prog 37 #[u, v] w (RNat (Nat.gcd m n) w) := by
  obtain ⟨a, ca, rfl, hla, hca⟩ := hu.open
  obtain ⟨b, cb, rfl, hlb, hcb⟩ := hv.open
  have HA := Lib.hid hu
  have HB := Lib.hid hv
  have HL : Hid ((wds m).length ≤ 1073741824 ∧ (wds n).length ≤ 1073741824) := ⟨hlm, hln⟩
  have HCM : Hid (∀ W, Upd [] w W → Calls Tryz.prog 52 #[.agg #[.slice a (wds m).length ca], .agg #[.slice b (wds n).length cb]] W fun e w' => e = .returned (.int .i64 (cmpN m n)) ∧ Upd [] W w') := fun W h => cmp_any _ _ m n W (HA.out.upd0 h) (HB.out.upd0 h) (by omega)
  obtain ⟨lm, hlm'⟩ : ∃ l, l = (wds m).length := ⟨_, rfl⟩
  obtain ⟨ln, hln'⟩ : ∃ l, l = (wds n).length := ⟨_, rfl⟩
  rw [← hlm'] at HA HCM hu ⊢
  rw [← hln'] at HB HCM hv ⊢
  obtain ⟨w0, hw0⟩ : ∃ W, W = ((w.alloc (.cells #[.slice a lm ca] 27)).alloc (.cells #[.slice b ln cb] 27)).alloc (.cells #[.slice none 0 0] 27) := ⟨_, rfl⟩
  obtain ⟨S, hS⟩ : ∃ s, s = w.heap.size := ⟨_, rfl⟩
  have H0 := Lib.hid (three_rows w m n _ _ _ _ _ _ w0 hw0 S hS hu hv hlm' hln')
  have HW0 := Lib.hid hw0
  have HS := Lib.hid hS
  have HSw : Hid (w.heap.size ≤ S) := Nat.le_of_eq hS.symm
  have HLM := Lib.hid hlm'
  have HLN := Lib.hid hln'
  have HCM0 := Lib.hid (HCM.out _ H0.out.u)
  clear hu hv hla hlb hca hcb hlm hln hlm' hln' hw0 hS HCM
  -- WHAT THE LOOP KEEPS
  obtain ⟨c0, c1, c2, f0, f1, f2⟩ := H0.out.cells
  have hcw : w0.cell? ⟨S, 0, none⟩ = some (.slice a lm ca) ∧ w0.cell? ⟨S + 1, 0, none⟩ = some (.slice b ln cb) := ⟨c0, c1⟩
  rw [HW0.out] at hcw
  obtain ⟨cs0, cs1⟩ := hcw
  go_enter Tryz.func37, Tryz.ntmps37
  go_wp2_with fail
  rw [← HW0.out]
  rw [← HS.out]
  clear cs0 cs1
  go_wp2_with fail
  refine HCM0.out.mono ?_
  rintro e w1 ⟨rfl, hu1⟩
  have H1 := Lib.hid (H0.out.upd0 hu1)
  clear c0 c1 c2 f0 f1 f2 hu1 H0 HCM0
  obtain ⟨c0, c1, c2, f0, f1, f2⟩ := H1.out.cells
  by_cases hmn : m < n
  · have hlt := cmpN_lt hmn
    go_wp2_with fail
    obtain ⟨wl, hwl⟩ : ∃ W, W = (w1.setCell ⟨S, 0, none⟩ (.slice b ln cb)).setCell ⟨S + 1, 0, none⟩ (.slice a lm ca) := ⟨_, rfl⟩
    rw [← hwl]
    have H2 : Hid (∃ (x y : Nat) (a b : Option Addr) (lx ly ca cb : Nat), GcdAt w S x y a b lx ly ca cb wl ∧ y ≤ x ∧ (wds x).length ≤ 1073741824 ∧ Nat.gcd x y = Nat.gcd m n) := by
      refine ⟨n, m, b, a, ln, lm, cb, ca, ?_, by omega, HL.out.2, Nat.gcd_comm _ _⟩
      rw [hwl]
      exact GcdAt.put HSw.out H1.out H1.out.nb H1.out.na H1.out.hy H1.out.hx
    clear hwl H1 hmn hlt c0 c1 c2 f0 f1 f2
    go_loopw [] (fun wr => Hid (∃ (x y : Nat) (a b : Option Addr) (lx ly ca cb : Nat), GcdAt w S x y a b lx ly ca cb wr ∧ y ≤ x ∧ (wds x).length ≤ 1073741824 ∧ Nat.gcd x y = Nat.gcd m n)) (fun wr => lessOf S wr)
    case atStart => exact H2.out
    case round =>
      obtain ⟨x, y, a', b', lx, ly, ca', cb', hat, hyx, hlx, hg⟩ := hrel.out
      have HG := Lib.hid hat
      have HF : Hid (y ≤ x ∧ (wds x).length ≤ 1073741824 ∧ Nat.gcd x y = Nat.gcd m n) := ⟨hyx, hlx, hg⟩
      clear hat hyx hlx hg hrel H2
      obtain ⟨c0, c1, c2, f0, f1, f2⟩ := HG.out.cells
      by_cases hl1 : 1 < ly
      · have hl2 : decide ((ly : Int) > 1) = true := by simp; omega
        have hl3 : decide (1 < ly) = true := by simpa using hl1
        have hy0 : 0 < y := by
          rcases Nat.eq_zero_or_pos y with h | h
          · have := HG.out.hy
            rw [h, wds_zero] at this
            simp at this; omega
          · exact h
        have HN := Lib.hid (nearer_any _ _ x y wr HG.out.na HG.out.nb HF.out.1 hy0 HF.out.2.1)
        clear hl1 hy0
        go_wp2_with fail
        refine HN.out.mono ?_
        rintro e w2 ⟨vx, vy, P, Q, rfl, hp, hq, hu2, hQP, hPy, hgp⟩
        obtain ⟨a2, e2, rfl, _, _⟩ := hp.open
        obtain ⟨b2, e3, rfl, _, _⟩ := hq.open
        obtain ⟨lP, hlP⟩ : ∃ l, l = (wds P).length := ⟨_, rfl⟩
        obtain ⟨lQ, hlQ⟩ : ∃ l, l = (wds Q).length := ⟨_, rfl⟩
        rw [← hlP] at hp ⊢
        rw [← hlQ] at hq ⊢
        have h2 := HG.out.upd0 hu2
        have H3 := Lib.hid (GcdAt.put HSw.out h2 hp hq hlP hlQ)
        have HF3 : Hid (Q ≤ P ∧ (wds P).length ≤ 1073741824 ∧ Nat.gcd P Q = Nat.gcd m n) := by
          obtain ⟨i1, i2, i3⟩ := HF.out
          refine ⟨by omega, ?_, by rw [hgp, i3]⟩
          have := wds_length_le (show P ≤ x by omega)
          omega
        have HQ : Hid (Q < y) := by show _ < _; omega
        clear c0 c1 c2 f0 f1 f2
        obtain ⟨c0, c1, c2, f0, f1, f2⟩ := h2.cells
        clear h2 hp hq hlP hlQ hQP hPy hgp hu2
        go_wp2_with fail
        refine ⟨⟨_, _, _, _, _, _, _, _, H3.out, HF3.out.1, HF3.out.2.1, HF3.out.2.2⟩, ?_⟩
        rw [H3.out.less, HG.out.less]
        exact HQ.out
      · have hl2 : decide ((ly : Int) > 1) = false := by simp; omega
        have hl3 : decide (1 < ly) = false := by simpa using hl1
        have HY : Hid (y < 18446744073709551616) := by
          have := (wds_length_le_iff y 1).1 (by have := HG.out.hy; omega)
          rw [Nat.pow_one] at this
          exact this
        have HZ := Lib.hid (zero_any _ _ _ HG.out.nb)
        clear hl1
        by_cases hy0 : y = 0
        · have hd : decide (y = 0) = true := by simpa using hy0
          rw [hd] at HZ
          go_wp2_with fail
          refine HZ.out.mono ?_
          rintro e w2 ⟨rfl, hu2⟩
          have H3 := Lib.hid (HG.out.upd0 hu2)
          clear c0 c1 c2 f0 f1 f2 hu2 hd HZ
          obtain ⟨c0, c1, c2, f0, f1, f2⟩ := H3.out.cells
          have HEQ : Hid (x = Nat.gcd m n) := by
            show _ = _
            rw [← HF.out.2.2, hy0, Nat.gcd_zero_right]
          clear hy0
          go_wp2
          have hrow : (w2.setCell ⟨S + 1 + 1, 0, none⟩ (.slice a' lx ca')).heap[S + 1 + 1]? = some (.cells #[.slice a' lx ca'] 27 (0, 0)) := one_setCell H3.out.r2
          have z1 : (w2.setCell ⟨S + 1 + 1, 0, none⟩ (.slice a' lx ca')).cell? ⟨S + 1 + 1, 0, none⟩ = some (.slice a' lx ca') := by rw [cell_of_row _ _ 0 _ _ _ hrow]; rfl
          refine bodyPost_ret (v := .agg #[.slice a' lx ca']) (by simp [results, Tryz.results37, go_sem, z1]) rfl ?_
          refine ⟨_, rfl, ?_, H3.out.u.setCell (.inr (by have := HSw.out; show _ ≤ S + 1 + 1; omega)) _⟩
          rw [← HEQ.out]
          exact H3.out.na.store H3.out.r2 no_u64 _ rfl _
        · have hd : decide (y = 0) = false := by simpa using hy0
          rw [hd] at HZ
          have HY0 : Hid (0 < y) := Nat.pos_of_ne_zero hy0
          clear hy0
          go_wp2_with fail
          refine HZ.out.mono ?_
          rintro e w2 ⟨rfl, hu2⟩
          have H3 := Lib.hid (HG.out.upd0 hu2)
          have HD := Lib.hid (divmod_any _ _ x y w2 H3.out.na H3.out.nb HY0.out HF.out.2.1)
          clear c0 c1 c2 f0 f1 f2 hu2 hd HZ
          obtain ⟨c0, c1, c2, f0, f1, f2⟩ := H3.out.cells
          go_wp2_with fail
          refine HD.out.mono ?_
          rintro e w4 ⟨v4, v5, rfl, hn4, hn5, hu4⟩
          obtain ⟨a4, k4, rfl, _, _⟩ := hn4.open
          obtain ⟨a5, k5, rfl, _, _⟩ := hn5.open
          obtain ⟨l4, hl4⟩ : ∃ l, l = (wds (x / y)).length := ⟨_, rfl⟩
          obtain ⟨l5, hl5⟩ : ∃ l, l = (wds (x % y)).length := ⟨_, rfl⟩
          rw [← hl4] at hn4 ⊢
          rw [← hl5] at hn5 ⊢
          obtain ⟨w5, hw5⟩ : ∃ W, W = (w4.alloc (.cells #[.slice a4 l4 k4] 27)).alloc (.cells #[.slice a5 l5 k5] 27) := ⟨_, rfl⟩
          obtain ⟨g5, hg5⟩ : ∃ k, k = w4.heap.size := ⟨_, rfl⟩
          obtain ⟨hu5, hbx5⟩ := two_boxes w4 _ _ _ _ w5 hw5 g5 hg5
          have H5 := Lib.hid ((H3.out.upd0 hu4).upd0 hu5)
          have HB5 := Lib.hid hbx5
          have hsz : S + 1 + 1 < g5 := by have := lt_of_block H3.out.r2; have := hu4.size; omega
          obtain ⟨r, hr⟩ : ∃ r, r = x % y := ⟨_, rfl⟩
          have hry : r < y := by rw [hr]; exact Nat.mod_lt _ HY0.out
          have HGR : Hid (Nat.gcd y r = Nat.gcd m n ∧ y < 18446744073709551616 ∧ r < 18446744073709551616) := by
            refine ⟨?_, HY.out, by have := HY.out; omega⟩
            rw [← HF.out.2.2, hr, Nat.gcd_comm x y, Nat.gcd_rec y x, Nat.gcd_comm]
          have hnr : NV w5 (.agg #[.slice a5 l5 k5]) r := by rw [hr]; exact hn5.upd0 hu5
          have HWB : Hid (∀ W, Upd [] w5 W → Calls Tryz.prog 87 #[.agg #[.slice b' ly cb'], .int .i64 0] W fun e w' => e = .returned (.int .u64 (y : Int)) ∧ Upd [] W w') := fun W h => by
            have := word_any _ y 0 W (H5.out.nb.upd0 h) (by decide)
            rw [wds_getD, Nat.pow_zero, Nat.div_one, Nat.mod_eq_of_lt HGR.out.2.1] at this
            exact this
          have HWR : Hid (∀ W, Upd [] w5 W → Calls Tryz.prog 87 #[.agg #[.slice a5 l5 k5], .int .i64 0] W fun e w' => e = .returned (.int .u64 (r : Int)) ∧ Upd [] W w') := fun W h => by
            have := word_any _ r 0 W (hnr.upd0 h) (by decide)
            rw [wds_getD, Nat.pow_zero, Nat.div_one, Nat.mod_eq_of_lt HGR.out.2.2] at this
            exact this
          have HOW : Hid (∀ W, Upd [] w5 W → Calls Tryz.prog 86 #[.int .u64 (y : Int), .int .u64 (r : Int)] W fun e w' => e = .returned (.int .u64 ((Nat.gcd m n : Nat) : Int)) ∧ Upd [] W w') := fun W h => by
            have := ofwords_any y r W HGR.out.2.1 HGR.out.2.2
            rw [HGR.out.1] at this
            exact this
          obtain ⟨G, hG⟩ : ∃ G, G = Nat.gcd m n := ⟨_, rfl⟩
          have HGE := Lib.hid hG
          have hGl : G < 18446744073709551616 := by
            rw [hG, ← HGR.out.1]
            exact Nat.lt_of_le_of_lt (Nat.gcd_le_left _ HY0.out) HY.out
          rw [← hG] at HOW ⊢
          have HOF : Hid (∀ W, Upd [] w5 W → Calls Tryz.prog 32 #[.slice (some ⟨W.heap.size, 0, none⟩) 1 1] (W.alloc (.cells #[.int .u64 (G : Int)] 64)) fun e w' => ∃ v, e = .returned v ∧ NV w' v G ∧ Upd [] w5 w') := fun W h => by
            refine (of_any _ [G] _ (Sl.lit1 W (.int .u64 (G : Int)) 64) (by simp) (by simpa using hGl)).mono ?_
            rintro e w' ⟨v, rfl, hn, hu⟩
            refine ⟨v, rfl, ?_, (h.alloc _).trans0 hu⟩
            have e1 : wval [G] = G := by simp [wval]
            rw [e1] at hn
            exact hn
          have HC : Hid (∀ W, Upd [S + 1 + 1] w5 W → W.cell? ⟨S + 1, 0, none⟩ = some (.slice b' ly cb') ∧ W.cell? ⟨g5 + 1, 0, none⟩ = some (.slice a5 l5 k5) ∧ Upd [S + 1 + 1] w5 W) := fun W h =>
            ⟨(h.cell (p := ⟨S + 1, 0, none⟩) (lt_of_block H5.out.r1) (by simp)).trans H5.out.cells.2.1, (h.cell (p := ⟨g5 + 1, 0, none⟩) (World.block_lt_of_cell? w5 _ (HB5.out _ (Upd.refl _ _)).2) (by simp; omega)).trans (HB5.out _ (Upd.refl _ _)).2, h⟩
          have hcA : ∀ A, Upd [] w5 A → A.cell? ⟨S + 1 + 1, 0, none⟩ = some (.slice none 0 0) := fun A h => by rw [cell_of_row A _ 0 _ _ _ ((h.block _ (lt_of_block H5.out.r2) (by simp)).trans H5.out.r2)]; rfl
          have hfA : ∀ A, Upd [] w5 A → A.frozen? ⟨S + 1 + 1, 0, none⟩ = false := fun A h => frozen_of_row A _ 0 _ _ ((h.block _ (lt_of_block H5.out.r2) (by simp)).trans H5.out.r2)
          have HFIN : Hid (∀ A v, Upd [] w5 A → NV A (.agg #[v]) G → (A.setCell ⟨S + 1 + 1, 0, none⟩ v).cell? ⟨S + 1 + 1, 0, none⟩ = some v ∧ NV (A.setCell ⟨S + 1 + 1, 0, none⟩ v) (.agg #[v]) G ∧ Upd [] w (A.setCell ⟨S + 1 + 1, 0, none⟩ v)) := fun A v h hn => by
            have hrow := (h.block _ (lt_of_block H5.out.r2) (by simp)).trans H5.out.r2
            refine ⟨?_, hn.store hrow no_u64 _ rfl _, (H5.out.u.trans0 h).setCell (.inr (by have := HSw.out; show _ ≤ S + 1 + 1; omega)) _⟩
            rw [cell_of_row _ _ 0 _ _ _ (one_setCell (u := v) hrow)]; rfl
          have HW5 := Lib.hid hw5
          have HG5 := Lib.hid hg5
          have hrf : Upd [] w5 w5 := Upd.refl _ _
          clear c0 c1 c2 f0 f1 f2 hn4 hn5 hu4 hu5 hbx5 hsz hr hry hnr hG hGl hw5 hg5 hl4 hl5 HD H3
          go_wp2_with fail
          rw [← HW5.out, ← HG5.out]
          go_region_held3 (fun W => W.cell? ⟨S + 1, 0, none⟩ = some (.slice b' ly cb') ∧ W.cell? ⟨g5 + 1, 0, none⟩ = some (.slice a5 l5 k5) ∧ Upd [S + 1 + 1] w5 W)
            (first
              | exact HC.out _ (huy.mono (by simp))
              | exact HC.out _ (hrf.drew.mono (by simp))
              | exact HC.out _ (hrf.mono (by simp))
              | exact HC.out _ ((huy.mono (by simp)).setCell (.inl (by simp)) _)
              | exact HC.out _ ((huy.alloc _).mono (by simp)))
            (first
              | (go_at_call 87; (with_reducible refine (HWB.out _ (by first | exact huy | exact hrf.drew | exact hrf)).mono ?_); rintro e wz ⟨rfl, hu20⟩; have huz : Upd [] w5 wz := (by first | exact huy.trans0 hu20 | exact hrf.drew.trans0 hu20 | exact hrf.trans0 hu20); (try clear huy); clear hu20; have huy := huz; clear huz)
              | (go_at_call 87; (with_reducible refine (HWR.out _ (by first | exact huy | exact hrf.drew | exact hrf)).mono ?_); rintro e wz ⟨rfl, hu20⟩; have huz : Upd [] w5 wz := (by first | exact huy.trans0 hu20 | exact hrf.drew.trans0 hu20 | exact hrf.trans0 hu20); (try clear huy); clear hu20; have huy := huz; clear huz)
              | (go_at_call 86; (with_reducible refine (HOW.out _ (by first | exact huy | exact hrf.drew | exact hrf)).mono ?_); rintro e wz ⟨rfl, hu20⟩; have huz : Upd [] w5 wz := (by first | exact huy.trans0 hu20 | exact hrf.drew.trans0 hu20 | exact hrf.trans0 hu20); (try clear huy); clear hu20; have huy := huz; clear huz)
              | (go_at_call 32; (with_reducible refine (HOF.out _ huy).mono ?_); rintro e wz ⟨vG, rfl, hnG, hu20⟩; have HNG := Lib.hid hnG; obtain ⟨aG, cG, rfl, _, _⟩ := hnG.open; (try clear huy); clear hnG; have huy := hu20; clear hu20))
          all_goals
            have HS1 := Lib.hid (HFIN.out _ _ huy HNG.out)
            go_wp2
            have z1 := HS1.out.1
            refine bodyPost_ret (v := .agg #[.slice aG (wds G).length cG]) (by simp [results, Tryz.results37, go_sem, z1]) rfl ?_
            rw [← HGE.out]
            exact ⟨_, rfl, HS1.out.2.1, HS1.out.2.2⟩
  · have hlt := cmpN_ge (Nat.le_of_not_lt hmn)
    go_wp2_with fail
    obtain ⟨wl, hwl⟩ : ∃ W, W = w1 := ⟨_, rfl⟩
    rw [← hwl]
    have H2 : Hid (∃ (x y : Nat) (a b : Option Addr) (lx ly ca cb : Nat), GcdAt w S x y a b lx ly ca cb wl ∧ y ≤ x ∧ (wds x).length ≤ 1073741824 ∧ Nat.gcd x y = Nat.gcd m n) := by
      refine ⟨m, n, a, b, lm, ln, ca, cb, ?_, by omega, HL.out.1, rfl⟩
      rw [hwl]
      exact H1.out
    clear hwl H1 hmn hlt c0 c1 c2 f0 f1 f2
    go_loopw [] (fun wr => Hid (∃ (x y : Nat) (a b : Option Addr) (lx ly ca cb : Nat), GcdAt w S x y a b lx ly ca cb wr ∧ y ≤ x ∧ (wds x).length ≤ 1073741824 ∧ Nat.gcd x y = Nat.gcd m n)) (fun wr => lessOf S wr)
    case atStart => exact H2.out
    case round =>
      obtain ⟨x, y, a', b', lx, ly, ca', cb', hat, hyx, hlx, hg⟩ := hrel.out
      have HG := Lib.hid hat
      have HF : Hid (y ≤ x ∧ (wds x).length ≤ 1073741824 ∧ Nat.gcd x y = Nat.gcd m n) := ⟨hyx, hlx, hg⟩
      clear hat hyx hlx hg hrel H2
      obtain ⟨c0, c1, c2, f0, f1, f2⟩ := HG.out.cells
      by_cases hl1 : 1 < ly
      · have hl2 : decide ((ly : Int) > 1) = true := by simp; omega
        have hl3 : decide (1 < ly) = true := by simpa using hl1
        have hy0 : 0 < y := by
          rcases Nat.eq_zero_or_pos y with h | h
          · have := HG.out.hy
            rw [h, wds_zero] at this
            simp at this; omega
          · exact h
        have HN := Lib.hid (nearer_any _ _ x y wr HG.out.na HG.out.nb HF.out.1 hy0 HF.out.2.1)
        clear hl1 hy0
        go_wp2_with fail
        refine HN.out.mono ?_
        rintro e w2 ⟨vx, vy, P, Q, rfl, hp, hq, hu2, hQP, hPy, hgp⟩
        obtain ⟨a2, e2, rfl, _, _⟩ := hp.open
        obtain ⟨b2, e3, rfl, _, _⟩ := hq.open
        obtain ⟨lP, hlP⟩ : ∃ l, l = (wds P).length := ⟨_, rfl⟩
        obtain ⟨lQ, hlQ⟩ : ∃ l, l = (wds Q).length := ⟨_, rfl⟩
        rw [← hlP] at hp ⊢
        rw [← hlQ] at hq ⊢
        have h2 := HG.out.upd0 hu2
        have H3 := Lib.hid (GcdAt.put HSw.out h2 hp hq hlP hlQ)
        have HF3 : Hid (Q ≤ P ∧ (wds P).length ≤ 1073741824 ∧ Nat.gcd P Q = Nat.gcd m n) := by
          obtain ⟨i1, i2, i3⟩ := HF.out
          refine ⟨by omega, ?_, by rw [hgp, i3]⟩
          have := wds_length_le (show P ≤ x by omega)
          omega
        have HQ : Hid (Q < y) := by show _ < _; omega
        clear c0 c1 c2 f0 f1 f2
        obtain ⟨c0, c1, c2, f0, f1, f2⟩ := h2.cells
        clear h2 hp hq hlP hlQ hQP hPy hgp hu2
        go_wp2_with fail
        refine ⟨⟨_, _, _, _, _, _, _, _, H3.out, HF3.out.1, HF3.out.2.1, HF3.out.2.2⟩, ?_⟩
        rw [H3.out.less, HG.out.less]
        exact HQ.out
      · have hl2 : decide ((ly : Int) > 1) = false := by simp; omega
        have hl3 : decide (1 < ly) = false := by simpa using hl1
        have HY : Hid (y < 18446744073709551616) := by
          have := (wds_length_le_iff y 1).1 (by have := HG.out.hy; omega)
          rw [Nat.pow_one] at this
          exact this
        have HZ := Lib.hid (zero_any _ _ _ HG.out.nb)
        clear hl1
        by_cases hy0 : y = 0
        · have hd : decide (y = 0) = true := by simpa using hy0
          rw [hd] at HZ
          go_wp2_with fail
          refine HZ.out.mono ?_
          rintro e w2 ⟨rfl, hu2⟩
          have H3 := Lib.hid (HG.out.upd0 hu2)
          clear c0 c1 c2 f0 f1 f2 hu2 hd HZ
          obtain ⟨c0, c1, c2, f0, f1, f2⟩ := H3.out.cells
          have HEQ : Hid (x = Nat.gcd m n) := by
            show _ = _
            rw [← HF.out.2.2, hy0, Nat.gcd_zero_right]
          clear hy0
          go_wp2
          have hrow : (w2.setCell ⟨S + 1 + 1, 0, none⟩ (.slice a' lx ca')).heap[S + 1 + 1]? = some (.cells #[.slice a' lx ca'] 27 (0, 0)) := one_setCell H3.out.r2
          have z1 : (w2.setCell ⟨S + 1 + 1, 0, none⟩ (.slice a' lx ca')).cell? ⟨S + 1 + 1, 0, none⟩ = some (.slice a' lx ca') := by rw [cell_of_row _ _ 0 _ _ _ hrow]; rfl
          refine bodyPost_ret (v := .agg #[.slice a' lx ca']) (by simp [results, Tryz.results37, go_sem, z1]) rfl ?_
          refine ⟨_, rfl, ?_, H3.out.u.setCell (.inr (by have := HSw.out; show _ ≤ S + 1 + 1; omega)) _⟩
          rw [← HEQ.out]
          exact H3.out.na.store H3.out.r2 no_u64 _ rfl _
        · have hd : decide (y = 0) = false := by simpa using hy0
          rw [hd] at HZ
          have HY0 : Hid (0 < y) := Nat.pos_of_ne_zero hy0
          clear hy0
          go_wp2_with fail
          refine HZ.out.mono ?_
          rintro e w2 ⟨rfl, hu2⟩
          have H3 := Lib.hid (HG.out.upd0 hu2)
          have HD := Lib.hid (divmod_any _ _ x y w2 H3.out.na H3.out.nb HY0.out HF.out.2.1)
          clear c0 c1 c2 f0 f1 f2 hu2 hd HZ
          obtain ⟨c0, c1, c2, f0, f1, f2⟩ := H3.out.cells
          go_wp2_with fail
          refine HD.out.mono ?_
          rintro e w4 ⟨v4, v5, rfl, hn4, hn5, hu4⟩
          obtain ⟨a4, k4, rfl, _, _⟩ := hn4.open
          obtain ⟨a5, k5, rfl, _, _⟩ := hn5.open
          obtain ⟨l4, hl4⟩ : ∃ l, l = (wds (x / y)).length := ⟨_, rfl⟩
          obtain ⟨l5, hl5⟩ : ∃ l, l = (wds (x % y)).length := ⟨_, rfl⟩
          rw [← hl4] at hn4 ⊢
          rw [← hl5] at hn5 ⊢
          obtain ⟨w5, hw5⟩ : ∃ W, W = (w4.alloc (.cells #[.slice a4 l4 k4] 27)).alloc (.cells #[.slice a5 l5 k5] 27) := ⟨_, rfl⟩
          obtain ⟨g5, hg5⟩ : ∃ k, k = w4.heap.size := ⟨_, rfl⟩
          obtain ⟨hu5, hbx5⟩ := two_boxes w4 _ _ _ _ w5 hw5 g5 hg5
          have H5 := Lib.hid ((H3.out.upd0 hu4).upd0 hu5)
          have HB5 := Lib.hid hbx5
          have hsz : S + 1 + 1 < g5 := by have := lt_of_block H3.out.r2; have := hu4.size; omega
          obtain ⟨r, hr⟩ : ∃ r, r = x % y := ⟨_, rfl⟩
          have hry : r < y := by rw [hr]; exact Nat.mod_lt _ HY0.out
          have HGR : Hid (Nat.gcd y r = Nat.gcd m n ∧ y < 18446744073709551616 ∧ r < 18446744073709551616) := by
            refine ⟨?_, HY.out, by have := HY.out; omega⟩
            rw [← HF.out.2.2, hr, Nat.gcd_comm x y, Nat.gcd_rec y x, Nat.gcd_comm]
          have hnr : NV w5 (.agg #[.slice a5 l5 k5]) r := by rw [hr]; exact hn5.upd0 hu5
          have HWB : Hid (∀ W, Upd [] w5 W → Calls Tryz.prog 87 #[.agg #[.slice b' ly cb'], .int .i64 0] W fun e w' => e = .returned (.int .u64 (y : Int)) ∧ Upd [] W w') := fun W h => by
            have := word_any _ y 0 W (H5.out.nb.upd0 h) (by decide)
            rw [wds_getD, Nat.pow_zero, Nat.div_one, Nat.mod_eq_of_lt HGR.out.2.1] at this
            exact this
          have HWR : Hid (∀ W, Upd [] w5 W → Calls Tryz.prog 87 #[.agg #[.slice a5 l5 k5], .int .i64 0] W fun e w' => e = .returned (.int .u64 (r : Int)) ∧ Upd [] W w') := fun W h => by
            have := word_any _ r 0 W (hnr.upd0 h) (by decide)
            rw [wds_getD, Nat.pow_zero, Nat.div_one, Nat.mod_eq_of_lt HGR.out.2.2] at this
            exact this
          have HOW : Hid (∀ W, Upd [] w5 W → Calls Tryz.prog 86 #[.int .u64 (y : Int), .int .u64 (r : Int)] W fun e w' => e = .returned (.int .u64 ((Nat.gcd m n : Nat) : Int)) ∧ Upd [] W w') := fun W h => by
            have := ofwords_any y r W HGR.out.2.1 HGR.out.2.2
            rw [HGR.out.1] at this
            exact this
          obtain ⟨G, hG⟩ : ∃ G, G = Nat.gcd m n := ⟨_, rfl⟩
          have HGE := Lib.hid hG
          have hGl : G < 18446744073709551616 := by
            rw [hG, ← HGR.out.1]
            exact Nat.lt_of_le_of_lt (Nat.gcd_le_left _ HY0.out) HY.out
          rw [← hG] at HOW ⊢
          have HOF : Hid (∀ W, Upd [] w5 W → Calls Tryz.prog 32 #[.slice (some ⟨W.heap.size, 0, none⟩) 1 1] (W.alloc (.cells #[.int .u64 (G : Int)] 64)) fun e w' => ∃ v, e = .returned v ∧ NV w' v G ∧ Upd [] w5 w') := fun W h => by
            refine (of_any _ [G] _ (Sl.lit1 W (.int .u64 (G : Int)) 64) (by simp) (by simpa using hGl)).mono ?_
            rintro e w' ⟨v, rfl, hn, hu⟩
            refine ⟨v, rfl, ?_, (h.alloc _).trans0 hu⟩
            have e1 : wval [G] = G := by simp [wval]
            rw [e1] at hn
            exact hn
          have HC : Hid (∀ W, Upd [S + 1 + 1] w5 W → W.cell? ⟨S + 1, 0, none⟩ = some (.slice b' ly cb') ∧ W.cell? ⟨g5 + 1, 0, none⟩ = some (.slice a5 l5 k5) ∧ Upd [S + 1 + 1] w5 W) := fun W h =>
            ⟨(h.cell (p := ⟨S + 1, 0, none⟩) (lt_of_block H5.out.r1) (by simp)).trans H5.out.cells.2.1, (h.cell (p := ⟨g5 + 1, 0, none⟩) (World.block_lt_of_cell? w5 _ (HB5.out _ (Upd.refl _ _)).2) (by simp; omega)).trans (HB5.out _ (Upd.refl _ _)).2, h⟩
          have hcA : ∀ A, Upd [] w5 A → A.cell? ⟨S + 1 + 1, 0, none⟩ = some (.slice none 0 0) := fun A h => by rw [cell_of_row A _ 0 _ _ _ ((h.block _ (lt_of_block H5.out.r2) (by simp)).trans H5.out.r2)]; rfl
          have hfA : ∀ A, Upd [] w5 A → A.frozen? ⟨S + 1 + 1, 0, none⟩ = false := fun A h => frozen_of_row A _ 0 _ _ ((h.block _ (lt_of_block H5.out.r2) (by simp)).trans H5.out.r2)
          have HFIN : Hid (∀ A v, Upd [] w5 A → NV A (.agg #[v]) G → (A.setCell ⟨S + 1 + 1, 0, none⟩ v).cell? ⟨S + 1 + 1, 0, none⟩ = some v ∧ NV (A.setCell ⟨S + 1 + 1, 0, none⟩ v) (.agg #[v]) G ∧ Upd [] w (A.setCell ⟨S + 1 + 1, 0, none⟩ v)) := fun A v h hn => by
            have hrow := (h.block _ (lt_of_block H5.out.r2) (by simp)).trans H5.out.r2
            refine ⟨?_, hn.store hrow no_u64 _ rfl _, (H5.out.u.trans0 h).setCell (.inr (by have := HSw.out; show _ ≤ S + 1 + 1; omega)) _⟩
            rw [cell_of_row _ _ 0 _ _ _ (one_setCell (u := v) hrow)]; rfl
          have HW5 := Lib.hid hw5
          have HG5 := Lib.hid hg5
          have hrf : Upd [] w5 w5 := Upd.refl _ _
          clear c0 c1 c2 f0 f1 f2 hn4 hn5 hu4 hu5 hbx5 hsz hr hry hnr hG hGl hw5 hg5 hl4 hl5 HD H3
          go_wp2_with fail
          rw [← HW5.out, ← HG5.out]
          go_region_held3 (fun W => W.cell? ⟨S + 1, 0, none⟩ = some (.slice b' ly cb') ∧ W.cell? ⟨g5 + 1, 0, none⟩ = some (.slice a5 l5 k5) ∧ Upd [S + 1 + 1] w5 W)
            (first
              | exact HC.out _ (huy.mono (by simp))
              | exact HC.out _ (hrf.drew.mono (by simp))
              | exact HC.out _ (hrf.mono (by simp))
              | exact HC.out _ ((huy.mono (by simp)).setCell (.inl (by simp)) _)
              | exact HC.out _ ((huy.alloc _).mono (by simp)))
            (first
              | (go_at_call 87; (with_reducible refine (HWB.out _ (by first | exact huy | exact hrf.drew | exact hrf)).mono ?_); rintro e wz ⟨rfl, hu20⟩; have huz : Upd [] w5 wz := (by first | exact huy.trans0 hu20 | exact hrf.drew.trans0 hu20 | exact hrf.trans0 hu20); (try clear huy); clear hu20; have huy := huz; clear huz)
              | (go_at_call 87; (with_reducible refine (HWR.out _ (by first | exact huy | exact hrf.drew | exact hrf)).mono ?_); rintro e wz ⟨rfl, hu20⟩; have huz : Upd [] w5 wz := (by first | exact huy.trans0 hu20 | exact hrf.drew.trans0 hu20 | exact hrf.trans0 hu20); (try clear huy); clear hu20; have huy := huz; clear huz)
              | (go_at_call 86; (with_reducible refine (HOW.out _ (by first | exact huy | exact hrf.drew | exact hrf)).mono ?_); rintro e wz ⟨rfl, hu20⟩; have huz : Upd [] w5 wz := (by first | exact huy.trans0 hu20 | exact hrf.drew.trans0 hu20 | exact hrf.trans0 hu20); (try clear huy); clear hu20; have huy := huz; clear huz)
              | (go_at_call 32; (with_reducible refine (HOF.out _ huy).mono ?_); rintro e wz ⟨vG, rfl, hnG, hu20⟩; have HNG := Lib.hid hnG; obtain ⟨aG, cG, rfl, _, _⟩ := hnG.open; (try clear huy); clear hnG; have huy := hu20; clear hu20))
          all_goals
            have HS1 := Lib.hid (HFIN.out _ _ huy HNG.out)
            go_wp2
            have z1 := HS1.out.1
            refine bodyPost_ret (v := .agg #[.slice aG (wds G).length cG]) (by simp [results, Tryz.results37, go_sem, z1]) rfl ?_
            rw [← HGE.out]
            exact ⟨_, rfl, HS1.out.2.1, HS1.out.2.2⟩
end Go.Proofs.YtoklmfmoblkfcaaGreatDoor
