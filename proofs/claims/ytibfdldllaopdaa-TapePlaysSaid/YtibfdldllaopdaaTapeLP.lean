/- The law TapePlays (layer 9). -/
import Derived.Test.YtibfdldllaopdaaTapePl
import Derived.Test.YtibfdldllaopdaaAnd1
import Derived.Test.YtibfdldllaopdaaOpen
namespace Go.Proofs.Ytibfdldllaopdaa
open Go.RowKit Go.Proofs.Tm
set_option linter.unusedVariables false
set_option linter.unusedSimpArgs false
set_option maxRecDepth 20000

/-- Between two acts. -/
structure PlI (w : World) (p g S : Nat) (A : List Bool) (a : Option Addr) (cap i : Nat) (d : Bool) (W : World) : Prop where
  tp : Tp W p g A i d
  blk : W.heap[S]? = some (.cells #[.slice a A.length cap, .int .i64 (i : Int), .bool d] 29 (0, 0))
  upd : Upd [] w W

set_option maxHeartbeats 6400000 in
theorem tapePlays_law (va : Value) (xs : List Bool) (a2 : Option Addr) (cap2 : Nat) (ps : List (Int × Int)) (w : World) (ha : Sl w va (cb xs)) (hP : SlPair .i64 .i64 w (.slice a2 ps.length cap2) ps) :
    Calls Try.prog 3 #[va, .slice a2 ps.length cap2] w fun e w' => e = .returned (.bool true) ∧ Upd [] w w' := by
  obtain ⟨A, hA⟩ : ∃ A, A = xs.take 200 := ⟨_, rfl⟩
  have hla : A.length ≤ 200 := by rw [hA, List.length_take]; omega
  have HFA : Hid (∀ W, Upd [] w W → Calls Try.prog 12 #[va, .int .i64 200] W (RFew9 A W)) := fun W hu => by rw [hA]; exact few9 va xs 200 W (by decide) (ha.upd0 hu)
  have hpl : ps.length ≤ cap2 ∧ cap2 ≤ maxLen := by obtain ⟨x, c, h, h2, h3, _⟩ := hP; simp at h; omega
  obtain ⟨hpl1, hpl2⟩ := hpl
  unfold maxLen at hpl2
  have HP := Lib.hid hP
  have HTA : Hid (A.take 1048576 = A) := List.take_of_length_le (by omega)
  clear ha hA hP
  obtain ⟨la, hla'⟩ : ∃ k, k = A.length := ⟨_, rfl⟩
  have HLA := Lib.hid hla'
  rw [← hla'] at hla
  clear hla'
  go_enter Try.func3, Try.ntmps3
  go_wp2_with fail
  refine (awake9 w).mono ?_
  rintro e w1 ⟨rfl, hu1⟩
  have HU1 := Lib.hid hu1
  clear hu1
  go_wp2_with fail
  refine (HFA.out _ HU1.out).mono ?_
  rintro e w2 ⟨a, cap, rfl, hsa, rfl⟩
  rw [← HLA.out] at hsa ⊢
  have HSA := Lib.hid hsa
  clear hsa
  go_wp2_with fail
  refine (tnew_any _ A w1 HSA.out).mono ?_
  rintro e w2 ⟨p, g, rfl, ht, hu2, hp, hg⟩
  rw [HTA.out] at ht
  have HT := Lib.hid ht
  have HU2 := Lib.hid hu2
  have hp0 : w1.heap.size ≤ p := hp
  clear ht hu2 hp hg
  go_wp2
  obtain ⟨S, hS⟩ : ∃ S, S = w2.heap.size := ⟨_, rfl⟩
  rw [← hS]
  have H0 : Hid (PlI w1 p g S A a cap 0 false (w2.alloc (.cells #[.slice a la cap, .int .i64 0, .bool false] 29))) :=
    ⟨HT.out.upd0 ((Upd.refl _ _).alloc _), by rw [hS, ← HLA.out]; exact heap_alloc_new w2 _, HU2.out.alloc _⟩
  have hpS : p < S := by rw [hS]; exact HT.out.lt
  have hgS : g < S := by rw [hS]; exact HT.out.glt
  have hS0 : w1.heap.size ≤ S := by rw [hS]; exact HU2.out.size
  have HSL : Hid (∀ W, Upd [] w1 W → Sl W (.slice a la cap) (cb A)) := fun W h => HSA.out.upd0 h
  have hgp : p ≠ g := Ne.symm HT.out.ne
  clear hS HSA HT
  go_loopw [7] (fun v7 wr => ∃ (j i : Nat) (d : Bool), j ≤ ps.length ∧ v7 = .int .i64 j ∧ Hid (PlI w1 p g S A a cap i d wr)) (fun v7 _ => ps.length - (intOf v7).toNat)
  case atStart => exact ⟨0, 0, false, Nat.zero_le _, rfl, H0⟩
  case round =>
    obtain ⟨j, i, d, hj, rfl, HI⟩ := hrel
    clear H0
    by_cases hlt : j < ps.length ∧ j < 100
    · obtain ⟨hlt1, hlt2⟩ := hlt
      have b1 : decide (j < ps.length) = true := by simpa using hlt1
      have b2 : decide ((j : Int) < 100) = true := by simp; omega
      obtain ⟨x, c, hq, _, _, hcell0⟩ := HP.out
      obtain ⟨b, o, rfl, hcell⟩ := hcell0 (by rintro rfl; simp at hlt1)
      simp only [Value.slice.injEq] at hq
      obtain ⟨rfl, _, rfl⟩ := hq
      obtain ⟨K, N, _, hwK, hwN, hc0, hc1⟩ := hcell j hlt1
      clear hcell0
      have hbw := World.block_lt_of_cell? w _ hc0
      have hwU := HU1.out.trans0 HI.out.upd
      have k0 : wr.cell? ⟨b, o + j * 2, none⟩ = some (.int .i64 K) := (hwU.cell (p := ⟨b, o + j * 2, none⟩) hbw (by simp)).trans hc0
      have k1 : wr.cell? ⟨b, o + j * 2 + 1, none⟩ = some (.int .i64 N) := (hwU.cell (p := ⟨b, o + j * 2 + 1, none⟩) hbw (by simp)).trans hc1
      have hla2 := HLA.out
      have hile := HI.out.tp.le
      have HACT : Hid (∃ (i' : Nat) (d' x : Bool) (f : Int),
          (∀ W, Tp W p g A i d → Calls Try.prog 15 #[.pointer (some ⟨p, 0, none⟩)] W fun e w' => e = .returned (.tuple #[.bool x, .int .i64 f]) ∧ Tp w' p g A i' d' ∧ Upd [p] W w') ∧
          (∀ W, Upd [] w1 W → Calls Try.prog 17 #[.agg #[.slice a la cap, .int .i64 (i : Int), .bool d], .agg #[.int .i64 0, .int .i64 N]] W (RPlay a la cap i' d' x f W))) := by
        by_cases hil : i < A.length
        · obtain rfl : d = false := by cases d with
            | false => rfl
            | true => have := hile.2.2 rfl; omega
          refine ⟨i + 1, false, A.getD i false, 0, fun W ht => tflip_yes p g A i false W ht hil, fun W hu => ?_⟩
          have hs := HSL.out W hu
          obtain ⟨b', o', c', hv, hcs⟩ := tsl_at hs (by intro h; have h2 := congrArg List.length h; rw [cb_length] at h2; have h4 : A.length = 0 := h2; omega)
          simp only [Value.slice.injEq] at hv
          obtain ⟨rfl, _, rfl⟩ := hv
          have hcell := hcs i (by rw [cb_length]; exact hil)
          rw [cb_getElem? A i hil] at hcell
          exact rplay_coin la cap i N W _ b' o' (by omega) (by omega) hcell
        · have hii : i = A.length := by omega
          refine ⟨i, true, false, 8, fun W ht => ?_, fun W hu => rplay_none a la cap i d N W (by omega) (by omega) ?_⟩
          · rw [hii] at ht ⊢; exact tflip_no p g A d W ht
          · cases d with
            | true => exact .inl rfl
            | false => exact .inr ⟨rfl, by simp; omega⟩
      have HBCK : Hid (∃ (i' : Nat) (d' : Bool) (f : Int),
          (∀ W, Tp W p g A i d → Calls Try.prog 16 #[.pointer (some ⟨p, 0, none⟩), .int .i64 N] W fun e w' => e = .returned (.int .i64 f) ∧ Tp w' p g A i' d' ∧ Upd [p] W w') ∧
          (∀ W, Upd [] w1 W → Calls Try.prog 17 #[.agg #[.slice a la cap, .int .i64 (i : Int), .bool d], .agg #[.int .i64 1, .int .i64 N]] W (RPlay a la cap i' d' false f W))) := by
        by_cases hN : N < 0 ∨ (i : Int) < N
        · refine ⟨i, d, 2, fun W ht => (tback_bad p g A i N d W ht hN).mono ?_, fun W hu => rplay_bad a la cap i d N W (by omega) ?_⟩
          · rintro e w' ⟨rfl, n, rfl⟩
            exact ⟨rfl, ht.drewN n, (Upd.refl _ _).drewN n⟩
          · rcases (by omega : N < 0 ∨ (¬ N < 0 ∧ (i : Int) < N)) with h | ⟨h, h'⟩
            · exact .inl (by simp; omega)
            · exact .inr ⟨by simp; omega, by simp; omega⟩
        · obtain ⟨k, rfl⟩ := Int.eq_ofNat_of_zero_le (show 0 ≤ N by omega)
          exact ⟨k, false, 0, fun W ht => tback_ok p g A i k d W ht (by omega), fun W hu => rplay_back a la cap i d W k (by omega) (by omega)⟩
      have s0 : wr.cell? ⟨S, 0, none⟩ = some (.slice a la cap) := by rw [cell_of_row wr S 0 _ _ _ HI.out.blk, HLA.out]; rfl
      have s1 : wr.cell? ⟨S, 1, none⟩ = some (.int .i64 (i : Int)) := by rw [cell_of_row wr S 1 _ _ _ HI.out.blk]; rfl
      have s2 : wr.cell? ⟨S, 2, none⟩ = some (.bool d) := by rw [cell_of_row wr S 2 _ _ _ HI.out.blk]; rfl
      have hand := i64_and1 K
      obtain ⟨κ, hκ⟩ : ∃ κ, κ = K % 2 := ⟨_, rfl⟩
      rw [← hκ] at hand
      have hκ2 : κ = 0 ∨ κ = 1 := by omega
      have i0 : (0 : Int) ≤ (j : Int) := by omega
      have i1 : (j : Int) < (ps.length : Int) := by omega
      have hilx := hile.1
      have hSr := HI.out.blk
      have hSl : S < wr.heap.size := lt_of_block hSr
      clear hcell hc0 hc1 hwK hwN hκ hwU hile hla2 hSr
      have HCL := Lib.hid (fun o => tclone_any p g A i d (wr.alloc o) (HI.out.tp.upd0 ((Upd.refl _ _).alloc _)))
      rcases hκ2 with rfl | rfl
      · obtain ⟨i', d', x, f, hact, hplay⟩ := HACT.out
        have HA := Lib.hid hact
        have HPL := Lib.hid hplay
        clear hact hplay HACT HBCK
        go_wp2_with fail
        refine (HCL.out _).mono ?_
        rintro e w4 ⟨q, rfl, htq, huq, hq⟩
        obtain ⟨X, hX⟩ : ∃ X, X = wr.heap.size := ⟨_, rfl⟩
        rw [← hX]
        have hbX : w4.heap[X]? = some (.cells #[.int .i64 0, .int .i64 N] 31 (0, 0)) := by
          rw [hX, huq.block _ (by simp) (by simp)]; exact heap_alloc_new wr _
        have x0 : w4.cell? ⟨X, 0, none⟩ = some (.int .i64 0) := by rw [cell_of_row w4 X 0 _ _ _ hbX]; rfl
        have htp := (HI.out.tp.upd0 ((Upd.refl [] wr).alloc (.cells #[.int .i64 0, .int .i64 N] 31))).upd0 huq
        have hqX : X < q := by have := hq; simp at this; omega
        have HQ4 := Lib.hid htq
        have HP4 := Lib.hid htp
        have HX4 := Lib.hid hbX
        have HU4 : Hid (Upd [] wr w4) := ((Upd.refl [] wr).alloc _).trans0 huq
        have hXS : wr.heap.size ≤ X := Nat.le_of_eq hX.symm
        clear htq huq hq hbX htp hX s0 s1 s2
        go_wp2_with fail
        refine (HA.out _ HP4.out).mono ?_
        rintro e w5 ⟨rfl, ht5, hu5⟩
        have HP5 := Lib.hid ht5
        have HQ5 := Lib.hid (HQ4.out.upd hu5 (by simp; omega) (by simp; exact Ne.symm hgp))
        have b5 : w5.heap[S]? = some (.cells #[.slice a A.length cap, .int .i64 (i : Int), .bool d] 29 (0, 0)) := by
          rw [hu5.block S (by have := HU4.out.size; omega) (by simp; omega), HU4.out.block S hSl (by simp)]; exact HI.out.blk
        have bx5 : w5.heap[X]? = some (.cells #[.int .i64 0, .int .i64 N] 31 (0, 0)) := by
          rw [hu5.block X (lt_of_block HX4.out) (by simp; omega)]; exact HX4.out
        have s0 : w5.cell? ⟨S, 0, none⟩ = some (.slice a la cap) := by rw [cell_of_row w5 S 0 _ _ _ b5, HLA.out]; rfl
        have s1 : w5.cell? ⟨S, 1, none⟩ = some (.int .i64 (i : Int)) := by rw [cell_of_row w5 S 1 _ _ _ b5]; rfl
        have s2 : w5.cell? ⟨S, 2, none⟩ = some (.bool d) := by rw [cell_of_row w5 S 2 _ _ _ b5]; rfl
        have x0' : w5.cell? ⟨X, 0, none⟩ = some (.int .i64 0) := by rw [cell_of_row w5 X 0 _ _ _ bx5]; rfl
        have x1' : w5.cell? ⟨X, 1, none⟩ = some (.int .i64 N) := by rw [cell_of_row w5 X 1 _ _ _ bx5]; rfl
        obtain ⟨w6, hw6⟩ : ∃ W, W = w5.alloc (.cells #[.slice a la cap, .int .i64 (i : Int), .bool d] 29) := ⟨_, rfl⟩
        have hu6 : Upd [] w5 w6 := by rw [hw6]; exact (Upd.refl _ _).alloc _
        have hb6 : w6.heap[w5.heap.size]? = some (.cells #[.slice a la cap, .int .i64 (i : Int), .bool d] 29 (0, 0)) := by rw [hw6]; exact heap_alloc_new w5 _
        have hS5 : S < w5.heap.size := lt_of_block b5
        have hX5 : X < w5.heap.size := lt_of_block bx5
        have s0'' := (hu6.cell (p := ⟨S, 0, none⟩) hS5 (by simp)).trans s0
        have s1'' := (hu6.cell (p := ⟨S, 1, none⟩) hS5 (by simp)).trans s1
        have s2'' := (hu6.cell (p := ⟨S, 2, none⟩) hS5 (by simp)).trans s2
        have x0'' := (hu6.cell (p := ⟨X, 0, none⟩) hX5 (by simp)).trans x0'
        have x1'' := (hu6.cell (p := ⟨X, 1, none⟩) hX5 (by simp)).trans x1'
        have HU6 := Lib.hid hu6
        have HB6 := Lib.hid hb6
        have HW6 := Lib.hid hw6
        rw [hw6] at s0'' s1'' s2'' x0'' x1''
        clear hu6 hb6 hw6
        have HU5 : Hid (Upd [p] wr w5) := (HU4.out.mono (by simp)).trans hu5 (fun x hx => .inl hx)
        have HB5 := Lib.hid b5
        clear ht5 hu5 b5 bx5 x0
        go_wp2_with fail
        rw [← HW6.out]
        clear s0 s1 s2 x0' x1' s0'' s1'' s2'' x0'' x1''
        have HUW : Hid (Upd [] w1 w5) := HI.out.upd.trans HU5.out (by intro x hx; simp at hx; subst hx; exact .inr hp0)
        refine (HPL.out _ (HUW.out.trans0 HU6.out)).mono ?_
        rintro e w7 ⟨rfl, hu7⟩
        have hb7 : w7.heap[S]? = some (.cells #[.slice a A.length cap, .int .i64 (i : Int), .bool d] 29 (0, 0)) := by
          rw [hu7.block S (by have := HU6.out.size; omega) (by simp), HU6.out.block S hS5 (by simp)]; exact HB5.out
        have f0 : w7.frozen? ⟨S, 0, none⟩ = false := frozen_of_row w7 S 0 _ _ hb7
        have f1 : w7.frozen? ⟨S, 1, none⟩ = false := frozen_of_row w7 S 1 _ _ hb7
        have f2 : w7.frozen? ⟨S, 2, none⟩ = false := frozen_of_row w7 S 2 _ _ hb7
        have s0 : w7.cell? ⟨S, 0, none⟩ = some (.slice a la cap) := by rw [cell_of_row w7 S 0 _ _ _ hb7, HLA.out]; rfl
        have s1 : w7.cell? ⟨S, 1, none⟩ = some (.int .i64 (i : Int)) := by rw [cell_of_row w7 S 1 _ _ _ hb7]; rfl
        have s2 : w7.cell? ⟨S, 2, none⟩ = some (.bool d) := by rw [cell_of_row w7 S 2 _ _ _ hb7]; rfl
        have HB7 := Lib.hid hb7
        have HU7 := Lib.hid hu7
        clear hb7 hu7
        have hxx : (x != x) = false := by simp
        have hff : (f != f) = false := by simp
        have hle5 := HP5.out.le
        have hlA := HLA.out
        have hwl : IntKind.i64.wrap ((la : Int) - (i' : Int)) = ((A.length - i' : Nat) : Int) := by rw [IntWalk.i64_in _ (by omega)]; omega
        obtain ⟨w8, hw8⟩ : ∃ W, W = ((w7.setCell ⟨S, 0, none⟩ (.slice a la cap)).setCell ⟨S, 1, none⟩ (.int .i64 (i' : Int))).setCell ⟨S, 2, none⟩ (.bool d') := ⟨_, rfl⟩
        have hu8 : Upd [S] w7 w8 := by rw [hw8]; exact (((Upd.refl _ _).setCell (.inl (by simp)) _).setCell (.inl (by simp)) _).setCell (.inl (by simp)) _
        have hb8 : w8.heap[S]? = some (.cells #[.slice a A.length cap, .int .i64 (i' : Int), .bool d'] 29 (0, 0)) := by
          rw [hw8]
          have e1 := heap_setCell_same w7 S 0 _ _ (.slice a la cap) HB7.out
          have e2 := heap_setCell_same _ S 1 _ _ (.int .i64 (i' : Int)) e1
          rw [heap_setCell_same _ S 2 _ _ (.bool d') e2, HLA.out]; rfl
        obtain ⟨S2, hS2⟩ : ∃ k, k = w5.heap.size := ⟨_, rfl⟩
        have hb9 : w8.heap[S2]? = some (.cells #[.slice a la cap, .int .i64 (i : Int), .bool d] 29 (0, 0)) := by
          rw [hS2, hu8.block w5.heap.size (by have := HU7.out.size; have := HU6.out.size; have := lt_of_block HB6.out; omega) (by simp; omega), HU7.out.block _ (lt_of_block HB6.out) (by simp)]; exact HB6.out
        have c1 : w8.cell? ⟨S, 1, none⟩ = some (.int .i64 (i' : Int)) := by rw [cell_of_row w8 S 1 _ _ _ hb8]; rfl
        have c2 : w8.cell? ⟨S, 2, none⟩ = some (.bool d') := by rw [cell_of_row w8 S 2 _ _ _ hb8]; rfl
        have e1 : w8.cell? ⟨S2, 1, none⟩ = some (.int .i64 (i : Int)) := by rw [cell_of_row w8 S2 1 _ _ _ hb9]; rfl
        have e2 : w8.cell? ⟨S2, 2, none⟩ = some (.bool d) := by rw [cell_of_row w8 S2 2 _ _ _ hb9]; rfl
        have hqS : q ≠ S := by omega
        have HP8 := Lib.hid (((HP5.out.upd0 HU6.out).upd0 HU7.out).upd hu8 (by simp; omega) (by simp; omega))
        have HQ8 := Lib.hid (((HQ5.out.upd0 HU6.out).upd0 HU7.out).upd hu8 (by simp; exact hqS) (by simp; omega))
        have HI8 : Hid (PlI w1 p g S A a cap i' d' w8) := ⟨HP8.out, hb8, (HUW.out.trans0 (HU6.out.trans0 HU7.out)).trans hu8 (by intro x hx; simp at hx; subst hx; exact .inr hS0)⟩
        have HW8 := Lib.hid hw8
        have HS2 := Lib.hid hS2
        obtain ⟨lf, hlf⟩ : ∃ k, k = A.length - i' := ⟨_, rfl⟩
        have HLF : Hid (∀ n, Calls Try.prog 21 #[.pointer (some ⟨p, 0, none⟩)] (w8.drewN n) fun e w' => e = .returned (.int .i64 (lf : Int)) ∧ ∃ m, w' = (w8.drewN n).drewN m) := fun n => by rw [hlf]; exact tleft_any p g A i' d' _ (HP8.out.drewN n)
        have HRDP : Hid (∀ n, Calls Try.prog 18 #[.pointer (some ⟨p, 0, none⟩)] (w8.drewN n) fun e w' => e = .returned (.int .i64 (i' : Int)) ∧ w8.drewN n = w') := fun n => tread_any p g A i' d' _ (HP8.out.drewN n)
        have HMKP : Hid (∀ n, Calls Try.prog 19 #[.pointer (some ⟨p, 0, none⟩)] (w8.drewN n) fun e w' => e = .returned (.int .i64 (i' : Int)) ∧ w8.drewN n = w') := fun n => tmark_any p g A i' d' _ (HP8.out.drewN n)
        have HDDP : Hid (∀ n, Calls Try.prog 20 #[.pointer (some ⟨p, 0, none⟩)] (w8.drewN n) fun e w' => e = .returned (.bool d') ∧ w8.drewN n = w') := fun n => tdead_any p g A i' d' _ (HP8.out.drewN n)
        have HRDQ : Hid (∀ n, Calls Try.prog 18 #[.pointer (some ⟨q, 0, none⟩)] (w8.drewN n) fun e w' => e = .returned (.int .i64 (i : Int)) ∧ w8.drewN n = w') := fun n => tread_any q g A i d _ (HQ8.out.drewN n)
        have HDDQ : Hid (∀ n, Calls Try.prog 20 #[.pointer (some ⟨q, 0, none⟩)] (w8.drewN n) fun e w' => e = .returned (.bool d) ∧ w8.drewN n = w') := fun n => tdead_any q g A i d _ (HQ8.out.drewN n)
        have hdt : d' = true → lf = 0 := fun h => by have := hle5.2.2 h; omega
        rw [← hlf] at hwl
        have hdd : (d' != d') = false := by simp
        have hee : (d != d) = false := by simp
        clear hle5 hlA hu8 hb8 hb9 hw8 hS2 hlf HCL
        cases d'
        all_goals
          first | (have hlf0 := hdt rfl; subst hlf0) | skip
          clear hdt
          go_wp2_with fail
          rw [← HW8.out]
          rw [← HS2.out]
          go_quiet (first
            | (go_at_call 18; first | exact Calls.quiet_of_same ((HRDP.out _).mono fun _ _ q => ⟨q.1, q.2.symm⟩) | exact Calls.quiet_of_same ((HRDQ.out _).mono fun _ _ q => ⟨q.1, q.2.symm⟩))
            | (go_at_call 19; exact Calls.quiet_of_same ((HMKP.out _).mono fun _ _ q => ⟨q.1, q.2.symm⟩))
            | (go_at_call 20; first | exact Calls.quiet_of_same ((HDDP.out _).mono fun _ _ q => ⟨q.1, q.2.symm⟩) | exact Calls.quiet_of_same ((HDDQ.out _).mono fun _ _ q => ⟨q.1, q.2.symm⟩))
            | (go_at_call 21; exact Calls.quiet_of (HLF.out _)))
          go_wp2
          go_roundw
          case rel => exact ⟨j + 1, i', _, by omega, by go_num, ⟨HI8.out.tp.drewN _, HI8.out.blk, HI8.out.upd.drewN _⟩⟩
          case measure => simp [intOf]; omega
      · obtain ⟨i', d', f, hact, hplay⟩ := HBCK.out
        have HA := Lib.hid hact
        have HPL := Lib.hid hplay
        clear hact hplay HACT HBCK
        go_wp2_with fail
        refine (HCL.out _).mono ?_
        rintro e w4 ⟨q, rfl, htq, huq, hq⟩
        obtain ⟨X, hX⟩ : ∃ X, X = wr.heap.size := ⟨_, rfl⟩
        rw [← hX]
        have hbX : w4.heap[X]? = some (.cells #[.int .i64 1, .int .i64 N] 31 (0, 0)) := by
          rw [hX, huq.block _ (by simp) (by simp)]; exact heap_alloc_new wr _
        have x0 : w4.cell? ⟨X, 0, none⟩ = some (.int .i64 1) := by rw [cell_of_row w4 X 0 _ _ _ hbX]; rfl
        have x1 : w4.cell? ⟨X, 1, none⟩ = some (.int .i64 N) := by rw [cell_of_row w4 X 1 _ _ _ hbX]; rfl
        have htp := (HI.out.tp.upd0 ((Upd.refl [] wr).alloc (.cells #[.int .i64 1, .int .i64 N] 31))).upd0 huq
        have hqX : X < q := by have := hq; simp at this; omega
        have HQ4 := Lib.hid htq
        have HP4 := Lib.hid htp
        have HX4 := Lib.hid hbX
        have HU4 : Hid (Upd [] wr w4) := ((Upd.refl [] wr).alloc _).trans0 huq
        have hXS : wr.heap.size ≤ X := Nat.le_of_eq hX.symm
        clear htq huq hq hbX htp hX s0 s1 s2
        go_wp2_with fail
        refine (HA.out _ HP4.out).mono ?_
        rintro e w5 ⟨rfl, ht5, hu5⟩
        have HP5 := Lib.hid ht5
        have HQ5 := Lib.hid (HQ4.out.upd hu5 (by simp; omega) (by simp; exact Ne.symm hgp))
        have b5 : w5.heap[S]? = some (.cells #[.slice a A.length cap, .int .i64 (i : Int), .bool d] 29 (0, 0)) := by
          rw [hu5.block S (by have := HU4.out.size; omega) (by simp; omega), HU4.out.block S hSl (by simp)]; exact HI.out.blk
        have bx5 : w5.heap[X]? = some (.cells #[.int .i64 1, .int .i64 N] 31 (0, 0)) := by
          rw [hu5.block X (lt_of_block HX4.out) (by simp; omega)]; exact HX4.out
        have s0 : w5.cell? ⟨S, 0, none⟩ = some (.slice a la cap) := by rw [cell_of_row w5 S 0 _ _ _ b5, HLA.out]; rfl
        have s1 : w5.cell? ⟨S, 1, none⟩ = some (.int .i64 (i : Int)) := by rw [cell_of_row w5 S 1 _ _ _ b5]; rfl
        have s2 : w5.cell? ⟨S, 2, none⟩ = some (.bool d) := by rw [cell_of_row w5 S 2 _ _ _ b5]; rfl
        have x0' : w5.cell? ⟨X, 0, none⟩ = some (.int .i64 1) := by rw [cell_of_row w5 X 0 _ _ _ bx5]; rfl
        have x1' : w5.cell? ⟨X, 1, none⟩ = some (.int .i64 N) := by rw [cell_of_row w5 X 1 _ _ _ bx5]; rfl
        obtain ⟨w6, hw6⟩ : ∃ W, W = w5.alloc (.cells #[.slice a la cap, .int .i64 (i : Int), .bool d] 29) := ⟨_, rfl⟩
        have hu6 : Upd [] w5 w6 := by rw [hw6]; exact (Upd.refl _ _).alloc _
        have hb6 : w6.heap[w5.heap.size]? = some (.cells #[.slice a la cap, .int .i64 (i : Int), .bool d] 29 (0, 0)) := by rw [hw6]; exact heap_alloc_new w5 _
        have hS5 : S < w5.heap.size := lt_of_block b5
        have hX5 : X < w5.heap.size := lt_of_block bx5
        have s0'' := (hu6.cell (p := ⟨S, 0, none⟩) hS5 (by simp)).trans s0
        have s1'' := (hu6.cell (p := ⟨S, 1, none⟩) hS5 (by simp)).trans s1
        have s2'' := (hu6.cell (p := ⟨S, 2, none⟩) hS5 (by simp)).trans s2
        have x0'' := (hu6.cell (p := ⟨X, 0, none⟩) hX5 (by simp)).trans x0'
        have x1'' := (hu6.cell (p := ⟨X, 1, none⟩) hX5 (by simp)).trans x1'
        have HU6 := Lib.hid hu6
        have HB6 := Lib.hid hb6
        have HW6 := Lib.hid hw6
        rw [hw6] at s0'' s1'' s2'' x0'' x1''
        clear hu6 hb6 hw6
        have HU5 : Hid (Upd [p] wr w5) := (HU4.out.mono (by simp)).trans hu5 (fun x hx => .inl hx)
        have HB5 := Lib.hid b5
        clear ht5 hu5 b5 bx5 x0 x1
        go_wp2_with fail
        rw [← HW6.out]
        clear s0 s1 s2 x0' x1' s0'' s1'' s2'' x0'' x1''
        have HUW : Hid (Upd [] w1 w5) := HI.out.upd.trans HU5.out (by intro x hx; simp at hx; subst hx; exact .inr hp0)
        refine (HPL.out _ (HUW.out.trans0 HU6.out)).mono ?_
        rintro e w7 ⟨rfl, hu7⟩
        have hb7 : w7.heap[S]? = some (.cells #[.slice a A.length cap, .int .i64 (i : Int), .bool d] 29 (0, 0)) := by
          rw [hu7.block S (by have := HU6.out.size; omega) (by simp), HU6.out.block S hS5 (by simp)]; exact HB5.out
        have f0 : w7.frozen? ⟨S, 0, none⟩ = false := frozen_of_row w7 S 0 _ _ hb7
        have f1 : w7.frozen? ⟨S, 1, none⟩ = false := frozen_of_row w7 S 1 _ _ hb7
        have f2 : w7.frozen? ⟨S, 2, none⟩ = false := frozen_of_row w7 S 2 _ _ hb7
        have s0 : w7.cell? ⟨S, 0, none⟩ = some (.slice a la cap) := by rw [cell_of_row w7 S 0 _ _ _ hb7, HLA.out]; rfl
        have s1 : w7.cell? ⟨S, 1, none⟩ = some (.int .i64 (i : Int)) := by rw [cell_of_row w7 S 1 _ _ _ hb7]; rfl
        have s2 : w7.cell? ⟨S, 2, none⟩ = some (.bool d) := by rw [cell_of_row w7 S 2 _ _ _ hb7]; rfl
        have HB7 := Lib.hid hb7
        have HU7 := Lib.hid hu7
        clear hb7 hu7
        have hff : (f != f) = false := by simp
        have hle5 := HP5.out.le
        have hlA := HLA.out
        have hwl : IntKind.i64.wrap ((la : Int) - (i' : Int)) = ((A.length - i' : Nat) : Int) := by rw [IntWalk.i64_in _ (by omega)]; omega
        obtain ⟨w8, hw8⟩ : ∃ W, W = ((w7.setCell ⟨S, 0, none⟩ (.slice a la cap)).setCell ⟨S, 1, none⟩ (.int .i64 (i' : Int))).setCell ⟨S, 2, none⟩ (.bool d') := ⟨_, rfl⟩
        have hu8 : Upd [S] w7 w8 := by rw [hw8]; exact (((Upd.refl _ _).setCell (.inl (by simp)) _).setCell (.inl (by simp)) _).setCell (.inl (by simp)) _
        have hb8 : w8.heap[S]? = some (.cells #[.slice a A.length cap, .int .i64 (i' : Int), .bool d'] 29 (0, 0)) := by
          rw [hw8]
          have e1 := heap_setCell_same w7 S 0 _ _ (.slice a la cap) HB7.out
          have e2 := heap_setCell_same _ S 1 _ _ (.int .i64 (i' : Int)) e1
          rw [heap_setCell_same _ S 2 _ _ (.bool d') e2, HLA.out]; rfl
        obtain ⟨S2, hS2⟩ : ∃ k, k = w5.heap.size := ⟨_, rfl⟩
        have hb9 : w8.heap[S2]? = some (.cells #[.slice a la cap, .int .i64 (i : Int), .bool d] 29 (0, 0)) := by
          rw [hS2, hu8.block w5.heap.size (by have := HU7.out.size; have := HU6.out.size; have := lt_of_block HB6.out; omega) (by simp; omega), HU7.out.block _ (lt_of_block HB6.out) (by simp)]; exact HB6.out
        have c1 : w8.cell? ⟨S, 1, none⟩ = some (.int .i64 (i' : Int)) := by rw [cell_of_row w8 S 1 _ _ _ hb8]; rfl
        have c2 : w8.cell? ⟨S, 2, none⟩ = some (.bool d') := by rw [cell_of_row w8 S 2 _ _ _ hb8]; rfl
        have e1 : w8.cell? ⟨S2, 1, none⟩ = some (.int .i64 (i : Int)) := by rw [cell_of_row w8 S2 1 _ _ _ hb9]; rfl
        have e2 : w8.cell? ⟨S2, 2, none⟩ = some (.bool d) := by rw [cell_of_row w8 S2 2 _ _ _ hb9]; rfl
        have hqS : q ≠ S := by omega
        have HP8 := Lib.hid (((HP5.out.upd0 HU6.out).upd0 HU7.out).upd hu8 (by simp; omega) (by simp; omega))
        have HQ8 := Lib.hid (((HQ5.out.upd0 HU6.out).upd0 HU7.out).upd hu8 (by simp; exact hqS) (by simp; omega))
        have HI8 : Hid (PlI w1 p g S A a cap i' d' w8) := ⟨HP8.out, hb8, (HUW.out.trans0 (HU6.out.trans0 HU7.out)).trans hu8 (by intro x hx; simp at hx; subst hx; exact .inr hS0)⟩
        have HW8 := Lib.hid hw8
        have HS2 := Lib.hid hS2
        obtain ⟨lf, hlf⟩ : ∃ k, k = A.length - i' := ⟨_, rfl⟩
        have HLF : Hid (∀ n, Calls Try.prog 21 #[.pointer (some ⟨p, 0, none⟩)] (w8.drewN n) fun e w' => e = .returned (.int .i64 (lf : Int)) ∧ ∃ m, w' = (w8.drewN n).drewN m) := fun n => by rw [hlf]; exact tleft_any p g A i' d' _ (HP8.out.drewN n)
        have HRDP : Hid (∀ n, Calls Try.prog 18 #[.pointer (some ⟨p, 0, none⟩)] (w8.drewN n) fun e w' => e = .returned (.int .i64 (i' : Int)) ∧ w8.drewN n = w') := fun n => tread_any p g A i' d' _ (HP8.out.drewN n)
        have HMKP : Hid (∀ n, Calls Try.prog 19 #[.pointer (some ⟨p, 0, none⟩)] (w8.drewN n) fun e w' => e = .returned (.int .i64 (i' : Int)) ∧ w8.drewN n = w') := fun n => tmark_any p g A i' d' _ (HP8.out.drewN n)
        have HDDP : Hid (∀ n, Calls Try.prog 20 #[.pointer (some ⟨p, 0, none⟩)] (w8.drewN n) fun e w' => e = .returned (.bool d') ∧ w8.drewN n = w') := fun n => tdead_any p g A i' d' _ (HP8.out.drewN n)
        have HRDQ : Hid (∀ n, Calls Try.prog 18 #[.pointer (some ⟨q, 0, none⟩)] (w8.drewN n) fun e w' => e = .returned (.int .i64 (i : Int)) ∧ w8.drewN n = w') := fun n => tread_any q g A i d _ (HQ8.out.drewN n)
        have HDDQ : Hid (∀ n, Calls Try.prog 20 #[.pointer (some ⟨q, 0, none⟩)] (w8.drewN n) fun e w' => e = .returned (.bool d) ∧ w8.drewN n = w') := fun n => tdead_any q g A i d _ (HQ8.out.drewN n)
        have hdt : d' = true → lf = 0 := fun h => by have := hle5.2.2 h; omega
        rw [← hlf] at hwl
        have hdd : (d' != d') = false := by simp
        have hee : (d != d) = false := by simp
        clear hle5 hlA hu8 hb8 hb9 hw8 hS2 hlf HCL
        cases d'
        all_goals
          first | (have hlf0 := hdt rfl; subst hlf0) | skip
          clear hdt
          go_wp2_with fail
          rw [← HW8.out]
          rw [← HS2.out]
          go_quiet (first
            | (go_at_call 18; first | exact Calls.quiet_of_same ((HRDP.out _).mono fun _ _ q => ⟨q.1, q.2.symm⟩) | exact Calls.quiet_of_same ((HRDQ.out _).mono fun _ _ q => ⟨q.1, q.2.symm⟩))
            | (go_at_call 19; exact Calls.quiet_of_same ((HMKP.out _).mono fun _ _ q => ⟨q.1, q.2.symm⟩))
            | (go_at_call 20; first | exact Calls.quiet_of_same ((HDDP.out _).mono fun _ _ q => ⟨q.1, q.2.symm⟩) | exact Calls.quiet_of_same ((HDDQ.out _).mono fun _ _ q => ⟨q.1, q.2.symm⟩))
            | (go_at_call 21; exact Calls.quiet_of (HLF.out _)))
          go_wp2
          go_roundw
          case rel => exact ⟨j + 1, i', _, by omega, by go_num, ⟨HI8.out.tp.drewN _, HI8.out.blk, HI8.out.upd.drewN _⟩⟩
          case measure => simp [intOf]; omega
    · have d1 : (decide (j < ps.length) = false) ∨ (decide (j < ps.length) = true ∧ decide ((j : Int) < 100) = false) := by
        simp only [decide_eq_true_eq, decide_eq_false_iff_not]; omega
      have HF := Lib.hid (HU1.out.trans0 HI.out.upd)
      clear hlt
      rcases d1 with d1 | ⟨d1, d2⟩
      all_goals
        go_wp2
        go_ret
        exact ⟨rfl, HF.out⟩
end Go.Proofs.Ytibfdldllaopdaa
