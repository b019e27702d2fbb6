/- CodesSeveral: numbers of all codes are read back: the law's walk. -/
import Derived.Test.YtbbbfkcpkcfndaaLawCodesR
import Derived.Test.YtbbbfkcpkcfndaaCodesSev
import Derived.Test.YtbbbfkcpkcfndaaLawBack
namespace Go.Proofs.Ytbbbfkcpkcfndaa
open Go.RowKit Go.Proofs.Tm
set_option linter.unusedVariables false
set_option maxRecDepth 20000

/-- What the item i of the two lists is: its number, its kind, where they stand. -/
structure Item (w : World) (a0 : Option Addr) (a1 : Option Addr) (i : Nat) (x : Nat) (c : Int) (b0 o0 b1 o1 n : Nat) (k : Int) : Prop where
  e0 : a0 = some ⟨b0, o0, none⟩
  e1 : a1 = some ⟨b1, o1, none⟩
  c0 : w.cell? ⟨b0, o0 + i, none⟩ = some (.int .u64 (n : Int))
  c1 : w.cell? ⟨b1, o1 + i, none⟩ = some (.int .i64 k)
  hx : bits .or .u64 (n : Int) 1 = (x : Int)
  hc : bits .and .i64 k 3 = c
  x0 : x ≠ 0
  x64 : x < 18446744073709551616

theorem items {w : World} {a0 a1 : Option Addr} {cap cap1 : Nat} {ns ks : List Int} (hS : Sl w (.slice a0 ns.length cap) (ns.map (Value.int .u64))) (hN : ∀ n ∈ ns, (Lit.int .u64 n).wf = true) (hK : Sl w (.slice a1 ks.length cap1) (ks.map (Value.int .i64))) :
    ∃ f : Nat → Nat × Int, ∀ i, i < ns.length → i < ks.length → ∃ b0 o0 b1 o1 n k, Item w a0 a1 i (f i).1 (f i).2 b0 o0 b1 o1 n k := by
  refine ⟨fun i => ((ns.getD i 0).toNat ||| 1, bits .and .i64 (ks.getD i 0) 3), fun i h0 h1 => ?_⟩
  obtain ⟨b, o, cap', hv, hc⟩ := sl_at hS (by intro h; have := congrArg List.length h; simp at this; simp_all)
  obtain ⟨b', o', cap'', hv', hc'⟩ := sl_at hK (by intro h; have := congrArg List.length h; simp at this; simp_all)
  have hcell := hc i (by simpa using h0)
  have hcell' := hc' i (by simpa using h1)
  rw [List.getElem?_map, List.getElem?_eq_getElem h0] at hcell
  rw [List.getElem?_map, List.getElem?_eq_getElem h1] at hcell'
  simp only [Option.map_some] at hcell hcell'
  have hbd := bounds_u64 (hN _ (List.getElem_mem h0))
  obtain ⟨n, hn⟩ := Int.eq_ofNat_of_zero_le hbd.1
  have g0 : ns.getD i 0 = (n : Int) := by rw [← hn]; simp [h0]
  have g1 : ks.getD i 0 = ks[i] := by simp [h1]
  rw [hn] at hcell hbd
  refine ⟨b, o, b', o', n, ks[i], by simp at hv; exact hv.1, by simp at hv'; exact hv'.1, hcell, hcell', ?_, ?_, ?_, ?_⟩
  · simp only [g0, Int.toNat_natCast]
    have := u64_or_nat n 1 (by omega) (by decide)
    simpa using this
  · simp only [g1]
  · simp only [g0, Int.toNat_natCast]
    intro h
    have : (1 : Nat) ≤ n ||| 1 := Nat.right_le_or
    omega
  · simp only [g0, Int.toNat_natCast]
    exact Nat.or_lt_two_pow (n := 64) (by omega) (by decide)

/-- The words of the items. -/
def wordF (f : Nat → Nat × Int) (i : Nat) : List Bool := wordS (f i).2 (f i).1

theorem whole_back {p : Nat} {g : Option Nat} {bs : List Nat} {i x i' : Nat} {w w' : World} {r : Nat × Nat × Int} {e : Ending} (h : WholeTo p g bs i w r e w') (hr : r = (x, i', 0)) :
    e = .returned (.tuple #[.int .u64 (x : Int), .int .i64 0]) ∧ Rd w' p g bs i' ∧ Upd [p] w w' := by
  subst hr
  obtain ⟨h1, h2, h3⟩ := h
  rw [if_pos rfl] at h2
  exact ⟨h1, h2, h3⟩

set_option maxRecDepth 100000 in
set_option maxHeartbeats 6400000 in
theorem codesS_law (a0 : Option Addr) (cap : Nat) (ns : List Int) (a1 : Option Addr) (cap1 : Nat) (ks : List Int) (w : World) (hS : Sl w (.slice a0 ns.length cap) (ns.map (Value.int .u64))) (hN : ∀ n ∈ ns, (Lit.int .u64 n).wf = true)
    (hK : Sl w (.slice a1 ks.length cap1) (ks.map (Value.int .i64))) :
    Calls Try.prog 10 #[.slice a0 ns.length cap, .slice a1 ks.length cap1] w fun e w' => e = .returned (.bool true) ∧ Upd [] w w' := by
  obtain ⟨f, hf⟩ := items hS hN hK
  have HF := Lib.hid hf
  have hnm : ns.length ≤ maxLen := by have := hS.len_le; simpa using this
  have hkm : ks.length ≤ maxLen := by have := hK.len_le; simpa using this
  unfold maxLen at hnm hkm
  generalize ns.length = na at *
  generalize ks.length = nk at *
  clear hS hN hK hf
  go_enter Try.func10, Try.ntmps10
  go_wp2_with fail
  refine (awake2 w).mono ?_
  rintro e w1 ⟨rfl, hu1⟩
  have HZ : Hid (Both w w1.heap.size (.slice none 0 0) [] [] (w1.alloc (.cells #[.slice none 0 0, .int .i64 0] 26))) :=
    ⟨none, Wr.zero w1, Sl.nil _, hu1.alloc _, hu1.size, by simp [Value.ownBlock], by simp⟩
  clear hu1
  have hm : ∃ m : Nat, m ≤ na ∧ m ≤ nk ∧ m ≤ 30 ∧ (if (30 : Int) < (if (nk : Int) < (na : Int) then (nk : Int) else (na : Int)) then (30 : Int) else if (nk : Int) < (na : Int) then (nk : Int) else (na : Int)) = (m : Int) :=
    ⟨min (min na nk) 30, by omega, by omega, by omega, by (repeat' split) <;> omega⟩
  obtain ⟨m, m1, m2, m3, m4⟩ := hm
  have hmin : ∀ (ts : Array TypeId) (t : TypeId) (W : World), (Builtin.min_ ts t #[.int .i64 (na : Int), .int .i64 (nk : Int), .int .i64 30]).run Try.prog W = .ok (.int .i64 (m : Int)) W := by
    intro ts t W
    have e : Builtin.min_ ts t #[.int .i64 (na : Int), .int .i64 (nk : Int), .int .i64 30] = pure (.int .i64 (if (30 : Int) < (if (nk : Int) < (na : Int) then (nk : Int) else (na : Int)) then (30 : Int) else if (nk : Int) < (na : Int) then (nk : Int) else (na : Int))) := rfl
    rw [e, m4]; rfl
  clear m4
  go_wp2_with fail
  · go_loopw [22] (fun v22 wr => ∃ i : Nat, i ≤ m ∧ v22 = .int .i64 i ∧ (allS (wordF f) i).length ≤ 200 * i ∧ Both w w1.heap.size (.slice none 0 0) (allS (wordF f) i) [] wr) (fun v22 _ => m - (intOf v22).toNat)
    case atStart => exact ⟨0, by omega, rfl, by simp [allS], HZ.out⟩
    case round =>
      obtain ⟨i, hi, rfl, hll, hinv⟩ := hrel
      obtain ⟨wo, rfl⟩ : ∃ wo : World, wo = wr := ⟨_, rfl⟩
      have HB := Lib.hid hinv
      clear hinv
      by_cases hlt : i < m
      · have hit := HF.out i (by omega) (by omega)
        obtain ⟨b0, o0, b1, o1, n, k, it⟩ := hit
        obtain ⟨e0, e1, k0, k1, hx, hc, x0, x64⟩ := it
        have HIT := Lib.hid (allS_succ (wordF f) i)
        have HW : Hid (wordF f i = wordS (f i).2 (f i).1) := rfl
        have hwl := wordS_len (f i).2 (f i).1 x64
        generalize f i = q at *
        obtain ⟨x, c⟩ := q
        dsimp only at hx hc x0 x64 HW hwl
        subst e0 e1
        have h0 := (HB.out.all.cell (World.block_lt_of_cell? w _ k0) (by simp)).trans k0
        have h1 := (HB.out.all.cell (World.block_lt_of_cell? w _ k1) (by simp)).trans k1
        have i0 : (0 : Int) ≤ (i : Int) := by omega
        have HX64 := Lib.hid x64
        have HX0 := Lib.hid x0
        have hlen : (allS (wordF f) (i + 1)).length ≤ 200 * (i + 1) := by rw [HIT.out, List.length_append, HW.out]; omega
        have HLEN := Lib.hid hlen
        obtain ⟨y, hy⟩ : ∃ y, y = x / 2 := ⟨_, rfl⟩
        have hy1 : (x : Int) / 2 = (y : Int) := by omega
        have hy64 : y < 18446744073709551616 := by omega
        have HYX : Hid (y ≤ x) := by show y ≤ x; omega
        clear hy k0 k1 hlen
        have G1 := Lib.hid (fun W => gammas_any x W x64)
        have G2 := Lib.hid (fun W => deltas_any x W x64)
        have G3 := Lib.hid (fun W => vars_any x W x64)
        have F1 := Lib.hid (fun W => gammas_any y W hy64)
        have F2 := Lib.hid (fun W => deltas_any y W hy64)
        have F3 := Lib.hid (fun W => vars_any y W hy64)
        have M1 : Hid (y ≠ 0 → gammaLen y ≤ gammaLen x) := gammaLen_mono HYX.out
        have M2 : Hid (y ≠ 0 → deltaLen y ≤ deltaLen x) := deltaLen_mono HYX.out
        have M3 : Hid (8 * groups y ≤ 8 * groups x) := Nat.mul_le_mul_left _ (groups_mono HYX.out)
        generalize gammaLen x = gx at *
        generalize deltaLen x = dx at *
        generalize 8 * groups x = vx at *
        generalize gammaLen y = gy at *
        generalize deltaLen y = dy at *
        generalize 8 * groups y = vy at *
        have P1 := Lib.hid (both_gamma HB.out x x0 x64 (by omega))
        have P2 := Lib.hid (both_delta HB.out x x0 x64 (by omega))
        have P3 := Lib.hid (both_var HB.out x x64 (by omega))
        clear hwl x0 hy64 hll
        have hc3 : (c = 0) ∨ (c = 1) ∨ ((c == 0) = false ∧ (c == 1) = false) := by
          by_cases h : c = 0
          · exact .inl h
          · by_cases h2 : c = 1
            · exact .inr (.inl h2)
            · exact .inr (.inr ⟨by simpa using h, by simpa using h2⟩)
        rcases hc3 with rfl | rfl | ⟨q1, q2⟩
        · have HB4f : Hid (∀ w4, Both w w1.heap.size (.slice none 0 0) (allS (wordF f) i ++ gammaBits x) [] w4 → Both w w1.heap.size (.slice none 0 0) (allS (wordF f) (i + 1)) [] w4) := fun w4 hb4 => by show Both _ _ _ _ _ _; rw [HIT.out, HW.out]; exact hb4
          by_cases hy0 : y = 0
          · have l0 : decide (0 < y) = false := by simp; omega
            clear hy0
            go_wp2_with fail
            refine P1.out.mono ?_
            rintro e w4 ⟨rfl, hb4⟩
            have HB4 := Lib.hid (HB4f.out _ hb4)
            clear hb4
            go_wp2
            go_roundw
            case rel => exact ⟨i + 1, by omega, by go_num, HLEN.out, HB4.out⟩
            case measure => simp [intOf]; omega
          · have l0 : decide (0 < y) = true := by simp; omega
            have l1 : decide (gx < gy) = false := by have := M1.out hy0; simp; omega
            have l2 : decide (dx < dy) = false := by have := M2.out hy0; simp; omega
            have l3 : decide (vx < vy) = false := by have := M3.out; simp; omega
            clear hy0
            go_wp2_with fail
            refine P1.out.mono ?_
            rintro e w4 ⟨rfl, hb4⟩
            have HB4 := Lib.hid (HB4f.out _ hb4)
            clear hb4
            go_wp2_with fail
            refine (F1.out _).mono ?_
            rintro e w' ⟨rfl, rfl⟩
            go_wp2_with fail
            refine (G1.out _).mono ?_
            rintro e w' ⟨rfl, rfl⟩
            go_wp2_with fail
            refine (F2.out _).mono ?_
            rintro e w' ⟨rfl, rfl⟩
            go_wp2_with fail
            refine (G2.out _).mono ?_
            rintro e w' ⟨rfl, rfl⟩
            go_wp2_with fail
            refine (F3.out _).mono ?_
            rintro e w' ⟨rfl, rfl⟩
            go_wp2_with fail
            refine (G3.out _).mono ?_
            rintro e w' ⟨rfl, rfl⟩
            go_wp2
            go_roundw
            case rel => exact ⟨i + 1, by omega, by go_num, HLEN.out, HB4.out⟩
            case measure => simp [intOf]; omega
        · have HB4f : Hid (∀ w4, Both w w1.heap.size (.slice none 0 0) (allS (wordF f) i ++ deltaBits x) [] w4 → Both w w1.heap.size (.slice none 0 0) (allS (wordF f) (i + 1)) [] w4) := fun w4 hb4 => by show Both _ _ _ _ _ _; rw [HIT.out, HW.out]; exact hb4
          by_cases hy0 : y = 0
          · have l0 : decide (0 < y) = false := by simp; omega
            clear hy0
            go_wp2_with fail
            refine P2.out.mono ?_
            rintro e w4 ⟨rfl, hb4⟩
            have HB4 := Lib.hid (HB4f.out _ hb4)
            clear hb4
            go_wp2
            go_roundw
            case rel => exact ⟨i + 1, by omega, by go_num, HLEN.out, HB4.out⟩
            case measure => simp [intOf]; omega
          · have l0 : decide (0 < y) = true := by simp; omega
            have l1 : decide (gx < gy) = false := by have := M1.out hy0; simp; omega
            have l2 : decide (dx < dy) = false := by have := M2.out hy0; simp; omega
            have l3 : decide (vx < vy) = false := by have := M3.out; simp; omega
            clear hy0
            go_wp2_with fail
            refine P2.out.mono ?_
            rintro e w4 ⟨rfl, hb4⟩
            have HB4 := Lib.hid (HB4f.out _ hb4)
            clear hb4
            go_wp2_with fail
            refine (F1.out _).mono ?_
            rintro e w' ⟨rfl, rfl⟩
            go_wp2_with fail
            refine (G1.out _).mono ?_
            rintro e w' ⟨rfl, rfl⟩
            go_wp2_with fail
            refine (F2.out _).mono ?_
            rintro e w' ⟨rfl, rfl⟩
            go_wp2_with fail
            refine (G2.out _).mono ?_
            rintro e w' ⟨rfl, rfl⟩
            go_wp2_with fail
            refine (F3.out _).mono ?_
            rintro e w' ⟨rfl, rfl⟩
            go_wp2_with fail
            refine (G3.out _).mono ?_
            rintro e w' ⟨rfl, rfl⟩
            go_wp2
            go_roundw
            case rel => exact ⟨i + 1, by omega, by go_num, HLEN.out, HB4.out⟩
            case measure => simp [intOf]; omega
        · have HB4f : Hid (∀ w4, Both w w1.heap.size (.slice none 0 0) (allS (wordF f) i ++ varBits x) [] w4 → Both w w1.heap.size (.slice none 0 0) (allS (wordF f) (i + 1)) [] w4) := fun w4 hb4 => by show Both _ _ _ _ _ _; rw [HIT.out, HW.out, wordS, if_neg (by simpa using q1), if_neg (by simpa using q2)]; exact hb4
          by_cases hy0 : y = 0
          · have l0 : decide (0 < y) = false := by simp; omega
            clear hy0
            go_wp2_with fail
            refine P3.out.mono ?_
            rintro e w4 ⟨rfl, hb4⟩
            have HB4 := Lib.hid (HB4f.out _ hb4)
            clear hb4
            go_wp2
            go_roundw
            case rel => exact ⟨i + 1, by omega, by go_num, HLEN.out, HB4.out⟩
            case measure => simp [intOf]; omega
          · have l0 : decide (0 < y) = true := by simp; omega
            have l1 : decide (gx < gy) = false := by have := M1.out hy0; simp; omega
            have l2 : decide (dx < dy) = false := by have := M2.out hy0; simp; omega
            have l3 : decide (vx < vy) = false := by have := M3.out; simp; omega
            clear hy0
            go_wp2_with fail
            refine P3.out.mono ?_
            rintro e w4 ⟨rfl, hb4⟩
            have HB4 := Lib.hid (HB4f.out _ hb4)
            clear hb4
            go_wp2_with fail
            refine (F1.out _).mono ?_
            rintro e w' ⟨rfl, rfl⟩
            go_wp2_with fail
            refine (G1.out _).mono ?_
            rintro e w' ⟨rfl, rfl⟩
            go_wp2_with fail
            refine (F2.out _).mono ?_
            rintro e w' ⟨rfl, rfl⟩
            go_wp2_with fail
            refine (G2.out _).mono ?_
            rintro e w' ⟨rfl, rfl⟩
            go_wp2_with fail
            refine (F3.out _).mono ?_
            rintro e w' ⟨rfl, rfl⟩
            go_wp2_with fail
            refine (G3.out _).mono ?_
            rintro e w' ⟨rfl, rfl⟩
            go_wp2
            go_roundw
            case rel => exact ⟨i + 1, by omega, by go_num, HLEN.out, HB4.out⟩
            case measure => simp [intOf]; omega
      · obtain rfl : i = m := by omega
        obtain ⟨l, hl⟩ : ∃ l, l = allS (wordF f) i := ⟨_, rfl⟩
        have HL := Lib.hid hl
        have hup0 := HB.out.all
        obtain ⟨g, hwr, _⟩ := HB.out
        rw [← hl] at hwr hll
        have HBY := Lib.hid (bytes_any w1.heap.size g l wo hwr (by omega))
        have HU0 := Lib.hid hup0
        have hs0 := hup0.size
        clear hl hwr hup0
        go_wp2_with fail
        refine HBY.out.mono ?_
        rintro e w2 ⟨vb, rfl, ho2, hu2⟩
        have hrd := read_any vb (bytesOf l) w2 (Sl.own ho2) (by simp; omega) (by intro b hb; simp only [bytesOf, List.mem_map] at hb; obtain ⟨j, _, rfl⟩ := hb; exact byteAt_lt _ _)
        have HRD := Lib.hid hrd
        have HU2 := Lib.hid hu2
        have hs2 := hu2.size
        clear ho2 hu2 hrd
        go_wp2_with fail
        refine HRD.out.mono ?_
        rintro e w3 ⟨q, gr, rfl, hr3, hu3, hp3, hg3⟩
        have HU3 := Lib.hid (HU2.out.trans0 hu3)
        have HST : Hid (Rd w3 q (some gr) (bytesOf l) 0) := hr3
        have hq : w.heap.size ≤ q := by omega
        have hq2 : wo.heap.size ≤ q := by omega
        clear hr3 hu3 hp3 hg3
        go_wp2_with fail
        go_loopw [74] (fun v74 wr => ∃ j : Nat, j ≤ i ∧ v74 = .int .i64 j ∧ Rd wr q (some gr) (bytesOf l) (allS (wordF f) j).length ∧ Upd [] wo wr) (fun v74 _ => i - (intOf v74).toNat)
        case atStart => exact ⟨0, by omega, rfl, HST.out, HU3.out⟩
        case round =>
          obtain ⟨j, hj, rfl, hrd, hup⟩ := hrel
          obtain ⟨wx, rfl⟩ : ∃ wx : World, wx = wr := ⟨_, rfl⟩
          have RD := Lib.hid hrd
          have RU := Lib.hid (HU0.out.trans0 hup)
          have RW := Lib.hid hup
          clear hrd hup
          by_cases hji : j < i
          · have hit := HF.out j (by omega) (by omega)
            obtain ⟨b0, o0, b1, o1, n, k, it⟩ := hit
            obtain ⟨e0, e1, k0, k1, hx, hc, x0, x64⟩ := it
            have hsp : specS (f j).2 (bitsOf (bytesOf l)) (allS (wordF f) j).length = ((f j).1, (allS (wordF f) (j + 1)).length, 0) := by
              obtain ⟨hle, B, hB⟩ := allS_read (wordF f) j i hji
              rw [← HL.out] at hle hB
              rw [specS_back hle x0 x64 hB, allS_succ, List.length_append]
              rfl
            generalize f j = r at *
            obtain ⟨x, c⟩ := r
            dsimp only at hx hc x0 x64 hsp
            subst e0 e1
            have K0 := Lib.hid k0
            have h1 := (RU.out.cell (World.block_lt_of_cell? w _ k1) (by simp)).trans k1
            have hblt := World.block_lt_of_cell? w _ k0
            have i0 : (0 : Int) ≤ (j : Int) := by omega
            have HSP := Lib.hid hsp
            clear k0 k1 hsp x0 x64
            have hc3 : (c = 0) ∨ (c = 1) ∨ ((c == 0) = false ∧ (c == 1) = false) := by
              by_cases h : c = 0
              · exact .inl h
              · by_cases h2 : c = 1
                · exact .inr (.inl h2)
                · exact .inr (.inr ⟨by simpa using h, by simpa using h2⟩)
            rcases hc3 with rfl | rfl | ⟨q1, q2⟩
            · have H := Lib.hid (((Gamma_any q (some gr) (bytesOf l) _ wx RD.out)).mono fun e w' h => whole_back h (HSP.out))
              go_wp2_with fail
              refine H.out.mono ?_
              rintro e w4 ⟨rfl, hr4, hu4⟩
              have hup4 := RU.out.trans hu4 (by intro y hy; simp at hy; subst hy; right; exact hq)
              have h0 := (hup4.cell hblt (by simp)).trans K0.out
              have RD4 := Lib.hid hr4
              have RW4 := Lib.hid (RW.out.trans hu4 (by intro y hy; simp at hy; subst hy; right; omega))
              clear hr4 hu4 hup4
              go_wp2
              go_roundw
              case rel => exact ⟨j + 1, by omega, by go_num, RD4.out, RW4.out⟩
              case measure => simp [intOf]; omega
            · have H := Lib.hid (((Delta_any q (some gr) (bytesOf l) _ wx RD.out)).mono fun e w' h => whole_back h (HSP.out))
              go_wp2_with fail
              refine H.out.mono ?_
              rintro e w4 ⟨rfl, hr4, hu4⟩
              have hup4 := RU.out.trans hu4 (by intro y hy; simp at hy; subst hy; right; exact hq)
              have h0 := (hup4.cell hblt (by simp)).trans K0.out
              have RD4 := Lib.hid hr4
              have RW4 := Lib.hid (RW.out.trans hu4 (by intro y hy; simp at hy; subst hy; right; omega))
              clear hr4 hu4 hup4
              go_wp2
              go_roundw
              case rel => exact ⟨j + 1, by omega, by go_num, RD4.out, RW4.out⟩
              case measure => simp [intOf]; omega
            · have H := Lib.hid (((Var_any q (some gr) (bytesOf l) _ wx RD.out)).mono fun e w' h => whole_back h (by have := HSP.out; rw [specS, if_neg (by simpa using q1), if_neg (by simpa using q2)] at this; exact this))
              go_wp2_with fail
              refine H.out.mono ?_
              rintro e w4 ⟨rfl, hr4, hu4⟩
              have hup4 := RU.out.trans hu4 (by intro y hy; simp at hy; subst hy; right; exact hq)
              have h0 := (hup4.cell hblt (by simp)).trans K0.out
              have RD4 := Lib.hid hr4
              have RW4 := Lib.hid (RW.out.trans hu4 (by intro y hy; simp at hy; subst hy; right; omega))
              clear hr4 hu4 hup4
              go_wp2
              go_roundw
              case rel => exact ⟨j + 1, by omega, by go_num, RD4.out, RW4.out⟩
              case measure => simp [intOf]; omega
          · obtain rfl : j = i := by omega
            have RD2 : Hid (Rd wx q (some gr) (bytesOf l) l.length) := by rw [HL.out]; exact HL.out ▸ RD.out
            have hcl := closeL_any q _ (bytesOf l) l.length wx RD2.out
            rw [close_zero] at hcl
            have HCL := Lib.hid hcl
            clear hcl
            go_wp2_with fail
            refine HCL.out.mono ?_
            rintro e w5 ⟨rfl, hu5⟩
            have HU5 := Lib.hid (RU.out.trans0 hu5)
            clear hu5
            go_wp2
            go_ret
            exact ⟨rfl, HU5.out⟩
end Go.Proofs.Ytbbbfkcpkcfndaa
