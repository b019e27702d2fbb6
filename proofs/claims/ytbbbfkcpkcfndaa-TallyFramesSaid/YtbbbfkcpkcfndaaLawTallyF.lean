/- TallyFrames: what is packed and sealed is opened and read; what is spoilt within four bytes is told: the walk of the law, out of the contracts. -/
import Derived.Test.YtbbbfkcpkcfndaaLawPackR
import Derived.Test.YtbbbfkcpkcfndaaLawCrcO
import Derived.Test.YtbbbfkcpkcfndaaCrcErr2
import Derived.Test.YtbbbfkcpkcfndaaPackRef
import Derived.Test.YtbbbfkcpkcfndaaLawBack
import Derived.Deep.CutBlock
import Derived.Deep.DeepCutAuto
namespace Go.Proofs.Ytbbbfkcpkcfndaa
open Go.RowKit Go.Proofs.Tm
set_option linter.unusedVariables false
set_option maxRecDepth 20000

/-- What is left behind a byte that was made another one. -/
theorem row_spoilt {w : World} {base g N cap : Nat} {S : List Nat} {i y : Nat} (h : w.ownsRow base 5 1 (.slice (some ⟨g, 0, none⟩) N cap) N (cu8 S)) :
    (w.setCell ⟨g, i, none⟩ (.int .u8 (y : Int))).ownsRow base 5 1 (.slice (some ⟨g, 0, none⟩) N cap) N (cu8 (S.set i y)) := by
  have h2 := (h.stored i (.int .u8 (y : Int))).1
  rw [← cu8_set] at h2
  exact h2

theorem row_cell {w : World} {base g N cap : Nat} {S : List Nat} (h : w.ownsRow base 5 1 (.slice (some ⟨g, 0, none⟩) N cap) N (cu8 S)) (i : Nat) (hi : i < S.length) (hN : S.length = N) : w.cell? ⟨g, i, none⟩ = some (.int .u8 ((S[i] : Nat) : Int)) := by
  rw [h.cellAt i (by omega), cu8_getElem?, List.getElem?_eq_getElem hi]; rfl

/-- The answer of Open of what was spoilt at i and k. -/
theorem open_spoilt (B : List Nat) (hB : ∀ b ∈ B, b < 256) (hl : B.length ≤ 300) (i k : Nat) (hi : i < B.length + 4) (hk : k < B.length + 4) (bv : Value) (bad : List Nat) (hz : bad = List.zipWith (· ^^^ ·) (sealL B) (eL (sealL B).length i k)) (w : World) (hs : Sl w bv (cu8 bad)) :
    Calls Try.prog 70 #[bv] w fun e w' => ∃ (v : Value) (c : Int), e = .returned (.tuple #[v, .int .i64 c]) ∧ Upd [] w w' ∧ (c = 6 ∨ c = 0 ∧ (i + 3 < k ∨ k + 3 < i)) := by
  have hSL := sealL_length B
  have hlen : bad.length = B.length + 4 := by rw [hz, List.length_zipWith, hSL]; simp [eL]
  have hbx : ∀ b ∈ bad, b < 256 := by
    intro b hb
    rw [hz, List.mem_iff_getElem] at hb
    obtain ⟨j, hj, rfl⟩ := hb
    rw [List.getElem_zipWith]
    exact Nat.xor_lt_two_pow (n := 8) (sealL_lt B hB _ (List.getElem_mem _)) (eL_lt _ _ _ _ (List.getElem_mem _))
  by_cases hacc : sealL (bad.take (bad.length - 4)) = bad
  · refine (open_ok bv bad w hs hbx (by omega) (by omega) hacc).mono ?_
    rintro e w' ⟨v, rfl, _, hu⟩
    refine ⟨v, 0, rfl, hu, .inr ⟨rfl, ?_⟩⟩
    rcases Nat.lt_or_ge (i + 3) k with h | h
    · exact .inl h
    · rcases Nat.lt_or_ge (k + 3) i with h' | h'
      · exact .inr h'
      · exfalso
        have := seal_two B i k hB hi hk h h'
        rw [hlen, show B.length + 4 - 4 = B.length by omega] at hacc
        rw [← hSL, ← hz] at this
        exact this hacc
  · refine (open_sum bv bad w hs hbx (by omega) (by omega) hacc).mono ?_
    rintro e w' ⟨rfl, hu⟩
    exact ⟨_, 6, rfl, hu, .inl rfl⟩

theorem and_low (k : Int) (m : Nat) (hm : m < 9223372036854775808) : ∃ c : Nat, c ≤ m ∧ bits .and .i64 k (m : Int) = (c : Int) := by
  have hb : (BitVec.ofInt 64 k &&& BitVec.ofInt 64 (m : Int)).toNat ≤ m := by
    rw [BitVec.toNat_and]
    refine Nat.le_trans Nat.and_le_right ?_
    simp; omega
  refine ⟨(BitVec.ofInt 64 k &&& BitVec.ofInt 64 (m : Int)).toNat, hb, ?_⟩
  show IntKind.i64.wrap ((BitVec.ofInt 64 k &&& BitVec.ofInt 64 (m : Int)).toNat : Int) = _
  exact IntWalk.i64_in _ (by omega)

set_option maxRecDepth 100000 in
set_option maxHeartbeats 6400000 in
theorem tallyFrames_law (a b at0 at1 : Int) (a2 : Option Addr) (cap2 : Nat) (ns : List Int) (w : World) (hS : Sl w (.slice a2 ns.length cap2) (ns.map (Value.int .u64))) (hN : ∀ n ∈ ns, (Lit.int .u64 n).wf = true) :
    Calls Try.prog 18 #[.agg #[.int .i64 a, .int .i64 b, .slice a2 ns.length cap2, .int .i64 at0, .int .i64 at1]] w fun e w' => e = .returned (.bool true) ∧ Upd [] w w' := by
  have HS := Lib.hid hS
  have HNW := Lib.hid hN
  have hnm : ns.length ≤ maxLen := by have := hS.len_le; simpa using this
  unfold maxLen at hnm
  obtain ⟨c1, hc1, hA⟩ := and_low a 63 (by decide)
  obtain ⟨c2, hc2, hB⟩ := and_low b 31 (by decide)
  obtain ⟨n, hn⟩ : ∃ n, n = c1 + 1 := ⟨_, rfl⟩
  obtain ⟨wd, hwd⟩ : ∃ wd, wd = c2 + 1 := ⟨_, rfl⟩
  have e1 : (1 : Int) + (c1 : Int) = (n : Int) := by omega
  have e2 : (1 : Int) + (c2 : Int) = (wd : Int) := by omega
  have e1' : IntKind.i64.wrap ((1 : Int) + (c1 : Int)) = (n : Int) := by rw [IntWalk.i64_in _ (by omega)]; omega
  have e2' : IntKind.i64.wrap ((1 : Int) + (c2 : Int)) = (wd : Int) := by rw [IntWalk.i64_in _ (by omega)]; omega
  have hn1 : 1 ≤ n := by omega
  have hn2 : n ≤ 64 := by omega
  have hw1 : 1 ≤ wd := by omega
  have hw2 : wd ≤ 32 := by omega
  have hA' : bits .and .i64 a 63 = (c1 : Int) := hA
  have hB' : bits .and .i64 b 31 = (c2 : Int) := hB
  clear hA hB hn hwd hS hN
  obtain ⟨w0, hw0⟩ : ∃ w0, w0 = w.alloc (.cells #[.int .i64 a, .int .i64 b, .slice a2 ns.length cap2, .int .i64 at0, .int .i64 at1] 100) := ⟨_, rfl⟩
  have hb0 : w0.heap[w.heap.size]? = some (.cells #[.int .i64 a, .int .i64 b, .slice a2 ns.length cap2, .int .i64 at0, .int .i64 at1] 100 (0, 0)) := by rw [hw0]; exact heap_alloc_new _ _
  have k0 : w0.cell? ⟨w.heap.size, 0, none⟩ = some (.int .i64 a) := by rw [cell_of_row w0 _ 0 _ _ _ hb0]; rfl
  have k1 : w0.cell? ⟨w.heap.size, 1, none⟩ = some (.int .i64 b) := by rw [cell_of_row w0 _ 1 _ _ _ hb0]; rfl
  have k2 : w0.cell? ⟨w.heap.size, 2, none⟩ = some (.slice a2 ns.length cap2) := by rw [cell_of_row w0 _ 2 _ _ _ hb0]; rfl
  have k3 : w0.cell? ⟨w.heap.size, 3, none⟩ = some (.int .i64 at0) := by rw [cell_of_row w0 _ 3 _ _ _ hb0]; rfl
  have k4 : w0.cell? ⟨w.heap.size, 4, none⟩ = some (.int .i64 at1) := by rw [cell_of_row w0 _ 4 _ _ _ hb0]; rfl
  have HU0 : Hid (Upd [] w w0) := by show Upd _ _ _; rw [hw0]; exact (Upd.refl _ _).alloc _
  have HW0 := Lib.hid hw0
  have hsz0 : w.heap.size < w0.heap.size := by rw [hw0]; simp
  obtain ⟨f, hf⟩ : ∃ f, f = w.heap.size := ⟨_, rfl⟩
  rw [← hf] at k0 k1 k2 k3 k4 hsz0
  have HF := Lib.hid hf
  clear hb0
  go_enter Try.func18, Try.ntmps18
  go_wp2_with fail
  rw [← hw0, ← hf]
  clear hw0 hf
  go_region
  obtain ⟨w1, hw1e⟩ : ∃ w1, w1 = (w0.alloc (.cells #[.int .i64 at0, .int .i64 at1] 98)).drew := ⟨_, rfl⟩
  have hb1 : w1.heap[w0.heap.size]? = some (.cells #[.int .i64 at0, .int .i64 at1] 98 (0, 0)) := by rw [hw1e]; exact heap_alloc_new _ _
  have HU1 : Hid (Upd [] w w1) := by show Upd _ _ _; rw [hw1e]; exact (HU0.out.alloc _).drew
  have hsz1 : w0.heap.size < w1.heap.size := lt_of_block hb1
  obtain ⟨t6, ht6⟩ : ∃ t6, t6 = w0.heap.size := ⟨_, rfl⟩
  rw [← hw1e, ← ht6]
  rw [← ht6] at hb1
  have HB1 := Lib.hid hb1
  have ht6w : w.heap.size ≤ t6 := by have := HU0.out.size; omega
  have ht6l : t6 < w1.heap.size := by omega
  clear hw1e hb1 ht6 k0 k1 k2 k3 k4 hA' hB' e1 e2 e1' e2' hsz0 hsz1
  go_wp2_with fail
  refine (vnew_ok n wd w1 (by omega) hw1 hw2).mono ?_
  rintro e w2 ⟨p, rfl, g, hv2, hu2, hp2, hg2⟩
  have H0 : Hid (Vec w2 p g wd (List.replicate n 0) ∧ Upd [] w1 w2) := ⟨hv2, hu2⟩
  have lp := hv2.lt
  have lg := hv2.glt
  clear hv2 hu2
  go_upto_block 0 with fail
  go_cut [9] (fun v9 wx => ∃ (i : Nat) (l : List Nat), i ≤ ns.length ∧ v9 = .int .i64 i ∧ l.length = n ∧ Vec wx p g wd l ∧ Upd [] w1 wx)
  case first =>
    go_wp2_with fail
    go_loopw [9] (fun v9 wr => ∃ (i : Nat) (l : List Nat), i ≤ ns.length ∧ v9 = .int .i64 i ∧ l.length = n ∧ Vec wr p g wd l ∧ Upd [] w1 wr) (fun v9 _ => ns.length - (intOf v9).toNat)
    case atStart => exact ⟨0, _, Nat.zero_le _, rfl, by simp, H0.out⟩
    case round =>
      obtain ⟨i, l, hi, rfl, hl, hv, hu⟩ := hrel
      have HV := Lib.hid hv
      have HL := Lib.hid hl
      have HU := Lib.hid hu
      have hswr := hu.size
      clear hv hl hu
      by_cases hlt : i < ns.length ∧ i < n
      · obtain ⟨hlt1, hlt2⟩ := hlt
        have b1 : decide (i < ns.length) = true := by simpa using hlt1
        have b2 : decide (i < n) = true := by simpa using hlt2
        have hup := HU1.out.trans0 HU.out
        obtain ⟨b, o, cap', hvv, hc⟩ := sl_at (HS.out.upd0 hup) (by intro h; have := congrArg List.length h; simp at this; simp_all)
        obtain ⟨rfl, rfl⟩ : a2 = some ⟨b, o, none⟩ ∧ cap2 = cap' := by simpa using hvv
        have hcell := hc i (by simpa using hlt1)
        rw [List.getElem?_map, List.getElem?_eq_getElem hlt1] at hcell
        simp only [Option.map_some] at hcell
        obtain ⟨hx0, hx1⟩ := bounds_u64 (HNW.out _ (List.getElem_mem hlt1))
        obtain ⟨x, hx⟩ := Int.eq_ofNat_of_zero_le hx0
        rw [hx] at hcell hx1
        have hand : bits .and .u64 (x : Int) ((2 ^ wd - 1 : Nat) : Int) = ((x % 2 ^ wd : Nat) : Int) := by
          have hp2 : 2 ^ wd ≤ 4294967296 := Nat.pow_le_pow_right (n := 2) (j := 32) (by decide) hw2
          rw [u64_and_nat _ _ (by omega) (by omega), Nat.and_two_pow_sub_one_eq_mod]
        have hmask : IntKind.u64.wrap (IntKind.u64.wrap (2 ^ wd) - 1) = ((2 ^ wd - 1 : Nat) : Int) := by
          have hp := Nat.two_pow_pos wd
          have hp2 : 2 ^ wd ≤ 4294967296 := Nat.pow_le_pow_right (n := 2) (j := 32) (by decide) hw2
          have e : (2 : Int) ^ wd = ((2 ^ wd : Nat) : Int) := by simp
          rw [e]
          generalize 2 ^ wd = x at *
          rw [IntKind.wrap_u64, IntKind.wrap_u64]
          omega
        have hxm : x % 2 ^ wd < 2 ^ wd := Nat.mod_lt _ (Nat.two_pow_pos _)
        have hwc : (wd : Int) ≤ 64 := by omega
        have hw0c : (0 : Int) ≤ (wd : Int) := by omega
        have HSET := Lib.hid (fun W h => vset_ok p g wd l W i (x % 2 ^ wd) h (by rw [HL.out]; exact hlt2) hxm)
        have HX : Hid ((l.set i (x % 2 ^ wd)).length = n) := by show _ = _; rw [List.length_set]; exact HL.out
        have i0 : (0 : Int) ≤ (i : Int) := by omega
        have i1 : (i : Int) < (ns.length : Int) := by omega
        have HCE : Hid (∀ W, Upd [] wr W → W.cell? ⟨b, o + i, none⟩ = some (.int .u64 (x : Int))) := fun W h => (h.cell (p := ⟨b, o + i, none⟩) (World.block_lt_of_cell? wr _ hcell) (by simp)).trans hcell
        have hsU := HU1.out.size
        have HG1 : Hid (w1.heap.size ≤ g) := hg2
        have hbl : b < w.heap.size := HS.out.block_lt (by intro h; have := congrArg List.length h; simp at this; simp_all) b rfl
        have HBG : Hid (b ≠ g) := by show b ≠ g; omega
        have HBL : Hid (b < w1.heap.size) := by show b < _; omega
        clear hup hc hvv hx hx0 hxm hcell
        generalize x % 2 ^ wd = y at *
        generalize (2 ^ wd - 1 : Nat) = msk at *
        have HMK := Lib.hid hmask
        go_wp2_with fail
        go_region_held3 (fun W => W.cell? ⟨b, o + i, none⟩ = some (.int .u64 (x : Int)))
          (first
            | exact HCE.out _ (Upd.refl _ _).drew
            | exact HCX.out)
          (first
            | (go_at_call 56; refine (HSET.out _ (HV.out.upd0 (Upd.refl _ _).drew)).mono ?_; rintro e wy ⟨rfl, hvy, hgy⟩; have HCX : Hid (wy.cell? ⟨b, o + i, none⟩ = some (.int .u64 (x : Int))) := (hgy.cell (p := ⟨b, o + i, none⟩) (Nat.lt_of_lt_of_le HBL.out hswr) (by simpa using HBG.out)).trans (HCE.out _ (Upd.refl _ _).drew)))
        have HVY := Lib.hid hvy
        have HUY : Hid (Upd [] w1 wy) := HU.out.drew.trans hgy (by intro z hz; simp at hz; subst hz; right; exact HG1.out)
        clear hvy hgy HCX
        go_wp2
        go_roundw
        case rel => exact ⟨i + 1, _, by omega, by go_num, HX.out, HVY.out, HUY.out⟩
        case measure => simp [intOf]; omega
      · have hend : (decide (i < ns.length) = false) ∨ (decide (i < ns.length) = true ∧ decide (i < n) = false) := by
          by_cases h1 : i < ns.length
          · right; exact ⟨by simpa using h1, by simp; omega⟩
          · left; simpa using h1
        clear hlt
        rcases hend with hend | ⟨hend, hend2⟩
        all_goals
          go_wp2_with fail
          go_meet
          exact ⟨i, l, hi, rfl, HL.out, HV.out, HU.out⟩
  case rest =>
    obtain ⟨i, l, hi, rfl, hl, hv, hu⟩ := hcut
    have HV := Lib.hid hv
    have HL := Lib.hid hl
    have HU := Lib.hid hu
    clear hv hl hu
    obtain ⟨wr, rfl⟩ : ∃ wr : World, wr = wc := ⟨_, rfl⟩
    have hlv := HV.out.lt
    have hlg := HV.out.glt
    have HX : Hid (∀ x ∈ l, x < 2 ^ wd) := by obtain ⟨_, _, _, _, _, _, h⟩ := HV.out; exact h
    have HWV := Lib.hid (vwrite_any p g wd l wr.heap.size none [] _ (HV.out.upd0 ((Upd.refl _ _).alloc _)) (Wr.zero wr) (by omega) (by omega) (by simp) (by simp))
    obtain ⟨q, hq⟩ : ∃ q, q = wr.heap.size := ⟨_, rfl⟩
    have UAL : Hid (Upd [] wr (wr.alloc (.cells #[.slice none 0 0, .int .i64 0] 26))) := (Upd.refl _ _).alloc _
    rw [← hq] at HWV
    have HLA : Hid ((allBits wd l).length = n * wd) := by show _ = _; rw [allBits_length, HL.out]
    have hnw : n * wd ≤ 64 * 32 := Nat.mul_le_mul hn2 hw2
    have HNW2 := Lib.hid hnw
    have HQ := Lib.hid hq
    clear hnw
    go_wp2_with fail
    rw [← hq]
    clear hq
    refine HWV.out.mono ?_
    rintro e w3 ⟨rfl, g3, hw3, hu3, hf3⟩
    rw [List.nil_append] at hw3
    have HU3 : Hid (Upd [] wr w3) := UAL.out.trans hu3 (by intro z hz; simp at hz; subst hz; right; exact Nat.le_of_eq HQ.out.symm)
    have HBY := Lib.hid (bytes_any q g3 (allBits wd l) w3 hw3 (by rw [HLA.out]; have := HNW2.out; omega))
    have HV3 := Lib.hid (HV.out.upd0 HU3.out)
    clear hw3 hu3 hf3
    go_wp2_with fail
    refine HBY.out.mono ?_
    rintro e w4 ⟨v4, rfl, ho4, hu4⟩
    obtain ⟨B, hB⟩ : ∃ B, B = bytesOf (allBits wd l) := ⟨_, rfl⟩
    have hBL : B.length ≤ 300 := by rw [hB, bytesOf_length, HLA.out]; have := HNW2.out; omega
    have HBX : Hid (∀ b ∈ B, b < 256) := by
      intro b hb; rw [hB] at hb
      obtain ⟨j, _, rfl⟩ := List.mem_map.1 hb
      exact byteAt_lt _ _
    have hso4 := Sl.own ho4
    rw [← hB] at hso4
    have HSE := Lib.hid (seal_any v4 B w4 hso4 HBX.out (by omega))
    have HU4 := Lib.hid (HU3.out.trans0 hu4)
    have HBE := Lib.hid hB
    clear ho4 hu4 hso4 hB HBY
    go_wp2_with fail
    refine HSE.out.mono ?_
    rintro e w5 ⟨v5, rfl, ho5, hu5⟩
    obtain ⟨fa, fcap, rfl⟩ := own_ex ho5
    have HSF := Lib.hid (Sl.own ho5)
    have HSF5L : Hid (∀ k, (Value.slice fa (B.length + 4) fcap).ownBlock = some k → k < w5.heap.size) := fun k hk => (ho5.lt k hk).2
    have HU5 := Lib.hid (HU4.out.trans0 hu5)
    have HSL := Lib.hid (sealL_length B)
    have HSB := Lib.hid (sealL_lt B HBX.out)
    have HTK : Hid ((sealL B).take ((sealL B).length - 4) = B) := by show _ = _; rw [HSL.out]; simp [sealL]
    have hop := open_ok (.slice fa (B.length + 4) fcap) (sealL B) w5 HSF.out HSB.out (by rw [HSL.out]; omega) (by rw [HSL.out]; omega) (by rw [HTK.out])
    rw [HTK.out] at hop
    have HOP := Lib.hid hop
    clear ho5 hu5 hop HSE
    go_wp2_with fail
    refine HOP.out.mono ?_
    rintro e w6 ⟨v6, rfl, hs6, hu6⟩
    have HRD := Lib.hid (read_any v6 B w6 hs6 (by omega) HBX.out)
    have HU6 := Lib.hid (HU5.out.trans0 hu6)
    have HSF6 := Lib.hid (HSF.out.upd0 hu6)
    have hs56 := hu6.size
    clear hs6 hu6 HOP
    go_wp2_with fail
    refine HRD.out.mono ?_
    rintro e w7 ⟨r, gr, rfl, hr7, hu7, hp7, hg7⟩
    have hle : 0 + n * wd ≤ 8 * B.length := by rw [HBE.out, bytesOf_length, HLA.out]; omega
    have HRO := Lib.hid (vread_ok r (some gr) B 0 n wd w7 hr7 (by omega) hw1 hw2 hle)
    have HU7 := Lib.hid (HU6.out.trans0 hu7)
    have HSF7 := Lib.hid (HSF6.out.upd0 hu7)
    have hs67 := HU6.out.size
    clear hr7 hu7 hle HRD
    go_wp2_with fail
    refine HRO.out.mono ?_
    rintro e w8 ⟨p2, g2, rfl, hv8, hp8, hg8, hr8, hu8⟩
    rw [HBE.out, numsAt_back wd l n HL.out hw1 HX.out] at hv8
    have HV8 := Lib.hid hv8
    have HU8 := Lib.hid (HU7.out.trans hu8 (by intro z hz; simp at hz; subst hz; right; omega))
    have HR8 := Lib.hid hr8
    have hsm := vsame_any p2 g2 p g wd l l w8 hv8 (HV.out.upd0 HU8.out) rfl
    rw [show decide (l = l) = true by simp] at hsm
    have HSM := Lib.hid hsm
    have HSF8 := Lib.hid (HSF7.out.upd hu8 (fun hne k hk => by have := HSF5L.out k hk; simp; omega))
    clear hv8 hr8 hu8 hsm HRO
    go_wp2_with fail
    refine HSM.out.mono ?_
    rintro e w9 ⟨rfl, m9, hw9⟩
    have U9 : Upd [] w8 w9 := by rw [hw9]; exact (Upd.refl _ _).drewN m9
    have HU9 := Lib.hid (HU8.out.trans0 U9)
    have hcl := closeL_any r (some gr) B (0 + n * wd) w9 (HR8.out.upd U9 (by simp) (by simp))
    rw [Nat.zero_add, ← HLA.out, HBE.out, close_zero] at hcl
    have HCL := Lib.hid hcl
    have HSF9 := Lib.hid (HSF8.out.upd0 U9)
    clear hw9 U9 hcl HSM
    go_wp2_with fail
    refine HCL.out.mono ?_
    rintro e w10 ⟨rfl, hu10⟩
    have HU10 := Lib.hid (HU9.out.trans0 hu10)
    have HSF10 := Lib.hid (HSF9.out.upd0 hu10)
    clear hu10 HCL
    go_wp2_with (at_builtin; refine wpList_append_sl _ rfl (.tmp 98) (.tmp 99) 24 rfl w10.heap.size 5 (.int .u8 0) 1 Try.underlying24 infoU8 rfl _ _ _ rfl (own_lit w10 5 #[] (by decide)) _ (cu8 (sealL B)) rfl (HSF10.out.upd0 ((Upd.refl _ _).alloc _)) (cu8_one _) (by unfold maxLen; simp [HSL.out]; omega) (by simp [HSL.out]; omega) (by simp) ?_)
    intro v11 w11 ho hg _
    have HO11 : Hid (w11.ownsRow w10.heap.size 5 1 v11 (B.length + 4) (cu8 (sealL B))) := by show World.ownsRow _ _ _ _ _ _ _; simpa [HSL.out] using ho
    have HU11 : Hid (Upd [] w10 w11) := ((Upd.refl _ _).alloc _).grown hg (fun k hk => .inr (by simp [Value.ownBlock] at hk; omega))
    clear ho hg
    obtain ⟨g11, cp11, rfl⟩ := own_shape HO11.out (by omega)
    have UW11 : Hid (Upd [] wr w11) := HU10.out.trans0 HU11.out
    have hb11 : w11.heap[t6]? = some (.cells #[.int .i64 at0, .int .i64 at1] 98 (0, 0)) := ((HU.out.trans0 UW11.out).block t6 ht6l (by simp)).trans HB1.out
    have k0 : w11.cell? ⟨t6, 0, none⟩ = some (.int .i64 at0) := by rw [cell_of_row w11 _ 0 _ _ _ hb11]; rfl
    have k1 : w11.cell? ⟨t6, 1, none⟩ = some (.int .i64 at1) := by rw [cell_of_row w11 _ 1 _ _ _ hb11]; rfl
    obtain ⟨N, hN⟩ : ∃ N, N = B.length + 4 := ⟨_, rfl⟩
    rw [← hN] at HO11 ⊢
    obtain ⟨r0, i0, hr0, hr1, hr2, hi0, hi0N⟩ := place_of at0 N (by omega)
    obtain ⟨s0, j0, hs0, hs1, hs2, hj0, hj0N⟩ := place_of at1 N (by omega)
    have hN2 : N ≤ 304 := by omega
    have q0 : (0 : Int) ≤ r0 + (N : Int) := by omega
    have q1 : (0 : Int) ≤ s0 + (N : Int) := by omega
    have q2 : (r0 + (N : Int)).tmod (N : Int) = (i0 : Int) := by rw [Int.tmod_eq_emod_of_nonneg q0]; exact hi0
    have q3 : (s0 + (N : Int)).tmod (N : Int) = (j0 : Int) := by rw [Int.tmod_eq_emod_of_nonneg q1]; exact hj0
    have q4 : IntKind.i64.wrap (r0 + (N : Int)) = r0 + (N : Int) := IntWalk.i64_in _ (by omega)
    have q5 : IntKind.i64.wrap (s0 + (N : Int)) = s0 + (N : Int) := IntWalk.i64_in _ (by omega)
    have q6 : IntKind.i64.wrap r0 = r0 := IntWalk.i64_in _ (by omega)
    have q7 : IntKind.i64.wrap s0 = s0 := IntWalk.i64_in _ (by omega)
    have q8 : IntKind.i64.wrap (i0 : Int) = (i0 : Int) := IntWalk.i64_in _ (by omega)
    have q9 : IntKind.i64.wrap (j0 : Int) = (j0 : Int) := IntWalk.i64_in _ (by omega)
    have qa : ((N : Int) == 0) = false := by rw [beq_eq_false_iff_ne]; omega
    have HN := Lib.hid hN
    clear hN hb11
    go_wp2_with fail
    go_quiet (fail)
    obtain ⟨w12, hw12⟩ : ∃ w12, w12 = w11.drewN nq := ⟨_, rfl⟩
    have HU12 : Hid (Upd [] w10 w12) := by show Upd _ _ _; rw [hw12]; exact HU11.out.drewN nq
    have HO12 : Hid (w12.ownsRow w10.heap.size 5 1 (.slice (some ⟨g11, 0, none⟩) N cp11) N (cu8 (sealL B))) := by show World.ownsRow _ _ _ _ _ _ _; rw [hw12]; exact ownsRow_upd HO11.out ((Upd.refl [] _).drewN nq) (by simp)
    rw [← hw12]
    clear hw12 k0 k1 hr0 hs0 q0 q1 q2 q3 q4 q5 q6 q7 q8 q9 qa hi0 hj0 hr1 hr2 hs1 hs2
    have hSN : (sealL B).length = N := by rw [HSL.out, HN.out]
    have hiS : i0 < (sealL B).length := by omega
    have hjS : j0 < (sealL B).length := by omega
    have hx : (sealL B)[i0] < 256 := HSB.out _ (List.getElem_mem hiS)
    have hx' : (sealL B)[j0] < 256 := HSB.out _ (List.getElem_mem hjS)
    have kc := row_cell HO12.out i0 hiS hSN
    have fc := HO12.out.frozenAt i0
    have u1 : bits .xor .u8 (((sealL B)[i0] : Nat) : Int) 85 = (((sealL B)[i0] ^^^ 85 : Nat) : Int) := u8_xor_nat _ 85 hx (by decide)
    have u2' : bits .xor .u8 (((sealL B)[j0] : Nat) : Int) 170 = (((sealL B)[j0] ^^^ 170 : Nat) : Int) := u8_xor_nat _ 170 hx' (by decide)
    have hbz := bad_zip (sealL B) i0 j0 hiS hjS
    have i0a : (0 : Int) ≤ (i0 : Int) := by omega
    have i0b : (i0 : Int) < (N : Int) := by omega
    have j0a : (0 : Int) ≤ (j0 : Int) := by omega
    have j0b : (j0 : Int) < (N : Int) := by omega
    have hgw := (HO12.out.lt g11 rfl).1
    have HU13 : Hid (∀ v, Upd [] w10 (w12.setCell ⟨g11, i0, none⟩ v)) := fun v => HU12.out.setCell (.inr hgw) v
    by_cases hji : j0 = i0
    · rw [if_pos hji] at hbz
      have hne : ((j0 : Int) != (i0 : Int)) = false := by rw [hji]; simp
      have hop := open_spoilt B HBX.out (by omega) i0 j0 (by have := HN.out; omega) (by have := HN.out; omega) (.slice (some ⟨g11, 0, none⟩) N cp11) _ hbz _ (Sl.own (row_spoilt HO12.out))
      have HOP2 := Lib.hid hop
      clear hop hbz hx hx' u2'
      generalize (sealL B)[i0] ^^^ 85 = y at *
      generalize (sealL B)[i0] = x at *
      clear hjS hiS hSN hji
      go_wp2_with fail
      refine HOP2.out.mono ?_
      rintro e w14 ⟨v14, c14, rfl, hu14, hc14⟩
      have HU14 := Lib.hid ((HU10.out.trans0 (HU13.out _)).trans0 hu14)
      clear hu14
      rcases hc14 with rfl | ⟨rfl, hfar⟩
      · go_wp2
        go_ret
        exact ⟨rfl, (HU1.out.trans0 HU.out).trans0 HU14.out⟩
      · have hd : (decide ((3 : Int) < (j0 : Int) - (i0 : Int)) = true) ∨ (decide ((3 : Int) < (j0 : Int) - (i0 : Int)) = false ∧ decide ((3 : Int) < (i0 : Int) - (j0 : Int)) = true) := by
          simp only [decide_eq_true_eq, decide_eq_false_iff_not]; omega
        clear hfar
        rcases hd with hd | ⟨hd, hd2⟩
        all_goals
          go_wp2
          go_ret
          exact ⟨rfl, (HU1.out.trans0 HU.out).trans0 HU14.out⟩
    · rw [if_neg hji] at hbz
      have hne : ((j0 : Int) != (i0 : Int)) = true := by rw [bne_iff_ne]; omega
      have ho2 := row_spoilt (i := i0) (y := (sealL B)[i0] ^^^ 85) HO12.out
      have hjS2 : j0 < ((sealL B).set i0 ((sealL B)[i0] ^^^ 85)).length := by rw [List.length_set]; exact hjS
      have kc2 : (w12.setCell ⟨g11, i0, none⟩ (.int .u8 (((sealL B)[i0] ^^^ 85 : Nat) : Int))).cell? ⟨g11, j0, none⟩ = some (.int .u8 (((sealL B)[j0] : Nat) : Int)) := by
        have h := row_cell ho2 j0 hjS2 (by rw [List.length_set]; exact hSN)
        rw [List.getElem_set_ne (Ne.symm hji)] at h
        exact h
      have fc2 := ho2.frozenAt j0
      have hop := open_spoilt B HBX.out (by omega) i0 j0 (by have := HN.out; omega) (by have := HN.out; omega) (.slice (some ⟨g11, 0, none⟩) N cp11) _ hbz _ (Sl.own (row_spoilt ho2))
      have HOP2 := Lib.hid hop
      have HU13' : Hid (∀ v v', Upd [] w10 ((w12.setCell ⟨g11, i0, none⟩ v).setCell ⟨g11, j0, none⟩ v')) := fun v v' => (HU13.out v).setCell (.inr hgw) v'
      clear hop hbz hx hx' ho2 hjS2
      generalize (sealL B)[i0] ^^^ 85 = y at *
      generalize (sealL B)[j0] ^^^ 170 = z at *
      generalize (sealL B)[i0] = x at *
      generalize (sealL B)[j0] = x2 at *
      clear hjS hiS hSN
      go_wp2_with fail
      refine HOP2.out.mono ?_
      rintro e w14 ⟨v14, c14, rfl, hu14, hc14⟩
      have HU14 := Lib.hid ((HU10.out.trans0 (HU13'.out _ _)).trans0 hu14)
      clear hu14
      rcases hc14 with rfl | ⟨rfl, hfar⟩
      · go_wp2
        go_ret
        exact ⟨rfl, (HU1.out.trans0 HU.out).trans0 HU14.out⟩
      · have hd : (decide ((3 : Int) < (j0 : Int) - (i0 : Int)) = true) ∨ (decide ((3 : Int) < (j0 : Int) - (i0 : Int)) = false ∧ decide ((3 : Int) < (i0 : Int) - (j0 : Int)) = true) := by
          simp only [decide_eq_true_eq, decide_eq_false_iff_not]; omega
        clear hfar
        rcases hd with hd | ⟨hd, hd2⟩
        all_goals
          go_wp2
          go_ret
          exact ⟨rfl, (HU1.out.trans0 HU.out).trans0 HU14.out⟩
end Go.Proofs.Ytbbbfkcpkcfndaa
