/- CrcAffine: of three of one length the sum of the sums is the sum of the sum: the walk of the law, out of the contracts. -/
import Derived.Test.YtbbbfkcpkcfndaaLawCrcS
import Derived.StillTailTactics
import Derived.Deep.RegionHeld3
namespace Go.Proofs.Ytbbbfkcpkcfndaa
open Go.RowKit Go.Proofs.Tm
set_option linter.unusedVariables false
set_option maxRecDepth 20000

/-- Byte by byte the sum of three. -/
def xor3 (xs ys zs : List Nat) : List Nat := List.zipWith (· ^^^ ·) (List.zipWith (· ^^^ ·) xs ys) zs

theorem sum_xor3 (xs ys zs : List Nat) (h1 : xs.length = ys.length) (h2 : ys.length = zs.length) (hx : ∀ b ∈ xs, b < 256) (hy : ∀ b ∈ ys, b < 256) (hz : ∀ b ∈ zs, b < 256) :
    sumL (xor3 xs ys zs) = sumL xs ^^^ sumL ys ^^^ sumL zs := by
  have h := crcL_affine 4294967295 4294967295 4294967295 xs ys zs h1 h2
  rw [show (4294967295 ^^^ 4294967295 ^^^ 4294967295 : Nat) = 4294967295 by decide] at h
  have lx := crcL_lt 4294967295 xs (by decide) hx
  have ly := crcL_lt 4294967295 ys (by decide) hy
  have lz := crcL_lt 4294967295 zs (by decide) hz
  unfold sumL xor3
  rw [h, compl_xor _ (Nat.xor_lt_two_pow (n := 32) (Nat.xor_lt_two_pow (n := 32) lx ly) lz), compl_xor _ lx, compl_xor _ ly, compl_xor _ lz]
  apply Nat.eq_of_testBit_eq; intro i; simp
  generalize (crcL 4294967295 xs).testBit i = p
  generalize (crcL 4294967295 ys).testBit i = q
  generalize (crcL 4294967295 zs).testBit i = r
  cases Nat.testBit 4294967295 i <;> cases p <;> cases q <;> cases r <;> rfl

theorem xor3_snoc (xs ys zs : List Nat) (k : Nat) (h1 : k < xs.length) (h2 : k < ys.length) (h3 : k < zs.length) :
    xor3 (xs.take (k + 1)) (ys.take (k + 1)) (zs.take (k + 1)) = xor3 (xs.take k) (ys.take k) (zs.take k) ++ [xs[k] ^^^ ys[k] ^^^ zs[k]] := by
  unfold xor3
  rw [List.take_succ_eq_append_getElem h1, List.take_succ_eq_append_getElem h2, List.take_succ_eq_append_getElem h3, List.zipWith_append (by simp; omega), List.zipWith_append (by simp; omega)]
  rfl

theorem xor3_length (xs ys zs : List Nat) (k : Nat) (h1 : xs.length = k) (h2 : ys.length = k) (h3 : zs.length = k) : (xor3 xs ys zs).length = k := by simp [xor3, h1, h2, h3]

theorem xor3_lt (xs ys zs : List Nat) (hx : ∀ b ∈ xs, b < 256) (hy : ∀ b ∈ ys, b < 256) (hz : ∀ b ∈ zs, b < 256) : ∀ b ∈ xor3 xs ys zs, b < 256 := by
  intro b hb
  unfold xor3 at hb
  rw [List.mem_iff_getElem] at hb
  obtain ⟨i, hi, rfl⟩ := hb
  simp only [List.getElem_zipWith]
  exact Nat.xor_lt_two_pow (n := 8) (Nat.xor_lt_two_pow (n := 8) (hx _ (List.getElem_mem _)) (hy _ (List.getElem_mem _))) (hz _ (List.getElem_mem _))

set_option maxHeartbeats 1600000 in
theorem crcAffine_law (a0 : Option Addr) (cap0 : Nat) (xs : List Nat) (a1 : Option Addr) (cap1 : Nat) (ys : List Nat) (a2 : Option Addr) (cap2 : Nat) (zs : List Nat) (w : World) (hX : Sl w (.slice a0 xs.length cap0) (cu8 xs)) (hx : ∀ b ∈ xs, b < 256)
    (hY : Sl w (.slice a1 ys.length cap1) (cu8 ys)) (hy : ∀ b ∈ ys, b < 256) (hZ : Sl w (.slice a2 zs.length cap2) (cu8 zs)) (hz : ∀ b ∈ zs, b < 256) :
    Calls Try.prog 16 #[.slice a0 xs.length cap0, .slice a1 ys.length cap1, .slice a2 zs.length cap2] w fun e w' => e = .returned (.bool true) ∧ Upd [] w w' := by
  have HX := Lib.hid hX
  have HY := Lib.hid hY
  have HZ := Lib.hid hZ
  have HXB := Lib.hid hx
  have HYB := Lib.hid hy
  have HZB := Lib.hid hz
  obtain ⟨n, hn⟩ : ∃ n : Nat, min (min (min (xs.length : Int) ys.length) zs.length) 200 = (n : Int) := ⟨(min (min (min xs.length ys.length) zs.length) 200), by omega⟩
  have n1 : n ≤ xs.length := by omega
  have n2 : n ≤ ys.length := by omega
  have n3 : n ≤ zs.length := by omega
  have n4 : n ≤ 200 := by omega
  obtain ⟨p, hp⟩ : ∃ p, p = xs.length := ⟨_, rfl⟩
  obtain ⟨q, hq⟩ : ∃ q, q = ys.length := ⟨_, rfl⟩
  obtain ⟨r, hr⟩ : ∃ r, r = zs.length := ⟨_, rfl⟩
  have hmin : ∀ (ts : Array TypeId) (t : TypeId) (W : World), (Builtin.min_ ts t #[.int .i64 (p : Int), .int .i64 (q : Int), .int .i64 (r : Int), .int .i64 200]).run Try.prog W = .ok (.int .i64 (n : Int)) W := by
    intro ts t W
    have e : Builtin.min_ ts t #[.int .i64 (p : Int), .int .i64 (q : Int), .int .i64 (r : Int), .int .i64 200] = pure (.int .i64 (if (200 : Int) < (if (r : Int) < (if (q : Int) < (p : Int) then (q : Int) else (p : Int)) then (r : Int) else (if (q : Int) < (p : Int) then (q : Int) else (p : Int))) then (200 : Int) else (if (r : Int) < (if (q : Int) < (p : Int) then (q : Int) else (p : Int)) then (r : Int) else (if (q : Int) < (p : Int) then (q : Int) else (p : Int))))) := rfl
    rw [e]
    rw [← hp, ← hq, ← hr] at hn
    rw [← hn, Sem.run_pure]
    congr 2
    split <;> split <;> (try split) <;> omega
  rw [hp, hq, hr] at hmin
  clear hp hq hr
  have HN := Lib.hid hn
  have c0 : xs.length ≤ cap0 := by obtain ⟨a, c, h, h2, _⟩ := hX; simp at h h2; omega
  have c1 : ys.length ≤ cap1 := by obtain ⟨a, c, h, h2, _⟩ := hY; simp at h h2; omega
  have c2 : zs.length ≤ cap2 := by obtain ⟨a, c, h, h2, _⟩ := hZ; simp at h h2; omega
  clear hX hY hZ hx hy hz hn
  go_enter Try.func16, Try.ntmps16
  go_wp2_with fail
  refine (awake4 w).mono ?_
  rintro e w1 ⟨rfl, hu1⟩
  have HU1 := Lib.hid hu1
  clear hu1
  go_wp2_with fail
  go_loopw [8, 20] (fun s8 s20 wr => ∃ k : Nat, k ≤ n ∧ s20 = .int .i64 k ∧ wr.ownsRow w1.heap.size 5 1 s8 k (cu8 (xor3 (xs.take k) (ys.take k) (zs.take k))) ∧ Upd [] w1 wr) (fun _ s20 _ => n - (intOf s20).toNat)
  case atStart => exact ⟨0, by omega, rfl, World.ownsRow_nil _ _ _ _, Upd.refl _ _⟩
  case round =>
    obtain ⟨k, hk, rfl, hown, hup⟩ := hrel
    obtain ⟨wo, rfl⟩ : ∃ wo : World, wo = wr := ⟨_, rfl⟩
    have hu0 := HU1.out.trans0 hup
    by_cases hlt : k < n
    · obtain ⟨b0, o0, cap0', hv0, hc0⟩ := sl_at (HX.out.upd0 hu0) (by intro h; have := congrArg List.length h; simp at this; simp_all)
      obtain ⟨rfl, rfl⟩ : a0 = some ⟨b0, o0, none⟩ ∧ cap0 = cap0' := by simpa using hv0
      obtain ⟨b1, o1, cap1', hv1, hc1⟩ := sl_at (HY.out.upd0 hu0) (by intro h; have := congrArg List.length h; simp at this; simp_all)
      obtain ⟨rfl, rfl⟩ : a1 = some ⟨b1, o1, none⟩ ∧ cap1 = cap1' := by simpa using hv1
      obtain ⟨b2, o2, cap2', hv2, hc2⟩ := sl_at (HZ.out.upd0 hu0) (by intro h; have := congrArg List.length h; simp at this; simp_all)
      obtain ⟨rfl, rfl⟩ : a2 = some ⟨b2, o2, none⟩ ∧ cap2 = cap2' := by simpa using hv2
      have e0 := hc0 k (by simp; omega)
      have e1 := hc1 k (by simp; omega)
      have e2 := hc2 k (by simp; omega)
      have l0 : k < xs.length := by omega
      have l1 : k < ys.length := by omega
      have l2 : k < zs.length := by omega
      rw [cu8_getElem?, List.getElem?_eq_getElem l0] at e0
      rw [cu8_getElem?, List.getElem?_eq_getElem l1] at e1
      rw [cu8_getElem?, List.getElem?_eq_getElem l2] at e2
      simp only [Option.map_some] at e0 e1 e2
      have hx : xs[k] < 256 := HXB.out _ (List.getElem_mem l0)
      have hy : ys[k] < 256 := HYB.out _ (List.getElem_mem l1)
      have hz : zs[k] < 256 := HZB.out _ (List.getElem_mem l2)
      have HSN := Lib.hid (xor3_snoc xs ys zs k l0 l1 l2)
      generalize xs[k] = x at *
      generalize ys[k] = y at *
      generalize zs[k] = z at *
      have q1 : bits .xor .u8 (x : Int) (y : Int) = ((x ^^^ y : Nat) : Int) := u8_xor_nat _ _ hx hy
      have q2 : bits .xor .u8 ((x ^^^ y : Nat) : Int) (z : Int) = ((x ^^^ y ^^^ z : Nat) : Int) := u8_xor_nat _ _ (Nat.xor_lt_two_pow (n := 8) hx hy) hz
      generalize x ^^^ y ^^^ z = v at *
      generalize x ^^^ y = u at *
      have i0 : (0 : Int) ≤ (k : Int) := by omega
      have j0 : (k : Int) < (xs.length : Int) := by omega
      have j1 : (k : Int) < (ys.length : Int) := by omega
      have j2 : (k : Int) < (zs.length : Int) := by omega
      have HO := Lib.hid hown
      have HU := Lib.hid hup
      have HC : Hid (∀ w', Upd [] w w' → w'.cell? ⟨b0, o0 + k, none⟩ = some (.int .u8 (x : Int)) ∧ w'.cell? ⟨b1, o1 + k, none⟩ = some (.int .u8 (y : Int)) ∧ w'.cell? ⟨b2, o2 + k, none⟩ = some (.int .u8 (z : Int)) ∧ Upd [] w w') := fun w' h => by
        have f : ∀ p : Addr, p.block < w.heap.size → w'.cell? p = wo.cell? p := fun p hp => (h.cell hp (by simp)).trans (hu0.cell hp (by simp)).symm
        rw [f ⟨b0, o0 + k, none⟩ (HX.out.block_lt (by intro h; have := congrArg List.length h; simp at this; simp_all) b0 rfl), f ⟨b1, o1 + k, none⟩ (HY.out.block_lt (by intro h; have := congrArg List.length h; simp at this; simp_all) b1 rfl), f ⟨b2, o2 + k, none⟩ (HZ.out.block_lt (by intro h; have := congrArg List.length h; simp at this; simp_all) b2 rfl)]
        exact ⟨e0, e1, e2, h⟩
      have HG : Hid (∀ w4, ((wo.alloc (.cells #[.int .u8 (v : Int)] 5)).drew).grownBy w4 u8.ownBlock → Upd [] w w4 ∧ Upd [] w1 w4) := fun w4 hg =>
        ⟨(hu0.alloc _).drew.grown hg (fun k hk => .inr (Nat.le_trans HU1.out.size (hown.lt k hk).1)), (hup.alloc _).drew.grown hg (fun k hk => .inr (hown.lt k hk).1)⟩
      clear hown hup hc0 hc1 hc2 hv0 hv1 hv2
      go_wp2_with fail
      go_region_held3 (fun w' => w'.cell? ⟨b0, o0 + k, none⟩ = some (.int .u8 (x : Int)) ∧ w'.cell? ⟨b1, o1 + k, none⟩ = some (.int .u8 (y : Int)) ∧ w'.cell? ⟨b2, o2 + k, none⟩ = some (.int .u8 (z : Int)) ∧ Upd [] w w')
        (first
          | exact HC.out _ hu0.drew
          | exact HC.out _ (hu0.alloc _).drew
          | exact HC.out _ (HG.out _ hg4).1)
        (first
          | (refine step_append_sl _ (by rfl) _ _ _ (by rfl) w1.heap.size 5 (.int .u8 0) 1 Try.underlying24 infoU8 rfl u8 k _ (by rfl) (ownsRow_upd HO.out ((Upd.refl [] _).alloc _).drew (by simp)) _ [.int .u8 (v : Int)] (by rfl) ((Sl.lit1 _ _ _).upd0 (Upd.refl _ _).drew) (by simp [Value.oneCell']) (by unfold maxLen; simp; omega) (by simp; omega) (by have := HU.out.size; simp; omega) ?_; intro v4 w4 ho4 hg4 _))
      have HO4 : Hid (w4.ownsRow w1.heap.size 5 1 v4 (k + 1) (cu8 (xor3 (xs.take (k + 1)) (ys.take (k + 1)) (zs.take (k + 1))))) := by
        show World.ownsRow _ _ _ _ _ _ _
        rw [HSN.out, cu8_append]
        exact ho4
      have HU4 := Lib.hid (HG.out _ hg4).2
      clear ho4 hg4
      go_wp2
      go_roundw
      case rel => exact ⟨k + 1, by omega, by go_num, HO4.out, HU4.out⟩
      case measure => simp [intOf]; omega
    · obtain rfl : k = n := by omega
      have HW : Hid (Upd [] w wo) := hu0
      have HSD : Hid (∀ w', Upd [] wo w' → Calls Try.prog 65 #[u8] w' fun e w'' => e = .returned (.int .u32 ((sumL (xor3 (xs.take k) (ys.take k) (zs.take k)) : Nat) : Int)) ∧ Upd [] w' w'') := fun w' h =>
        sum_any _ _ w' ((Sl.own hown).upd0 h) (xor3_lt _ _ _ (fun b hb => HXB.out b (List.mem_of_mem_take hb)) (fun b hb => HYB.out b (List.mem_of_mem_take hb)) (fun b hb => HZB.out b (List.mem_of_mem_take hb)))
      have HSX : Hid (∀ w', Upd [] wo w' → Calls Try.prog 65 #[.slice a0 k cap0] w' fun e w'' => e = .returned (.int .u32 ((sumL (xs.take k) : Nat) : Int)) ∧ Upd [] w' w'') := fun w' h =>
        sum_any _ _ w' (by rw [cu8_take]; exact (sl_take (HX.out.upd0 hu0) k n1).upd0 h) (fun b hb => HXB.out b (List.mem_of_mem_take hb))
      have HSY : Hid (∀ w', Upd [] wo w' → Calls Try.prog 65 #[.slice a1 k cap1] w' fun e w'' => e = .returned (.int .u32 ((sumL (ys.take k) : Nat) : Int)) ∧ Upd [] w' w'') := fun w' h =>
        sum_any _ _ w' (by rw [cu8_take]; exact (sl_take (HY.out.upd0 hu0) k n2).upd0 h) (fun b hb => HYB.out b (List.mem_of_mem_take hb))
      have HSZ : Hid (∀ w', Upd [] wo w' → Calls Try.prog 65 #[.slice a2 k cap2] w' fun e w'' => e = .returned (.int .u32 ((sumL (zs.take k) : Nat) : Int)) ∧ Upd [] w' w'') := fun w' h =>
        sum_any _ _ w' (by rw [cu8_take]; exact (sl_take (HZ.out.upd0 hu0) k n3).upd0 h) (fun b hb => HZB.out b (List.mem_of_mem_take hb))
      have hE := sum_xor3 (xs.take k) (ys.take k) (zs.take k) (by simp; omega) (by simp; omega) (fun b hb => HXB.out b (List.mem_of_mem_take hb)) (fun b hb => HYB.out b (List.mem_of_mem_take hb)) (fun b hb => HZB.out b (List.mem_of_mem_take hb))
      have lx := sumL_lt (xs.take k)
      have ly := sumL_lt (ys.take k)
      have lz := sumL_lt (zs.take k)
      have q1 : bits .xor .u32 ((sumL (xs.take k) : Nat) : Int) ((sumL (ys.take k) : Nat) : Int) = ((sumL (xs.take k) ^^^ sumL (ys.take k) : Nat) : Int) := u32_xor_nat _ _ lx ly
      have q2 : bits .xor .u32 ((sumL (xs.take k) ^^^ sumL (ys.take k) : Nat) : Int) ((sumL (zs.take k) : Nat) : Int) = ((sumL (xor3 (xs.take k) (ys.take k) (zs.take k)) : Nat) : Int) := by
        rw [hE]; exact u32_xor_nat _ _ (Nat.xor_lt_two_pow (n := 32) lx ly) lz
      clear hE hown hup hu0
      have d0 : (k : Int) ≤ (cap0 : Int) := by omega
      have d1 : (k : Int) ≤ (cap1 : Int) := by omega
      have d2 : (k : Int) ≤ (cap2 : Int) := by omega
      generalize sumL (xor3 (xs.take k) (ys.take k) (zs.take k)) = sd at *
      generalize sumL (xs.take k) ^^^ sumL (ys.take k) = sxy at *
      generalize sumL (xs.take k) = sx at *
      generalize sumL (ys.take k) = sy at *
      generalize sumL (zs.take k) = sz at *
      go_wp2_with fail
      go_region_held3 (fun w' => Upd [] wo w')
        (first
          | exact huy
          | exact (Upd.refl _ _).drew)
        (first
          | (go_at_call 65; refine (HSD.out _ (by first | exact huy | exact (Upd.refl _ _).drew)).mono ?_; rintro e wy ⟨rfl, hz⟩; have huy : Upd [] wo wy := Upd.trans0 (by first | exact huy | exact (Upd.refl _ _).drew) hz)
          | (go_at_call 65; refine (HSX.out _ (by first | exact huy | exact (Upd.refl _ _).drew)).mono ?_; rintro e wy ⟨rfl, hz⟩; have huy : Upd [] wo wy := Upd.trans0 (by first | exact huy | exact (Upd.refl _ _).drew) hz)
          | (go_at_call 65; refine (HSY.out _ (by first | exact huy | exact (Upd.refl _ _).drew)).mono ?_; rintro e wy ⟨rfl, hz⟩; have huy : Upd [] wo wy := Upd.trans0 (by first | exact huy | exact (Upd.refl _ _).drew) hz)
          | (go_at_call 65; refine (HSZ.out _ (by first | exact huy | exact (Upd.refl _ _).drew)).mono ?_; rintro e wy ⟨rfl, hz⟩; have huy : Upd [] wo wy := Upd.trans0 (by first | exact huy | exact (Upd.refl _ _).drew) hz))
      go_wp2
      go_ret
      exact ⟨rfl, HW.out.trans0 huy⟩
end Go.Proofs.Ytbbbfkcpkcfndaa
