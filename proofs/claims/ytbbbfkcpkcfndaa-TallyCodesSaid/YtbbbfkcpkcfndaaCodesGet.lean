/- The contracts of the readers of layer 2 (below, gamma, delta, groupwise, ended, whole, Gamma, Delta, Var): what any bits are. -/
import Derived.Test.YtbbbfkcpkcfndaaLawReads
import Derived.Test.YtbbbfkcpkcfndaaCodesMath
namespace Go.Proofs.Ytbbbfkcpkcfndaa
open Go.RowKit Go.Proofs.Tm
set_option linter.unusedVariables false
set_option maxRecDepth 20000

/-- How many noughts stand from i on. -/
def zrun (L : List Bool) (i : Nat) : Nat := ((L.drop i).takeWhile fun b => !b).length

theorem takeWhile_facts (D : List Bool) : (∀ j, j < (D.takeWhile fun b => !b).length → D.getD j false = false) ∧ (D.takeWhile fun b => !b).length ≤ D.length ∧
    ((D.takeWhile fun b => !b).length < D.length → D.getD (D.takeWhile fun b => !b).length false = true) := by
  induction D with
  | nil => simp
  | cons a D ih =>
    cases a
    · simp only [List.takeWhile_cons, Bool.not_false, if_true, List.length_cons]
      refine ⟨fun j hj => ?_, by omega, fun h => ?_⟩
      · cases j with
        | zero => rfl
        | succ j => simpa using ih.1 j (by omega)
      · simpa using ih.2.2 (by omega)
    · simp

theorem getD_drop (L : List Bool) (i j : Nat) : (L.drop i).getD j false = L.getD (i + j) false := by simp [List.getD_eq_getElem?_getD]

theorem zrun_facts (L : List Bool) (i : Nat) (hi : i ≤ L.length) : (∀ j, j < zrun L i → L.getD (i + j) false = false) ∧ i + zrun L i ≤ L.length ∧ (i + zrun L i < L.length → L.getD (i + zrun L i) false = true) := by
  have h := takeWhile_facts (L.drop i)
  unfold zrun
  refine ⟨fun j hj => by rw [← getD_drop]; exact h.1 j hj, ?_, fun hl => ?_⟩
  · have := h.2.1; rw [List.length_drop] at this; omega
  · rw [← getD_drop]; exact h.2.2 (by rw [List.length_drop]; omega)

/-- Where a run of noughts ends by a set bit, or at the end, it is that long. -/
theorem zrun_eq (L : List Bool) (i k : Nat) (hi : i ≤ L.length) (hk : i + k ≤ L.length) (h0 : ∀ j, j < k → L.getD (i + j) false = false) (h1 : i + k < L.length → L.getD (i + k) false = true) : zrun L i = k := by
  obtain ⟨z1, z2, z3⟩ := zrun_facts L i hi
  rcases Nat.lt_trichotomy (zrun L i) k with h | h | h
  · have := z3 (by omega); rw [h0 _ h] at this; cases this
  · exact h
  · have := z1 k h; rw [h1 (by omega)] at this; cases this
theorem zrun_ge (L : List Bool) (i k : Nat) (hi : i ≤ L.length) (hk : i + k ≤ L.length) (h0 : ∀ j, j < k → L.getD (i + j) false = false) : k ≤ zrun L i := by
  obtain ⟨z1, z2, z3⟩ := zrun_facts L i hi
  rcases Nat.lt_or_ge (zrun L i) k with h | h
  · have := z3 (by omega); rw [h0 _ h] at this; cases this
  · exact h

theorem numL_head (L : List Bool) (m k : Nat) (hm : m < L.length) (h1 : L.getD m false = true) (hk : m + 1 + k ≤ L.length) : numL L m (k + 1) = 2 ^ k + numL L (m + 1) k := by
  unfold numL
  have e : (L.drop m).take (k + 1) = true :: (L.drop (m + 1)).take k := by
    rw [List.drop_eq_getElem_cons hm, List.take_succ_cons]
    congr 1
    simpa [hm] using h1
  rw [e, val_cons, show ((L.drop (m + 1)).take k).length = k by simp; omega]
  simp

/-- What Gamma is from i on: the number, the place behind it, the error. -/
def gammaS (L : List Bool) (i : Nat) : Nat × Nat × Int :=
  if 64 ≤ zrun L i then (0, i, 4) else if L.length < i + 2 * zrun L i + 1 then (0, i, 5) else (numL L (i + zrun L i) (zrun L i + 1), i + 2 * zrun L i + 1, 0)
/-- Delta. -/
def deltaS (L : List Bool) (i : Nat) : Nat × Nat × Int :=
  if (gammaS L i).2.2 ≠ 0 then (0, i, (gammaS L i).2.2) else if 64 < (gammaS L i).1 then (0, i, 4) else
  if L.length < (gammaS L i).2.1 + ((gammaS L i).1 - 1) then (0, i, 5) else
  (2 ^ ((gammaS L i).1 - 1) + numL L (gammaS L i).2.1 ((gammaS L i).1 - 1), (gammaS L i).2.1 + ((gammaS L i).1 - 1), 0)
/-- Var, from its k-th group on, f groups at most. -/
def varS (L : List Bool) : Nat → Nat → Nat → Nat → Nat × Nat × Int
  | 0, _, _, i => (0, i, 4)
  | f + 1, k, n, i =>
    if L.length < i + 8 then (0, i, 5) else
    let g := numL L i 8
    if (0 < k ∧ g = 0) ∨ (k = 9 ∧ 1 < g % 128) then (0, i, 4) else
    if g < 128 then (n + g % 128 * 2 ^ (7 * k), i + 8, 0) else varS L f (k + 1) (n + g % 128 * 2 ^ (7 * k)) (i + 8)

theorem gammaS_pos (L : List Bool) (i : Nat) (hi : i ≤ L.length) (h : (gammaS L i).2.2 = 0) : 0 < (gammaS L i).1 ∧ (gammaS L i).2.1 ≤ L.length ∧ (gammaS L i).1 < 18446744073709551616 := by
  unfold gammaS at *
  split at h
  · cases h
  · split at h
    · cases h
    · rename_i h1 h2
      rw [if_neg h1, if_neg h2]
      obtain ⟨z1, z2, z3⟩ := zrun_facts L i hi
      have ht := z3 (by omega)
      refine ⟨?_, by simp only; omega, ?_⟩
      · simp only
        rw [numL_head L _ _ (by omega) ht (by omega)]
        have := Nat.two_pow_pos (zrun L i); omega
      · simp only
        exact Nat.lt_of_lt_of_le (numL_lt _ _ _) (Nat.le_trans (Nat.pow_le_pow_right (by decide) (show zrun L i + 1 ≤ 64 by omega)) (by decide))

/-- What a reader leaves that reads from a place on. -/
def ReadTo (p : Nat) (g : Option Nat) (bs : List Nat) (w : World) (r : Nat × Nat × Int) (e : Ending) (w' : World) : Prop :=
  e = .returned (.tuple #[.int .u64 ((r.1 : Nat) : Int), .int .i64 r.2.2]) ∧ (∃ j, Rd w' p g bs j ∧ (r.2.2 = 0 → j = r.2.1)) ∧ Upd [p] w w'

theorem or_top (x k : Nat) (hx : x < 2 ^ k) (hk : k < 64) : bits .or .u64 (IntKind.u64.wrap (2 ^ k)) (x : Int) = ((2 ^ k + x : Nat) : Int) := by
  have hp : 2 ^ k < 18446744073709551616 := Nat.lt_of_le_of_lt (Nat.pow_le_pow_right (by decide) (show k ≤ 63 by omega)) (by decide)
  rw [show ((2 : Int) ^ k) = ((2 ^ k : Nat) : Int) by simp, show IntKind.u64.wrap ((2 ^ k : Nat) : Int) = ((2 ^ k : Nat) : Int) by rw [IntKind.wrap_u64]; omega, u64_or_nat _ _ hp (by omega), nat_join k (2 ^ k) x (Nat.mod_self _) hx]

set_option maxHeartbeats 400000 in
theorem below_ok (p : Nat) (g : Option Nat) (bs : List Nat) (m k : Nat) (w : World) (h : Rd w p g bs m) (hk : k < 64) (hm : m + k ≤ 8 * bs.length) :
    Calls Try.prog 93 #[.pointer (some ⟨p, 0, none⟩), .int .i64 (k : Int)] w fun e w' => e = .returned (.tuple #[.int .u64 ((2 ^ k + numL (bitsOf bs) m k : Nat) : Int), .int .i64 0]) ∧ RdGone p g bs w (m + k) w' := by
  have H := Lib.hid (rnum_ok p g bs m k w h (by omega) hm)
  have hor := or_top _ k (numL_lt (bitsOf bs) m k) hk
  have hna : numAt bs m k = numL (bitsOf bs) m k := rfl
  rw [hna] at H
  generalize numL (bitsOf bs) m k = x at *
  obtain ⟨y, hy⟩ : ∃ y, y = 2 ^ k + x := ⟨_, rfl⟩
  rw [← hy] at hor ⊢
  have hk2 : (k : Int) ≤ 64 := by omega
  clear h hna hy
  go_enter Try.func93, Try.ntmps93
  go_wp2_with fail
  refine H.out.mono ?_
  rintro e w1 ⟨rfl, hr⟩
  have HR := Lib.hid hr
  clear hr
  go_wp2
  go_ret2
  exact ⟨rfl, HR.out⟩

set_option maxHeartbeats 400000 in
theorem below_no (p : Nat) (g : Option Nat) (bs : List Nat) (m k : Nat) (w : World) (h : Rd w p g bs m) (hk : k ≤ 64) (hm : 8 * bs.length < m + k) :
    Calls Try.prog 93 #[.pointer (some ⟨p, 0, none⟩), .int .i64 (k : Int)] w fun e w' => e = .returned (.tuple #[.int .u64 0, .int .i64 5]) ∧ RdGone p g bs w m w' := by
  have H := Lib.hid (rnum_end p g bs m k w h (by omega) hm)
  have HH := Lib.hid h
  clear h
  go_enter Try.func93, Try.ntmps93
  go_wp2_with fail
  refine H.out.mono ?_
  rintro e w1 ⟨rfl, n, rfl⟩
  go_wp2
  go_ret2
  exact ⟨rfl, HH.out.drewN n, (Upd.refl _ _).drewN n⟩

set_option maxHeartbeats 1600000 in
theorem gamma_any (p : Nat) (g : Option Nat) (bs : List Nat) (i : Nat) (w : World) (h : Rd w p g bs i) :
    Calls Try.prog 79 #[.pointer (some ⟨p, 0, none⟩)] w (ReadTo p g bs w (gammaS (bitsOf bs) i)) := by
  have hle := h.le
  have HI := Lib.hid h
  obtain ⟨n, hn⟩ : ∃ n, n = 8 * bs.length := ⟨_, rfl⟩
  have hLn : (bitsOf bs).length = n := by rw [bitsOf_length, hn]
  have HLN := Lib.hid hLn
  have HN := Lib.hid hn
  rw [← hn] at hle
  have HBA : Hid (∀ j, j < n → bitAt bs j = (bitsOf bs).getD j false) := fun j hj => by
    have := bitsOf_getElem? bs j (by rw [← hn]; exact hj)
    simp [List.getD_eq_getElem?_getD, this]
  clear h hLn hn
  go_enter Try.func79, Try.ntmps79
  go_wp2
  go_loopw [7] (fun v7 wr => ∃ k : Nat, k ≤ 64 ∧ i + k ≤ n ∧ v7 = .int .i64 k ∧ Hid (∀ j, j < k → (bitsOf bs).getD (i + j) false = false) ∧ RdGone p g bs w (i + k) wr) (fun v7 _ => 64 - (intOf v7).toNat)
  case atStart => exact ⟨0, by omega, by omega, rfl, fun j hj => by omega, HI.out, Upd.refl _ _⟩
  case round =>
    obtain ⟨k, hk, hkn, rfl, HZ, hrd, hup⟩ := hrel
    obtain ⟨wo, rfl⟩ : ∃ wo : World, wo = wr := ⟨_, rfl⟩
    have RD := Lib.hid hrd
    have RU := Lib.hid hup
    clear hrd hup
    by_cases hk64 : k < 64
    · by_cases hend : i + k = n
      · have H := Lib.hid (rbit_no p g bs wo (by rw [← HN.out, ← hend]; exact RD.out))
        have HG : Hid (gammaS (bitsOf bs) i = (0, i, 5)) := by
          show _ = _
          have hz := zrun_eq (bitsOf bs) i k (by rw [HLN.out]; omega) (by rw [HLN.out]; omega) HZ.out (by rw [HLN.out]; omega)
          unfold gammaS
          rw [hz, HLN.out, if_neg (by omega), if_pos (by omega)]
        clear hend
        go_wp2_with fail
        refine H.out.mono ?_
        rintro e w1 ⟨rfl, m, rfl⟩
        go_wp2
        go_ret2
        rw [HG.out]
        exact ⟨rfl, ⟨i + k, RD.out.drewN m, fun h => by cases h⟩, RU.out.drewN m⟩
      · have H := Lib.hid (rbit_any p g bs (i + k) wo RD.out (by rw [← HN.out]; omega))
        have HB := Lib.hid (HBA.out (i + k) (by omega))
        by_cases hb : bitAt bs (i + k) = true
        · have HZR : Hid (zrun (bitsOf bs) i = k) := zrun_eq (bitsOf bs) i k (by rw [HLN.out]; omega) (by rw [HLN.out]; omega) HZ.out (fun _ => by rw [← HB.out]; exact hb)
          by_cases hfit : i + k + 1 + k ≤ n
          · have HG : Hid (gammaS (bitsOf bs) i = (2 ^ k + numL (bitsOf bs) (i + k + 1) k, i + k + 1 + k, 0)) := by
              show _ = _
              unfold gammaS
              rw [HZR.out, HLN.out, if_neg (by omega), if_neg (by omega), numL_head _ _ _ (by rw [HLN.out]; omega) (by rw [← HB.out]; exact hb) (by rw [HLN.out]; omega)]
              congr 2
              omega
            go_wp2_with fail
            refine H.out.mono ?_
            rintro e w1 ⟨rfl, hr1, hu1⟩
            rw [hb]
            have H2 := Lib.hid (below_ok p g bs (i + k + 1) k w1 hr1 hk64 (by rw [← HN.out]; exact hfit))
            have HU1 := Lib.hid hu1
            clear hr1 hu1
            go_wp2_with fail
            refine H2.out.mono ?_
            rintro e w2 ⟨rfl, hr2, hu2⟩
            have HR2 := Lib.hid hr2
            have HU2 := Lib.hid ((RU.out.trans HU1.out (by simp)).trans hu2 (by simp))
            clear hr2 hu2
            go_wp2
            go_ret2
            rw [HG.out]
            exact ⟨rfl, ⟨_, HR2.out, fun _ => rfl⟩, HU2.out⟩
          · have HG : Hid (gammaS (bitsOf bs) i = (0, i, 5)) := by
              show _ = _
              unfold gammaS
              rw [HZR.out, HLN.out, if_neg (by omega), if_pos (by omega)]
            go_wp2_with fail
            refine H.out.mono ?_
            rintro e w1 ⟨rfl, hr1, hu1⟩
            rw [hb]
            have H2 := Lib.hid (below_no p g bs (i + k + 1) k w1 hr1 (by omega) (by rw [← HN.out]; omega))
            have HU1 := Lib.hid hu1
            clear hr1 hu1
            go_wp2_with fail
            refine H2.out.mono ?_
            rintro e w2 ⟨rfl, hr2, hu2⟩
            have HR2 := Lib.hid hr2
            have HU2 := Lib.hid ((RU.out.trans HU1.out (by simp)).trans hu2 (by simp))
            clear hr2 hu2
            go_wp2
            go_ret2
            rw [HG.out]
            exact ⟨rfl, ⟨_, HR2.out, fun h => by cases h⟩, HU2.out⟩
        · have hb : bitAt bs (i + k) = false := by simpa using hb
          go_wp2_with fail
          refine H.out.mono ?_
          rintro e w1 ⟨rfl, hr1, hu1⟩
          rw [hb]
          have HR1 := Lib.hid hr1
          have HU1 := Lib.hid (RU.out.trans hu1 (by simp))
          have HB2 := Lib.hid hb
          clear hr1 hu1 hb
          go_wp2
          go_roundw
          case rel =>
            refine ⟨k + 1, by omega, by omega, by go_num, fun j hj => ?_, HR1.out, HU1.out⟩
            rcases Nat.lt_or_ge j k with h | h
            · exact HZ.out j h
            · obtain rfl : j = k := by omega
              rw [← HB.out]; exact HB2.out
          case measure => simp [intOf]; omega
    · obtain rfl : k = 64 := by omega
      have HG : Hid (gammaS (bitsOf bs) i = (0, i, 4)) := by
        show _ = _
        unfold gammaS
        rw [if_pos (zrun_ge (bitsOf bs) i 64 (by rw [HLN.out]; omega) (by rw [HLN.out]; omega) HZ.out)]
      go_wp2
      go_ret2
      rw [HG.out]
      exact ⟨rfl, ⟨_, RD.out, fun h => by cases h⟩, RU.out⟩
end Go.Proofs.Ytbbbfkcpkcfndaa
