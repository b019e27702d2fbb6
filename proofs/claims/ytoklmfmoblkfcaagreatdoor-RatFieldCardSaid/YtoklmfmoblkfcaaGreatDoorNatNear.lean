/- The contract of nat.nearer (layer 5). -/
import Derived.Test.YtoklmfmoblkfcaaGreatDoorNatAhead
import Derived.Test.YtoklmfmoblkfcaaGreatDoorNatMixed
import Derived.Test.YtoklmfmoblkfcaaGreatDoorAc
namespace Go.Proofs.YtoklmfmoblkfcaaGreatDoor
open Go.RowKit Go.Proofs.Tm
set_option linter.unusedVariables false
set_option maxRecDepth 20000

/-- Two rests, further on the way. -/
def RNear (m n : Nat) (w : World) (e : Ending) (w' : World) : Prop :=
  ∃ x y, ∃ P Q : Nat, e = .returned (.tuple #[x, y]) ∧ NV w' x P ∧ NV w' y Q ∧ Upd [] w w' ∧ Q < P ∧ P ≤ n ∧ Nat.gcd P Q = Nat.gcd m n

theorem four_rows (w : World) (a b c d : Value) (t : TypeId) (w0 : World) (h : w0 = (((w.alloc (.cells #[a] t)).alloc (.cells #[b] t)).alloc (.cells #[c] t)).alloc (.cells #[d] t)) (S : Nat) (hS : S = w.heap.size) :
    Upd [] w w0 ∧ w0.heap.size = S + 1 + 1 + 1 + 1 ∧ w0.heap[S]? = some (.cells #[a] t (0, 0)) ∧ w0.heap[S + 1]? = some (.cells #[b] t (0, 0)) ∧ w0.heap[S + 1 + 1]? = some (.cells #[c] t (0, 0)) ∧ w0.heap[S + 1 + 1 + 1]? = some (.cells #[d] t (0, 0)) := by
  subst h hS
  refine ⟨alloc4 _ _ _ _ _, by simp, ?_, ?_, ?_, ?_⟩
  · rw [Below.heap_alloc _ _ _ (by simp <;> omega), Below.heap_alloc _ _ _ (by simp <;> omega), Below.heap_alloc _ _ _ (by simp <;> omega)]; exact heap_alloc_new w _
  · rw [Below.heap_alloc _ _ _ (by simp <;> omega), Below.heap_alloc _ _ _ (by simp <;> omega)]; have := heap_alloc_new (w.alloc (.cells #[a] t)) (.cells #[b] t); simpa using this
  · rw [Below.heap_alloc _ _ _ (by simp <;> omega)]; have := heap_alloc_new ((w.alloc (.cells #[a] t)).alloc (.cells #[b] t)) (.cells #[c] t); simpa using this
  · have := heap_alloc_new (((w.alloc (.cells #[a] t)).alloc (.cells #[b] t)).alloc (.cells #[c] t)) (.cells #[d] t); simpa using this

theorem wds_lt_bpow (n : Nat) : n < 18446744073709551616 ^ (wds n).length := (wds_length_le_iff n _).1 (Nat.le_refl _)

theorem two_mixes {w0 w1 : World} {pa pb qa qb : Nat} (W : World) (h : W = (w1.alloc (.cells #[.int .u64 (pa : Int), .int .u64 (pb : Int)] 152)).alloc (.cells #[.int .u64 (qa : Int), .int .u64 (qb : Int)] 152)) (i : Nat) (hi : i = w1.heap.size) (hu : Upd [] w0 w1) :
    MixAt w0 i (i + 1) pa pb qa qb W := by
  subst h hi
  refine ⟨?_, ?_, (hu.alloc _).alloc _⟩
  · rw [Below.heap_alloc _ _ _ (by simp <;> omega)]; exact heap_alloc_new w1 _
  · have := heap_alloc_new (w1.alloc (.cells #[.int .u64 (pa : Int), .int .u64 (pb : Int)] 152)) (.cells #[.int .u64 (qa : Int), .int .u64 (qb : Int)] 152); simpa using this

set_option maxHeartbeats 3200000 in
theorem nearer_any (u v : Value) (m n : Nat) (w : World) (hu : NV w u m) (hv : NV w v n) (hnm : n ≤ m) (h0 : 0 < n) (hlen : (wds m).length ≤ 1073741824) :
    Calls Tryz.prog 84 #[u, v] w (RNear m n w) := by
  obtain ⟨a, ca, rfl, hla, hca⟩ := hu.open
  obtain ⟨b, cb, rfl, hlb, hcb⟩ := hv.open
  have HA := Lib.hid hu
  have HB := Lib.hid hv
  have hmn2 := wds_length_le hnm
  have HP : Hid (0 < n ∧ n ≤ m ∧ m < 18446744073709551616 ^ (wds m).length ∧ n < 18446744073709551616 ^ (wds n).length ∧ (wds m).length ≤ 1073741824 ∧ (wds n).length ≤ 1073741824) := ⟨h0, hnm, wds_lt_bpow m, wds_lt_bpow n, hlen, by omega⟩
  have HAH : Hid (∀ W, Upd [] w W → Calls Tryz.prog 120 #[.agg #[.slice a (wds m).length ca], .agg #[.slice b (wds n).length cb]] W (AhPost m n W)) := fun W h => ahead_any _ _ m n W (HA.out.upd0 h) (HB.out.upd0 h) hnm hlen
  have HDM : Hid (∀ W, Upd [] w W → Calls Tryz.prog 85 #[.agg #[.slice a (wds m).length ca], .agg #[.slice b (wds n).length cb]] W (RNat2E (m / n) (m % n) 0 W)) := fun W h => divmod_any _ _ m n W (HA.out.upd0 h) (HB.out.upd0 h) h0 hlen
  have HMA : Hid (∀ W p q V, Upd [] w W → p < 18446744073709551616 → q < 18446744073709551616 → p * m = q * n + V → V ≤ n → Calls Tryz.prog 121 #[.int .u64 (p : Int), .agg #[.slice a (wds m).length ca], .int .u64 (q : Int), .agg #[.slice b (wds n).length cb]] W (RNat V W)) := fun W p q V h h1 h2 h3 h4 => mixed_any p q _ _ m n W (HA.out.upd0 h) (HB.out.upd0 h) h1 h2 (by omega) V h3 (by have := HP.out.2.2.1; omega)
  have HMB : Hid (∀ W p q V, Upd [] w W → p < 18446744073709551616 → q < 18446744073709551616 → p * n = q * m + V → V ≤ n → Calls Tryz.prog 121 #[.int .u64 (p : Int), .agg #[.slice b (wds n).length cb], .int .u64 (q : Int), .agg #[.slice a (wds m).length ca]] W (RNat V W)) := fun W p q V h h1 h2 h3 h4 => mixed_any p q _ _ n m W (HB.out.upd0 h) (HA.out.upd0 h) h1 h2 (by omega) V h3 (by have := HP.out.2.2.2.1; omega)
  generalize (wds m).length = lm at *
  generalize (wds n).length = ln at *
  obtain ⟨w0, hw0⟩ : ∃ W, W = (((w.alloc (.cells #[.slice a lm ca] 27)).alloc (.cells #[.slice b ln cb] 27)).alloc (.cells #[.slice none 0 0] 27)).alloc (.cells #[.slice none 0 0] 27) := ⟨_, rfl⟩
  obtain ⟨S, hS⟩ : ∃ s, s = w.heap.size := ⟨_, rfl⟩
  obtain ⟨hu0, hz0, hq0, hq1, hq2, hq3⟩ := four_rows w _ _ _ _ _ w0 hw0 S hS
  have HW0 := Lib.hid hw0
  have HS := Lib.hid hS
  have HU0 := Lib.hid hu0
  have HZ0 := Lib.hid hz0
  have HR : Hid (∀ W, Upd [] w0 W → W.cell? ⟨S, 0, none⟩ = some (.slice a lm ca) ∧ W.cell? ⟨S + 1, 0, none⟩ = some (.slice b ln cb) ∧ W.heap[S + 1 + 1]? = some (.cells #[.slice none 0 0] 27 (0, 0)) ∧ W.heap[S + 1 + 1 + 1]? = some (.cells #[.slice none 0 0] 27 (0, 0)) ∧ Upd [] w W) := fun W h =>
    ⟨by rw [cell_of_row W _ 0 _ _ _ ((h.block _ (lt_of_block hq0) (by simp)).trans hq0)]; rfl, by rw [cell_of_row W _ 0 _ _ _ ((h.block _ (lt_of_block hq1) (by simp)).trans hq1)]; rfl, (h.block _ (lt_of_block hq2) (by simp)).trans hq2, (h.block _ (lt_of_block hq3) (by simp)).trans hq3, hu0.trans0 h⟩
  clear hu hv hla hlb hca hcb hnm h0 hlen hmn2 hw0 hS hu0 hz0 hq0 hq1 hq2 hq3
  go_enter Tryz.func84, Tryz.ntmps84
  go_wp2_with fail
  rw [← HW0.out]
  rw [← HS.out]
  obtain ⟨cs0, cs1, _⟩ := HR.out _ (Upd.refl _ _)
  go_wp2_with fail
  refine (HAH.out _ HU0.out).mono ?_
  rintro e w1 ⟨pa, pb, qa, qb, k, rfl, hu1, hk, b1, b2, b3, b4, hpq⟩
  have HK : Hid (pa < 18446744073709551616 ∧ pb < 18446744073709551616 ∧ qa < 18446744073709551616 ∧ qb < 18446744073709551616) := ⟨b1, b2, b3, b4⟩
  have HPQ : Hid (1 ≤ k → ∃ P Q : Nat, Q < P ∧ P ≤ n ∧ Nat.gcd P Q = Nat.gcd m n ∧ (k % 2 = 0 → pa * m = pb * n + P ∧ qb * n = qa * m + Q) ∧ (k % 2 = 1 → pb * n = pa * m + P ∧ qa * m = qb * n + Q)) := hpq
  have HU1 := Lib.hid hu1
  clear b1 b2 b3 b4 hpq cs0 cs1
  obtain ⟨i, hi⟩ : ∃ i, i = w1.heap.size := ⟨_, rfl⟩
  obtain ⟨w3, hw3⟩ : ∃ W, W = (w1.alloc (.cells #[.int .u64 (pa : Int), .int .u64 (pb : Int)] 152)).alloc (.cells #[.int .u64 (qa : Int), .int .u64 (qb : Int)] 152) := ⟨_, rfl⟩
  have HI : Hid (w0.heap.size ≤ i) := by show _ ≤ _; have := HU1.out.size; omega
  have HM3 := Lib.hid (two_mixes w3 hw3 i hi hu1)
  have HW3 := Lib.hid hw3
  have HEI := Lib.hid hi
  have hcw := HR.out _ HM3.out.u
  rw [HW3.out] at hcw
  obtain ⟨cs0, cs1, _⟩ := hcw
  clear hi hw3 hu1
  by_cases hk0 : k = 0
  · have e1 : ((k : Int) == 0) = true := by rw [hk0]; rfl
    clear hk0 HPQ
    go_wp2_with fail
    rw [← HW3.out]
    refine (HDM.out _ (HR.out _ HM3.out.u).2.2.2.2).mono ?_
    rintro e w4 ⟨v4, v5, rfl, hn4, hn5, hu4⟩
    clear cs0 cs1
    obtain ⟨a4, c4, rfl, _, _⟩ := hn4.open
    obtain ⟨a5, c5, rfl, _, _⟩ := hn5.open
    generalize (wds (m / n)).length = l4 at *
    obtain ⟨l5, hl5⟩ : ∃ l, l = (wds (m % n)).length := ⟨_, rfl⟩
    rw [← hl5] at hn5 ⊢
    obtain ⟨w5, hw5⟩ : ∃ W, W = (w4.alloc (.cells #[.slice a4 l4 c4] 27)).alloc (.cells #[.slice a5 l5 c5] 27) := ⟨_, rfl⟩
    obtain ⟨k5, hk5⟩ : ∃ k, k = w4.heap.size := ⟨_, rfl⟩
    obtain ⟨hu5, hbx5⟩ := two_boxes w4 _ _ _ _ w5 hw5 k5 hk5
    have hu05 := (HM3.out.u.trans0 hu4).trans0 hu5
    obtain ⟨cs0, cs1, hr2, hr3, huw⟩ := HR.out _ hu05
    have hn5' := hn5.upd0 hu5
    have hb5' := HB.out.upd0 huw
    have HST := Lib.hid (store2 (w := w) (W := w5) (i := S + 1 + 1) (j := S + 1 + 1 + 1) (by omega) (by have := HS.out; omega) (by have := HS.out; omega) hr2 hr3 huw hb5' hn5')
    obtain ⟨cx4, cx5⟩ := hbx5 _ (Upd.refl _ _)
    have cr2 : w5.cell? ⟨S + 1 + 1, 0, none⟩ = some (.slice none 0 0) := by rw [cell_of_row w5 _ 0 _ _ _ hr2]; rfl
    have cr3 : w5.cell? ⟨S + 1 + 1 + 1, 0, none⟩ = some (.slice none 0 0) := by rw [cell_of_row w5 _ 0 _ _ _ hr3]; rfl
    have fr2 : w5.frozen? ⟨S + 1 + 1, 0, none⟩ = false := frozen_of_row w5 _ 0 _ _ hr2
    have fr3 : w5.frozen? ⟨S + 1 + 1 + 1, 0, none⟩ = false := frozen_of_row w5 _ 0 _ _ hr3
    have HL4 := Lib.hid (HM3.out.u.trans0 hu4).size
    have HW5 := Lib.hid hw5
    have HK5 := Lib.hid hk5
    clear hu4 hn4 hn5 hu5 hbx5 hu05 hr2 hr3 huw hn5' hb5' hw5 hk5 hl5
    go_wp2_with fail
    rw [← HW5.out, ← HK5.out]
    have hk54 : S + 1 + 1 + 1 + 1 ≤ k5 := by have := HZ0.out; have := HK5.out; have := HL4.out; omega
    obtain ⟨k6, hk6⟩ : ∃ x, x = k5 + 1 := ⟨_, rfl⟩
    have hn1 : ¬ k6 = S + 1 + 1 := by omega
    have hn2 : ¬ k6 = S + 1 + 1 + 1 := by omega
    rw [← hk6] at cx5 ⊢
    clear hk6 hk54
    have HRES : Hid (∀ W, NV W (.agg #[.slice b ln cb]) n → NV W (.agg #[.slice a5 l5 c5]) (m % n) → Upd [] w W → RNear m n w (.returned (.tuple #[.agg #[.slice b ln cb], .agg #[.slice a5 l5 c5]])) W) := fun W h1 h2 h3 =>
      ⟨_, _, n, m % n, rfl, h1, h2, h3, Nat.mod_lt _ HP.out.1, Nat.le_refl _, by rw [Nat.gcd_comm m n, Nat.gcd_rec n m, Nat.gcd_comm]⟩
    go_region
    all_goals
      go_wp2
      have z1 := HST.out.drew.c1
      have z2 := HST.out.drew.c2
      refine bodyPost_ret (v := .tuple #[.agg #[.slice b ln cb], .agg #[.slice a5 l5 c5]]) (by simp [results, Tryz.results84, go_sem, z1, z2]) rfl ?_
      exact HRES.out _ HST.out.drew.n1 HST.out.drew.n2 HST.out.drew.u
  · have e1 : ((k : Int) == 0) = false := by simp; omega
    have hk1 : 1 ≤ k := by omega
    obtain ⟨P, Q, q1, q2, q3, q4, q5⟩ := HPQ.out hk1
    clear HPQ HDM
    have HRES : Hid (∀ W x y, NV W x P → NV W y Q → Upd [] w W → RNear m n w (.returned (.tuple #[x, y])) W) := fun W x y h1 h2 h3 => ⟨_, _, P, Q, rfl, h1, h2, h3, q1, q2, q3⟩
    have HC0 := HR.out _ HM3.out.u
    have HD0 := HM3.out.cells
    have hp1 := lt_of_block HM3.out.p
    have hp2 := lt_of_block HM3.out.q
    have hi4 : S + 1 + 1 + 1 + 1 ≤ i := by have := HZ0.out; have := HI.out; omega
    have hsz3 : S + 1 + 1 + 1 + 1 < w3.heap.size := by omega
    obtain ⟨g0, g1, g2, g3, g4⟩ := HC0
    obtain ⟨d0, d1, d2, d3, _⟩ := HD0
    have HC : Hid (∀ W, Upd [S + 1 + 1, S + 1 + 1 + 1] w3 W → W.cell? ⟨S, 0, none⟩ = some (.slice a lm ca) ∧ W.cell? ⟨S + 1, 0, none⟩ = some (.slice b ln cb) ∧ W.cell? ⟨i, 0, none⟩ = some (.int .u64 (pa : Int)) ∧ W.cell? ⟨i, 1, none⟩ = some (.int .u64 (pb : Int)) ∧ W.cell? ⟨i + 1, 0, none⟩ = some (.int .u64 (qa : Int)) ∧ W.cell? ⟨i + 1, 1, none⟩ = some (.int .u64 (qb : Int)) ∧ Upd [S + 1 + 1, S + 1 + 1 + 1] w3 W) := fun W h =>
      ⟨(h.cell (p := ⟨S, 0, none⟩) (by show S < _; omega) (by simp; omega)).trans g0, (h.cell (p := ⟨S + 1, 0, none⟩) (by show S + 1 < _; omega) (by simp)).trans g1, (h.cell (p := ⟨i, 0, none⟩) hp1 (by simp; omega)).trans d0, (h.cell (p := ⟨i, 1, none⟩) hp1 (by simp; omega)).trans d1, (h.cell (p := ⟨i + 1, 0, none⟩) hp2 (by simp; omega)).trans d2, (h.cell (p := ⟨i + 1, 1, none⟩) hp2 (by simp; omega)).trans d3, h⟩
    have hcA : ∀ A, Upd [] w3 A → A.cell? ⟨S + 1 + 1, 0, none⟩ = some (.slice none 0 0) := fun A h => by rw [h.cell (p := ⟨S + 1 + 1, 0, none⟩) (by show S + 1 + 1 < _; omega) (by simp), cell_of_row w3 _ 0 _ _ _ g2]; rfl
    have hcB : ∀ A, Upd [] w3 A → A.cell? ⟨S + 1 + 1 + 1, 0, none⟩ = some (.slice none 0 0) := fun A h => by rw [h.cell (p := ⟨S + 1 + 1 + 1, 0, none⟩) (by show S + 1 + 1 + 1 < _; omega) (by simp), cell_of_row w3 _ 0 _ _ _ g3]; rfl
    have hfA : ∀ A, Upd [] w3 A → A.frozen? ⟨S + 1 + 1, 0, none⟩ = false := fun A h => by rw [h.frozen (p := ⟨S + 1 + 1, 0, none⟩) (by show S + 1 + 1 < _; omega) (by simp)]; exact frozen_of_row w3 _ 0 _ _ g2
    have hfB : ∀ A, Upd [] w3 A → A.frozen? ⟨S + 1 + 1 + 1, 0, none⟩ = false := fun A h => by rw [h.frozen (p := ⟨S + 1 + 1 + 1, 0, none⟩) (by show S + 1 + 1 + 1 < _; omega) (by simp)]; exact frozen_of_row w3 _ 0 _ _ g3
    have HST : Hid (∀ A, Upd [] w3 A → ∀ x y p q, NV A (.agg #[x]) p → NV A (.agg #[y]) q → Stored w (S + 1 + 1) (S + 1 + 1 + 1) 27 27 x y p q ((A.setCell ⟨S + 1 + 1, 0, none⟩ x).setCell ⟨S + 1 + 1 + 1, 0, none⟩ y)) := fun A h x y p q hx hy =>
      store2 (by omega) (by have := HS.out; omega) (by have := HS.out; omega) ((h.block _ (by omega) (by simp)).trans g2) ((h.block _ (by omega) (by simp)).trans g3) (g4.trans0 h) hx hy
    have HL3 := Lib.hid hsz3
    clear g0 g1 g2 g3 g4 d0 d1 d2 d3 hp1 hp2 hi4 hsz3 cs0 cs1
    have hrf : Upd [] w3 w3 := Upd.refl _ _
    by_cases hk2 : k % 2 = 0
    · obtain ⟨E1, E2⟩ := q4 hk2
      have ht : (k : Int).tmod 2 = 0 := by rw [Int.tmod_eq_emod_of_nonneg (by omega)]; omega
      have hm2 : (k : Int) % 2 = 0 := by omega
      have HM1 : Hid (∀ W, Upd [] w3 W → Calls Tryz.prog 121 #[.int .u64 (pa : Int), .agg #[.slice a lm ca], .int .u64 (pb : Int), .agg #[.slice b ln cb]] W (RNat P W)) := fun W h => HMA.out W pa pb P (HR.out _ (HM3.out.u.trans0 h)).2.2.2.2 HK.out.1 HK.out.2.1 E1 q2
      have HM2 : Hid (∀ W, Upd [] w3 W → Calls Tryz.prog 121 #[.int .u64 (qb : Int), .agg #[.slice b ln cb], .int .u64 (qa : Int), .agg #[.slice a lm ca]] W (RNat Q W)) := fun W h => HMB.out W qb qa Q (HR.out _ (HM3.out.u.trans0 h)).2.2.2.2 HK.out.2.2.2 HK.out.2.2.1 E2 (by omega)
      clear q1 q2 q3 q4 q5 E1 E2 hk2 hk1 hk0
      have hcw := HC.out w3 (Upd.refl _ _)
      rw [HW3.out] at hcw
      obtain ⟨cs0, cs1, _⟩ := hcw
      go_wp2_with fail
      rw [← HW3.out, ← HEI.out]
      clear cs0 cs1
      go_region_held3 (fun W => W.cell? ⟨S, 0, none⟩ = some (.slice a lm ca) ∧ W.cell? ⟨S + 1, 0, none⟩ = some (.slice b ln cb) ∧ W.cell? ⟨i, 0, none⟩ = some (.int .u64 (pa : Int)) ∧ W.cell? ⟨i, 1, none⟩ = some (.int .u64 (pb : Int)) ∧ W.cell? ⟨i + 1, 0, none⟩ = some (.int .u64 (qa : Int)) ∧ W.cell? ⟨i + 1, 1, none⟩ = some (.int .u64 (qb : Int)) ∧ Upd [S + 1 + 1, S + 1 + 1 + 1] w3 W)
        (first
          | exact HC.out _ (huy.mono (by simp))
          | exact HC.out _ (hrf.drew.mono (by simp))
          | exact HC.out _ (hrf.mono (by simp))
          | exact HC.out _ ((huy.mono (by simp)).setCell (.inl (by simp)) _)
          | exact HC.out _ (((huy.mono (by simp)).setCell (.inl (by simp)) _).setCell (.inl (by simp)) _))
        (first
          | (go_at_call 121; (with_reducible refine (HM1.out _ (by first | exact huy | exact hrf.drew | exact hrf)).mono ?_); rintro e wz ⟨vP, rfl, hnP, hu20⟩; have huz : Upd [] w3 wz := (by first | exact huy.trans0 hu20 | exact hrf.drew.trans0 hu20 | exact hrf.trans0 hu20); (try (have HNQ := Lib.hid (HNQ.out.upd0 hu20))); have HNP := Lib.hid hnP; obtain ⟨aP, cP, rfl, _, _⟩ := hnP.open; (try clear huy); clear hu20 hnP; have huy := huz; clear huz)
          | (go_at_call 121; (with_reducible refine (HM2.out _ (by first | exact huy | exact hrf.drew | exact hrf)).mono ?_); rintro e wz ⟨vQ, rfl, hnQ, hu20⟩; have huz : Upd [] w3 wz := (by first | exact huy.trans0 hu20 | exact hrf.drew.trans0 hu20 | exact hrf.trans0 hu20); (try (have HNP := Lib.hid (HNP.out.upd0 hu20))); have HNQ := Lib.hid hnQ; obtain ⟨aQ, cQ, rfl, _, _⟩ := hnQ.open; (try clear huy); clear hu20 hnQ; have huy := huz; clear huz))
      all_goals
        have HS1 := Lib.hid (HST.out _ huy _ _ _ _ HNP.out HNQ.out)
        go_wp2
        have z1 := HS1.out.c1
        have z2 := HS1.out.c2
        refine bodyPost_ret (v := .tuple #[.agg #[.slice aP (wds P).length cP], .agg #[.slice aQ (wds Q).length cQ]]) (by simp [results, Tryz.results84, go_sem, z1, z2]) rfl ?_
        exact HRES.out _ _ _ HS1.out.n1 HS1.out.n2 HS1.out.u
    · obtain ⟨E1, E2⟩ := q5 (by omega)
      have ht : (k : Int).tmod 2 = 1 := by rw [Int.tmod_eq_emod_of_nonneg (by omega)]; omega
      have hm2 : (k : Int) % 2 = 1 := by omega
      have HM1 : Hid (∀ W, Upd [] w3 W → Calls Tryz.prog 121 #[.int .u64 (pb : Int), .agg #[.slice b ln cb], .int .u64 (pa : Int), .agg #[.slice a lm ca]] W (RNat P W)) := fun W h => HMB.out W pb pa P (HR.out _ (HM3.out.u.trans0 h)).2.2.2.2 HK.out.2.1 HK.out.1 E1 q2
      have HM2 : Hid (∀ W, Upd [] w3 W → Calls Tryz.prog 121 #[.int .u64 (qa : Int), .agg #[.slice a lm ca], .int .u64 (qb : Int), .agg #[.slice b ln cb]] W (RNat Q W)) := fun W h => HMA.out W qa qb Q (HR.out _ (HM3.out.u.trans0 h)).2.2.2.2 HK.out.2.2.1 HK.out.2.2.2 E2 (by omega)
      clear q1 q2 q3 q4 q5 E1 E2 hk2 hk1 hk0
      have hcw := HC.out w3 (Upd.refl _ _)
      rw [HW3.out] at hcw
      obtain ⟨cs0, cs1, _⟩ := hcw
      go_wp2_with fail
      rw [← HW3.out, ← HEI.out]
      clear cs0 cs1
      go_region_held3 (fun W => W.cell? ⟨S, 0, none⟩ = some (.slice a lm ca) ∧ W.cell? ⟨S + 1, 0, none⟩ = some (.slice b ln cb) ∧ W.cell? ⟨i, 0, none⟩ = some (.int .u64 (pa : Int)) ∧ W.cell? ⟨i, 1, none⟩ = some (.int .u64 (pb : Int)) ∧ W.cell? ⟨i + 1, 0, none⟩ = some (.int .u64 (qa : Int)) ∧ W.cell? ⟨i + 1, 1, none⟩ = some (.int .u64 (qb : Int)) ∧ Upd [S + 1 + 1, S + 1 + 1 + 1] w3 W)
        (first
          | exact HC.out _ (huy.mono (by simp))
          | exact HC.out _ (hrf.drew.mono (by simp))
          | exact HC.out _ (hrf.mono (by simp))
          | exact HC.out _ ((huy.mono (by simp)).setCell (.inl (by simp)) _)
          | exact HC.out _ (((huy.mono (by simp)).setCell (.inl (by simp)) _).setCell (.inl (by simp)) _))
        (first
          | (go_at_call 121; (with_reducible refine (HM1.out _ (by first | exact huy | exact hrf.drew | exact hrf)).mono ?_); rintro e wz ⟨vP, rfl, hnP, hu20⟩; have huz : Upd [] w3 wz := (by first | exact huy.trans0 hu20 | exact hrf.drew.trans0 hu20 | exact hrf.trans0 hu20); (try (have HNQ := Lib.hid (HNQ.out.upd0 hu20))); have HNP := Lib.hid hnP; obtain ⟨aP, cP, rfl, _, _⟩ := hnP.open; (try clear huy); clear hu20 hnP; have huy := huz; clear huz)
          | (go_at_call 121; (with_reducible refine (HM2.out _ (by first | exact huy | exact hrf.drew | exact hrf)).mono ?_); rintro e wz ⟨vQ, rfl, hnQ, hu20⟩; have huz : Upd [] w3 wz := (by first | exact huy.trans0 hu20 | exact hrf.drew.trans0 hu20 | exact hrf.trans0 hu20); (try (have HNP := Lib.hid (HNP.out.upd0 hu20))); have HNQ := Lib.hid hnQ; obtain ⟨aQ, cQ, rfl, _, _⟩ := hnQ.open; (try clear huy); clear hu20 hnQ; have huy := huz; clear huz))
      all_goals
        have HS1 := Lib.hid (HST.out _ huy _ _ _ _ HNP.out HNQ.out)
        go_wp2
        have z1 := HS1.out.c1
        have z2 := HS1.out.c2
        refine bodyPost_ret (v := .tuple #[.agg #[.slice aP (wds P).length cP], .agg #[.slice aQ (wds Q).length cQ]]) (by simp [results, Tryz.results84, go_sem, z1, z2]) rfl ?_
        exact HRES.out _ _ _ HS1.out.n1 HS1.out.n2 HS1.out.u
end Go.Proofs.YtoklmfmoblkfcaaGreatDoor
