/- The contracts of the document's own answers High, Gamma, Delta, Var (layer 2). -/
import Derived.Test.YtbbbfkcpkcfndaaLawWrites
import Derived.Test.YtbbbfkcpkcfndaaCodesPut
namespace Go.Proofs.Ytbbbfkcpkcfndaa
open Go.RowKit Go.Proofs.Tm
set_option linter.unusedVariables false
set_option maxRecDepth 20000

/-- From w to w' a list of bits has become another one, which is the old slice or a new one. -/
def RefTo (lv : Value) (w : World) (v : Value) (l' : List Bool) (w' : World) : Prop :=
  Sl w' v (cb l') ∧ Upd [] w w' ∧ (∀ q, v.ownBlock = some q → lv.ownBlock = some q ∨ (w.heap.size ≤ q ∧ q < w'.heap.size))

theorem RefTo.trans {lv v1 v2 : Value} {l1 l2 : List Bool} {w w1 w2 : World} (h1 : RefTo lv w v1 l1 w1) (h2 : RefTo v1 w1 v2 l2 w2) : RefTo lv w v2 l2 w2 := by
  obtain ⟨_, b1, c1⟩ := h1
  obtain ⟨a2, b2, c2⟩ := h2
  refine ⟨a2, b1.trans0 b2, fun q hq => ?_⟩
  have s1 := b1.size
  have s2 := b2.size
  rcases c2 q hq with h | h
  · rcases c1 q h with h' | h'
    · exact .inl h'
    · exact .inr ⟨h'.1, by omega⟩
  · exact .inr ⟨by omega, h.2⟩

theorem put_fit (lv : Value) (l : List Bool) (n k : Nat) (w : World) (h : Sl w lv (cb l)) (hl : l.length ≤ 70368744177664) (hk : k ≤ 64) (hn : n < 2 ^ k) :
    Calls Try.prog 21 #[lv, .int .u64 (n : Int), .int .i64 (k : Int)] w fun e w' => ∃ v, e = .returned (.tuple #[v, .int .i64 0]) ∧ RefTo lv w v (l ++ numBits n k) w' := by
  have hp := put_any lv l n (k : Int) w h hl (Nat.lt_of_lt_of_le hn (Nat.le_trans (Nat.pow_le_pow_right (by decide) hk) (by decide)))
  have hs : stepW l n (k : Int) = (l ++ numBits n k, 0) := by
    unfold stepW fits
    rw [Int.toNat_natCast, if_pos]
    rw [Bool.and_eq_true, decide_eq_true_eq, decide_eq_true_eq]
    exact ⟨by omega, Nat.div_eq_of_lt hn⟩
  rw [hs] at hp
  exact hp

set_option maxHeartbeats 400000 in
theorem high_any (n : Nat) (w : World) (h0 : n ≠ 0) (hn : n < 18446744073709551616) :
    Calls Try.prog 77 #[.int .u64 (n : Int)] w fun e w' => e = .returned (.int .i64 ((Nat.log2 n : Nat) : Int)) ∧ w = w' := by
  have hl := log2_lt64 n hn
  have HLG : Hid (∀ k, k ≤ Nat.log2 n → n / 2 ^ k ≠ 0 ∧ (1 < n / 2 ^ k ↔ k < Nat.log2 n)) := by
    intro k hk
    have hb := log2_bounds n h0
    have hp := Nat.two_pow_pos k
    have h1 : 2 ^ k ≤ n := Nat.le_trans (Nat.pow_le_pow_right (by decide) hk) hb.1
    have h2 : 1 ≤ n / 2 ^ k := (Nat.le_div_iff_mul_le hp).2 (by omega)
    refine ⟨by omega, ?_, ?_⟩
    · intro h
      rcases Nat.lt_or_ge k (Nat.log2 n) with h3 | h3
      · exact h3
      · exfalso
        obtain rfl : k = Nat.log2 n := by omega
        have : n / 2 ^ Nat.log2 n < 2 := (Nat.div_lt_iff_lt_mul hp).2 (by rw [Nat.pow_succ] at hb; omega)
        omega
    · intro h
      have : 2 * 2 ^ k ≤ n := Nat.le_trans (by rw [← Nat.pow_succ']; exact Nat.pow_le_pow_right (by decide) h) hb.1
      exact (Nat.le_div_iff_mul_le hp).2 this
  have HW : Hid (∀ i, IntKind.u64.wrap (((n / 2 ^ i : Nat) : Int) / 2) = ((n / 2 ^ i : Nat) : Int) / 2) := fun i => wrap_half _ (Nat.lt_of_le_of_lt (Nat.div_le_self _ _) hn)
  generalize Nat.log2 n = L at *
  clear hn h0
  go_enter Try.func77, Try.ntmps77
  go_wp2
  go_loop [0, 3] (fun v0 v3 => ∃ k : Nat, k ≤ L ∧ v3 = .int .i64 k ∧ v0 = .int .u64 ((n / 2 ^ k : Nat) : Int)) (fun _ v3 => L - (intOf v3).toNat)
  case atStart => exact ⟨0, by omega, rfl, by simp⟩
  case round =>
    obtain ⟨k, hk, rfl, rfl⟩ := hrel
    have hd : n / 2 ^ k / 2 = n / 2 ^ (k + 1) := by rw [Nat.div_div_eq_div_mul, Nat.pow_succ]
    have HD := Lib.hid hd
    have hw := HW.out k
    have hi := HLG.out k hk
    clear hd
    by_cases hlt : k < L
    · have h1 : 1 < n / 2 ^ k := hi.2.2 hlt
      have HI := Lib.hid hi
      clear hi
      generalize n / 2 ^ k = m at *
      have hm : decide ((1 : Int) < (m : Int)) = true := by simp; omega
      go_wp2
      go_round
      case rel => exact ⟨k + 1, by omega, by go_num, by rw [← HD.out]; exact congrArg _ (by omega)⟩
      case measure => simp [intOf]; omega
    · have h1 : ¬ 1 < n / 2 ^ k := fun h => hlt (hi.2.1 h)
      have HI := Lib.hid hi
      clear hi
      obtain rfl : k = L := by omega
      generalize n / 2 ^ k = m at *
      have hm : decide ((1 : Int) < (m : Int)) = false := by simp; omega
      go_wp2
      go_ret
      exact ⟨rfl, rfl⟩

set_option maxHeartbeats 800000 in
theorem refGamma_any (lv : Value) (l : List Bool) (n : Nat) (w : World) (h : Sl w lv (cb l)) (hl : l.length ≤ 1099511627776) (h0 : n ≠ 0) (hn : n < 18446744073709551616) :
    Calls Try.prog 39 #[lv, .int .u64 (n : Int)] w fun e w' => ∃ v, e = .returned v ∧ RefTo lv w v (l ++ gammaBits n) w' := by
  unfold gammaBits
  have H := Lib.hid (fun w => high_any n w h0 hn)
  have hk := log2_lt64 n hn
  have hlt := (log2_bounds n h0).2
  generalize Nat.log2 n = k at *
  have H1 := Lib.hid (put_fit lv l 0 k w h (by omega) (by omega) (Nat.two_pow_pos _))
  have HLT := Lib.hid hlt
  clear hn h0 h hlt
  go_enter Try.func39, Try.ntmps39
  go_wp2_with fail
  refine (H.out w).mono ?_
  rintro e w' ⟨rfl, rfl⟩
  go_wp2_with fail
  refine H1.out.mono ?_
  rintro e w1 ⟨v1, rfl, hr1⟩
  have h2 := put_fit v1 _ n (k + 1) w1 hr1.1 (by simp; omega) (by omega) HLT.out
  rw [show ((k + 1 : Nat) : Int) = (k : Int) + 1 by omega] at h2
  have H2 := Lib.hid h2
  have HR1 := Lib.hid hr1
  clear h2 hr1
  go_wp2_with fail
  refine (H.out w1).mono ?_
  rintro e w' ⟨rfl, rfl⟩
  go_wp2_with fail
  refine H2.out.mono ?_
  rintro e w2 ⟨v2, rfl, hr2⟩
  have HR2 := Lib.hid hr2
  clear hr2
  go_wp2
  go_ret
  exact ⟨_, rfl, by have := HR1.out.trans HR2.out; rw [List.append_assoc] at this; exact this⟩

set_option maxHeartbeats 800000 in
theorem refDelta_any (lv : Value) (l : List Bool) (n : Nat) (w : World) (h : Sl w lv (cb l)) (hl : l.length ≤ 549755813888) (h0 : n ≠ 0) (hn : n < 18446744073709551616) :
    Calls Try.prog 38 #[lv, .int .u64 (n : Int)] w fun e w' => ∃ v, e = .returned v ∧ RefTo lv w v (l ++ deltaBits n) w' := by
  unfold deltaBits
  have H := Lib.hid (high_any n w h0 hn)
  have hk := log2_lt64 n hn
  have hlt := log2_bounds n h0
  generalize Nat.log2 n = k at *
  have h1 := refGamma_any lv l (k + 1) w h (by omega) (by omega) (by omega)
  rw [show ((k + 1 : Nat) : Int) = (k : Int) + 1 by omega] at h1
  have H1 := Lib.hid h1
  have hw := (by rw [IntKind.wrap_u64]; omega : IntKind.u64.wrap ((k : Int) + 1) = (k : Int) + 1)
  have hw2 := (by rw [IntKind.wrap_u64]; omega : IntKind.u64.wrap (k : Int) = (k : Int))
  have hgl := gammaBits_length (k + 1)
  have hg2 := log2_lt64 (k + 1) (by omega)
  have hp64 : 2 ^ k < 18446744073709551616 := Nat.lt_of_le_of_lt (Nat.pow_le_pow_right (by decide) (show k ≤ 63 by omega)) (by decide)
  have hpw : IntKind.u64.wrap (2 ^ k) = ((2 ^ k : Nat) : Int) := by rw [show ((2 : Int) ^ k) = ((2 ^ k : Nat) : Int) by simp, IntKind.wrap_u64]; omega
  have hsb : IntKind.u64.wrap ((n : Int) - IntKind.u64.wrap (2 ^ k)) = ((n - 2 ^ k : Nat) : Int) := by rw [hpw, IntKind.wrap_u64]; omega
  obtain ⟨y, hy⟩ : ∃ y, y = n - 2 ^ k := ⟨_, rfl⟩
  rw [← hy] at hsb
  have HY := Lib.hid hy
  have HLT := Lib.hid hlt
  have HGL := Lib.hid hgl
  have HSB := Lib.hid hsb
  clear hn h0 h hlt hy hgl hsb h1 hp64 hpw
  go_enter Try.func38, Try.ntmps38
  go_wp2_with fail
  refine H.out.mono ?_
  rintro e w' ⟨rfl, rfl⟩
  go_wp2_with fail
  refine H1.out.mono ?_
  rintro e w1 ⟨v1, rfl, hr1⟩
  have h2 := put_fit v1 _ y k w1 hr1.1 (by rw [List.length_append, HGL.out]; omega) (by omega) (by have := HLT.out; have := HY.out; rw [Nat.pow_succ] at *; omega)
  have H2 := Lib.hid h2
  have HR1 := Lib.hid hr1
  have hsb := HSB.out
  clear h2 hr1
  go_wp2_with fail
  refine H2.out.mono ?_
  rintro e w2 ⟨v2, rfl, hr2⟩
  have HR2 := Lib.hid hr2
  clear hr2 hsb
  go_wp2
  go_ret
  refine ⟨_, rfl, ?_⟩
  have := HR1.out.trans HR2.out
  rw [List.append_assoc, HY.out] at this
  exact this

set_option maxHeartbeats 800000 in
theorem refVar_any (lv : Value) (l : List Bool) (n : Nat) (w : World) (h : Sl w lv (cb l)) (hl : l.length ≤ 549755813888) (hn : n < 18446744073709551616) :
    Calls Try.prog 40 #[lv, .int .u64 (n : Int)] w fun e w' => ∃ v, e = .returned v ∧ RefTo lv w v (l ++ varBits n) w' := by
  have hgp := groups_pos n
  have hgl := groups_le n
  have HG : Hid (∀ i, i < groups n → (varG 10 n)[i]? = some (n / 128 ^ i % 128 + if i + 1 < groups n then 128 else 0)) := fun i hi => varG_get 10 n i (Nat.lt_trans hn (by decide)) hi
  have HM : Hid (∀ i, i < groups n → (128 ≤ n / 128 ^ i ↔ i + 1 < groups n)) := fun i hi => varG_more 10 n i (Nat.lt_trans hn (by decide)) hi
  have HVL : Hid (groups n = (varG 10 n).length) := rfl
  have HW : Hid (∀ i, IntKind.u64.wrap (((n / 128 ^ i : Nat) : Int) / 128) = ((n / 128 ^ i : Nat) : Int) / 128) := fun i => by
    have := Nat.div_le_self n (128 ^ i)
    show _ = _
    generalize n / 128 ^ i = m at *
    rw [IntKind.wrap_u64]; omega
  have HI : Hid (RefTo lv w lv (l ++ ((varG 10 n).take 0).flatMap fun g => numBits g 8) w) := ⟨by simpa using h, Upd.refl _ _, fun q hq => .inl hq⟩
  generalize groups n = G at *
  clear hn h
  go_enter Try.func40, Try.ntmps40
  go_wp2
  go_loopw [0, 1] (fun v0 v1 wr => ∃ i : Nat, i < G ∧ v1 = .int .u64 ((n / 128 ^ i : Nat) : Int) ∧ RefTo lv w v0 (l ++ ((varG 10 n).take i).flatMap fun g => numBits g 8) wr) (fun _ v1 _ => (intOf v1).toNat)
  case atStart => exact ⟨0, hgp, by simp, HI.out⟩
  case round =>
    obtain ⟨i, hi, rfl, hr⟩ := hrel
    obtain ⟨wo, rfl⟩ : ∃ wo : World, wo = wr := ⟨_, rfl⟩
    have hg := HG.out i hi
    have hm := HM.out i hi
    have hw := HW.out i
    have hlen : (l ++ ((varG 10 n).take i).flatMap fun g => numBits g 8).length ≤ l.length + 80 := by
      rw [List.length_append, flatMap8_length, List.length_take]; omega
    have hd : n / 128 ^ i / 128 = n / 128 ^ (i + 1) := by rw [Nat.div_div_eq_div_mul, Nat.pow_succ]
    have HD := Lib.hid hd
    clear hd
    by_cases hlt : i + 1 < G
    · rw [if_pos hlt] at hg
      have htk : (varG 10 n).take (i + 1) = (varG 10 n).take i ++ [n / 128 ^ i % 128 + 128] := by rw [List.take_add_one, hg]; rfl
      have hge : 128 ≤ n / 128 ^ i := hm.2 hlt
      have HTK := Lib.hid htk
      clear htk hg hm
      generalize n / 128 ^ i = m at *
      have h1 := put_fit u0 _ (m % 128 + 128) 8 wo hr.1 (by omega) (by decide) (by omega)
      rw [show ((m % 128 + 128 : Nat) : Int) = 128 + (m : Int) % 128 by omega, show ((8 : Nat) : Int) = 8 from rfl] at h1
      have H1 := Lib.hid h1
      have HR := Lib.hid hr
      have hb : decide ((127 : Int) < (m : Int)) = true := by simp; omega
      have hw2 : IntKind.u64.wrap (128 + (m : Int) % 128) = 128 + (m : Int) % 128 := by rw [IntKind.wrap_u64]; omega
      have htm : (m : Int).tmod 128 = (m : Int) % 128 := Int.tmod_eq_emod_of_nonneg (by omega)
      clear h1 hr hlen
      go_wp2_with fail
      refine H1.out.mono ?_
      rintro e w2 ⟨v2, rfl, hr2⟩
      have HR2 := Lib.hid (HR.out.trans hr2)
      clear hr2
      go_wp2
      go_roundw
      case rel => exact ⟨i + 1, hlt, by rw [← HD.out]; exact congrArg _ (by omega), by rw [HTK.out, List.flatMap_append, ← List.append_assoc]; simpa using HR2.out⟩
      case measure => simp [intOf]; omega
    · rw [if_neg hlt, Nat.add_zero] at hg
      have htk : (varG 10 n).take (i + 1) = (varG 10 n).take i ++ [n / 128 ^ i % 128] := by rw [List.take_add_one, hg]; rfl
      have hge : ¬ 128 ≤ n / 128 ^ i := fun h => hlt (hm.1 h)
      rw [Nat.mod_eq_of_lt (by omega)] at htk
      rw [List.take_of_length_le (by rw [← HVL.out]; omega)] at htk
      have HTK := Lib.hid htk
      clear htk hg hm
      generalize n / 128 ^ i = m at *
      have h1 := put_fit u0 _ m 8 wo hr.1 (by omega) (by decide) (by omega)
      rw [show ((8 : Nat) : Int) = 8 from rfl] at h1
      have H1 := Lib.hid h1
      have HR := Lib.hid hr
      have hb : decide ((127 : Int) < (m : Int)) = false := by simp; omega
      clear h1 hr hlen
      go_wp2_with fail
      refine H1.out.mono ?_
      rintro e w2 ⟨v2, rfl, hr2⟩
      have HR2 := Lib.hid (HR.out.trans hr2)
      clear hr2
      go_wp2
      go_ret
      refine ⟨_, rfl, ?_⟩
      unfold varBits
      rw [HTK.out, List.flatMap_append, ← List.append_assoc]
      simpa using HR2.out
end Go.Proofs.Ytbbbfkcpkcfndaa
