/- The contracts of (*pack.Vector).Write and pack.Read. -/
import Derived.Test.YtbbbfkcpkcfndaaPackC
import Derived.Test.YtbbbfkcpkcfndaaLawReads
namespace Go.Proofs.Ytbbbfkcpkcfndaa
open Go.RowKit Go.Proofs.Tm
set_option linter.unusedVariables false
set_option maxRecDepth 20000

theorem allBits_take_succ (wd : Nat) (l : List Nat) (i : Nat) (h : i < l.length) : allBits wd (l.take (i + 1)) = allBits wd (l.take i) ++ numBits l[i] wd := by
  unfold allBits
  rw [List.take_succ_eq_append_getElem h, List.flatMap_append]
  simp only [List.flatMap_cons, List.flatMap_nil, List.append_nil]

theorem fits_div (x k : Nat) (h : x < 2 ^ k) : ((x : Int) / 2 ^ k != 0) = false := by
  have e : (x : Int) / 2 ^ k = ((x / 2 ^ k : Nat) : Int) := by simp
  rw [e, Nat.div_eq_of_lt h]; rfl

set_option maxHeartbeats 800000 in
theorem vwrite_any (p g wd : Nat) (l : List Nat) (q : Nat) (gw : Option Nat) (L : List Bool) (w : World) (h : Vec w p g wd l) (hw : Wr w q gw L) (hpq : p ≠ q) (hgq : g ≠ q) (hgw : ∀ k, gw = some k → k ≠ p ∧ k ≠ g) (hL : L.length ≤ 1099511627776) :
    Calls Try.prog 62 #[.pointer (some ⟨p, 0, none⟩), .pointer (some ⟨q, 0, none⟩)] w fun e w' => e = .returned (.tuple #[]) ∧ WrMore q gw L w (allBits wd l) w' := by
  have HV := Lib.hid h
  have H0 := Lib.hid (WrMore.refl hw)
  have HP : Hid (∀ W m, WrMore q gw L w m W → Vec W p g wd l) := fun W m ⟨g', h1, h2, h3⟩ => h.upd h2 (by simp only [List.mem_cons, Option.mem_toList]; rintro (e | e); exact hpq e; exact (hgw _ e).1 rfl) (by simp only [List.mem_cons, Option.mem_toList]; rintro (e | e); exact hgq e; exact (hgw _ e).2 rfl)
  obtain ⟨cap, h1, h2, h3, h4, h5, h6⟩ := h
  have c0 : w.cell? ⟨p, 0, none⟩ = some (.int .i64 (l.length : Int)) := by rw [cell_of_row w p 0 _ _ _ h1]; rfl
  have HC1 : Hid (∀ W, Vec W p g wd l → W.cell? ⟨p, 1, none⟩ = some (.int .i64 (wd : Int))) := fun W ⟨cap, h1, _⟩ => by rw [cell_of_row W p 1 _ _ _ h1]; rfl
  have H6 := Lib.hid h6
  clear h1 h2 h6 hw
  go_enter Try.func62, Try.ntmps62
  go_wp2
  go_loopw [11] (fun v11 wr => ∃ i : Nat, i ≤ l.length ∧ v11 = .int .i64 i ∧ WrMore q gw L w (allBits wd (l.take i)) wr) (fun v11 _ => l.length - (intOf v11).toNat)
  case atStart => exact ⟨0, Nat.zero_le _, rfl, H0.out⟩
  case round =>
    obtain ⟨i, hi, rfl, hinv⟩ := hrel
    by_cases hlt : i < l.length
    · have HI := Lib.hid hinv
      have HVR := Lib.hid (HP.out _ _ hinv)
      have HT := Lib.hid (allBits_take_succ wd l i hlt)
      have hfit := fits_div _ _ (H6.out l[i] (List.getElem_mem hlt))
      have HG := Lib.hid (vget_ok p g wd l wr i HVR.out hlt)
      have hlen : (allBits wd (l.take i)).length ≤ 8192 := by
        rw [allBits_length, List.length_take]
        have : min i l.length * wd ≤ 256 * 32 := Nat.mul_le_mul (by omega) h5
        omega
      clear hinv
      generalize l[i] = x at *
      go_wp2_with fail
      refine HG.out.mono ?_
      rintro e w2 ⟨rfl, n, rfl⟩
      obtain ⟨g', hw', hu', hf'⟩ := HI.out
      have hc1 : (wr.drewN n).cell? ⟨p, 1, none⟩ = some (.int .i64 (wd : Int)) := HC1.out _ HVR.out
      have HN := Lib.hid (num_ok q g' _ x wd (wr.drewN n) (hw'.upd ((Upd.refl [] _).drewN n) (by simp) (by simp)) (by simp; omega) (by omega) hfit)
      have HU' := Lib.hid hu'
      have HF' := Lib.hid hf'
      clear hw' hu' hf' hfit
      go_wp2_with fail
      refine HN.out.mono ?_
      rintro e w3 ⟨rfl, hm3⟩
      have HM : Hid (WrMore q gw L w (allBits wd (l.take i) ++ numBits x wd) w3) := WrMore.trans (HU'.out.drewN n) HF'.out hm3
      clear hm3
      go_wp2
      go_roundw
      case rel => exact ⟨i + 1, by omega, by go_num, by rw [HT.out]; exact HM.out⟩
      case measure => simp [intOf]; omega
    · obtain rfl : i = l.length := by omega
      have HI := Lib.hid hinv
      clear hinv
      rw [List.take_length] at HI
      go_wp2
      go_end0
      exact ⟨rfl, HI.out⟩

/-- The numbers that are read. -/
def numsAt (bs : List Nat) (i wd n : Nat) : List Nat := (List.range n).map fun k => numAt bs (i + k * wd) wd
theorem numsAt_length (bs : List Nat) (i wd n : Nat) : (numsAt bs i wd n).length = n := by simp [numsAt]

theorem vread_bad (r : Nat) (n wd : Int) (w : World) (h : n < 0 ∨ 256 < n ∨ wd < 1 ∨ 32 < wd) :
    Calls Try.prog 60 #[.pointer (some ⟨r, 0, none⟩), .int .i64 n, .int .i64 wd] w fun e w' => e = .returned (.tuple #[.pointer none, .int .i64 10]) ∧ w = w' := by
  have H := Lib.hid (vnew_bad n wd w h)
  clear h
  go_enter Try.func60, Try.ntmps60
  go_wp2_with fail
  refine H.out.mono ?_
  rintro e w' ⟨rfl, rfl⟩
  go_wp2
  go_ret2
  exact ⟨rfl, rfl⟩

/-- What Read leaves where there are bits enough. -/
def VReadPost (r : Nat) (gr : Option Nat) (bs : List Nat) (i n wd : Nat) (w : World) (e : Ending) (w' : World) : Prop :=
  ∃ p g, e = .returned (.tuple #[.pointer (some ⟨p, 0, none⟩), .int .i64 0]) ∧ Vec w' p g wd (numsAt bs i wd n) ∧ w.heap.size ≤ p ∧ w.heap.size ≤ g ∧ RdGone r gr bs w (i + n * wd) w'

theorem vread_end (r : Nat) (gr : Option Nat) (bs : List Nat) (i n wd : Nat) (w : World) (h : Rd w r gr bs i) (hn : n ≤ 256) (h1 : 1 ≤ wd) (h2 : wd ≤ 32) (hlt : 8 * bs.length < i + n * wd) :
    Calls Try.prog 60 #[.pointer (some ⟨r, 0, none⟩), .int .i64 (n : Int), .int .i64 (wd : Int)] w fun e w' => e = .returned (.tuple #[.pointer none, .int .i64 5]) ∧ Upd [] w w' := by
  have H := Lib.hid h
  have hle := h.le
  obtain ⟨f, hf⟩ : ∃ f, f = n * wd := ⟨_, rfl⟩
  rw [← hf] at hlt
  have hf2 : f ≤ 256 * 32 := by rw [hf]; exact Nat.mul_le_mul hn h2
  have hm : IntKind.i64.wrap ((n : Int) * (wd : Int)) = (f : Int) := by rw [hf, Int.natCast_mul]; refine IntWalk.i64_in _ ?_; rw [← Int.natCast_mul, ← hf]; omega
  have hm2 : (n : Int) * (wd : Int) = (f : Int) := by rw [hf, Int.natCast_mul]
  have hd : decide (8 * bs.length - i < f) = true := by simp; omega
  clear hf h
  go_enter Try.func60, Try.ntmps60
  go_wp2_with fail
  refine (vnew_ok n wd w hn h1 h2).mono ?_
  rintro e w1 ⟨p, rfl, g, hv, hu, hp, hg⟩
  have HL := Lib.hid (left_any r gr bs i w1 (H.out.upd hu (by simp) (by simp)))
  have HU := Lib.hid hu
  clear hv hu
  go_wp2_with fail
  refine HL.out.mono ?_
  rintro e w2 ⟨rfl, m, rfl⟩
  go_wp2
  go_ret2
  exact ⟨rfl, HU.out.drewN m⟩

/-- From w to wr: the Reader r has gone to the bit j, and a new Vector holds k numbers that were read. -/
def VRd (r : Nat) (gr : Option Nat) (bs : List Nat) (i n wd p g : Nat) (w : World) (k : Nat) (wr : World) : Prop :=
  ∃ l : List Nat, l.length = n ∧ (∀ j, j < k → l[j]? = some (numAt bs (i + j * wd) wd)) ∧ Vec wr p g wd l ∧ RdGone r gr bs w (i + k * wd) wr

set_option maxHeartbeats 800000 in
theorem vread_ok (r : Nat) (gr : Option Nat) (bs : List Nat) (i n wd : Nat) (w : World) (h : Rd w r gr bs i) (hn : n ≤ 256) (h1 : 1 ≤ wd) (h2 : wd ≤ 32) (hle : i + n * wd ≤ 8 * bs.length) :
    Calls Try.prog 60 #[.pointer (some ⟨r, 0, none⟩), .int .i64 (n : Int), .int .i64 (wd : Int)] w (VReadPost r gr bs i n wd w) := by
  have H := Lib.hid h
  obtain ⟨f, hf⟩ : ∃ f, f = n * wd := ⟨_, rfl⟩
  have HF := Lib.hid hf
  rw [← hf] at hle
  have hf2 : f ≤ 256 * 32 := by rw [hf]; exact Nat.mul_le_mul hn h2
  have hm : IntKind.i64.wrap ((n : Int) * (wd : Int)) = (f : Int) := by rw [hf, Int.natCast_mul]; refine IntWalk.i64_in _ ?_; rw [← Int.natCast_mul, ← hf]; omega
  have hm2 : (n : Int) * (wd : Int) = (f : Int) := by rw [hf, Int.natCast_mul]
  have hd : decide (8 * bs.length - i < f) = false := by simp; omega
  have hrl := h.lt
  have hrg := h.glt
  have HRG := Lib.hid hrg
  clear hf h hrg
  go_enter Try.func60, Try.ntmps60
  go_wp2_with fail
  refine (vnew_ok n wd w hn h1 h2).mono ?_
  rintro e w1 ⟨p, rfl, g, hv, hu, hp, hg⟩
  have HL := Lib.hid (left_any r gr bs i w1 (H.out.upd hu (by simp) (by simp)))
  have HV := Lib.hid hv
  have HU := Lib.hid hu
  clear hv hu
  go_wp2_with fail
  refine HL.out.mono ?_
  rintro e w2 ⟨rfl, m, rfl⟩
  have H0 : Hid (VRd r gr bs i n wd p g w 0 (w1.drewN m)) :=
    ⟨List.replicate n 0, by simp, by intro j hj; omega, HV.out.upd0 ((Upd.refl _ _).drewN m), by simpa using (H.out.upd HU.out (by simp) (by simp)).drewN m, (HU.out.mono (by simp)).drewN m⟩
  clear HL HV HU
  go_wp2
  go_loopw [29] (fun v29 wr => ∃ k : Nat, k ≤ n ∧ v29 = .int .i64 k ∧ VRd r gr bs i n wd p g w k wr) (fun v29 _ => n - (intOf v29).toNat)
  case atStart => exact ⟨0, Nat.zero_le _, rfl, H0.out⟩
  case round =>
    obtain ⟨k, hk, rfl, l, hl, hj, hv, hr, hu⟩ := hrel
    by_cases hlt : k < n
    · have hkm : k * wd + wd ≤ n * wd := by
        have : (k + 1) * wd ≤ n * wd := Nat.mul_le_mul_right _ hlt
        rw [Nat.add_mul] at this; omega
      have hkm2 : i + k * wd + wd ≤ 8 * bs.length := by have := HF.out; omega
      have HE : Hid (i + (k + 1) * wd = i + k * wd + wd) := by show _ = _; rw [Nat.add_mul]; omega
      have HN := Lib.hid (rnum_ok r gr bs (i + k * wd) wd wr hr (by omega) hkm2)
      have hnl := numAt_lt bs (i + k * wd) wd
      have HLL := Lib.hid hl
      have HJ := Lib.hid hj
      have HV := Lib.hid hv
      have HU := Lib.hid hu
      have hpr : p ≠ r := by omega
      have hgr : g ≠ r := by omega
      clear hl hj hv hr hu hkm hkm2
      go_wp2_with fail
      refine HN.out.mono ?_
      rintro e w3 ⟨rfl, hr3, hu3⟩
      have HS := Lib.hid (vset_ok p g wd l w3 k (numAt bs (i + k * wd) wd) (HV.out.upd hu3 (by simpa using hpr) (by simpa using hgr)) (by rw [HLL.out]; exact hlt) hnl)
      have HR3 := Lib.hid hr3
      have HU3 := Lib.hid (HU.out.trans hu3 (by intro x hx; exact .inl hx))
      clear hr3 hu3
      go_wp2_with fail
      refine HS.out.mono ?_
      rintro e w4 ⟨rfl, hv4, hu4⟩
      have HV4 := Lib.hid hv4
      have HR4 := Lib.hid (HR3.out.upd hu4 (by simpa using hgr.symm) (by intro x hx; have := HRG.out x hx; simp; omega))
      have HU4 := Lib.hid (HU3.out.trans hu4 (by intro x hx; simp at hx; subst hx; right; exact hg))
      clear hv4 hu4
      go_wp2
      go_roundw
      case rel =>
        refine ⟨k + 1, by omega, by go_num, l.set k (numAt bs (i + k * wd) wd), by rw [List.length_set]; exact HLL.out, ?_, HV4.out, by rw [HE.out]; exact HR4.out, HU4.out⟩
        intro j hj
        rw [List.getElem?_set]
        by_cases he : k = j
        · subst he; simp [HLL.out, hlt]
        · rw [if_neg he]; exact HJ.out j (by omega)
      case measure => simp [intOf]; omega
    · obtain rfl : k = n := by omega
      have HV := Lib.hid hv
      have HLL := Lib.hid hl
      have HJ := Lib.hid hj
      have HR := Lib.hid hr
      have HU := Lib.hid hu
      clear hl hj hv hr hu
      go_wp2
      go_ret2
      have e : l = numsAt bs i wd k := by
        apply List.ext_getElem?
        intro j
        rcases Nat.lt_or_ge j k with h | h
        · rw [HJ.out j h]; simp [numsAt, h]
        · rw [List.getElem?_eq_none (by rw [HLL.out]; exact h), List.getElem?_eq_none (by rw [numsAt_length]; exact h)]
      exact ⟨p, g, rfl, by rw [← e]; exact HV.out, hp, hg, HR.out, HU.out⟩
end Go.Proofs.Ytbbbfkcpkcfndaa
