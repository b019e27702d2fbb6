/- The contract of the document's own answer Put (layer 1). -/
import Derived.Test.YtbbbfkcpkcfndaaBitsRN
namespace Go.Proofs.Ytbbbfkcpkcfndaa
open Go.RowKit Go.Proofs.Tm
set_option linter.unusedVariables false
set_option maxRecDepth 20000

def PutBad (lv : Value) (w : World) (e : Ending) (w' : World) : Prop := e = .returned (.tuple #[lv, .int .i64 2]) ∧ Upd [] w w'

set_option maxHeartbeats 400000 in
theorem put_bad (lv : Value) (n k : Int) (w : World) (h0 : (decide (0 ≤ k) && decide (k ≤ 64)) = false) :
    Calls Try.prog 21 #[lv, .int .u64 n, .int .i64 k] w (PutBad lv w) := by
  by_cases hk : k < 0
  · clear h0
    go_enter Try.func21, Try.ntmps21
    go_wp2
    go_ret2
    exact ⟨rfl, Upd.refl _ _⟩
  · have hk2 : 64 < k := by simp at h0; omega
    clear h0
    go_enter Try.func21, Try.ntmps21
    go_wp2
    go_ret2
    exact ⟨rfl, Upd.refl _ _⟩

theorem numBits_cons (n k : Nat) : numBits n (k + 1) = (n / 2 ^ k % 2 == 1) :: numBits n k := by
  rw [numBits, Nat.testBit_eq_decide_div_mod_eq]
  congr 1

theorem wrap_half (m : Nat) (h : m < 18446744073709551616) : IntKind.u64.wrap ((m : Int) / 2) = (m : Int) / 2 := by
  rw [IntKind.wrap_u64]; omega

/-- Round by round: the rest of the number, and its bits. -/
def PutInv (n i : Nat) (w : World) (v : Value) (wr : World) : Prop := wr.ownsRow w.heap.size 4 1 v i (cb (numBits n i)) ∧ Upd [] w wr

set_option maxHeartbeats 1000000 in
theorem put_loop (lv : Value) (l : List Bool) (n k : Nat) (w : World) (h : Sl w lv (cb l)) (hl : l.length ≤ 70368744177664) (hk : k ≤ 64) (hn : n < 18446744073709551616) (z : Bool) (hz : decide (0 < n / 2 ^ k) = z) :
    Calls Try.prog 21 #[lv, .int .u64 (n : Int), .int .i64 (k : Int)] w fun e w' =>
      if z then PutBad lv w e w' else ∃ v, e = .returned (.tuple #[v, .int .i64 0]) ∧ w'.ownsRow w.heap.size 4 1 v (l.length + k) (cb (l ++ numBits n k)) ∧ Upd [] w w' := by
  have HS := Lib.hid h
  have hk1 : decide ((k : Int) < 0) = false := by simp
  have hk2 : decide (64 < (k : Int)) = false := by simp; omega
  have HZ := Lib.hid hz
  have HW : Hid (∀ i, IntKind.u64.wrap (((n / 2 ^ i : Nat) : Int) / 2) = ((n / 2 ^ i : Nat) : Int) / 2) := fun i => wrap_half _ (Nat.lt_of_le_of_lt (Nat.div_le_self _ _) hn)
  clear h hz hn
  go_enter Try.func21, Try.ntmps21
  go_wp2
  go_loopw [1, 8, 9] (fun v1 v8 v9 wr => ∃ i : Nat, i ≤ k ∧ v9 = .int .i64 i ∧ v1 = .int .u64 ((n / 2 ^ i : Nat) : Int) ∧ PutInv n i w v8 wr) (fun _ _ v9 _ => k - (intOf v9).toNat)
  case atStart => exact ⟨0, Nat.zero_le _, rfl, by simp, World.ownsRow_nil _ _ _ _, Upd.refl _ _⟩
  case round =>
    obtain ⟨i, hi, rfl, rfl, hown, hup⟩ := hrel
    by_cases hlt : i < k
    · have HO := Lib.hid hown
      have HU := Lib.hid hup
      have HC := Lib.hid (numBits_cons n i)
      have HD : Hid (n / 2 ^ i / 2 = n / 2 ^ (i + 1)) := by show _ = _; rw [Nat.div_div_eq_div_mul, Nat.pow_succ]
      have hw := HW.out i
      clear hown hup
      generalize n / 2 ^ i = m at *
      go_wp2_with (at_builtin; refine wpList_append_sl _ rfl (.tmp 25) (.tmp 26) 27 rfl w.heap.size 4 (.bool false) 1 Try.underlying27 infoBool rfl _ 1 [.bool ((m : Int) % 2 == 1)] rfl (World.ownsRow_lit wr #[.bool ((m : Int) % 2 == 1)] 1 HU.out.size (by simp [maxLen]) rfl) _ (cb (numBits n i)) rfl ((Sl.own HO.out).upd0 ((Upd.refl _ wr).alloc _)) (cb_one _) ?c1 ?c2 ?c3 ?go)
      case c1 => unfold maxLen; simp; omega
      case c2 => simp; omega
      case c3 => exact Nat.le_trans HU.out.size (by simp)
      case go =>
        intro v1 w1 ho hg _
        have HP : Hid (PutInv n (i + 1) w v1 w1) := by
          refine ⟨?_, ?_⟩
          · rw [HC.out, Nat.add_comm i 1]
            have e : cb ((m % 2 == 1) :: numBits n i) = .bool ((m : Int) % 2 == 1) :: cb (numBits n i) := by
              show _ :: _ = _ :: _
              congr 2
              rw [Bool.eq_iff_iff, beq_iff_eq, beq_iff_eq]; omega
            rw [e]; simpa using ho
          · exact (HU.out.alloc _).grown hg (fun k hk => .inr (by simp [Value.ownBlock] at hk; have := HU.out.size; omega))
        clear ho hg
        go_wp2
        go_roundw
        case rel => exact ⟨i + 1, by omega, by go_num, by rw [← HD.out]; exact congrArg _ (by omega), HP.out⟩
        case measure => simp [intOf]; omega
    · obtain rfl : i = k := by omega
      have HO := Lib.hid hown
      have HU := Lib.hid hup
      clear hown hup
      generalize n / 2 ^ i = m at *
      by_cases hm : m = 0
      · subst hm
        obtain rfl : z = false := by have := HZ.out; simpa using this.symm
        go_wp2_with (first
          | (at_builtin; refine wpList_append_sl _ rfl (.tmp 33) (.tmp 34) 27 rfl w.heap.size 4 (.bool false) 1 Try.underlying27 infoBool rfl _ 0 [] rfl (World.ownsRow_lit wr #[] 0 HU.out.size (Nat.zero_le _) rfl) _ (cb l) rfl (HS.out.upd0 (HU.out.alloc _)) (cb_one _) ?c1 ?c2 ?c3 ?go))
        case c1 => unfold maxLen; simp; omega
        case c2 => simp; omega
        case c3 => exact Nat.le_trans HU.out.size (by simp)
        case go =>
          intro v1 w1 ho hg _
          have HO1 := Lib.hid ho
          have hu1 := (Upd.refl [] wr).alloc (.cells #[] 4) |>.grown hg (fun k hk => .inr (by simp [Value.ownBlock] at hk; omega))
          have HU1 := Lib.hid hu1
          clear ho hg hu1
          go_wp2_with (at_builtin; refine wpList_append_sl _ rfl (.tmp 35) (.tmp 36) 27 rfl w.heap.size 4 (.bool false) 1 Try.underlying27 infoBool rfl _ l.length (cb l) rfl HO1.out _ (cb (numBits n i)) rfl ((Sl.own HO.out).upd0 HU1.out) (cb_one _) ?d1 ?d2 ?d3 ?go2)
          case d1 => unfold maxLen; simp; omega
          case d2 => simp; omega
          case d3 => exact Nat.le_trans HU.out.size HU1.out.size
          case go2 =>
            intro v2 w2 ho hg _
            have HO2 := Lib.hid ho
            have hu2 := ((HU.out.trans0 HU1.out).grown hg (fun k hk => .inr (HO1.out.lt k hk).1))
            have HU2 := Lib.hid hu2
            clear ho hg hu2
            go_wp2
            go_ret2
            refine ⟨_, rfl, ?_, HU2.out⟩
            rw [cb_append]
            simpa using HO2.out
      · obtain rfl : z = true := by have := HZ.out; rw [← this]; simp; omega
        have hmp : decide (0 < (m : Int)) = true := by simp; omega
        go_wp2
        go_ret2
        exact ⟨rfl, HU.out⟩
end Go.Proofs.Ytbbbfkcpkcfndaa
