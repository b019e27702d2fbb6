/- The contract of the document's own answer Bits (layer 1), for layer 9's law. -/
import Derived.Test.YtibfdldllaopdaaTapeAwk
namespace Go.Proofs.Ytibfdldllaopdaa
open Go.RowKit Go.Proofs.Tm
set_option linter.unusedVariables false
set_option maxRecDepth 20000

theorem tbitAt_eq (bs : List Nat) (i j k : Nat) (hj : j < 8) (hk : k = 7 - j) : ((((bs.getD i 0 : Nat) : Int) / 2 ^ k).tmod 2 == 1) = bitAt bs (8 * i + j) := by
  subst hk
  rw [Int.tmod_eq_emod_of_nonneg (Int.ediv_nonneg (by omega) (Int.le_of_lt (Int.pow_pos (by decide))))]
  have h1 : ((bs.getD i 0 : Nat) : Int) / 2 ^ (7 - j) = ((bs.getD i 0 / 2 ^ (7 - j) : Nat) : Int) := by simp
  rw [h1]
  unfold bitAt
  rw [show (8 * i + j) / 8 = i by omega, show (8 * i + j) % 8 = j by omega, Nat.testBit_eq_decide_div_mod_eq, Bool.eq_iff_iff, beq_iff_eq, decide_eq_true_eq]
  omega

set_option maxRecDepth 100000 in
set_option maxHeartbeats 1000000 in
theorem trbits_any (bv : Value) (bs : List Nat) (w : World) (h : Sl w bv (cu8 bs)) (hl : bs.length ≤ 1099511627776) (hb : ∀ b ∈ bs, b < 256) :
    Calls Try.prog 23 #[bv] w fun e w' => ∃ v, e = .returned v ∧ w'.ownsRow w.heap.size 4 1 v (8 * bs.length) (cb (bitsOf bs)) ∧ Upd [] w w' := by
  have HS := Lib.hid h
  have HB := Lib.hid hb
  obtain ⟨a, cap, rfl, h1, h2, h3⟩ := h
  simp only [cu8_length] at *
  obtain ⟨n, hn⟩ : ∃ n, n = bs.length := ⟨_, rfl⟩
  rw [← hn] at hl
  have HN := Lib.hid hn
  rw [← hn]
  clear h1 h2 h3 hn hb
  go_enter Try.func23, Try.ntmps23
  go_wp2
  go_loopw [3, 4] (fun v3 v4 wr => ∃ i : Nat, i ≤ n ∧ v4 = .int .i64 i ∧ wr.ownsRow w.heap.size 4 1 v3 (8 * i) (cb ((List.range (8 * i)).map (bitAt bs))) ∧ Upd [] w wr) (fun _ v4 _ => n - (intOf v4).toNat)
  case atStart => exact ⟨0, by omega, rfl, World.ownsRow_nil _ _ _ _, Upd.refl _ _⟩
  case round =>
    obtain ⟨i, hi, rfl, hown, hup⟩ := hrel
    obtain ⟨wo, rfl⟩ : ∃ wo : World, wo = wr := ⟨_, rfl⟩
    have HO := Lib.hid hown
    have HU := Lib.hid hup
    clear hown hup
    by_cases hlt : i < n
    · have hlt' : decide (i < n) = true := by simpa using hlt
      go_wp2
      go_loopw [3, 5] (fun v3 v5 wr => ∃ (j : Nat) (k : Int), j ≤ 8 ∧ Hid (k = 7 - (j : Int)) ∧ v5 = .int .i64 k ∧ wr.ownsRow w.heap.size 4 1 v3 (8 * i + j) (cb ((List.range (8 * i + j)).map (bitAt bs))) ∧ Upd [] w wr) (fun _ v5 _ => ((intOf v5) + 1).toNat)
      case atStart => exact ⟨0, _, by omega, rfl, rfl, HO.out, HU.out⟩
      case round =>
        obtain ⟨j, k0, hj, HK0, rfl, hown, hup⟩ := hrel
        have HO1 := Lib.hid hown
        have HU1 := Lib.hid hup
        clear hown hup
        by_cases hj8 : j < 8
        · obtain ⟨b, o, cap', hv, hc⟩ := tsl_at (HS.out.upd0 HU1.out) (by intro h; have := congrArg List.length h; simp at this; have := HN.out; simp_all)
          obtain ⟨rfl, rfl⟩ : a = some ⟨b, o, none⟩ ∧ cap = cap' := by simpa using hv
          have hcell := hc i (by rw [cu8_length, ← HN.out]; exact hlt)
          have hx0 : bs.getD i 0 < 256 := HB.out _ (by have := HN.out; simp [show i < bs.length by omega])
          have hx1 : ((bs.getD i 0 : Nat) : Int) < 256 := by omega
          rw [cu8_getElem?, show bs[i]?.map (fun (b : Nat) => Value.int .u8 (b : Int)) = some (Value.int .u8 ((bs.getD i 0 : Nat) : Int)) by have := HN.out; simp [show i < bs.length by omega]] at hcell
          clear hc hv hx0
          obtain ⟨k, hk⟩ : ∃ k, k = 7 - j := ⟨_, rfl⟩
          have hbit := tbitAt_eq bs i j k hj8 hk
          obtain rfl : k0 = (k : Int) := by have := HK0.out; omega
          have hk7 : (k : Int) ≤ 7 := by omega
          have hw : IntKind.u64.wrap (k : Int) = (k : Int) := by rw [IntKind.wrap_u64]; omega
          have HK := Lib.hid hk
          have HBT := Lib.hid hbit
          clear hk hbit
          have hmono : wr.heap.size ≤ wr.heap.size := Nat.le_refl _
          generalize bs.getD i 0 = x at *
          go_wp2_with (at_builtin; refine wpList_append_sl _ rfl (.tmp 16) (.tmp 26) 22 rfl w.heap.size 4 (.bool false) 1 Try.underlying22 infoBool rfl _ _ _ rfl (HO1.out.alloc _) _ _ rfl (Sl.lit1 _ _ _) ?c1 ?c2 ?c3 ?c4 ?go)
          case c1 => first | rfl | (intro u hu; simp at hu; subst hu; rfl)
          case c2 => unfold maxLen; first | omega | (simp; omega)
          case c3 => first | omega | (simp; omega)
          case c4 => exact Nat.le_trans HU1.out.size (by simp)
          case go =>
            intro v1 w1 ho hg _
            have HO2 : Hid (w1.ownsRow w.heap.size 4 1 v1 (8 * i + (j + 1)) (cb ((List.range (8 * i + (j + 1))).map (bitAt bs)))) := by
              show w1.ownsRow _ _ _ _ _ _
              rw [show 8 * i + (j + 1) = 8 * i + j + 1 by omega, List.range_succ, List.map_append, cb_append]
              simp only [List.map_cons, List.map_nil]
              rw [← HBT.out]
              exact ho
            have HU2 : Hid (Upd [] w w1) := (HU1.out.alloc _).grown hg (fun k hk => .inr (HO1.out.lt k hk).1)
            clear ho hg
            go_wp2
            go_roundw
            case rel => exact ⟨j + 1, _, by omega, (by have := HK.out; show _ = _; omega), rfl, HO2.out, HU2.out⟩
            case measure => simp [intOf]
        · obtain rfl : j = 8 := by omega
          obtain rfl : k0 = -1 := by have := HK0.out; omega
          go_wp2
          go_roundw
          case rel => exact ⟨i + 1, by omega, by go_num, HO1.out, HU1.out⟩
          case measure => simp [intOf]; omega
    · have hlt' : decide (i < n) = false := by simpa using hlt
      obtain rfl : i = n := by omega
      go_wp2
      go_ret
      refine ⟨_, rfl, ?_, HU.out⟩
      unfold bitsOf
      rw [← HN.out]
      exact HO.out
end Go.Proofs.Ytibfdldllaopdaa
