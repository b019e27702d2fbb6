/- The contract of the document's own answer Bytes (layer 1): bits as bytes. -/
import Derived.Test.YtbbbfkcpkcfndaaRefSame
namespace Go.Proofs.Ytbbbfkcpkcfndaa
open Go.RowKit Go.Proofs.Tm
set_option linter.unusedVariables false
set_option maxRecDepth 20000

theorem cb_getElem? (l : List Bool) (i : Nat) (h : i < l.length) : (cb l)[i]? = some (.bool (l.getD i false)) := by simp [cb, h]

theorem part_succ (l : List Bool) (i k : Nat) : Tm.part l i (k + 1) = 2 * Tm.part l i k + (l.getD (i + k) false).toNat := rfl

set_option maxHeartbeats 1000000 in
theorem rbytes_any (lv : Value) (l : List Bool) (w : World) (h : Sl w lv (cb l)) (hl : l.length ≤ 1125899906842624) :
    Calls Try.prog 25 #[lv] w fun e w' => ∃ v, e = .returned v ∧ w'.ownsRow w.heap.size 5 1 v ((l.length + 7) / 8) (cu8 (bytesOf l)) ∧ Upd [] w w' := by
  have HS := Lib.hid h
  obtain ⟨a, cap, rfl, h1, h2, h3⟩ := h
  simp only [cb_length] at *
  obtain ⟨n, hn⟩ : ∃ n, n = l.length := ⟨_, rfl⟩
  rw [← hn] at hl
  have HN := Lib.hid hn
  rw [← hn]
  clear h1 h2 h3 hn
  go_enter Try.func25, Try.ntmps25
  go_wp2
  go_loopw [3, 4] (fun v3 v4 wr => ∃ q : Nat, 8 * q ≤ n + 7 ∧ v4 = .int .i64 ((8 * q : Nat) : Int) ∧ wr.ownsRow w.heap.size 5 1 v3 q (cu8 ((List.range q).map (byteAt l))) ∧ Upd [] w wr) (fun _ v4 _ => n + 7 - (intOf v4).toNat)
  case atStart => exact ⟨0, by omega, rfl, World.ownsRow_nil _ _ _ _, Upd.refl _ _⟩
  case round =>
    obtain ⟨q, hq, rfl, hown, hup⟩ := hrel
    obtain ⟨wo, rfl⟩ : ∃ wo : World, wo = wr := ⟨_, rfl⟩
    have HO := Lib.hid hown
    have HU := Lib.hid hup
    clear hown hup
    by_cases hlt : 8 * q < n
    · have hlt' : decide (8 * q < n) = true := by simpa using hlt
      go_wp2
      go_loop [5, 6] (fun v5 v6 => ∃ k : Nat, k ≤ 8 ∧ v6 = .int .i64 k ∧ v5 = .int .i64 ((Tm.part l (8 * q) k : Nat) : Int)) (fun _ v6 => 8 - (intOf v6).toNat)
      case atStart => exact ⟨0, by omega, rfl, rfl⟩
      case round =>
        obtain ⟨k, hk, rfl, rfl⟩ := hrel
        by_cases hk8 : k < 8
        · have HP := Lib.hid (part_succ l (8 * q) k)
          have hpl := Tm.part_lt l (8 * q) k
          have hp2 : Tm.part l (8 * q) k < 256 := Nat.lt_of_lt_of_le hpl (Nat.le_trans (Nat.pow_le_pow_right (by decide) (show k ≤ 8 by omega)) (by decide))
          clear hpl
          generalize Tm.part l (8 * q) k = x at *
          by_cases hin : 8 * q + k < n
          · have hin' : decide (8 * (q : Int) + (k : Int) < (n : Int)) = true := by simp; omega
            obtain ⟨b, o, cap', hv, hc⟩ := sl_at (HS.out.upd0 HU.out) (by intro h; have := congrArg List.length h; simp at this; have := HN.out; simp_all)
            obtain ⟨rfl, rfl⟩ : a = some ⟨b, o, none⟩ ∧ cap = cap' := by simpa using hv
            have hcell := hc (8 * q + k) (by rw [cb_length, ← HN.out]; exact hin)
            rw [cb_getElem? l _ (by rw [← HN.out]; exact hin)] at hcell
            clear hc hv
            have i0 : (0 : Int) ≤ 8 * (q : Int) + (k : Int) := by omega
            generalize l.getD (8 * q + k) false = z at *
            cases z
            all_goals
              go_wp2
              refine ⟨⟨k + 1, by omega, by go_num, ?_⟩, by simp [intOf]; omega⟩
              rw [HP.out]
              exact congrArg _ (by simp)
          · have hz : l.getD (8 * q + k) false = false := by
              have := HN.out
              simp [show l.length ≤ 8 * q + k by omega]
            have HZ := Lib.hid hz
            have hin' : decide (8 * (q : Int) + (k : Int) < (n : Int)) = false := by simp; omega
            clear hz
            go_wp2
            refine ⟨⟨k + 1, by omega, by go_num, ?_⟩, by simp [intOf]; omega⟩
            rw [HP.out, HZ.out]
            exact congrArg _ (by simp)
        · obtain rfl : k = 8 := by omega
          have HB : Hid (byteAt l q = Tm.part l (8 * q) 8) := rfl
          have hx := Tm.part_lt l (8 * q) 8
          have hx2 : ((Tm.part l (8 * q) 8 : Nat) : Int) < 256 := by omega
          have hw : IntKind.u8.wrap ((Tm.part l (8 * q) 8 : Nat) : Int) = ((Tm.part l (8 * q) 8 : Nat) : Int) := by rw [IntKind.wrap_u8']; omega
          clear hx
          generalize Tm.part l (8 * q) 8 = x at *
          go_wp2_with (at_builtin; refine wpList_append_sl _ rfl (.tmp 35) (.tmp 38) 24 rfl w.heap.size 5 (.int .u8 0) 1 Try.underlying24 infoU8 rfl _ _ _ rfl (HO.out.alloc _) _ [.int .u8 (x : Int)] rfl (Sl.lit1 wo _ _) ?c1 ?c2 ?c3 ?c4 ?go)
          case c1 => first | rfl | (intro u hu; simp at hu; subst hu; rfl)
          case c2 => unfold maxLen; first | omega | (simp; omega)
          case c3 => first | omega | (simp; omega)
          case c4 => exact Nat.le_trans HU.out.size (by simp)
          case go =>
            intro v1 w1 ho hg _
            have HO1 : Hid (w1.ownsRow w.heap.size 5 1 v1 (q + 1) (cu8 ((List.range (q + 1)).map (byteAt l)))) := by
              show w1.ownsRow _ _ _ _ _ _
              rw [List.range_succ, List.map_append, cu8_append]
              simp only [List.map_cons, List.map_nil]
              rw [HB.out]
              exact ho
            have HU1 : Hid (Upd [] w w1) := (HU.out.alloc _).grown hg (fun k hk => .inr (HO.out.lt k hk).1)
            clear ho hg
            go_wp2
            go_roundw
            case rel => exact ⟨q + 1, by omega, by go_num, HO1.out, HU1.out⟩
            case measure => simp [intOf]; omega
    · have hlt' : decide (8 * q < n) = false := by simpa using hlt
      go_wp2
      go_ret
      refine ⟨_, rfl, ?_, HU.out⟩
      obtain rfl : q = (n + 7) / 8 := by omega
      unfold bytesOf
      rw [← HN.out]
      exact HO.out
end Go.Proofs.Ytbbbfkcpkcfndaa
