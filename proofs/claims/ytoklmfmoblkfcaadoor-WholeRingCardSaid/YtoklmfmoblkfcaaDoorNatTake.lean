/- The contract of nat.takeTimes (layer 5). -/
import Derived.Test.YtoklmfmoblkfcaaDoorAb
import Derived.Test.YtoklmfmoblkfcaaDoorNatS64
namespace Go.Proofs.YtoklmfmoblkfcaaDoor
open Go.RowKit Go.Proofs.Tm
set_option linter.unusedVariables false
set_option linter.unusedSimpArgs false
set_option maxRecDepth 20000

/-- What takeTimes leaves. -/
def TakeTPost (base g len cap f : Nat) (B : List Nat) (n : Nat) (L : List Nat) (w : World) (e : Ending) (w' : World) : Prop :=
  ∃ (o : Nat) (L' : List Nat), e = .returned (.int .u64 (o : Int)) ∧ ARow base g len cap f B.length L L' w w' ∧ o ≤ n ∧ wval L' + 18446744073709551616 ^ f * (n * wval B) = wval L + 18446744073709551616 ^ (f + B.length) * o

set_option maxHeartbeats 800000 in
theorem takeTimes_any (base g len cap f ln cp n : Nat) (bv : Value) (B L : List Nat) (w : World) (ho : w.ownsRow base 65 1 (.slice (some ⟨g, 0, none⟩) len cap) len (cu64 L)) (hL : L.length = len) (hlt : ∀ d ∈ L, d < 18446744073709551616)
   (hB : Sl w bv (cu64 B)) (hBlt : ∀ d ∈ B, d < 18446744073709551616) (hbg : B ≠ [] → ∀ k, bv.ownBlock = some k → k ≠ g) (hf : f + B.length ≤ len) (hln : B.length ≤ ln) (hn : n < 18446744073709551616) (hlen : len ≤ 1099511627776) :
    Calls Tryd.prog 99 #[.slice (some ⟨g, f, none⟩) ln cp, bv, .int .u64 (n : Int)] w (TakeTPost base g len cap f B n L w) := by
  have H0 := Lib.hid (ARow.start (f := f) ho hL hlt)
  have HB := Lib.hid hB
  have HBLT := Lib.hid hBlt
  have HBG := Lib.hid hbg
  obtain ⟨a, cb, rfl, hlc, hcm, _⟩ := hB
  simp only [cu64_length] at *
  obtain ⟨lb, hlb⟩ : ∃ k, k = B.length := ⟨_, rfl⟩
  have HLB := Lib.hid hlb
  rw [← hlb] at hf hln hlc HB
  rw [← hlb]
  unfold maxLen at hcm
  clear ho hL hlt hBlt hbg hlb
  go_enter Tryd.func99, Tryd.ntmps99
  go_wp2
  go_loopw [7, 13] (fun v7 v13 wr => ∃ (k o : Nat) (L' : List Nat), k ≤ lb ∧ v13 = .int .i64 k ∧ v7 = .int .u64 (o : Int) ∧ o ≤ n ∧ Hid (wval L' + 18446744073709551616 ^ f * (n * wval (B.take k)) = wval L + 18446744073709551616 ^ (f + k) * o) ∧ ARow base g len cap f k L L' w wr) (fun _ v13 _ => lb - (intOf v13).toNat)
  case atStart => exact ⟨0, 0, L, Nat.zero_le _, rfl, rfl, Nat.zero_le _, by show _ = _; simp [wval], H0.out⟩
  case round =>
    obtain ⟨k, o, L', hk, rfl, rfl, hon, HE, hinv⟩ := hrel
    have HI := Lib.hid hinv
    clear hinv H0
    by_cases hlt : k < lb
    · have hwr := HI.out.upd
      obtain ⟨b, ob, cb', hv, hc⟩ := sl_at HB.out (by rw [cu64_nil]; rintro rfl; have := HLB.out; simp at this; omega)
      obtain ⟨rfl, rfl⟩ : a = some ⟨b, ob, none⟩ ∧ cb = cb' := by simp at hv; exact ⟨hv.1, hv.2.2⟩
      have hcell := hc k (by rw [cu64_length, ← HLB.out]; exact hlt)
      rw [cu64_getD _ _ (by rw [← HLB.out]; exact hlt)] at hcell
      have hbw := World.block_lt_of_cell? w _ hcell
      have hne := HBG.out (by rintro rfl; have := HLB.out; simp at this; omega) b rfl
      have hcb : wr.cell? ⟨b, ob + k, none⟩ = some (.int .u64 ((B.getD k 0 : Nat) : Int)) := (hwr.cell (p := ⟨b, ob + k, none⟩) hbw (by simpa using hne)).trans hcell
      have hcl := HI.out.own.cellAt (f + k) (by omega)
      rw [cu64_getD _ _ (by rw [HI.out.len]; omega)] at hcl
      have hfz := HI.out.own.frozenAt (f + k)
      have hx := getD_lt HBLT.out k
      have hl := getD_lt HI.out.lt (f + k)
      have HT := Lib.hid (fun W => timesPlus_any (B.getD k 0) n o W hx hn (by omega))
      obtain ⟨s, c, hs, hc1, hsum, hadd⟩ := sub64_run0 (L'.getD (f + k) 0) ((B.getD k 0 * n + o) % 18446744073709551616) hl (Nat.mod_lt _ (by decide))
      have HSUM : Hid (s + (B.getD k 0 * n + o) = L'.getD (f + k) 0 + 18446744073709551616 * ((B.getD k 0 * n + o) / 18446744073709551616 + c)) := by show _ = _; omega
      have hov := owed_le HSUM.out hs hx hon
      have HST := Lib.hid (wtaket_step B L' f k n o s _ _ (by rw [HI.out.len]; omega) HE.out HSUM.out)
      have hwrap : IntKind.u64.wrap ((((B.getD k 0 * n + o) / 18446744073709551616 : Nat) : Int) + (c : Int)) = (((B.getD k 0 * n + o) / 18446744073709551616 + c : Nat) : Int) := by rw [IntKind.wrap_u64]; omega
      have HW := Lib.hid hwrap
      have HAR := Lib.hid (HI.out.set s hs)
      have i0 : (0 : Int) ≤ (k : Int) := by omega
      have i1 : (k : Int) < (lb : Int) := by omega
      have i2 : (k : Int) < (ln : Int) := by omega
      clear hc hv hcell hx hl hsum hwrap
      generalize B.getD k 0 = x at *
      generalize (x * n + o) % 18446744073709551616 = lo at *
      generalize (x * n + o) / 18446744073709551616 = hi at *
      generalize L'.getD (f + k) 0 = y at *
      go_wp2_with fail
      refine (HT.out wr).mono ?_
      rintro e w' ⟨rfl, rfl⟩
      go_wp2
      refine ⟨⟨k + 1, hi + c, L'.set (f + k) s, by omega, by go_num, by go_num, hov, HST.out, HAR.out⟩, by simp [intOf]; omega⟩
    · obtain rfl : k = lb := by omega
      go_wp2
      go_ret
      have h := HE.out
      rw [List.take_of_length_le (by have := HLB.out; omega)] at h
      exact ⟨o, L', rfl, by rw [← HLB.out]; exact HI.out, hon, by rw [← HLB.out]; exact h⟩
end Go.Proofs.YtoklmfmoblkfcaaDoor
