/- The document's own numbers of layer 5: contract of Text. -/
import Derived.Test.YtoklmfmoblkfcaaDoorRefOf
import Derived.Test.YtoklmfmoblkfcaaDoorNatDec
namespace Go.Proofs.YtoklmfmoblkfcaaDoor
open Go.RowKit Go.Proofs.Tm
set_option linter.unusedVariables false
set_option linter.unusedSimpArgs false
set_option maxRecDepth 20000

theorem digs_getD (n j : Nat) : (digs n).getD j 0 = n / 10000 ^ j % 10000 := by
  induction j generalizing n with
  | zero =>
    by_cases h : n = 0
    · subst h; rw [digs_zero]; rfl
    · rw [digs_pos n h]; simp
  | succ j ih =>
    by_cases h : n = 0
    · subst h; rw [digs_zero]; simp
    · rw [digs_pos n h, List.getD_cons_succ, ih, Nat.pow_succ, Nat.div_div_eq_div_mul, Nat.mul_comm]

/-- One digit's text. -/
theorem sl_dig {P : Program} {src e dst : TypeId} (hs : P.underlying src = some (.slice e)) (he : P.underlying e = some (.int .u8)) (hd : P.underlying dst = some .string) (w : World) (d : Nat) (hd8 : d < 256) (k : Nat) (hk : k = w.heap.size) :
    (convert src dst (.slice (some ⟨k, 0, none⟩) 1 1)).run P (w.alloc (.cells #[.int .u8 (d : Int)] e)) = .ok (.string ⟨#[UInt8.ofNat d]⟩) (w.alloc (.cells #[.int .u8 (d : Int)] e)) := by
  subst hk
  have := run_convert_bytes_arg (P := P) (w.alloc (.cells #[.int .u8 (d : Int)] e)) src e hs he w.heap.size 0 1 1 [(d : Int)] (by simp) (fun i hi => by
    obtain rfl : i = 0 := by simpa using hi
    rw [World.cell?_alloc_at _ _ _ _ rfl]; rfl) dst hd
  have e2 : strOfNums [(d : Int)] = ⟨#[UInt8.ofNat d]⟩ := by simp [strOfNums]
  rw [e2] at this
  simpa using this

theorem bs_cons (c : UInt8) (s : List UInt8) : ((⟨#[c]⟩ : ByteArray) ++ ⟨s.toArray⟩) = ⟨(c :: s).toArray⟩ := by
  apply ByteArray.ext
  rw [ByteArray.data_append]
  simp

/-- The highest digit. -/
theorem digs_top (n i : Nat) (h : (digs n).length = i + 1) : n / 10000 ^ i = (digs n).getD i 0 ∧ (digs n).getD i 0 ≠ 0 := by
  have h1 := digs_lt_pow n
  rw [h, Nat.pow_succ] at h1
  have hp : 0 < 10000 ^ i := Nat.pow_pos (by decide)
  have h2 : n / 10000 ^ i < 10000 := by rw [Nat.div_lt_iff_lt_mul hp]; rw [Nat.mul_comm]; exact h1
  have h3 : 10000 ^ i ≤ n := by
    rcases Nat.lt_or_ge n (10000 ^ i) with h4 | h4
    · have := digs_len i n h4; omega
    · exact h4
  rw [digs_getD, Nat.mod_eq_of_lt h2]
  exact ⟨rfl, by have := Nat.div_pos h3 hp; omega⟩
theorem div_ten (n i k : Nat) : n / 10 ^ (4 * i + k) = n / 10000 ^ i / 10 ^ k := by
  rw [Nat.pow_add, Nat.pow_mul, show (10 : Nat) ^ 4 = 10000 by decide, Nat.div_div_eq_div_mul]
theorem dg_dig (n i k : Nat) (hk : k < 4) : Lib.dg n (4 * i + k) = UInt8.ofNat (48 + (digs n).getD i 0 / 10 ^ k % 10) := by
  unfold Lib.dg; rw [digs_getD, dg_of_digs n i k hk]

set_option maxHeartbeats 1600000 in
theorem rtext_any (u : Value) (n : Nat) (w : World) (hu : Sl w u (ci64 (digs n))) (hn : (digs n).length ≤ 1099511627776) :
    Calls Tryd.prog 69 #[u] w fun e w' => e = .returned (.string ⟨(Lib.decDigits n).toArray⟩) ∧ Upd [] w w' := by
  obtain ⟨a, cap, rfl, hl, hcm⟩ := dig_open hu
  unfold maxLen at hcm
  have HA := Lib.hid hu
  obtain ⟨la, hla⟩ : ∃ la, la = (digs n).length := ⟨_, rfl⟩
  have HLA := Lib.hid hla
  rw [← hla] at hl hn HA ⊢
  clear hu hla
  by_cases h0 : la = 0
  · have HZ : Hid (n = 0) := by
      show _ = _
      rw [← dval_digs n, List.eq_nil_of_length_eq_zero (show (digs n).length = 0 by rw [← HLA.out]; exact h0)]; rfl
    subst h0
    go_enter Tryd.func69, Tryd.ntmps69
    go_wp2
    go_ret
    exact ⟨by rw [HZ.out]; exact congrArg Ending.returned (congrArg Value.string (by rw [Lib.decDigits_one (by decide)]; rfl)), Upd.refl _ _⟩
  · have e0 : ((la : Int) == 0) = false := by simp; omega
    have HDL := Lib.hid (fun i => digs_getD_lt n i)
    go_enter Tryd.func69, Tryd.ntmps69
    go_wp2
    go_loopw [3, 4, 5, 6] (fun v3 v4 _ _ wr => ∃ (i : Nat) (s : List UInt8), i ≤ la ∧ v4 = .int .i64 (i : Int) ∧ v3 = .string ⟨s.toArray⟩ ∧ Hid (i < la → s = low n (4 * i)) ∧ Hid (i = la → s = Lib.decDigits n) ∧ Upd [] w wr) (fun _ v4 _ _ _ => la - (intOf v4).toNat)
    case atStart => exact ⟨0, [], by omega, rfl, rfl, fun _ => rfl, fun h => by omega, Upd.refl _ _⟩
    case round =>
      obtain ⟨i, s, hi, rfl, rfl, HL, HD, hu⟩ := hrel
      have HU := Lib.hid hu
      clear hu
      by_cases hlt : i < la
      · have hia : (i : Int) < (la : Int) := by omega
        have hx := HDL.out i
        obtain ⟨ba, oa, rfl, hba, hca⟩ := dig_at HA.out i (by rw [← HLA.out]; exact hlt)
        have hca' : wr.cell? ⟨ba, oa + i, none⟩ = some (.int .i64 (((digs n).getD i 0 : Nat) : Int)) := (HU.out.cell (p := ⟨ba, oa + i, none⟩) hba (by simp)).trans hca
        have HTOP : Hid (i + 1 = la → n / 10000 ^ i = (digs n).getD i 0 ∧ (digs n).getD i 0 ≠ 0) := fun h => digs_top n i (by rw [← HLA.out]; exact h.symm)
        have HDG : Hid (∀ k, k < 4 → low n (4 * i + (k + 1)) = UInt8.ofNat (48 + (digs n).getD i 0 / 10 ^ k % 10) :: low n (4 * i + k)) := fun k hk => by
          rw [show 4 * i + (k + 1) = (4 * i + k) + 1 by omega, low_succ, dg_dig n i k hk]
        have HS0 : Hid (s = low n (4 * i)) := HL.out hlt
        clear hca
        generalize (digs n).getD i 0 = d at *
        go_wp2
        go_loopw [3, 5, 6] (fun v3 v5 v6 wr => ∃ (k : Nat) (s : List UInt8), k ≤ 4 ∧ v6 = .int .i64 (k : Int) ∧ v5 = .int .i64 ((d / 10 ^ k : Nat) : Int) ∧ v3 = .string ⟨s.toArray⟩ ∧ Hid (s = low n (4 * i + k)) ∧ Hid (i + 1 = la → k = 0 ∨ d / 10 ^ (k - 1) ≠ 0) ∧ Upd [] w wr) (fun _ _ v6 _ => 4 - (intOf v6).toNat)
        case atStart => exact ⟨0, s, by omega, rfl, by simp, rfl, HS0, fun _ => .inl rfl, HU.out⟩
        case round =>
          obtain ⟨k, s', hk, rfl, rfl, rfl, HS', HK', hu'⟩ := hrel
          have HU' := Lib.hid hu'
          have HDK : Hid (d / 10 ^ (k + 1) = d / 10 ^ k / 10) := by show _ = _; rw [Nat.pow_succ, Nat.div_div_eq_div_mul]
          have HNX := Lib.hid (HDG.out k)
          have hql : d / 10 ^ k < 10000 := Nat.lt_of_le_of_lt (Nat.div_le_self _ _) hx
          clear hu'
          by_cases hgo : k < 4 ∧ (i + 1 < la ∨ 0 < d / 10 ^ k)
          · obtain ⟨hk4, hor⟩ := hgo
            have hnx := HNX.out hk4
            have HD2 : Hid (d / 10 ^ k ≠ 0 ∨ i + 1 < la) := by
              rcases hor with h | h
              · exact .inr h
              · exact .inl (by omega)
            obtain ⟨q, hq⟩ : ∃ q, q = d / 10 ^ k := ⟨_, rfl⟩
            rw [← hq] at hnx HDK hql hor HD2 ⊢
            have HQ := Lib.hid hq
            obtain ⟨c, hc⟩ : ∃ c, c = 48 + q % 10 := ⟨_, rfl⟩
            rw [← hc] at hnx
            have hc8 : c < 256 := by omega
            have hcv := sl_dig (P := Tryd.prog) (dst := 9) Tryd.underlying95 Tryd.underlying5 Tryd.underlying9 wr c hc8 _ rfl
            have j1 : 48 + (q : Int) % 10 = (c : Int) := by omega
            have j2 : IntKind.u8.wrap (c : Int) = (c : Int) := by rw [IntKind.wrap_u8]; omega
            have HNX2 : Hid (UInt8.ofNat c :: s' = low n (4 * i + (k + 1))) := by show _ = _; rw [hnx, HS'.out]
            have hsl : ¬ 9223372036854775807 < 1 + s'.length := by rw [HS'.out]; simp only [low, List.length_map, List.length_range]; omega
            have HUA : Hid (Upd [] w (wr.alloc (.cells #[.int .u8 (c : Int)] 5))) := HU'.out.alloc _
            have HKN : Hid (i + 1 = la → k + 1 = 0 ∨ d / 10 ^ (k + 1 - 1) ≠ 0) := fun h => by
              rw [Nat.add_sub_cancel, ← HQ.out]
              rcases HD2.out with h1 | h1
              · exact .inr h1
              · omega
            clear hq hc hnx
            by_cases hil : i + 1 < la
            · have g1 : decide ((i : Int) < (la : Int) - 1) = true := by simp; omega
              clear hor
              go_wp2
              exact ⟨⟨k + 1, UInt8.ofNat c :: s', by omega, by go_num, by rw [HDK.out]; rfl, by rw [bs_cons], HNX2, HKN, HUA.out⟩, by simp [intOf]; omega⟩
            · have g1 : decide ((i : Int) < (la : Int) - 1) = false := by simp; omega
              have g2 : decide (0 < q) = true := by rw [decide_eq_true_eq]; rcases hor with h | h; exact absurd h hil; exact h
              clear hor
              go_wp2
              exact ⟨⟨k + 1, UInt8.ofNat c :: s', by omega, by go_num, by rw [HDK.out]; rfl, by rw [bs_cons], HNX2, HKN, HUA.out⟩, by simp [intOf]; omega⟩
          · have hex : k = 4 ∨ (i + 1 = la ∧ d / 10 ^ k = 0) := by
              revert hgo; generalize d / 10 ^ k = q; intro hgo; omega
            have HF1 : Hid (i + 1 < la → s' = low n (4 * (i + 1))) := fun h => by
              rw [HS'.out]
              have : k = 4 := by omega
              rw [this, show 4 * i + 4 = 4 * (i + 1) by omega]
            have HF2 : Hid (i + 1 = la → s' = Lib.decDigits n) := fun h => by
              obtain ⟨ht1, ht2⟩ := HTOP.out h
              have hz : d / 10 ^ k = 0 := by
                rcases hex with rfl | h1
                · exact Nat.div_eq_of_lt hx
                · exact h1.2
              have hk0 : k ≠ 0 := by
                rintro rfl
                simp at hz
                exact ht2 hz
              rw [HS'.out]
              refine low_done n (4 * i + k) ?_ ?_ ?_
              · rintro rfl; simp at ht1; exact ht2 ht1.symm
              · rw [div_ten, ht1]; exact hz
              · rw [show 4 * i + k - 1 = 4 * i + (k - 1) by omega, div_ten, ht1]
                rcases HK'.out h with h1 | h1
                · exact absurd h1 hk0
                · exact h1
            generalize d / 10 ^ k = q at *
            by_cases hk4 : k < 4
            · have hx2 : i + 1 = la ∧ q = 0 := by
                rcases hex with h | h
                · exact absurd h (by omega)
                · exact h
              have g1 : decide ((i : Int) < (la : Int) - 1) = false := by simp; omega
              have g2 : decide (0 < q) = false := by rw [hx2.2]; rfl
              clear hx2
              clear hex hgo
              go_wp2
              exact ⟨⟨i + 1, s', by omega, by go_num, rfl, HF1, HF2, HU'.out⟩, by simp [intOf]; omega⟩
            · clear hex hgo
              go_wp2
              exact ⟨⟨i + 1, s', by omega, by go_num, rfl, HF1, HF2, HU'.out⟩, by simp [intOf]; omega⟩
      · obtain rfl : i = la := by omega
        have HF : Hid (s = Lib.decDigits n) := HD.out rfl
        go_wp2
        go_ret
        exact ⟨by rw [← HF.out]; rfl, HU.out⟩
end Go.Proofs.YtoklmfmoblkfcaaDoor
