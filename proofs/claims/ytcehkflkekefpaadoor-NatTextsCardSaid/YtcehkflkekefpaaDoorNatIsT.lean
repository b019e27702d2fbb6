/- The contract of nat.isText (layer 5). -/
import Derived.Test.YtcehkflkekefpaaDoorNatText
namespace Go.Proofs.YtcehkflkekefpaaDoor
open Go.RowKit Go.Proofs.Tm
set_option linter.unusedVariables false
set_option linter.unusedSimpArgs false
set_option maxRecDepth 20000

def isDig (c : UInt8) : Bool := decide (48 ≤ c.toNat) && decide (c.toNat ≤ 57)
/-- Is it the text of a number? -/
def isTxt (l : List UInt8) : Bool := !l.isEmpty && (l.length == 1 || l.getD 0 0 != 48) && l.all isDig

theorem all_take_false {l : List UInt8} {i : Nat} (hi : i < l.length) (h : isDig (l.getD i 0) = false) : l.all isDig = false := by
  rw [List.all_eq_false]
  refine ⟨l[i], List.getElem_mem hi, ?_⟩
  rw [List.getD_eq_getElem?_getD, List.getElem?_eq_getElem hi] at h
  simpa using h
theorem all_take_succ {l : List UInt8} {i : Nat} (hi : i < l.length) (h0 : (l.take i).all isDig = true) (h : isDig (l.getD i 0) = true) : (l.take (i + 1)).all isDig = true := by
  rw [List.getD_eq_getElem?_getD, List.getElem?_eq_getElem hi] at h
  rw [List.take_add_one, List.getElem?_eq_getElem hi, List.all_append, h0]
  simpa using h

set_option maxHeartbeats 800000 in
theorem istext_any (t : ByteArray) (w : World) (hlen : t.size ≤ 4611686018427387904) :
    Calls Tryd.prog 75 #[.string t] w fun e w' => e = .returned (.bool (isTxt t.data.toList)) ∧ Upd [] w w' := by
  obtain ⟨l, hl⟩ : ∃ l, l = t.data.toList := ⟨_, rfl⟩
  have hsz : l.length = t.size := by rw [hl]; simp
  by_cases h0 : t.size = 0
  · have ht : t = ByteArray.empty := by simpa using h0
    subst ht
    clear hl hsz h0
    go_enter Tryd.func75, Tryd.ntmps75
    go_wp2
    go_ret
    exact ⟨rfl, Upd.refl _ _⟩
  · have hpos : 0 < t.size := Nat.pos_of_ne_zero h0
    have he : t.toList.isEmpty = false := by
      rw [ByteArray.toList_eq, ← hl]
      cases l with
      | nil => simp at hsz; omega
      | cons _ _ => rfl
    have hle : l.isEmpty = false := by rw [hl, ← ByteArray.toList_eq]; exact he
    obtain ⟨x, hx⟩ : ∃ x, x = (l.getD 0 0).toNat := ⟨_, rfl⟩
    have hx0 : (t[0]'hpos).toNat = x := by rw [hx, hl]; simp [ByteArray.getElem_eq_getElem_data, List.getD, hpos]
    have hcv := Lib.run_convert_string_bytes (P := Tryd.prog) w 9 109 5 t rfl rfl rfl
    obtain ⟨wb, hwb⟩ : ∃ W, W = Lib.bytesWorld w 5 t := ⟨_, rfl⟩
    have HCELL : Hid (∀ j, j < t.size → wb.cell? ⟨w.heap.size, j, none⟩ = some (.int .u8 ((l.getD j 0).toNat : Int))) := fun j hj => by rw [hwb, hl]; exact Lib.bytesWorld_cell w _ t j hj
    have HU : Hid (Upd [] w wb) := by rw [hwb]; exact upd_below (Upd.refl _ _) (Lib.bytesWorld_below _ _ _) (Nat.le_refl _)
    rw [← hwb] at hcv
    obtain ⟨n, hn⟩ : ∃ n, n = t.size := ⟨_, rfl⟩
    have HT : Hid (isTxt t.data.toList = ((n == 1 || x != 48) && l.all isDig)) := by
      show _ = _
      rw [← hl, isTxt, hle, hsz, hx, ← hn]
      have : (l.getD 0 0 != 48) = ((l.getD 0 0).toNat != 48) := by
        rw [Bool.eq_iff_iff]; simp [← UInt8.toNat_inj]
      rw [this]; simp
    have hn0 : 0 < n := by omega
    have HN : Hid (l.length = n) := by rw [hn]; exact hsz
    rw [← hn] at HCELL
    clear hwb hx hl hsz h0 hle
    have b0 : (0 : Int) < (t.size : Int) := by omega
    have hln : n ≤ 4611686018427387904 := by omega
    have HS0 := Lib.hid hn
    by_cases hx48 : x = 48
    · by_cases h1 : 1 < n
      · have g1 : decide (1 < t.size) = true := by simp; omega
        have HR : Hid (isTxt t.data.toList = false) := by
          show _ = _
          rw [HT.out, hx48]
          have : (n == 1) = false := by simp; omega
          rw [this]; simp
        go_enter Tryd.func75, Tryd.ntmps75
        go_wp2
        go_ret
        exact ⟨by rw [HR.out]; rfl, Upd.refl _ _⟩
      · have g1 : decide (1 < t.size) = false := by simp; omega
        have HQ : Hid ((n == 1 || x != 48) = true) := by
          show _ = _
          have : (n == 1) = true := by simp; omega
          rw [this]; simp
        go_enter Tryd.func75, Tryd.ntmps75
        go_wp2_with fail
        clear hcv hx0 he
        go_loopw [4, 20] (fun v4 v20 wr => ∃ i : Nat, i ≤ n ∧ v20 = .int .i64 (i : Int) ∧ (l.take i).all isDig = true ∧ wr = wb) (fun _ v20 _ => n - (intOf v20).toNat)
        case atStart => exact ⟨0, Nat.zero_le _, rfl, rfl, rfl⟩
        case round =>
          obtain ⟨i, hi, rfl, hal, rfl⟩ := hrel
          by_cases hlt : i < n
          · have g1 : decide (i < n) = true := by simpa using hlt
            have hc := HCELL.out i hlt
            have HAL := Lib.hid hal
            have HDG : Hid (isDig (l.getD i 0) = (decide (48 ≤ (l.getD i 0).toNat) && decide ((l.getD i 0).toNat ≤ 57))) := rfl
            have HS : Hid (isDig (l.getD i 0) = true → (l.take (i + 1)).all isDig = true) := fun h => all_take_succ (by have := HN.out; omega) HAL.out h
            have HF : Hid (isDig (l.getD i 0) = false → l.all isDig = false) := fun h => all_take_false (by have := HN.out; omega) h
            have i0 : (0 : Int) ≤ (i : Int) := by omega
            have i1 : (i : Int) < (n : Int) := by omega
            obtain ⟨c, hcd⟩ : ∃ c, c = (l.getD i 0).toNat := ⟨_, rfl⟩
            rw [← hcd] at hc HDG
            clear hal hcd
            by_cases hc1 : c < 48
            · have g2 : decide (c < 48) = true := by simpa using hc1
              have HR : Hid (isTxt t.data.toList = false) := by
                show _ = _
                rw [HT.out, HF.out (by rw [HDG.out, decide_eq_false (by omega)]; rfl)]; simp
              go_wp2
              go_ret
              exact ⟨by rw [HR.out]; rfl, HU.out⟩
            · by_cases hc2 : 57 < c
              · have g2 : decide (c < 48) = false := by simp; omega
                have g3 : decide (57 < c) = true := by simpa using hc2
                have HR : Hid (isTxt t.data.toList = false) := by
                  show _ = _
                  rw [HT.out, HF.out (by rw [HDG.out, decide_eq_false (show ¬ c ≤ 57 by omega)]; simp)]; simp
                go_wp2
                go_ret
                exact ⟨by rw [HR.out]; rfl, HU.out⟩
              · have g2 : decide (c < 48) = false := by simp; omega
                have g3 : decide (57 < c) = false := by simp; omega
                have HS2 := Lib.hid (HS.out (by rw [HDG.out, decide_eq_true (by omega), decide_eq_true (by omega)]; rfl))
                go_wp2_with fail
                refine ⟨⟨i + 1, by omega, by go_num, HS2.out, trivial⟩, by simp [intOf]; omega⟩
          · obtain rfl : i = n := by omega
            have g1 : decide (i < i) = false := by simp
            have HR : Hid (isTxt t.data.toList = true) := by
              show _ = _
              have e : l.take i = l := List.take_of_length_le (by have := HN.out; omega)
              rw [e] at hal
              rw [HT.out, hal, HQ.out]; rfl
            go_wp2
            go_ret
            exact ⟨by rw [HR.out]; rfl, HU.out⟩
    · have g0 : ((x : Int) == 48) = false := by simp; omega
      have HQ : Hid ((n == 1 || x != 48) = true) := by
        show _ = _
        have : (x != 48) = true := by simpa using hx48
        rw [this]; simp
      go_enter Tryd.func75, Tryd.ntmps75
      go_wp2_with fail
      clear hcv hx0 he
      go_loopw [4, 20] (fun v4 v20 wr => ∃ i : Nat, i ≤ n ∧ v20 = .int .i64 (i : Int) ∧ (l.take i).all isDig = true ∧ wr = wb) (fun _ v20 _ => n - (intOf v20).toNat)
      case atStart => exact ⟨0, Nat.zero_le _, rfl, rfl, rfl⟩
      case round =>
        obtain ⟨i, hi, rfl, hal, rfl⟩ := hrel
        by_cases hlt : i < n
        · have g1 : decide (i < n) = true := by simpa using hlt
          have hc := HCELL.out i hlt
          have HAL := Lib.hid hal
          have HDG : Hid (isDig (l.getD i 0) = (decide (48 ≤ (l.getD i 0).toNat) && decide ((l.getD i 0).toNat ≤ 57))) := rfl
          have HS : Hid (isDig (l.getD i 0) = true → (l.take (i + 1)).all isDig = true) := fun h => all_take_succ (by have := HN.out; omega) HAL.out h
          have HF : Hid (isDig (l.getD i 0) = false → l.all isDig = false) := fun h => all_take_false (by have := HN.out; omega) h
          have i0 : (0 : Int) ≤ (i : Int) := by omega
          have i1 : (i : Int) < (n : Int) := by omega
          obtain ⟨c, hcd⟩ : ∃ c, c = (l.getD i 0).toNat := ⟨_, rfl⟩
          rw [← hcd] at hc HDG
          clear hal hcd
          by_cases hc1 : c < 48
          · have g2 : decide (c < 48) = true := by simpa using hc1
            have HR : Hid (isTxt t.data.toList = false) := by
              show _ = _
              rw [HT.out, HF.out (by rw [HDG.out, decide_eq_false (by omega)]; rfl)]; simp
            go_wp2
            go_ret
            exact ⟨by rw [HR.out]; rfl, HU.out⟩
          · by_cases hc2 : 57 < c
            · have g2 : decide (c < 48) = false := by simp; omega
              have g3 : decide (57 < c) = true := by simpa using hc2
              have HR : Hid (isTxt t.data.toList = false) := by
                show _ = _
                rw [HT.out, HF.out (by rw [HDG.out, decide_eq_false (show ¬ c ≤ 57 by omega)]; simp)]; simp
              go_wp2
              go_ret
              exact ⟨by rw [HR.out]; rfl, HU.out⟩
            · have g2 : decide (c < 48) = false := by simp; omega
              have g3 : decide (57 < c) = false := by simp; omega
              have HS2 := Lib.hid (HS.out (by rw [HDG.out, decide_eq_true (by omega), decide_eq_true (by omega)]; rfl))
              go_wp2_with fail
              refine ⟨⟨i + 1, by omega, by go_num, HS2.out, trivial⟩, by simp [intOf]; omega⟩
        · obtain rfl : i = n := by omega
          have g1 : decide (i < i) = false := by simp
          have HR : Hid (isTxt t.data.toList = true) := by
            show _ = _
            have e : l.take i = l := List.take_of_length_le (by have := HN.out; omega)
            rw [e] at hal
            rw [HT.out, hal, HQ.out]; rfl
          go_wp2
          go_ret
          exact ⟨by rw [HR.out]; rfl, HU.out⟩
end Go.Proofs.YtcehkflkekefpaaDoor
