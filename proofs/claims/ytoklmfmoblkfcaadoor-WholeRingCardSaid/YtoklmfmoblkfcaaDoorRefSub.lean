/- The document's own numbers of layer 5: contract of Sub. -/
import Derived.Test.YtoklmfmoblkfcaaDoorAb
namespace Go.Proofs.YtoklmfmoblkfcaaDoor
open Go.RowKit Go.Proofs.Tm
set_option linter.unusedVariables false
set_option linter.unusedSimpArgs false
set_option maxRecDepth 20000

/-- Round by round of Sub. -/
structure SubI (m n : Nat) (w : World) (i c : Nat) (L : List Nat) (v : Value) (wr : World) : Prop where
  own : wr.ownsRow w.heap.size 3 1 v i (ci64 L)
  len : L.length = i
  c1 : c ≤ 1
  lt : ∀ d ∈ L, d < 10000
  eq : dval ((digs m).take i) + 10000 ^ i * c = dval L + dval ((digs n).take i)
  upd : Upd [] w wr

set_option maxHeartbeats 1600000 in
theorem rsub_any (u v : Value) (m n : Nat) (w : World) (hu : Sl w u (ci64 (digs m))) (hv : Sl w v (ci64 (digs n))) (hm : (digs m).length ≤ 1099511627776) (hnm : n ≤ m) :
    Calls Tryd.prog 46 #[u, v] w (RDig (m - n) w) := by
  obtain ⟨a, cap, rfl, hl, hcm⟩ := dig_open hu
  obtain ⟨b, cap', rfl, hl', hcm'⟩ := dig_open hv
  unfold maxLen at hcm hcm'
  have HA := Lib.hid hu
  have HB := Lib.hid hv
  have HXL := Lib.hid (fun i => digs_getD_lt m i)
  have HYL := Lib.hid (fun i => digs_getD_lt n i)
  have hlen := digs_length_le hnm
  obtain ⟨la, hla⟩ : ∃ la, la = (digs m).length := ⟨_, rfl⟩
  obtain ⟨lb, hlb⟩ : ∃ lb, lb = (digs n).length := ⟨_, rfl⟩
  have HLA := Lib.hid hla
  have HLB := Lib.hid hlb
  rw [← hla] at hl hm HA hlen ⊢
  rw [← hlb] at hl' HB hlen ⊢
  have HNM := Lib.hid hnm
  clear hu hv hla hlb hnm
  go_enter Tryd.func46, Tryd.ntmps46
  go_wp2
  go_loopw [5, 6, 7] (fun v5 v6 v7 wr => ∃ (i c : Nat) (L : List Nat), i ≤ la ∧ v7 = .int .i64 (i : Int) ∧ v6 = .int .i64 (c : Int) ∧ SubI m n w i c L v5 wr) (fun _ _ v7 _ => la + 2 - (intOf v7).toNat)
  case atStart => exact ⟨0, 0, [], by omega, rfl, rfl, ⟨by simp, .inl ⟨rfl, rfl⟩⟩, rfl, by omega, by simp, by simp [dval], Upd.refl _ _⟩
  case round =>
    obtain ⟨i, c, L, hi, rfl, rfl, hinv⟩ := hrel
    obtain ⟨a5, c5, rfl⟩ := own_ex hinv.own
    have HO := Lib.hid hinv.own
    have HLN := Lib.hid hinv.len
    have HLT := Lib.hid hinv.lt
    have HU := Lib.hid hinv.upd
    have HE := Lib.hid hinv.eq
    have hc1 := hinv.c1
    have i0 : (0 : Int) ≤ (i : Int) := by omega
    clear hinv
    by_cases h1 : i < la
    · have hia : (i : Int) < (la : Int) := by omega
      have hx := HXL.out i
      have hy := HYL.out i
      obtain ⟨d, c', hd, hdl, hcl⟩ : ∃ d c', (digs m).getD i 0 + 10000 * c' = d + c + (digs n).getD i 0 ∧ d < 10000 ∧ c' ≤ 1 := by
        by_cases h : (digs m).getD i 0 < c + (digs n).getD i 0
        · exact ⟨(digs m).getD i 0 + 10000 - c - (digs n).getD i 0, 1, by omega, by omega, by omega⟩
        · exact ⟨(digs m).getD i 0 - c - (digs n).getD i 0, 0, by omega, by omega, by omega⟩
      have hsub := sub_step (digs m) (digs n) L i c d c' HLN.out HE.out hd
      have HSUB := Lib.hid hsub
      obtain ⟨ba, oa, rfl, hba, hca⟩ := dig_at HA.out i (by rw [← HLA.out]; exact h1)
      have hca' : wr.cell? ⟨ba, oa + i, none⟩ = some (.int .i64 (((digs m).getD i 0 : Nat) : Int)) := (HU.out.cell (p := ⟨ba, oa + i, none⟩) hba (by simp)).trans hca
      clear hca hsub
      by_cases h2 : i < lb
      · have hib : (i : Int) < (lb : Int) := by omega
        obtain ⟨bb, ob, rfl, hbb, hcb⟩ := dig_at HB.out i (by rw [← HLB.out]; exact h2)
        have hcb' : wr.cell? ⟨bb, ob + i, none⟩ = some (.int .i64 (((digs n).getD i 0 : Nat) : Int)) := (HU.out.cell (p := ⟨bb, ob + i, none⟩) hbb (by simp)).trans hcb
        clear hcb
        generalize (digs m).getD i 0 = x at *
        generalize (digs n).getD i 0 = y at *
        by_cases hd2 : x < c + y
        · skip
          have j1 : decide ((x : Int) - (c : Int) - (y : Int) < 0) = true := by simp; omega
          have i1 : (x : Int) - (c : Int) - (y : Int) + 10000 = (d : Int) := by omega
          have hc0 : c' = 1 := by omega
          have HC := Lib.hid hc0
          clear hc0 hd2 hd
          go_wp2_with (at_builtin; refine wpList_append_sl _ rfl (.tmp 35) (.tmp 37) 31 rfl w.heap.size 3 (.int .i64 0) 8 Tryd.underlying31 infoI64 rfl _ _ _ rfl (ownsRow_upd HO.out ((Upd.refl [] _).alloc _) (by simp)) _ (ci64 [d]) rfl (Sl.lit1 _ _ _) (ci64_one _) ?c2 ?c3 ?c4 ?go)
          case c2 => unfold maxLen; simp; omega
          case c3 => simp; omega
          case c4 => have := HU.out.size; simp; omega
          case go =>
            intro v6 w6 ho6 hg6 hfr
            have HF : Hid (SubI m n w (i + 1) c' (L ++ [d]) v6 w6) := ⟨by rw [ci64_append]; simpa using ho6, by simp [HLN.out], hcl, fun e he => by rcases List.mem_append.1 he with h | h; exact HLT.out e h; simp at h; omega, HSUB.out, (HU.out.alloc _).grown hg6 (fun k hk => .inr (HO.out.lt k hk).1)⟩
            clear ho6 hg6 hfr
            go_wp2
            exact ⟨⟨i + 1, c', L ++ [d], by omega, by go_num, by rw [HC.out]; rfl, HF.out⟩, by simp [intOf]; omega⟩
        · skip
          have j1 : decide ((x : Int) - (c : Int) - (y : Int) < 0) = false := by simp; omega
          have i1 : (x : Int) - (c : Int) - (y : Int) = (d : Int) := by omega
          have hc0 : c' = 0 := by omega
          have HC := Lib.hid hc0
          clear hc0 hd2 hd
          go_wp2_with (at_builtin; refine wpList_append_sl _ rfl (.tmp 35) (.tmp 37) 31 rfl w.heap.size 3 (.int .i64 0) 8 Tryd.underlying31 infoI64 rfl _ _ _ rfl (ownsRow_upd HO.out ((Upd.refl [] _).alloc _) (by simp)) _ (ci64 [d]) rfl (Sl.lit1 _ _ _) (ci64_one _) ?c2 ?c3 ?c4 ?go)
          case c2 => unfold maxLen; simp; omega
          case c3 => simp; omega
          case c4 => have := HU.out.size; simp; omega
          case go =>
            intro v6 w6 ho6 hg6 hfr
            have HF : Hid (SubI m n w (i + 1) c' (L ++ [d]) v6 w6) := ⟨by rw [ci64_append]; simpa using ho6, by simp [HLN.out], hcl, fun e he => by rcases List.mem_append.1 he with h | h; exact HLT.out e h; simp at h; omega, HSUB.out, (HU.out.alloc _).grown hg6 (fun k hk => .inr (HO.out.lt k hk).1)⟩
            clear ho6 hg6 hfr
            go_wp2
            exact ⟨⟨i + 1, c', L ++ [d], by omega, by go_num, by rw [HC.out]; rfl, HF.out⟩, by simp [intOf]; omega⟩
      · have hib : decide (i < lb) = false := by simp; omega
        have hy0 : (digs n).getD i 0 = 0 := getD_over _ _ (by have := HLB.out; omega)
        rw [hy0] at hd
        clear hy0 hy
        generalize (digs m).getD i 0 = x at *
        by_cases hd2 : x < c
        · skip
          have j1 : decide ((x : Int) - (c : Int) < 0) = true := by simp; omega
          have i1 : (x : Int) - (c : Int) + 10000 = (d : Int) := by omega
          have hc0 : c' = 1 := by omega
          have HC := Lib.hid hc0
          clear hc0 hd2 hd
          go_wp2_with (at_builtin; refine wpList_append_sl _ rfl (.tmp 35) (.tmp 37) 31 rfl w.heap.size 3 (.int .i64 0) 8 Tryd.underlying31 infoI64 rfl _ _ _ rfl (ownsRow_upd HO.out ((Upd.refl [] _).alloc _) (by simp)) _ (ci64 [d]) rfl (Sl.lit1 _ _ _) (ci64_one _) ?c2 ?c3 ?c4 ?go)
          case c2 => unfold maxLen; simp; omega
          case c3 => simp; omega
          case c4 => have := HU.out.size; simp; omega
          case go =>
            intro v6 w6 ho6 hg6 hfr
            have HF : Hid (SubI m n w (i + 1) c' (L ++ [d]) v6 w6) := ⟨by rw [ci64_append]; simpa using ho6, by simp [HLN.out], hcl, fun e he => by rcases List.mem_append.1 he with h | h; exact HLT.out e h; simp at h; omega, HSUB.out, (HU.out.alloc _).grown hg6 (fun k hk => .inr (HO.out.lt k hk).1)⟩
            clear ho6 hg6 hfr
            go_wp2
            exact ⟨⟨i + 1, c', L ++ [d], by omega, by go_num, by rw [HC.out]; rfl, HF.out⟩, by simp [intOf]; omega⟩
        · skip
          have j1 : decide ((x : Int) - (c : Int) < 0) = false := by simp; omega
          have i1 : (x : Int) - (c : Int) = (d : Int) := by omega
          have hc0 : c' = 0 := by omega
          have HC := Lib.hid hc0
          clear hc0 hd2 hd
          go_wp2_with (at_builtin; refine wpList_append_sl _ rfl (.tmp 35) (.tmp 37) 31 rfl w.heap.size 3 (.int .i64 0) 8 Tryd.underlying31 infoI64 rfl _ _ _ rfl (ownsRow_upd HO.out ((Upd.refl [] _).alloc _) (by simp)) _ (ci64 [d]) rfl (Sl.lit1 _ _ _) (ci64_one _) ?c2 ?c3 ?c4 ?go)
          case c2 => unfold maxLen; simp; omega
          case c3 => simp; omega
          case c4 => have := HU.out.size; simp; omega
          case go =>
            intro v6 w6 ho6 hg6 hfr
            have HF : Hid (SubI m n w (i + 1) c' (L ++ [d]) v6 w6) := ⟨by rw [ci64_append]; simpa using ho6, by simp [HLN.out], hcl, fun e he => by rcases List.mem_append.1 he with h | h; exact HLT.out e h; simp at h; omega, HSUB.out, (HU.out.alloc _).grown hg6 (fun k hk => .inr (HO.out.lt k hk).1)⟩
            clear ho6 hg6 hfr
            go_wp2
            exact ⟨⟨i + 1, c', L ++ [d], by omega, by go_num, by rw [HC.out]; rfl, HF.out⟩, by simp [intOf]; omega⟩
    · obtain rfl : i = la := by omega
      have HFIN : Hid (dval L = m - n) := by
        show _ = _
        have he := HE.out
        have hlt := dval_lt L HLT.out
        rw [HLN.out] at hlt
        rw [List.take_of_length_le (by rw [← HLA.out]; exact Nat.le_refl _), List.take_of_length_le (by rw [← HLB.out]; exact hlen), dval_digs, dval_digs] at he
        have := HNM.out
        have hcc : c = 0 ∨ c = 1 := by omega
        rcases hcc with rfl | rfl
        · omega
        · generalize 10000 ^ i = T at *
          omega
      have HSL := Lib.hid (Sl.own HO.out)
      go_wp2_with fail
      refine (trim_any _ L _ HSL.out HLT.out).mono ?_
      rintro e w7 ⟨v7, rfl, hs7, rfl⟩
      have HF : Hid (Sl w7 v7 (ci64 (digs (m - n)))) := by show Sl _ _ _; rw [← HFIN.out]; exact hs7
      clear hs7
      go_wp2
      go_ret
      exact ⟨_, rfl, HF.out, HU.out⟩
end Go.Proofs.YtoklmfmoblkfcaaDoor
