/- The document's own numbers of layer 5: contract of Add. -/
import Derived.Test.YtoklmfmoblkfcaaGreatDoorRefDig
namespace Go.Proofs.YtoklmfmoblkfcaaGreatDoor
open Go.RowKit Go.Proofs.Tm
set_option linter.unusedVariables false
set_option linter.unusedSimpArgs false
set_option maxRecDepth 20000

theorem dig_at {w : World} {a : Option Addr} {len cap : Nat} {D : List Nat} (h : Sl w (.slice a len cap) (ci64 D)) (i : Nat) (hi : i < D.length) : ∃ b o, a = some ⟨b, o, none⟩ ∧ b < w.heap.size ∧ w.cell? ⟨b, o + i, none⟩ = some (.int .i64 ((D.getD i 0 : Nat) : Int)) := by
  obtain ⟨b, o, cap', hv, hc⟩ := sl_at h (by rw [ci64_nil]; intro e; rw [e] at hi; simp at hi)
  simp only [Value.slice.injEq] at hv
  have := hc i (by rw [ci64_length]; exact hi)
  rw [ci64_getD _ _ hi] at this
  exact ⟨b, o, hv.1, World.block_lt_of_cell? w _ this, this⟩
theorem getD_over (l : List Nat) (i : Nat) (h : l.length ≤ i) : l.getD i 0 = 0 := by simp [h]
theorem digs_getD_lt (n i : Nat) : (digs n).getD i 0 < 10000 := by
  rcases Nat.lt_or_ge i (digs n).length with hi | hi
  · have : (digs n).getD i 0 = (digs n)[i] := by simp [hi]
    rw [this]; exact digs_lt n _ (List.getElem_mem hi)
  · have : (digs n).getD i 0 = 0 := by simp [hi]
    rw [this]; decide
theorem dig_open {w : World} {v : Value} {n : Nat} (h : Sl w v (ci64 (digs n))) : ∃ a cap, v = .slice a (digs n).length cap ∧ (digs n).length ≤ cap ∧ cap ≤ maxLen := by
  obtain ⟨a, cap, rfl, h1, h2, _⟩ := h
  rw [ci64_length] at *
  exact ⟨a, cap, rfl, h1, h2⟩

/-- Round by round of Add. -/
structure AddI (m n : Nat) (w : World) (M i c : Nat) (L : List Nat) (v : Value) (wr : World) : Prop where
  own : wr.ownsRow w.heap.size 3 1 v i (ci64 L)
  len : L.length = i
  c1 : c ≤ 1
  lt : ∀ d ∈ L, d < 10000
  room : i ≤ M ∨ (i = M + 1 ∧ c = 0)
  eq : dval L + 10000 ^ i * c = dval ((digs m).take i) + dval ((digs n).take i)
  upd : Upd [] w wr

set_option maxHeartbeats 1600000 in
theorem radd_any (u v : Value) (m n : Nat) (w : World) (hu : Sl w u (ci64 (digs m))) (hv : Sl w v (ci64 (digs n))) (hm : (digs m).length ≤ 1099511627776) (hn : (digs n).length ≤ 1099511627776) :
    Calls Tryz.prog 75 #[u, v] w (RDig (m + n) w) := by
  obtain ⟨a, cap, rfl, hl, hcm⟩ := dig_open hu
  obtain ⟨b, cap', rfl, hl', hcm'⟩ := dig_open hv
  unfold maxLen at hcm hcm'
  have HA := Lib.hid hu
  have HB := Lib.hid hv
  have HXL := Lib.hid (fun i => digs_getD_lt m i)
  have HYL := Lib.hid (fun i => digs_getD_lt n i)
  obtain ⟨la, hla⟩ : ∃ la, la = (digs m).length := ⟨_, rfl⟩
  obtain ⟨lb, hlb⟩ : ∃ lb, lb = (digs n).length := ⟨_, rfl⟩
  obtain ⟨M, hM⟩ : ∃ M, M = max la lb := ⟨_, rfl⟩
  have HLA := Lib.hid hla
  have HLB := Lib.hid hlb
  rw [← hla] at hl hm HA ⊢
  rw [← hlb] at hl' hn HB ⊢
  have hM1 : la ≤ M := by omega
  have hM2 : lb ≤ M := by omega
  have hM3 : M ≤ 1099511627776 := by omega
  have hM4 : M = la ∨ M = lb := by omega
  clear hu hv hla hlb hM
  go_enter Tryz.func75, Tryz.ntmps75
  go_wp2
  go_loopw [5, 6, 7] (fun v5 v6 v7 wr => ∃ (i c : Nat) (L : List Nat), v7 = .int .i64 (i : Int) ∧ v6 = .int .i64 (c : Int) ∧ AddI m n w M i c L v5 wr) (fun _ _ v7 _ => M + 2 - (intOf v7).toNat)
  case atStart => exact ⟨0, 0, [], rfl, rfl, ⟨by simp, .inl ⟨rfl, rfl⟩⟩, rfl, by omega, by simp, by omega, by simp [dval], Upd.refl _ _⟩
  case round =>
    obtain ⟨i, c, L, rfl, rfl, hinv⟩ := hrel
    obtain ⟨a5, c5, rfl⟩ := own_ex hinv.own
    have HO := Lib.hid hinv.own
    have HLN := Lib.hid hinv.len
    have HLT := Lib.hid hinv.lt
    have HU := Lib.hid hinv.upd
    have HE := Lib.hid hinv.eq
    have hc1 := hinv.c1
    have hroom := hinv.room
    have i0 : (0 : Int) ≤ (i : Int) := by omega
    clear hinv
    obtain ⟨t, ht⟩ : ∃ t, t = c + (digs m).getD i 0 + (digs n).getD i 0 := ⟨_, rfl⟩
    have hadd := add_step (digs m) (digs n) L i c t HLN.out HE.out ht
    obtain ⟨d, hd⟩ : ∃ d, d = t % 10000 := ⟨_, rfl⟩
    obtain ⟨c', hc'⟩ : ∃ c', c' = t / 10000 := ⟨_, rfl⟩
    rw [← hd, ← hc'] at hadd
    rw [ht] at hd hc'
    clear ht
    by_cases h1 : i < la
    · have hia : (i : Int) < (la : Int) := by omega
      by_cases h2 : i < lb
      · have hib : (i : Int) < (lb : Int) := by omega
        have hx := HXL.out i
        obtain ⟨ba, oa, rfl, hba, hca⟩ := dig_at HA.out i (by rw [← HLA.out]; exact h1)
        have hca' : wr.cell? ⟨ba, oa + i, none⟩ = some (.int .i64 (((digs m).getD i 0 : Nat) : Int)) := (HU.out.cell (p := ⟨ba, oa + i, none⟩) hba (by simp)).trans hca
        clear hca
        have hy := HYL.out i
        obtain ⟨bb, ob, rfl, hbb, hcb⟩ := dig_at HB.out i (by rw [← HLB.out]; exact h2)
        have hcb' : wr.cell? ⟨bb, ob + i, none⟩ = some (.int .i64 (((digs n).getD i 0 : Nat) : Int)) := (HU.out.cell (p := ⟨bb, ob + i, none⟩) hbb (by simp)).trans hcb
        clear hcb
        have HADD := Lib.hid hadd
        clear hadd
        generalize (digs m).getD i 0 = x at *
        generalize (digs n).getD i 0 = y at *
        have i1 : ((c : Int) + (x : Int) + (y : Int)) % 10000 = (d : Int) := by omega
        have i2 : ((c : Int) + (x : Int) + (y : Int)) / 10000 = (c' : Int) := by omega
        have hcl : c' ≤ 1 := by omega
        have hMi : i + 1 ≤ M ∨ (i + 1 = M + 1 ∧ c' = 0) := by omega
        have HMI := Lib.hid hMi
        have hdl : d < 10000 := by omega
        clear hMi hd hc'
        go_wp2_with (at_builtin; refine wpList_append_sl _ rfl (.tmp 44) (.tmp 47) 31 rfl w.heap.size 3 (.int .i64 0) 8 Tryz.underlying31 infoI64 rfl _ _ _ rfl (ownsRow_upd HO.out ((Upd.refl [] _).alloc _) (by simp)) _ (ci64 [d]) rfl (Sl.lit1 _ _ _) (ci64_one _) ?c2 ?c3 ?c4 ?go)
        case c2 => unfold maxLen; simp; omega
        case c3 => simp; omega
        case c4 => have := HU.out.size; simp; omega
        case go =>
          intro v6 w6 ho6 hg6 hfr
          have HF : Hid (AddI m n w M (i + 1) c' (L ++ [d]) v6 w6) := ⟨by rw [ci64_append]; simpa using ho6, by simp [HLN.out], hcl, fun e he => by rcases List.mem_append.1 he with h | h; exact HLT.out e h; simp at h; omega, HMI.out, HADD.out, (HU.out.alloc _).grown hg6 (fun k hk => .inr (HO.out.lt k hk).1)⟩
          clear ho6 hg6 hfr
          go_wp2
          exact ⟨⟨i + 1, c', L ++ [d], by go_num, by go_num, HF.out⟩, by simp [intOf]; omega⟩
      · have hib : decide (i < lb) = false := by simp; omega
        have hx := HXL.out i
        obtain ⟨ba, oa, rfl, hba, hca⟩ := dig_at HA.out i (by rw [← HLA.out]; exact h1)
        have hca' : wr.cell? ⟨ba, oa + i, none⟩ = some (.int .i64 (((digs m).getD i 0 : Nat) : Int)) := (HU.out.cell (p := ⟨ba, oa + i, none⟩) hba (by simp)).trans hca
        clear hca
        have hy0 : (digs n).getD i 0 = 0 := getD_over _ _ (by have := HLB.out; omega)
        rw [hy0] at hd hc'
        clear hy0
        have HADD := Lib.hid hadd
        clear hadd
        generalize (digs m).getD i 0 = x at *
        have i1 : ((c : Int) + (x : Int)) % 10000 = (d : Int) := by omega
        have i2 : ((c : Int) + (x : Int)) / 10000 = (c' : Int) := by omega
        have hcl : c' ≤ 1 := by omega
        have hMi : i + 1 ≤ M ∨ (i + 1 = M + 1 ∧ c' = 0) := by omega
        have HMI := Lib.hid hMi
        have hdl : d < 10000 := by omega
        clear hMi hd hc'
        go_wp2_with (at_builtin; refine wpList_append_sl _ rfl (.tmp 44) (.tmp 47) 31 rfl w.heap.size 3 (.int .i64 0) 8 Tryz.underlying31 infoI64 rfl _ _ _ rfl (ownsRow_upd HO.out ((Upd.refl [] _).alloc _) (by simp)) _ (ci64 [d]) rfl (Sl.lit1 _ _ _) (ci64_one _) ?c2 ?c3 ?c4 ?go)
        case c2 => unfold maxLen; simp; omega
        case c3 => simp; omega
        case c4 => have := HU.out.size; simp; omega
        case go =>
          intro v6 w6 ho6 hg6 hfr
          have HF : Hid (AddI m n w M (i + 1) c' (L ++ [d]) v6 w6) := ⟨by rw [ci64_append]; simpa using ho6, by simp [HLN.out], hcl, fun e he => by rcases List.mem_append.1 he with h | h; exact HLT.out e h; simp at h; omega, HMI.out, HADD.out, (HU.out.alloc _).grown hg6 (fun k hk => .inr (HO.out.lt k hk).1)⟩
          clear ho6 hg6 hfr
          go_wp2
          exact ⟨⟨i + 1, c', L ++ [d], by go_num, by go_num, HF.out⟩, by simp [intOf]; omega⟩
    · have hia : decide (i < la) = false := by simp; omega
      by_cases h2 : i < lb
      · have hib : (i : Int) < (lb : Int) := by omega
        have hx0 : (digs m).getD i 0 = 0 := getD_over _ _ (by have := HLA.out; omega)
        rw [hx0] at hd hc'
        clear hx0
        have hy := HYL.out i
        obtain ⟨bb, ob, rfl, hbb, hcb⟩ := dig_at HB.out i (by rw [← HLB.out]; exact h2)
        have hcb' : wr.cell? ⟨bb, ob + i, none⟩ = some (.int .i64 (((digs n).getD i 0 : Nat) : Int)) := (HU.out.cell (p := ⟨bb, ob + i, none⟩) hbb (by simp)).trans hcb
        clear hcb
        have HADD := Lib.hid hadd
        clear hadd
        generalize (digs n).getD i 0 = y at *
        have i1 : ((c : Int) + (y : Int)) % 10000 = (d : Int) := by omega
        have i2 : ((c : Int) + (y : Int)) / 10000 = (c' : Int) := by omega
        have hcl : c' ≤ 1 := by omega
        have hMi : i + 1 ≤ M ∨ (i + 1 = M + 1 ∧ c' = 0) := by omega
        have HMI := Lib.hid hMi
        have hdl : d < 10000 := by omega
        clear hMi hd hc'
        go_wp2_with (at_builtin; refine wpList_append_sl _ rfl (.tmp 44) (.tmp 47) 31 rfl w.heap.size 3 (.int .i64 0) 8 Tryz.underlying31 infoI64 rfl _ _ _ rfl (ownsRow_upd HO.out ((Upd.refl [] _).alloc _) (by simp)) _ (ci64 [d]) rfl (Sl.lit1 _ _ _) (ci64_one _) ?c2 ?c3 ?c4 ?go)
        case c2 => unfold maxLen; simp; omega
        case c3 => simp; omega
        case c4 => have := HU.out.size; simp; omega
        case go =>
          intro v6 w6 ho6 hg6 hfr
          have HF : Hid (AddI m n w M (i + 1) c' (L ++ [d]) v6 w6) := ⟨by rw [ci64_append]; simpa using ho6, by simp [HLN.out], hcl, fun e he => by rcases List.mem_append.1 he with h | h; exact HLT.out e h; simp at h; omega, HMI.out, HADD.out, (HU.out.alloc _).grown hg6 (fun k hk => .inr (HO.out.lt k hk).1)⟩
          clear ho6 hg6 hfr
          go_wp2
          exact ⟨⟨i + 1, c', L ++ [d], by go_num, by go_num, HF.out⟩, by simp [intOf]; omega⟩
      · have hib : decide (i < lb) = false := by simp; omega
        by_cases h3 : c = 0
        · have HFIN : Hid (dval L = m + n) := by
            show _ = _
            have := HE.out
            rw [h3, List.take_of_length_le (by have := HLA.out; omega), List.take_of_length_le (by have := HLB.out; omega), dval_digs, dval_digs] at this
            omega
          have HSL := Lib.hid (Sl.own HO.out)
          clear hadd hd hc'
          subst h3
          go_wp2_with fail
          refine (trim_any _ L _ HSL.out HLT.out).mono ?_
          rintro e w7 ⟨v7, rfl, hs7, rfl⟩
          have HF : Hid (Sl w7 v7 (ci64 (digs (m + n)))) := by show Sl _ _ _; rw [← HFIN.out]; exact hs7
          clear hs7
          go_wp2
          go_ret
          exact ⟨_, rfl, HF.out, HU.out⟩
        · have h3x : 0 < c := by omega
          have h4 : decide (0 < c) = true := by simp; omega
          clear h3
          have hx0 : (digs m).getD i 0 = 0 := getD_over _ _ (by have := HLA.out; omega)
          rw [hx0] at hd hc'
          clear hx0
          have hy0 : (digs n).getD i 0 = 0 := getD_over _ _ (by have := HLB.out; omega)
          rw [hy0] at hd hc'
          clear hy0
          have HADD := Lib.hid hadd
          clear hadd
          have i1 : ((c : Int)) % 10000 = (d : Int) := by omega
          have i2 : ((c : Int)) / 10000 = (c' : Int) := by omega
          have hcl : c' ≤ 1 := by omega
          have hMi : i + 1 ≤ M ∨ (i + 1 = M + 1 ∧ c' = 0) := by omega
          have HMI := Lib.hid hMi
          have hdl : d < 10000 := by omega
          clear hMi hd hc'
          go_wp2_with (at_builtin; refine wpList_append_sl _ rfl (.tmp 44) (.tmp 47) 31 rfl w.heap.size 3 (.int .i64 0) 8 Tryz.underlying31 infoI64 rfl _ _ _ rfl (ownsRow_upd HO.out ((Upd.refl [] _).alloc _) (by simp)) _ (ci64 [d]) rfl (Sl.lit1 _ _ _) (ci64_one _) ?c2 ?c3 ?c4 ?go)
          case c2 => unfold maxLen; simp; omega
          case c3 => simp; omega
          case c4 => have := HU.out.size; simp; omega
          case go =>
            intro v6 w6 ho6 hg6 hfr
            have HF : Hid (AddI m n w M (i + 1) c' (L ++ [d]) v6 w6) := ⟨by rw [ci64_append]; simpa using ho6, by simp [HLN.out], hcl, fun e he => by rcases List.mem_append.1 he with h | h; exact HLT.out e h; simp at h; omega, HMI.out, HADD.out, (HU.out.alloc _).grown hg6 (fun k hk => .inr (HO.out.lt k hk).1)⟩
            clear ho6 hg6 hfr
            go_wp2
            exact ⟨⟨i + 1, c', L ++ [d], by go_num, by go_num, HF.out⟩, by simp [intOf]; omega⟩
end Go.Proofs.YtoklmfmoblkfcaaGreatDoor
