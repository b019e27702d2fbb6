/- The contracts of (*pack.Vector).Clone, slices.Equal at words, (*pack.Vector).Same. -/
import Derived.Test.YtbbbfkcpkcfndaaPackN
namespace Go.Proofs.Ytbbbfkcpkcfndaa
open Go.RowKit Go.Proofs.Tm
set_option linter.unusedVariables false
set_option maxRecDepth 20000

set_option maxHeartbeats 800000 in
theorem vclone_any (p g wd : Nat) (l : List Nat) (w : World) (h : Vec w p g wd l) :
    Calls Try.prog 55 #[.pointer (some ⟨p, 0, none⟩)] w fun e w' => ∃ q, e = .returned (.pointer (some ⟨q, 0, none⟩)) ∧ NewVec wd l w q w' := by
  have HV := Lib.hid h
  obtain ⟨cap, h1, h2, h3, h4, h5, h6⟩ := h
  have c0 : w.cell? ⟨p, 0, none⟩ = some (.int .i64 (l.length : Int)) := by rw [cell_of_row w p 0 _ _ _ h1]; rfl
  have c1 : w.cell? ⟨p, 1, none⟩ = some (.int .i64 (wd : Int)) := by rw [cell_of_row w p 1 _ _ _ h1]; rfl
  have c2 : w.cell? ⟨p, 2, none⟩ = some (.slice (some ⟨g, 0, none⟩) (wn l.length wd) cap) := by rw [cell_of_row w p 2 _ _ _ h1]; rfl
  have hp : p < w.heap.size := lt_of_block h1
  have hw := wn_le l.length wd h3 h5
  have HWS := Lib.hid (wordsOf_length (allBits wd l) (wn l.length wd))
  have HPOS : Hid (0 < wn l.length wd) := by show 0 < _; unfold wn; omega
  have HSC : Hid (∀ W, Upd [] w W → Calls Try.prog 83 #[.slice (some ⟨g, 0, none⟩) (wn l.length wd) cap] W fun e w' =>
      ∃ g' cap', e = .returned (.slice (some ⟨g', 0, none⟩) (wn l.length wd) cap') ∧ w'.ownsRow W.heap.size 85 1 (.slice (some ⟨g', 0, none⟩) (wn l.length wd) cap') (wn l.length wd) (cu32 (wordsOf (allBits wd l) (wn l.length wd))) ∧ Upd [] W w') := fun W hu => by
    have := sclone_any _ (wordsOf (allBits wd l) (wn l.length wd)) W ((Sl.own h2).upd0 hu) (by rw [HWS.out]; exact HPOS.out) (by rw [HWS.out]; omega)
    rw [HWS.out] at this
    exact this
  have HU : Hid (∀ W, Upd [] w W → W.cell? ⟨p, 0, none⟩ = some (.int .i64 (l.length : Int)) ∧ W.cell? ⟨p, 1, none⟩ = some (.int .i64 (wd : Int)) ∧ W.cell? ⟨p, 2, none⟩ = some (.slice (some ⟨g, 0, none⟩) (wn l.length wd) cap) ∧ Upd [] w W) := fun W hu =>
    ⟨(hu.cell (p := ⟨p, 0, none⟩) hp (by simp)).trans c0, (hu.cell (p := ⟨p, 1, none⟩) hp (by simp)).trans c1, (hu.cell (p := ⟨p, 2, none⟩) hp (by simp)).trans c2, hu⟩
  have H3 := Lib.hid h3
  have H6 := Lib.hid h6
  clear h1 h2 h6
  go_enter Try.func55, Try.ntmps55
  go_wp2
  go_region_held3 (fun W => W.cell? ⟨p, 0, none⟩ = some (.int .i64 (l.length : Int)) ∧ W.cell? ⟨p, 1, none⟩ = some (.int .i64 (wd : Int)) ∧ W.cell? ⟨p, 2, none⟩ = some (.slice (some ⟨g, 0, none⟩) (wn l.length wd) cap) ∧ Upd [] w W)
    (first
      | exact HU.out _ (Upd.refl _ _).drew
      | exact HU.out _ huy
      | exact HU.out _ (huy.alloc _)
      | exact HU.out _ (huy.alloc _).drew)
    (first
      | (go_at_call 83; refine (HSC.out _ (Upd.refl _ _).drew).mono ?_; rintro e wy ⟨g', cap', rfl, hoy, hz⟩; have huy : Upd [] w wy := ((Upd.refl _ _).drew).trans0 hz))
  have HOY := Lib.hid hoy
  clear hoy
  go_wp2
  go_ret
  have hs : w.drew.heap.size = w.heap.size := rfl
  refine ⟨_, rfl, g', ⟨cap', heap_alloc_new _ _, ?_, H3.out, h4, h5, H6.out⟩, huy.alloc _, huy.size, (HOY.out.lt g' rfl).1⟩
  exact ownsRow_base (HOY.out.alloc _) (Nat.zero_le _)

set_option maxHeartbeats 800000 in
theorem sequal_any (b o cap b' o' cap' : Nat) (xs ys : List Nat) (w : World) (n : Nat) (hx : xs.length = n) (hy : ys.length = n) (hn : n ≤ 4611686018427387904)
   (ha : ∀ i, i < n → w.cell? ⟨b, o + i, none⟩ = some (.int .u32 ((xs.getD i 0 : Nat) : Int))) (hb : ∀ i, i < n → w.cell? ⟨b', o' + i, none⟩ = some (.int .u32 ((ys.getD i 0 : Nat) : Int))) :
    Calls Try.prog 89 #[.slice (some ⟨b, o, none⟩) n cap, .slice (some ⟨b', o', none⟩) n cap'] w fun e w' => e = .returned (.bool (decide (xs = ys))) ∧ ∃ m, w' = w.drewN m := by
  have HA := Lib.hid ha
  have HB := Lib.hid hb
  have HX := Lib.hid hx
  have HY := Lib.hid hy
  clear ha hb hx hy
  have hnn : ((n : Int) != (n : Int)) = false := by simp
  go_enter Try.func89, Try.ntmps89
  go_wp2
  go_loopw [13] (fun v5 wr => ∃ i : Nat, i ≤ n ∧ v5 = .int .i64 i ∧ Hid (∀ j, j < i → xs.getD j 0 = ys.getD j 0) ∧ ∃ m, wr = w.drewN m) (fun v5 _ => n - (intOf v5).toNat)
  case atStart => exact ⟨0, Nat.zero_le _, rfl, fun j h => by omega, 0, rfl⟩
  case round =>
    obtain ⟨i, hi, rfl, HE, m, rfl⟩ := hrel
    by_cases hlt : i < n
    · have k1 := HA.out i hlt
      have k2 := HB.out i hlt
      have i0 : (0 : Int) ≤ (i : Int) := by omega
      have i1 : (i : Int) < (n : Int) := by omega
      by_cases hxy : xs.getD i 0 = ys.getD i 0
      · have hq : (((xs.getD i 0 : Nat) : Int) != ((ys.getD i 0 : Nat) : Int)) = false := by rw [hxy]; simp
        have HQ := Lib.hid hxy
        clear hxy
        generalize hgx : xs.getD i 0 = x at k1 hq
        generalize hgy : ys.getD i 0 = y at k2 hq
        clear hgx hgy
        go_wp2
        go_quiet (fail)
        go_wp2
        go_roundw
        case rel => exact ⟨i + 1, by omega, by go_num, fun j hj => by
          rcases Nat.lt_or_ge j i with h | h
          · exact HE.out j h
          · obtain rfl : j = i := by omega
            exact HQ.out, _, rfl⟩
        case measure => simp [intOf]; omega
      · have hq : (((xs.getD i 0 : Nat) : Int) != ((ys.getD i 0 : Nat) : Int)) = true := by rw [bne_iff_ne]; omega
        have HQ := Lib.hid hxy
        clear hxy
        have HD : Hid (decide (xs = ys) = false) := by
          show _ = _
          simp only [decide_eq_false_iff_not]
          intro h; subst h; exact HQ.out rfl
        generalize hgx : xs.getD i 0 = x at k1 hq
        generalize hgy : ys.getD i 0 = y at k2 hq
        clear hgx hgy
        go_wp2
        go_quiet (fail)
        go_wp2
        go_ret
        exact ⟨ret_bool HD.out.symm, m + nq, World.drewN_drewN ..⟩
    · obtain rfl : i = n := by omega
      go_wp2
      go_ret
      refine ⟨ret_bool ?_, _, rfl⟩
      symm
      rw [decide_eq_true_eq]
      apply List.ext_getElem (by rw [HX.out, HY.out])
      intro j h1 h2
      have := HE.out j (by rw [← HX.out]; exact h1)
      simpa [h1, h2] using this

theorem words_cells {w : World} {g wd n cap : Nat} {l : List Nat} (h2 : w.ownsRow 0 85 1 (.slice (some ⟨g, 0, none⟩) (wn n wd) cap) (wn n wd) (cu32 (wordsOf (allBits wd l) (wn n wd)))) :
    ∀ i, i < wn n wd → w.cell? ⟨g, 0 + i, none⟩ = some (.int .u32 (((wordsOf (allBits wd l) (wn n wd)).getD i 0 : Nat) : Int)) := by
  intro i hi
  rw [Nat.zero_add, h2.cellAt i (by omega), cu32_getElem?]
  simp [hi]

theorem wordsOf_eq (wd : Nat) (l m : List Nat) (hw : 1 ≤ wd) (h : m.length = l.length) (hl : ∀ x ∈ l, x < 2 ^ wd) (hm : ∀ x ∈ m, x < 2 ^ wd) :
    decide (wordsOf (allBits wd l) (wn l.length wd) = wordsOf (allBits wd m) (wn l.length wd)) = decide (l = m) := by
  rw [Bool.eq_iff_iff, decide_eq_true_eq, decide_eq_true_eq]
  exact ⟨fun e => words_inj wd l.length l m hw rfl h hl hm e, fun e => by rw [e]⟩

set_option maxHeartbeats 800000 in
/-- Same of two Vectors as long and as wide. -/
theorem vsame_any (p g p' g' wd : Nat) (l m : List Nat) (w : World) (h : Vec w p g wd l) (h' : Vec w p' g' wd m) (hlm : m.length = l.length) :
    Calls Try.prog 59 #[.pointer (some ⟨p, 0, none⟩), .pointer (some ⟨p', 0, none⟩)] w fun e w' => e = .returned (.bool (decide (l = m))) ∧ ∃ n, w' = w.drewN n := by
  obtain ⟨cap, h1, h2, h3, h4, h5, h6⟩ := h
  obtain ⟨cap', h1', h2', h3', h4', h5', h6'⟩ := h'
  rw [hlm] at h1' h2'
  have c0 : w.cell? ⟨p, 0, none⟩ = some (.int .i64 (l.length : Int)) := by rw [cell_of_row w p 0 _ _ _ h1]; rfl
  have c1 : w.cell? ⟨p, 1, none⟩ = some (.int .i64 (wd : Int)) := by rw [cell_of_row w p 1 _ _ _ h1]; rfl
  have c2 : w.cell? ⟨p, 2, none⟩ = some (.slice (some ⟨g, 0, none⟩) (wn l.length wd) cap) := by rw [cell_of_row w p 2 _ _ _ h1]; rfl
  have c0' : w.cell? ⟨p', 0, none⟩ = some (.int .i64 (l.length : Int)) := by rw [cell_of_row w p' 0 _ _ _ h1']; rfl
  have c1' : w.cell? ⟨p', 1, none⟩ = some (.int .i64 (wd : Int)) := by rw [cell_of_row w p' 1 _ _ _ h1']; rfl
  have c2' : w.cell? ⟨p', 2, none⟩ = some (.slice (some ⟨g', 0, none⟩) (wn l.length wd) cap') := by rw [cell_of_row w p' 2 _ _ _ h1']; rfl
  have hw := wn_le l.length wd h3 h5
  have HE := Lib.hid (wordsOf_eq wd l m h4 hlm h6 h6')
  have HQ : Hid (∀ n, Calls Try.prog 89 #[.slice (some ⟨g, 0, none⟩) (wn l.length wd) cap, .slice (some ⟨g', 0, none⟩) (wn l.length wd) cap'] (w.drewN n) fun e w' => e = .returned (.bool (decide (l = m))) ∧ ∃ k, w' = (w.drewN n).drewN k) := fun n => by
    have := sequal_any g 0 cap g' 0 cap' (wordsOf (allBits wd l) (wn l.length wd)) (wordsOf (allBits wd m) (wn l.length wd)) (w.drewN n) (wn l.length wd) (by simp) (by simp) (by omega)
      (words_cells (ownsRow_upd h2 ((Upd.refl [] _).drewN n) (by simp))) (words_cells (ownsRow_upd h2' ((Upd.refl [] _).drewN n) (by simp)))
    rw [HE.out] at this
    exact this
  clear h1 h2 h1' h2' h6 h6' HE hlm
  obtain ⟨r, hr⟩ : ∃ r, r = decide (l = m) := ⟨_, rfl⟩
  rw [← hr] at HQ ⊢
  generalize wn l.length wd = mw at *
  generalize l.length = ln at *
  clear hr
  go_enter Try.func59, Try.ntmps59
  go_wp2
  go_quiet ((go_at_call 89; exact Calls.quiet_of (HQ.out _)))
  go_wp2
  go_ret
  exact ⟨rfl, _, rfl⟩
end Go.Proofs.Ytbbbfkcpkcfndaa
