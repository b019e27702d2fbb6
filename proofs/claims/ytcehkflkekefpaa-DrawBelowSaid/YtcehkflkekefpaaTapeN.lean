/- The contracts of tape.blank, New, FromBytes. -/
import Derived.Test.YtcehkflkekefpaaTape
import Derived.Test.YtcehkflkekefpaaMinMax
import Derived.BigRegion
import Derived.Deep.RegionHeld3
namespace Go.Proofs.Ytcehkflkekefpaa
open Go.RowKit Go.Proofs.Tm
set_option linter.unusedVariables false
set_option maxRecDepth 20000

/-- A slice's own block, opened. -/
theorem tsl_at {w : World} {v : Value} {xs : List Value} (h : Sl w v xs) (hx : xs ≠ []) : ∃ b o cap, v = .slice (some ⟨b, o, none⟩) xs.length cap ∧ ∀ i, i < xs.length → w.cell? ⟨b, o + i, none⟩ = xs[i]? := by
  obtain ⟨a, cap, rfl, _, _, h3⟩ := h
  obtain ⟨b, o, rfl, hc⟩ := h3 hx
  exact ⟨b, o, cap, rfl, hc⟩

theorem mini3_is {P : Program} {a b c d : Int} (h : min (min a b) c = d) (ts : Array TypeId) (t : TypeId) (W : World) : (Builtin.min_ ts t #[.int .i64 a, .int .i64 b, .int .i64 c]).run P W = .ok (.int .i64 d) W := by
  subst h
  have e : ∀ x y : Int, Builtin.min2 (.int .i64 x) (.int .i64 y) = pure (.int .i64 (if y < x then y else x)) := fun _ _ => rfl
  have e2 : (Builtin.min_ ts t #[.int .i64 a, .int .i64 b, .int .i64 c]) = (Builtin.min2 (.int .i64 a) (.int .i64 b) >>= fun init => Builtin.min2 init (.int .i64 c)) := rfl
  rw [e2, Sem.run_bind, e, Sem.run_pure, Result.andThen_ok, e, Sem.run_pure]
  congr 2
  repeat' split
  all_goals omega

/-- A tape that is being filled: n coins, their bytes bs in block g. -/
structure Tb (w : World) (p g : Nat) (bs : List Nat) (n : Nat) : Prop where
  cells : w.heap[p]? = some (.cells #[.int .i64 0, .bool false, .int .i64 (n : Int), .slice (some ⟨g, 0, none⟩) bs.length bs.length] 54 (0, 0))
  own : w.ownsRow 0 5 1 (.slice (some ⟨g, 0, none⟩) bs.length bs.length) bs.length (cu8 bs)
  len : bs.length = (n + 7) / 8

theorem Tb.ne {w : World} {p g : Nat} {bs : List Nat} {n : Nat} (h : Tb w p g bs n) : g ≠ p := by
  obtain ⟨h1, h2, _⟩ := h
  rintro rfl
  rcases h2.2 with ⟨h, _⟩ | ⟨g', cap', cur, h, _, hg, _⟩
  · cases h
  · simp only [Value.slice.injEq, Option.some.injEq, Addr.mk.injEq, and_true] at h
    rw [← h.1, h1] at hg
    simp at hg

theorem Tb.tape {w : World} {p g : Nat} {bs : List Nat} {n : Nat} (h : Tb w p g bs n) (l : List Bool) (hl : l.length = n) (hn : n ≤ 1048576) (hb : ∀ b ∈ bs, b < 256) (hc : ∀ j, j < n → bitAt bs j = l.getD j false) : Tp w p g l 0 false := by
  subst hl
  exact ⟨bs, bs.length, h.cells, h.own, ⟨by have := h.len; omega, by have := h.len; omega, hb, hc⟩, Nat.zero_le _, hn, by simp⟩

/-- What New, FromBytes leave: a new tape. -/
def TNew (l : List Bool) (w : World) (e : Ending) (w' : World) : Prop :=
  ∃ p g, e = .returned (.pointer (some ⟨p, 0, none⟩)) ∧ Tp w' p g l 0 false ∧ Upd [] w w' ∧ w.heap.size ≤ p ∧ w.heap.size ≤ g

set_option maxHeartbeats 400000 in
theorem tblank_any (n : Nat) (w : World) (hn : n ≤ 1048576) :
    Calls Try.prog 20 #[.int .i64 (n : Int)] w fun e w' => ∃ p g, e = .returned (.pointer (some ⟨p, 0, none⟩)) ∧ Tb w' p g (List.replicate ((n + 7) / 8) 0) n ∧ Upd [] w w' ∧ w.heap.size ≤ p ∧ w.heap.size ≤ g := by
  obtain ⟨m, hm⟩ : ∃ m, m = (n + 7) / 8 := ⟨_, rfl⟩
  have hw1 : IntKind.i64.wrap ((n : Int) + 7) = (n : Int) + 7 := IntWalk.i64_in _ (by omega)
  have hw2 : IntKind.i64.wrap (((n : Int) + 7) / 8) = ((n : Int) + 7) / 8 := IntWalk.i64_in _ (by omega)
  rw [← hm]
  have HM := Lib.hid hm
  clear hm
  go_enter Try.func20, Try.ntmps20
  go_wp2_with (refine wpList_make_lc _ rfl (.tmp 6) (.tmp 6) 52 rfl 5 (.int .u8 0) 1 Try.underlying52 infoU8 rfl .i64 .i64 _ _ m m rfl rfl ?c1 ?c1' (Nat.le_refl _) ?c2 ?c3 ?go)
  case c1 => have := HM.out; omega
  case c1' => have := HM.out; omega
  case c2 => have := HM.out; omega
  case c3 => have := HM.out; unfold maxLen; omega
  case go =>
    intro w1 ho hu hw
    have HO := Lib.hid ho
    have HU := Lib.hid hu
    clear ho hu
    go_wp2
    go_ret
    have e0 : (List.replicate m 0).length = m := by simp
    refine ⟨w1.heap.size, w.heap.size, rfl, ⟨?_, ?_, by rw [e0]; exact HM.out⟩, HU.out.alloc _, HU.out.size, Nat.le_refl _⟩
    · rw [e0]; exact heap_alloc_new w1 _
    · rw [e0]
      have := ownsRow_base (ownsRow_upd HO.out ((Upd.refl [] w1).alloc (.cells #[.int .i64 0, .bool false, .int .i64 (n : Int), .slice (some ⟨w.heap.size, 0, none⟩) m m] 54)) (by simp)) (Nat.zero_le _)
      have e1 : cu8 (List.replicate m 0) = List.replicate m (.int .u8 0) := by simp [cu8]
      rw [e1]; exact this

/-- While New fills. -/
structure NewI (w : World) (p g : Nat) (l : List Bool) (n i : Nat) (bs : List Nat) (W : World) : Prop where
  tb : Tb W p g bs n
  lt : ∀ b ∈ bs, b < 256
  done : ∀ j, j < i → bitAt bs j = l.getD j false
  rest : ∀ j, i ≤ j → bitAt bs j = false
  upd : Upd [p, g] w W
  news : w.heap.size ≤ p ∧ w.heap.size ≤ g

theorem NewI.drew {w : World} {p g : Nat} {l : List Bool} {n i : Nat} {bs : List Nat} {W : World} (h : NewI w p g l n i bs W) : NewI w p g l n i bs W.drew := ⟨⟨h.tb.cells, h.tb.own, h.tb.len⟩, h.lt, h.done, h.rest, h.upd.drew, h.news⟩

theorem NewI.no {w : World} {p g : Nat} {l : List Bool} {n i : Nat} {bs : List Nat} {W : World} (h : NewI w p g l n i bs W) (hl : l.getD i false = false) : NewI w p g l n (i + 1) bs W :=
  ⟨h.tb, h.lt, fun j hj => by
    rcases Nat.lt_or_ge j i with h1 | h1
    · exact h.done j h1
    · obtain rfl : j = i := by omega
      rw [hl, h.rest j (Nat.le_refl _)], fun j hj => h.rest j (by omega), h.upd, h.news⟩

theorem NewI.yes {w : World} {p g : Nat} {l : List Bool} {n i : Nat} {bs : List Nat} {W : World} (h : NewI w p g l n i bs W) (hi : i < n) (hl : l.getD i false = true) :
    NewI w p g l n (i + 1) (bs.set (i / 8) (bs.getD (i / 8) 0 ||| 128 / 2 ^ (i % 8))) (W.setCell ⟨g, i / 8, none⟩ (.int .u8 ((bs.getD (i / 8) 0 ||| 128 / 2 ^ (i % 8) : Nat) : Int))) := by
  have hlen := h.tb.len
  have hi8 : i / 8 < bs.length := by omega
  have hx : bs.getD (i / 8) 0 < 256 := h.lt _ (by simp [hi8])
  refine ⟨⟨?_, ?_, by simpa using hlen⟩, ?_, fun j hj => ?_, fun j hj => ?_, h.upd.setCell (.inl (by simp)) _, h.news⟩
  · rw [List.length_set]
    exact (Below.heap_setCell _ _ _ _ (Ne.symm h.tb.ne)).trans h.tb.cells
  · rw [List.length_set, cu8_set]
    exact (h.tb.own.stored (i / 8) _).1
  · intro b hb
    rcases List.mem_or_eq_of_mem_set hb with h1 | h1
    · exact h.lt b h1
    · rw [h1]; exact or128_lt _ _ hx
  · rw [bitAt_or _ _ _ hi8]
    rcases Nat.lt_or_ge j i with h1 | h1
    · rw [h.done j h1, decide_eq_false (by omega), Bool.or_false]
    · obtain rfl : j = i := by omega
      rw [hl]; simp
  · rw [bitAt_or _ _ _ hi8, h.rest j (by omega), decide_eq_false (by omega)]; rfl

set_option maxRecDepth 100000 in
set_option maxHeartbeats 1600000 in
theorem tnew_any (v : Value) (l : List Bool) (w : World) (h : Sl w v (cb l)) :
    Calls Try.prog 14 #[v] w (TNew (l.take 1048576) w) := by
  have HS := Lib.hid h
  obtain ⟨a, cap, rfl, h1, h2, h3⟩ := h
  unfold maxLen at h2
  rw [cb_length] at h1 HS ⊢
  obtain ⟨n, hn⟩ : ∃ n, n = min l.length 1048576 := ⟨_, rfl⟩
  have hmin := fun ts t W => mini_is (P := Try.prog) (a := (l.length : Int)) (b := 1048576) (c := (n : Int)) (by omega) ts t W
  have hn1 : n ≤ 1048576 := by omega
  have hn2 : n ≤ l.length := by omega
  have HB := Lib.hid (tblank_any n w hn1)
  have HN := Lib.hid hn
  clear h3 hn
  obtain ⟨ll, hll⟩ : ∃ k, k = l.length := ⟨_, rfl⟩
  have HLL := Lib.hid hll
  rw [← hll] at hn2 h1 hmin HS ⊢
  clear hll
  go_enter Try.func14, Try.ntmps14
  go_wp2_with fail
  refine HB.out.mono ?_
  rintro e w1 ⟨p, g, rfl, htb, hu1, hp1, hg1⟩
  have H0 : Hid (NewI w p g l n 0 (List.replicate ((n + 7) / 8) 0) w1) := ⟨htb, fun b hb => by rw [List.eq_of_mem_replicate hb]; decide, fun j hj => by omega, fun j _ => bitAt_zeros _ _, hu1.mono (by simp), hp1, hg1⟩
  have c2 : w1.cell? ⟨p, 2, none⟩ = some (.int .i64 (n : Int)) := by rw [cell_of_row w1 p 2 _ _ _ htb.cells]; rfl
  clear htb hu1 hmin
  go_wp2
  go_loopw [13] (fun v13 wr => ∃ (i : Nat) (bs : List Nat), i ≤ n ∧ v13 = .int .i64 i ∧ NewI w p g l n i bs wr) (fun v13 _ => n - (intOf v13).toNat)
  case atStart => exact ⟨0, _, Nat.zero_le _, rfl, H0.out⟩
  case round =>
    obtain ⟨i, bs, hi, rfl, hinv⟩ := hrel
    have HI := Lib.hid hinv
    clear hinv H0
    by_cases hlt : i < n
    · obtain ⟨b, o, cap', hv, hc⟩ := tsl_at HS.out (by intro h; have h2 := congrArg List.length h; rw [cb_length] at h2; have h3 := HLL.out; have h4 : l.length = 0 := h2; omega)
      obtain ⟨rfl, rfl⟩ : a = some ⟨b, o, none⟩ ∧ cap = cap' := by simp at hv; exact ⟨hv.1, hv.2.2⟩
      have hil : i < l.length := by have := HLL.out; omega
      have hcell := hc i (by rw [cb_length]; exact hil)
      rw [cb_getElem? l i hil] at hcell
      have hbw : b < w.heap.size := World.block_lt_of_cell? w _ hcell
      have hcw : wr.cell? ⟨b, o + i, none⟩ = some (.bool (l.getD i false)) := (HI.out.upd.cell (p := ⟨b, o + i, none⟩) hbw (by have := HI.out.news; simp; omega)).trans hcell
      have hllt : (i : Int) < (ll : Int) := by omega
      have hi0 : (0 : Int) ≤ (i : Int) := by omega
      clear hc hv hcell
      cases hd : l.getD i false with
      | false =>
        rw [hd] at hcw
        have HD := Lib.hid hd
        clear hd
        go_wp2
        go_roundw
        case rel => exact ⟨i + 1, bs, by omega, by go_num, HI.out.no HD.out⟩
        case measure => simp [intOf]; omega
      | true =>
        rw [hd] at hcw
        have HD := Lib.hid hd
        have hlen := HI.out.tb.len
        have hi8 : i / 8 < bs.length := by omega
        have k3 : wr.cell? ⟨p, 3, none⟩ = some (.slice (some ⟨g, 0, none⟩) bs.length bs.length) := by rw [cell_of_row wr p 3 _ _ _ HI.out.tb.cells]; rfl
        have hx : bs.getD (i / 8) 0 < 256 := HI.out.lt _ (by simp [hi8])
        have kx : wr.cell? ⟨g, i / 8, none⟩ = some (.int .u8 ((bs.getD (i / 8) 0 : Nat) : Int)) := by
          rw [HI.out.tb.own.cellAt (i / 8) (by omega), cu8_getElem?]; simp [hi8]
        have kf := HI.out.tb.own.frozenAt (i / 8)
        have HOR := Lib.hid (or_byte (bs.getD (i / 8) 0) i hx)
        have hw1 : IntKind.i64.wrap ((i : Int) / 8) = (i : Int) / 8 := IntWalk.i64_in _ (by omega)
        have hw2 : IntKind.i64.wrap ((i : Int) % 8) = (i : Int) % 8 := IntWalk.i64_in _ (by omega)
        have hw3 : ((i : Int) / 8).toNat = i / 8 := by omega
        have hk0 : (0 : Int) ≤ (i : Int) / 8 := by omega
        have htm : (i : Int).tmod 8 = (i : Int) % 8 := Int.tmod_eq_emod_of_nonneg (by omega)
        have hm0 : (0 : Int) ≤ (i : Int) % 8 := by omega
        have hm8 : (i : Int) % 8 ≤ 8 := by omega
        have hk : (i : Int) / 8 < (bs.length : Int) := by omega
        have hx0 : (0 : Int) ≤ ((bs.getD (i / 8) 0 : Nat) : Int) := by omega
        have hx1 : ((bs.getD (i / 8) 0 : Nat) : Int) < 256 := by omega
        have HY := Lib.hid (HI.out.yes hlt HD.out)
        clear hd hlen
        generalize bs.getD (i / 8) 0 = x at *
        go_wp2
        go_region
        rw [HOR.out]
        go_wp2
        go_roundw
        case rel => exact ⟨i + 1, _, by omega, by go_num, HY.out.drew⟩
        case measure => simp [intOf]; omega
    · obtain rfl : i = n := by omega
      go_wp2
      go_ret
      have hlen : (l.take 1048576).length = i := by rw [List.length_take, HN.out]; have := HN.out; omega
      refine ⟨p, g, rfl, HI.out.tb.tape _ hlen hn1 HI.out.lt (fun j hj => ?_), HI.out.upd.narrow (fun k hk => .inr ?_), HI.out.news.1, HI.out.news.2⟩
      · rw [HI.out.done j hj]
        have hj' : j < 1048576 := by omega
        simp [List.getD_eq_getElem?_getD, List.getElem?_take, hj']
      · have := HI.out.news
        simp at hk
        rcases hk with rfl | rfl
        · exact this.1
        · exact this.2

end Go.Proofs.Ytcehkflkekefpaa
