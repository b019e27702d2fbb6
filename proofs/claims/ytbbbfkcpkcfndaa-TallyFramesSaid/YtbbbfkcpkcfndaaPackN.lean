/- The contracts of pack.New, Clone, Same (and of slices.Clone, slices.Equal at words). -/
import Derived.Test.YtbbbfkcpkcfndaaPackV
import Derived.Lib.SliceRun
namespace Go.Proofs.Ytbbbfkcpkcfndaa
open Go.RowKit Go.Proofs.Tm
set_option linter.unusedVariables false
set_option maxRecDepth 20000

theorem vnew_bad (n wd : Int) (w : World) (h : n < 0 ∨ 256 < n ∨ wd < 1 ∨ 32 < wd) :
    Calls Try.prog 53 #[.int .i64 n, .int .i64 wd] w fun e w' => e = .returned (.tuple #[.pointer none, .int .i64 10]) ∧ w = w' := by
  have d : (decide (n < 0) = true) ∨ (decide (n < 0) = false ∧ decide (256 < n) = true) ∨ (decide (n < 0) = false ∧ decide (256 < n) = false ∧ decide (wd < 1) = true) ∨ (decide (n < 0) = false ∧ decide (256 < n) = false ∧ decide (wd < 1) = false ∧ decide (32 < wd) = true) := by
    simp only [decide_eq_true_eq, decide_eq_false_iff_not]; omega
  clear h
  rcases d with d | ⟨d, d2⟩ | ⟨d, d2, d3⟩ | ⟨d, d2, d3, d4⟩
  all_goals
    go_enter Try.func53, Try.ntmps53
    go_wp2
    go_ret2
    exact ⟨rfl, rfl⟩

theorem words_zero (wd n m : Nat) (hw : 0 < wd) : cu32 (wordsOf (allBits wd (List.replicate n 0)) m) = List.replicate m (.int .u32 0) := by
  have e : wordsOf (allBits wd (List.replicate n 0)) m = List.replicate m 0 := by
    apply List.ext_getElem?
    intro j
    rcases Nat.lt_or_ge j m with h | h
    · rw [wordsOf_getElem? _ _ _ h]
      have e : Tm.part (allBits wd (List.replicate n 0)) (32 * j) 32 = 0 := by
        rw [Tm.part_congr _ [] _ _ (fun k _ => ?_), Tm.part_eq_zero _ _ _ (by simp)]
        rw [allBits_getD _ _ _ hw]
        simp only [List.getD_nil, List.getD_eq_getElem?_getD, List.getElem?_replicate]
        split <;> simp
      rw [e]; simp [h]
    · rw [List.getElem?_eq_none (by simpa using h), List.getElem?_eq_none (by simpa using h)]
  rw [e]; simp [cu32]

/-- What New answers, and Read, and Clone: a new Vector. -/
def NewVec (wd : Nat) (l : List Nat) (w : World) (p : Nat) (w' : World) : Prop := ∃ g, Vec w' p g wd l ∧ Upd [] w w' ∧ w.heap.size ≤ p ∧ w.heap.size ≤ g

set_option maxHeartbeats 400000 in
theorem vnew_ok (n wd : Nat) (w : World) (hn : n ≤ 256) (h1 : 1 ≤ wd) (h2 : wd ≤ 32) :
    Calls Try.prog 53 #[.int .i64 (n : Int), .int .i64 (wd : Int)] w fun e w' => ∃ p, e = .returned (.tuple #[.pointer (some ⟨p, 0, none⟩), .int .i64 0]) ∧ NewVec wd (List.replicate n 0) w p w' := by
  obtain ⟨f, hf⟩ : ∃ f, f = n * wd := ⟨_, rfl⟩
  have hf2 : f ≤ 256 * 32 := by rw [hf]; exact Nat.mul_le_mul hn h2
  have hm : IntKind.i64.wrap ((n : Int) * (wd : Int)) = (f : Int) := by rw [hf, Int.natCast_mul]; refine IntWalk.i64_in _ ?_; rw [← Int.natCast_mul, ← hf]; omega
  have hm2 : (n : Int) * (wd : Int) = (f : Int) := by rw [hf, Int.natCast_mul]
  have HWN : Hid (wn n wd = f / 32 + 2) := by show _ = _; unfold wn; rw [← hf]
  have d1 : decide ((n : Int) < 0) = false := by simp
  have d2 : decide ((256 : Int) < (n : Int)) = false := by simp; omega
  have d3 : decide ((wd : Int) < 1) = false := by simp; omega
  have d4 : decide ((32 : Int) < (wd : Int)) = false := by simp; omega
  clear hf
  go_enter Try.func53, Try.ntmps53
  go_wp2_with (at_make; refine wpList_make_lc _ rfl (.tmp 26) (.tmp 26) 106 rfl 85 (.int .u32 0) 4 Try.underlying106 infoU32 rfl .i64 .i64 _ _ (f / 32 + 2) (f / 32 + 2) rfl rfl (by omega) (by omega) (by omega) (by omega) (by unfold maxLen; omega) ?_)
  intro w1 ho hu hw
  have HO := Lib.hid ho
  have HU := Lib.hid hu
  have HW := Lib.hid hw
  clear ho hu hw
  go_wp2
  go_ret2
  refine ⟨_, rfl, w.heap.size, ⟨f / 32 + 2, ?_, ?_, by simpa using hn, h1, h2, ?_⟩, HU.out.alloc _, HU.out.size, Nat.le_refl _⟩
  · rw [List.length_replicate, HWN.out]
    exact heap_alloc_new _ _
  · rw [List.length_replicate, HWN.out, words_zero _ _ _ h1]
    exact ownsRow_base (HO.out.alloc _) (Nat.zero_le _)
  · intro x hx
    rw [List.eq_of_mem_replicate hx]
    exact Nat.two_pow_pos _

set_option maxHeartbeats 400000 in
theorem sclone_any (v : Value) (ws : List Nat) (w : World) (h : Sl w v (cu32 ws)) (hne : 0 < ws.length) (hl : ws.length ≤ 1099511627776) :
    Calls Try.prog 83 #[v] w fun e w' => ∃ g cap, e = .returned (.slice (some ⟨g, 0, none⟩) ws.length cap) ∧ w'.ownsRow w.heap.size 85 1 (.slice (some ⟨g, 0, none⟩) ws.length cap) ws.length (cu32 ws) ∧ Upd [] w w' := by
  have HS := Lib.hid h
  obtain ⟨b, o, cap, rfl, hc⟩ := sl_at h (by intro h; have := congrArg List.length h; simp at this; simp [this] at hne)
  clear hc h
  rw [cu32_length] at HS ⊢
  have hq := fun W => Lib.run_eql_slice_nil (P := Try.prog) W 106 85 (some ⟨b, o, none⟩) ws.length cap 0 0 Try.underlying106
  simp only [Option.isNone_some] at hq
  go_enter Try.func83, Try.ntmps83
  go_wp2_with (at_builtin; refine wpList_append_sl _ rfl (.tmp 5) (.tmp 6) 106 rfl w.heap.size 85 (.int .u32 0) 4 Try.underlying106 infoU32 rfl _ _ _ rfl (own_lit w 85 #[] (by decide)) _ (cu32 ws) rfl (HS.out.upd0 ((Upd.refl _ _).alloc _)) (cu32_one _) ?c2 ?c3 ?c4 ?go)
  case c2 => unfold maxLen; simp; omega
  case c3 => simp; omega
  case c4 => simp
  case go =>
    intro v1 w1 ho hg _
    have HO : Hid (w1.ownsRow w.heap.size 85 1 v1 ws.length (cu32 ws)) := by show World.ownsRow _ _ _ _ _ _ _; simpa using ho
    have HU : Hid (Upd [] w w1) := ((Upd.refl _ _).alloc _).grown hg (fun k hk => .inr (by simp [Value.ownBlock] at hk; omega))
    clear ho hg
    go_wp2
    go_ret
    obtain ⟨g, cp, rfl⟩ : ∃ g cp, v1 = .slice (some ⟨g, 0, none⟩) ws.length cp := by
      rcases HO.out.2 with ⟨_, h⟩ | ⟨g, cap', _, h, _⟩
      · omega
      · exact ⟨g, cap', h⟩
    exact ⟨g, cp, rfl, HO.out, HU.out⟩
end Go.Proofs.Ytbbbfkcpkcfndaa
