/- Tapes of coins in memory ('Tp'), and the contracts of Left, Flip, Read, Dead, Mark, Back, Clone. -/
import Derived.Test.YtcehkflkekefpaaCells
import Derived.Test.YtcehkflkekefpaaTapeMath
namespace Go.Proofs.Ytcehkflkekefpaa
open Go.RowKit Go.Proofs.Tm
set_option linter.unusedVariables false
set_option maxRecDepth 20000

/-- At block p stands a tape of the coins l (their bytes in block g), i of them read, d: is it dead? -/
def Tp (w : World) (p g : Nat) (l : List Bool) (i : Nat) (d : Bool) : Prop :=
  ∃ bs cap, w.heap[p]? = some (.cells #[.int .i64 (i : Int), .bool d, .int .i64 (l.length : Int), .slice (some ⟨g, 0, none⟩) bs.length cap] 54 (0, 0)) ∧
    w.ownsRow 0 5 1 (.slice (some ⟨g, 0, none⟩) bs.length cap) bs.length (cu8 bs) ∧ Holds bs l ∧ i ≤ l.length ∧ l.length ≤ 1048576 ∧ (d = true → i = l.length)

theorem Tp.upd {w w' : World} {S : List Nat} {p g : Nat} {l : List Bool} {i : Nat} {d : Bool} (h : Tp w p g l i d) (u : Upd S w w') (hp : p ∉ S) (hg : g ∉ S) : Tp w' p g l i d := by
  obtain ⟨bs, cap, h1, h2, h3⟩ := h
  exact ⟨bs, cap, by rw [u.block p (lt_of_block h1) hp]; exact h1, ownsRow_upd h2 u (by rintro k hk; simp [Value.ownBlock] at hk; subst hk; exact hg), h3⟩
theorem Tp.upd0 {w w' : World} {p g : Nat} {l : List Bool} {i : Nat} {d : Bool} (h : Tp w p g l i d) (u : Upd [] w w') : Tp w' p g l i d := h.upd u (by simp) (by simp)
theorem Tp.lt {w : World} {p g : Nat} {l : List Bool} {i : Nat} {d : Bool} (h : Tp w p g l i d) : p < w.heap.size := by
  obtain ⟨bs, cap, h1, _⟩ := h; exact lt_of_block h1
theorem Tp.glt {w : World} {p g : Nat} {l : List Bool} {i : Nat} {d : Bool} (h : Tp w p g l i d) : g < w.heap.size := by
  obtain ⟨bs, cap, h1, h2, _⟩ := h; exact (h2.lt g rfl).2
theorem Tp.ne {w : World} {p g : Nat} {l : List Bool} {i : Nat} {d : Bool} (h : Tp w p g l i d) : g ≠ p := by
  obtain ⟨bs, cap, h1, h2, _⟩ := h
  rintro rfl
  rcases h2.2 with ⟨h, _⟩ | ⟨g', cap', cur, h, _, hg, _⟩
  · cases h
  · simp only [Value.slice.injEq, Option.some.injEq, Addr.mk.injEq, and_true] at h
    rw [← h.1, h1] at hg
    simp at hg
theorem Tp.le {w : World} {p g : Nat} {l : List Bool} {i : Nat} {d : Bool} (h : Tp w p g l i d) : i ≤ l.length ∧ l.length ≤ 1048576 ∧ (d = true → i = l.length) := by
  obtain ⟨bs, cap, h1, h2, h3, h4⟩ := h; exact h4
theorem Tp.drewN {w : World} {p g : Nat} {l : List Bool} {i : Nat} {d : Bool} (h : Tp w p g l i d) (n : Nat) : Tp (w.drewN n) p g l i d := h
theorem Tp.drew {w : World} {p g : Nat} {l : List Bool} {i : Nat} {d : Bool} (h : Tp w p g l i d) : Tp w.drew p g l i d := h
/-- The tape's own cells, for a walk. -/
theorem Tp.cells {w : World} {p g : Nat} {l : List Bool} {i : Nat} {d : Bool} (h : Tp w p g l i d) :
    w.cell? ⟨p, 0, none⟩ = some (.int .i64 (i : Int)) ∧ w.cell? ⟨p, 1, none⟩ = some (.bool d) ∧ w.cell? ⟨p, 2, none⟩ = some (.int .i64 (l.length : Int)) ∧ w.frozen? ⟨p, 0, none⟩ = false ∧ w.frozen? ⟨p, 1, none⟩ = false := by
  obtain ⟨bs, cap, h1, _⟩ := h
  exact ⟨by rw [cell_of_row w p 0 _ _ _ h1]; rfl, by rw [cell_of_row w p 1 _ _ _ h1]; rfl, by rw [cell_of_row w p 2 _ _ _ h1]; rfl, frozen_of_row w p 0 _ _ h1, frozen_of_row w p 1 _ _ h1⟩

set_option maxHeartbeats 400000 in
theorem tleft_any (p g : Nat) (l : List Bool) (i : Nat) (d : Bool) (w : World) (h : Tp w p g l i d) :
    Calls Try.prog 21 #[.pointer (some ⟨p, 0, none⟩)] w fun e w' => e = .returned (.int .i64 ((l.length - i : Nat) : Int)) ∧ ∃ n, w' = w.drewN n := by
  obtain ⟨c0, _, c2, _⟩ := h.cells
  obtain ⟨h1, h2, _⟩ := h.le
  have hw2 : IntKind.i64.wrap ((l.length : Int) - (i : Int)) = (l.length : Int) - (i : Int) := IntWalk.i64_in _ (by omega)
  clear h
  go_enter Try.func21, Try.ntmps21
  go_wp2
  go_quiet (fail)
  go_wp2
  go_ret
  exact ⟨ret_int (by omega), _, rfl⟩

set_option maxHeartbeats 400000 in
theorem tread_any (p g : Nat) (l : List Bool) (i : Nat) (d : Bool) (w : World) (h : Tp w p g l i d) :
    Calls Try.prog 15 #[.pointer (some ⟨p, 0, none⟩)] w fun e w' => e = .returned (.int .i64 (i : Int)) ∧ w = w' := by
  obtain ⟨c0, _⟩ := h.cells
  clear h
  go_enter Try.func15, Try.ntmps15
  go_wp2
  go_ret
  exact ⟨rfl, rfl⟩

set_option maxHeartbeats 400000 in
/-- Flip, where there is a coin. -/
theorem flip_walk (p g len cap i : Nat) (x : Int) (w : World) (h4 : i < 1048576) (h5 : len < 1125899906842624)
   (c0 : w.cell? ⟨p, 0, none⟩ = some (.int .i64 (i : Int))) (c3 : w.cell? ⟨p, 3, none⟩ = some (.slice (some ⟨g, 0, none⟩) len cap)) (f0 : w.frozen? ⟨p, 0, none⟩ = false)
   (hx : w.cell? ⟨g, i / 8, none⟩ = some (.int .u8 x)) (x0 : 0 ≤ x) (x1 : x < 256) (m : Int) (hne : (m == 0) = false)
   (hl : Hid (∀ n, Calls Try.prog 21 #[.pointer (some ⟨p, 0, none⟩)] (w.drewN n) fun e w' => e = .returned (.int .i64 m) ∧ ∃ m, w' = (w.drewN n).drewN m))
   (hw1 : IntKind.i64.wrap ((i : Int) / 8) = (i : Int) / 8) (hw2 : IntKind.i64.wrap ((i : Int) % 8) = (i : Int) % 8) (hw3 : ((i : Int) / 8).toNat = i / 8) (hk0 : 0 ≤ (i : Int) / 8)
   (htm : (i : Int).tmod 8 = (i : Int) % 8) (hm0 : 0 ≤ (i : Int) % 8) (hm8 : (i : Int) % 8 ≤ 8) (hk : (i : Int) / 8 < (len : Int)) :
    Calls Try.prog 19 #[.pointer (some ⟨p, 0, none⟩)] w fun e w' => e = .returned (.tuple #[.bool (bits .and .u8 x (128 / 2 ^ (i % 8)) != 0), .int .i64 0]) ∧ ∃ n, w' = (w.setCell ⟨p, 0, none⟩ (.int .i64 ((i : Int) + 1))).drewN n := by
  go_enter Try.func19, Try.ntmps19
  go_wp2_with (go_at_call 21; refine (hl.out 0).mono ?_; rintro e w' ⟨rfl, n, rfl⟩)
  go_quiet (fail)
  go_wp2
  go_ret2
  exact ⟨rfl, _, rfl⟩

/-- What Flip leaves where there is a coin. -/
def FlipPost (p g : Nat) (l : List Bool) (i : Nat) (w : World) (e : Ending) (w' : World) : Prop :=
  e = .returned (.tuple #[.bool (l.getD i false), .int .i64 0]) ∧ Tp w' p g l (i + 1) false ∧ Upd [p] w w'

theorem tflip_yes (p g : Nat) (l : List Bool) (i : Nat) (d : Bool) (w : World) (h : Tp w p g l i d) (hi : i < l.length) :
    Calls Try.prog 19 #[.pointer (some ⟨p, 0, none⟩)] w (FlipPost p g l i w) := by
  have h0 := h
  have hne := h.ne
  obtain ⟨bs, cap, h1, h2, h3, h4, h5, h6⟩ := h
  obtain rfl : d = false := by cases d with
    | false => rfl
    | true => have := h6 rfl; omega
  obtain ⟨a1, a2, a3⟩ := h3.at i hi
  have c0 : w.cell? ⟨p, 0, none⟩ = some (.int .i64 (i : Int)) := h0.cells.1
  have c3 : w.cell? ⟨p, 3, none⟩ = some (.slice (some ⟨g, 0, none⟩) bs.length cap) := by rw [cell_of_row w p 3 _ _ _ h1]; rfl
  have hx : w.cell? ⟨g, i / 8, none⟩ = some (.int .u8 ((bs.getD (i / 8) 0 : Nat) : Int)) := by
    rw [h2.cellAt (i / 8) (by omega), cu8_getElem?]; simp [a1]
  have hbl : bs.length < 1125899906842624 := by have := h3.2.1; omega
  refine (flip_walk p g bs.length cap i _ w (by omega) hbl c0 c3 (h0.cells.2.2.2.1) hx (by omega) (by omega) ((l.length - i : Nat) : Int) (by simp; omega) (fun n => (tleft_any p g l i _ _ (h0.drewN n)).mono fun _ _ q => q)
    (IntWalk.i64_in _ (by omega)) (IntWalk.i64_in _ (by omega)) (by omega) (by omega) (Int.tmod_eq_emod_of_nonneg (by omega)) (by omega) (by omega) (by omega)).mono ?_
  rintro e w' ⟨rfl, n, rfl⟩
  refine ⟨?_, ?_, ((Upd.refl _ w).setCell (.inl (by simp)) _).drewN n⟩
  · rw [and_byte _ _ a2, a3]
  · refine Tp.drewN ?_ n
    exact ⟨bs, cap, by rw [heap_setCell_same w p 0 _ _ _ h1]; rfl, ownsRow_setCell_other h2 (by simpa [Value.ownBlock] using hne) _, h3, by omega, h5, by simp⟩

set_option maxHeartbeats 400000 in
/-- Flip, where there is none. -/
theorem tflip_no (p g : Nat) (l : List Bool) (d : Bool) (w : World) (h : Tp w p g l l.length d) :
    Calls Try.prog 19 #[.pointer (some ⟨p, 0, none⟩)] w fun e w' => e = .returned (.tuple #[.bool false, .int .i64 8]) ∧ Tp w' p g l l.length true ∧ Upd [p] w w' := by
  have hne := h.ne
  have hl := tleft_any p g l _ d w h
  have h0 : (((l.length - l.length : Nat) : Int) == 0) = true := by simp
  obtain ⟨_, c1, _, _, f1⟩ := h.cells
  obtain ⟨bs, cap, h1, h2, h3, h4, h5, h6⟩ := h
  have HP : Hid (∀ n, Tp ((w.setCell ⟨p, 1, none⟩ (.bool true)).drewN n) p g l l.length true) := fun n => Tp.drewN ⟨bs, cap, by rw [heap_setCell_same w p 1 _ _ _ h1]; rfl, ownsRow_setCell_other h2 (by simpa [Value.ownBlock] using hne) _, h3, h4, h5, fun _ => rfl⟩ n
  have HL := Lib.hid hl
  clear hl h1 h2 h3 h4 h5 h6
  go_enter Try.func19, Try.ntmps19
  go_wp2_with (go_at_call 21; refine HL.out.mono ?_; rintro e w' ⟨rfl, n, rfl⟩)
  go_ret2
  exact ⟨rfl, HP.out _, ((Upd.refl _ w).setCell (.inl (by simp)) _).drewN n⟩


end Go.Proofs.Ytcehkflkekefpaa
