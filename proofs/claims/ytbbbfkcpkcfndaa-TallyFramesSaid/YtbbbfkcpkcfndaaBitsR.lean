/- The Reader of bits: what it holds in memory ('Rd'), and the contracts of clone, Bytes, Read, Left, Bit, Num, Close. -/
import Derived.Test.YtbbbfkcpkcfndaaBitsNum
namespace Go.Proofs.Ytbbbfkcpkcfndaa
open Go.RowKit Go.Proofs.Tm
set_option linter.unusedVariables false
set_option maxRecDepth 20000

set_option maxHeartbeats 400000 in
theorem clone_any (bv : Value) (bs : List Nat) (w : World) (h : Sl w bv (cu8 bs)) (hl : bs.length ≤ 140737488355328) :
    Calls Try.prog 74 #[bv] w fun e w' => e = .returned (.slice (some ⟨w.heap.size, 0, none⟩) bs.length bs.length) ∧ w'.ownsRow w.heap.size 5 1 (.slice (some ⟨w.heap.size, 0, none⟩) bs.length bs.length) bs.length (cu8 bs) ∧ Upd [] w w' := by
  obtain ⟨i0, hi, hz0, hz1, hz2⟩ := info_parts infoU8
  have hsz : (Try.prog.info? 5).map (·.size) = some 1 := by rw [hi]; simp [hz1]
  have HS := Lib.hid h
  obtain ⟨a, cap, rfl, hlc, hcm, _⟩ := h
  simp only [cu8_length] at HS hlc ⊢
  have HZ := Lib.hid hz2
  clear hz2
  go_enter Try.func74, Try.ntmps74
  go_wp2_with (at_make; refine wpList_make_full w rfl (.tmp 5) (.tmp 5) 24 rfl w.heap.size 5 i0 (.int .u8 0) 1 Try.underlying24 hi hz0 hz1 .i64 .i64 _ _ bs.length rfl rfl rfl rfl (by rw [HZ.out]; omega) (by unfold maxLen; omega) (Nat.le_refl _) ?_)
  intro w1 ho hg
  go_wp2_with (refine wpList_copy_sl _ rfl (.tmp 7) (.tmp 8) 24 rfl w.heap.size 5 Try.underlying24 hsz _ bs.length _ rfl ho _ (cu8 bs) rfl (HS.out.upd0 (Upd.of_grown hg)) (cu8_one _) ?c2)
  case c2 =>
    intro w2 ho2 hg2
    rw [List.take_of_length_le (by simp), List.drop_eq_nil_of_le (by simp [madeCells]), List.append_nil] at ho2
    have HO := Lib.hid ho2
    have HG := Lib.hid ((Upd.of_grown hg : Upd [] w w1).grown hg2 (fun k hk => .inr (by simp [Value.ownBlock] at hk; omega)))
    clear ho2 hg2 ho hg
    go_wp2
    go_ret
    exact ⟨rfl, HO.out, HG.out⟩

theorem bytes_any (p : Nat) (g : Option Nat) (l : List Bool) (w : World) (h : Wr w p g l) (hl : l.length ≤ 1125899906842624) :
    Calls Try.prog 24 #[.pointer (some ⟨p, 0, none⟩)] w fun e w' => ∃ v, e = .returned v ∧ w'.ownsRow w.heap.size 5 1 v ((l.length + 7) / 8) (cu8 (bytesOf l)) ∧ Upd [] w w' := by
  obtain ⟨v, h1, rfl, h3⟩ := h
  have c0 : w.cell? ⟨p, 0, none⟩ = some v := by rw [cell_of_row w p 0 _ _ _ h1]; rfl
  have HS := Lib.hid (Sl.own h3)
  clear h1 h3
  go_enter Try.func24, Try.ntmps24
  go_wp2_with (go_at_call 74; refine (clone_any _ _ _ HS.out (by simp; omega)).mono ?_; rintro e w' ⟨rfl, ho, hu⟩)
  go_ret
  rw [bytesOf_length] at ho
  exact ⟨_, rfl, ho, hu⟩

/-- At block p stands a Reader of the bytes bs (its own copy, in block g), at the bit 'at'. -/
def Rd (w : World) (p : Nat) (g : Option Nat) (bs : List Nat) (i : Nat) : Prop :=
  ∃ v, w.heap[p]? = some (.cells #[v, .int .i64 (i : Int)] 104 (0, 0)) ∧ v.ownBlock = g ∧ w.ownsRow 0 5 1 v bs.length (cu8 bs) ∧ i ≤ 8 * bs.length ∧ bs.length ≤ 140737488355328 ∧ ∀ b ∈ bs, b < 256

theorem Rd.upd {w w' : World} {S : List Nat} {p : Nat} {g : Option Nat} {bs : List Nat} {i : Nat} (h : Rd w p g bs i) (u : Upd S w w') (hp : p ∉ S) (hg : ∀ k, g = some k → k ∉ S) : Rd w' p g bs i := by
  obtain ⟨v, h1, h2, h3, h4⟩ := h
  exact ⟨v, by rw [u.block p (lt_of_block h1) hp]; exact h1, h2, ownsRow_upd h3 u (by rw [h2]; exact hg), h4⟩
theorem Rd.lt {w : World} {p : Nat} {g : Option Nat} {bs : List Nat} {i : Nat} (h : Rd w p g bs i) : p < w.heap.size := by
  obtain ⟨v, h1, _⟩ := h; exact lt_of_block h1
theorem Rd.glt {w : World} {p : Nat} {g : Option Nat} {bs : List Nat} {i : Nat} (h : Rd w p g bs i) : ∀ k, g = some k → k < w.heap.size := by
  obtain ⟨v, h1, h2, h3, _⟩ := h; intro k hk; exact (h3.lt k (by rw [h2]; exact hk)).2
theorem Rd.le {w : World} {p : Nat} {g : Option Nat} {bs : List Nat} {i : Nat} (h : Rd w p g bs i) : i ≤ 8 * bs.length := by
  obtain ⟨v, _, _, _, h4, _⟩ := h; exact h4

theorem rd_row_ne {w : World} {p : Nat} {c : Array Value} {v : Value} {n : Nat} {xs : List Value} (h1 : w.heap[p]? = some (.cells c 104 (0, 0))) (h3 : w.ownsRow 0 5 1 v n xs) : v.ownBlock ≠ some p := by
  rcases h3.2 with ⟨rfl, _⟩ | ⟨g, cap, cur, rfl, _, hg, _⟩
  · simp [Value.ownBlock]
  · intro he
    simp [Value.ownBlock] at he
    subst he
    rw [h1] at hg
    simp at hg

/-- What Read answers: a new Reader. -/
def ReadPost (bs : List Nat) (w : World) (e : Ending) (w' : World) : Prop :=
  ∃ p g, e = .returned (.pointer (some ⟨p, 0, none⟩)) ∧ Rd w' p (some g) bs 0 ∧ Upd [] w w' ∧ w.heap.size ≤ p ∧ w.heap.size ≤ g

set_option maxHeartbeats 400000 in
theorem read_any (bv : Value) (bs : List Nat) (w : World) (h : Sl w bv (cu8 bs)) (hl : bs.length ≤ 140737488355328) (hb : ∀ b ∈ bs, b < 256) :
    Calls Try.prog 26 #[bv] w (ReadPost bs w) := by
  have HS := Lib.hid h
  clear h
  go_enter Try.func26, Try.ntmps26
  go_wp2_with (go_at_call 74; refine (clone_any _ _ _ HS.out hl).mono ?_; rintro e w' ⟨rfl, ho, hu⟩)
  have hsz := hu.size
  have hw : w.heap.size < w'.heap.size := by
    rcases ho.2 with ⟨h, _⟩ | ⟨g, cap, cur, h, _, hg, _⟩
    · cases h
    · simp only [Value.slice.injEq, Option.some.injEq, Addr.mk.injEq, and_true, true_and] at h
      rw [h.1]; exact lt_of_block hg
  go_ret
  refine ⟨w'.heap.size, w.heap.size, rfl, ⟨_, by simpa using Go.heap_alloc_new w' _, rfl, ownsRow_base (ownsRow_upd ho ((Upd.refl [] w').alloc _) (by simp)) (Nat.zero_le _), Nat.zero_le _, hl, hb⟩, hu.alloc _, hsz, Nat.le_refl _⟩

set_option maxHeartbeats 400000 in
theorem left_any (p : Nat) (g : Option Nat) (bs : List Nat) (i : Nat) (w : World) (h : Rd w p g bs i) :
    Calls Try.prog 30 #[.pointer (some ⟨p, 0, none⟩)] w fun e w' => e = .returned (.int .i64 ((8 * bs.length - i : Nat) : Int)) ∧ ∃ n, w' = w.drewN n := by
  obtain ⟨v, h1, rfl, h3, h4, h5, _⟩ := h
  obtain ⟨a, cap, rfl, hl, hm, _⟩ := (Sl.own h3).open
  simp only [cu8_length] at *
  have c0 : w.cell? ⟨p, 0, none⟩ = some (.slice a bs.length cap) := by rw [cell_of_row w p 0 _ _ _ h1]; rfl
  have c1 : w.cell? ⟨p, 1, none⟩ = some (.int .i64 (i : Int)) := by rw [cell_of_row w p 1 _ _ _ h1]; rfl
  have hw1 : IntKind.i64.wrap ((bs.length : Int) * 8) = (bs.length : Int) * 8 := IntWalk.i64_in _ (by omega)
  have hw2 : IntKind.i64.wrap ((bs.length : Int) * 8 - (i : Int)) = (bs.length : Int) * 8 - (i : Int) := IntWalk.i64_in _ (by omega)
  clear h1 h3
  go_enter Try.func30, Try.ntmps30
  go_wp2
  go_quiet (fail)
  go_wp2
  go_ret
  exact ⟨ret_int (by omega), _, rfl⟩

set_option maxHeartbeats 400000 in
/-- Bit, where there is one. -/
theorem rbit_yes (p g len cap i : Nat) (x : Int) (w : World) (h4 : i < 1125899906842624) (h5 : len < 1125899906842624) (hi : (i : Int) < 8 * (len : Int))
   (c0 : w.cell? ⟨p, 0, none⟩ = some (.slice (some ⟨g, 0, none⟩) len cap)) (c1 : w.cell? ⟨p, 1, none⟩ = some (.int .i64 (i : Int))) (f1 : w.frozen? ⟨p, 1, none⟩ = false)
   (hx : w.cell? ⟨g, i / 8, none⟩ = some (.int .u8 x)) (x0 : 0 ≤ x) (x1 : x < 256)
   (hl : Hid (∀ n, Calls Try.prog 30 #[.pointer (some ⟨p, 0, none⟩)] (w.drewN n) fun e w' => e = .returned (.int .i64 ((8 * len - i : Nat) : Int)) ∧ ∃ m, w' = (w.drewN n).drewN m))
   (hne : (((8 * len - i : Nat) : Int) == 0) = false)
   (hw1 : IntKind.i64.wrap ((i : Int) / 8) = (i : Int) / 8) (hw2 : IntKind.i64.wrap ((i : Int) % 8) = (i : Int) % 8) (hw3 : ((i : Int) / 8).toNat = i / 8) (hk0 : 0 ≤ (i : Int) / 8)
   (htm : (i : Int).tmod 8 = (i : Int) % 8) (hm0 : 0 ≤ (i : Int) % 8) (hm8 : (i : Int) % 8 ≤ 8) (hk : (i : Int) / 8 < (len : Int)) :
    Calls Try.prog 33 #[.pointer (some ⟨p, 0, none⟩)] w fun e w' => e = .returned (.tuple #[.bool (bits .and .u8 x (128 / 2 ^ (i % 8)) != 0), .int .i64 0]) ∧ ∃ n, w' = (w.setCell ⟨p, 1, none⟩ (.int .i64 ((i : Int) + 1))).drewN n := by
  go_enter Try.func33, Try.ntmps33
  go_wp2_with (go_at_call 30; refine (hl.out 0).mono ?_; rintro e w' ⟨rfl, n, rfl⟩)
  go_quiet (fail)
  go_wp2
  go_ret2
  exact ⟨rfl, _, rfl⟩


theorem and_byte (x n : Nat) (hx : x < 256) : (bits .and .u8 (x : Int) (128 / 2 ^ (n % 8)) != 0) = x.testBit (7 - n % 8) := by
  have h1 : (128 : Int) / 2 ^ (n % 8) = ((128 / 2 ^ (n % 8) : Nat) : Int) := by simp
  have hr : n % 8 < 8 := Nat.mod_lt _ (by decide)
  have h2 : 128 / 2 ^ (n % 8) = 2 ^ (7 - n % 8) := by
    generalize n % 8 = r at *
    rcases (by omega : r = 0 ∨ r = 1 ∨ r = 2 ∨ r = 3 ∨ r = 4 ∨ r = 5 ∨ r = 6 ∨ r = 7) with rfl | rfl | rfl | rfl | rfl | rfl | rfl | rfl <;> rfl
  rw [h1, u8_and_nat _ _ hx (Nat.lt_of_le_of_lt (Nat.div_le_self _ _) (by decide)), h2, nat_bit, Nat.testBit_eq_decide_div_mod_eq]
  have hp := Nat.two_pow_pos (7 - n % 8)
  have h3 : x / 2 ^ (7 - n % 8) % 2 = 0 ∨ x / 2 ^ (7 - n % 8) % 2 = 1 := by omega
  rcases h3 with h3 | h3 <;> rw [h3]
  · simp
  · simp only [Nat.one_mul, decide_true]
    rw [bne_iff_ne]; omega

/-- What a call of the Reader's Bit leaves where there is a bit. -/
def RBitPost (p : Nat) (g : Option Nat) (bs : List Nat) (i : Nat) (w : World) (e : Ending) (w' : World) : Prop :=
  e = .returned (.tuple #[.bool (bitAt bs i), .int .i64 0]) ∧ Rd w' p g bs (i + 1) ∧ Upd [p] w w'

theorem Rd.drewN {w : World} {p : Nat} {g : Option Nat} {bs : List Nat} {i : Nat} (h : Rd w p g bs i) (n : Nat) : Rd (w.drewN n) p g bs i := h

theorem rbit_any (p : Nat) (g : Option Nat) (bs : List Nat) (i : Nat) (w : World) (h : Rd w p g bs i) (hi : i < 8 * bs.length) :
    Calls Try.prog 33 #[.pointer (some ⟨p, 0, none⟩)] w (RBitPost p g bs i w) := by
  have h0 := h
  obtain ⟨v, h1, rfl, h3, h4, h5, h6⟩ := h
  obtain ⟨g1, cap1, rfl⟩ : ∃ g1 cap1, v = .slice (some ⟨g1, 0, none⟩) bs.length cap1 := by
    rcases h3.2 with ⟨_, h⟩ | ⟨g, cap', _, h, _⟩
    · omega
    · exact ⟨g, cap', h⟩
  have c0 : w.cell? ⟨p, 0, none⟩ = some (.slice (some ⟨g1, 0, none⟩) bs.length cap1) := by rw [cell_of_row w p 0 _ _ _ h1]; rfl
  have c1 : w.cell? ⟨p, 1, none⟩ = some (.int .i64 (i : Int)) := by rw [cell_of_row w p 1 _ _ _ h1]; rfl
  have f1 : w.frozen? ⟨p, 1, none⟩ = false := frozen_of_row w p 1 _ _ h1
  have hj : i / 8 < bs.length := by omega
  have hx : w.cell? ⟨g1, i / 8, none⟩ = some (.int .u8 ((bs.getD (i / 8) 0 : Nat) : Int)) := by
    rw [h3.cellAt (i / 8) (by omega), cu8_getElem?]; simp [hj]
  have hlt : bs.getD (i / 8) 0 < 256 := by
    have : bs.getD (i / 8) 0 ∈ bs := by simp [hj]
    exact h6 _ this
  refine (rbit_yes p g1 bs.length cap1 i _ w (by omega) (by omega) (by omega) c0 c1 f1 hx (by omega) (by omega) (fun n => (left_any p _ bs i _ (h0.drewN n)).mono fun _ _ q => q) (by simp; omega)
    (IntWalk.i64_in _ (by omega)) (IntWalk.i64_in _ (by omega)) (by omega) (by omega) (Int.tmod_eq_emod_of_nonneg (by omega)) (by omega) (by omega) (by omega)).mono ?_
  rintro e w' ⟨rfl, n, rfl⟩
  refine ⟨?_, ?_, ((Upd.refl _ w).setCell (.inl (by simp)) _).drewN n⟩
  · rw [and_byte _ _ hlt]; rfl
  · refine Rd.drewN ?_ n
    refine ⟨_, by rw [heap_setCell_same w p 1 _ _ _ h1]; rfl, rfl, ownsRow_setCell_other h3 (rd_row_ne h1 h3) _, by omega, h5, h6⟩

set_option maxHeartbeats 400000 in
/-- Bit, where there is none. -/
theorem rbit_no (p : Nat) (g : Option Nat) (bs : List Nat) (w : World) (h : Rd w p g bs (8 * bs.length)) :
    Calls Try.prog 33 #[.pointer (some ⟨p, 0, none⟩)] w fun e w' => e = .returned (.tuple #[.bool false, .int .i64 5]) ∧ ∃ n, w' = w.drewN n := by
  have hl := left_any p g bs _ w h
  have h0 : (((8 * bs.length - 8 * bs.length : Nat) : Int) == 0) = true := by simp
  have HL := Lib.hid hl
  clear hl h
  go_enter Try.func33, Try.ntmps33
  go_wp2_with (go_at_call 30; refine HL.out.mono ?_; rintro e w' ⟨rfl, n, rfl⟩)
  go_ret2
  exact ⟨rfl, _, rfl⟩

end Go.Proofs.Ytbbbfkcpkcfndaa
