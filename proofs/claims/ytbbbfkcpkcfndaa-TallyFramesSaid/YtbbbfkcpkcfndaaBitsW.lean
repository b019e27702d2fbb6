/- The Writer of bits: what it holds in memory ('Wr'), and the contract of Bit. -/
import Derived.Test.YtbbbfkcpkcfndaaProg
import Derived.Test.YtbbbfkcpkcfndaaBase
import Derived.Test.YtbbbfkcpkcfndaaBitsMath
namespace Go.Proofs.Ytbbbfkcpkcfndaa
open Go.RowKit Go.Proofs.Tm
set_option linter.unusedVariables false
set_option maxRecDepth 20000

/-- Bytes as cells. -/
def cu8 (bs : List Nat) : List Value := bs.map fun (b : Nat) => Value.int .u8 (b : Int)
@[simp] theorem cu8_length (bs : List Nat) : (cu8 bs).length = bs.length := by simp [cu8]
theorem cu8_one (bs : List Nat) : ∀ u ∈ cu8 bs, u.oneCell' = true := by intro u hu; obtain ⟨b, _, rfl⟩ := List.mem_map.1 hu; rfl
/-- Bits as cells. -/
def cb (l : List Bool) : List Value := l.map Value.bool
@[simp] theorem cb_length (l : List Bool) : (cb l).length = l.length := by simp [cb]
theorem cb_one (l : List Bool) : ∀ u ∈ cb l, u.oneCell' = true := by intro u hu; obtain ⟨b, _, rfl⟩ := List.mem_map.1 hu; rfl
theorem cb_append (l m : List Bool) : cb (l ++ m) = cb l ++ cb m := by simp [cb]
theorem cu8_append (l m : List Nat) : cu8 (l ++ m) = cu8 l ++ cu8 m := by simp [cu8]

theorem infoU8 : (Try.prog.info? 5).map (fun i => (i.zero, i.size, i.bytes)) = some (some (.int .u8 0), 1, 1) := by kernel_rfl
theorem infoBool : (Try.prog.info? 4).map (fun i => (i.zero, i.size, i.bytes)) = some (some (.bool false), 1, 1) := by kernel_rfl

/-- At block p stands a Writer of the bits l, whose bytes lie in block g. -/
def Wr (w : World) (p : Nat) (g : Option Nat) (l : List Bool) : Prop :=
  ∃ v, w.heap[p]? = some (.cells #[v, .int .i64 (l.length : Int)] 26 (0, 0)) ∧ v.ownBlock = g ∧ w.ownsRow 0 5 1 v ((l.length + 7) / 8) (cu8 (bytesOf l))

theorem Wr.upd {w w' : World} {S : List Nat} {p : Nat} {g : Option Nat} {l : List Bool} (h : Wr w p g l) (u : Upd S w w') (hp : p ∉ S) (hg : ∀ k, g = some k → k ∉ S) : Wr w' p g l := by
  obtain ⟨v, h1, h2, h3⟩ := h
  exact ⟨v, by rw [u.block p (lt_of_block h1) hp]; exact h1, h2, ownsRow_upd h3 u (by rw [h2]; exact hg)⟩

theorem Wr.lt {w : World} {p : Nat} {g : Option Nat} {l : List Bool} (h : Wr w p g l) : p < w.heap.size := by
  obtain ⟨v, h1, _⟩ := h; exact lt_of_block h1
theorem Wr.glt {w : World} {p : Nat} {g : Option Nat} {l : List Bool} (h : Wr w p g l) : ∀ k, g = some k → k < w.heap.size := by
  obtain ⟨v, h1, h2, h3⟩ := h; intro k hk; exact (h3.lt k (by rw [h2]; exact hk)).2

theorem Wr.zero (w : World) : Wr (w.alloc (.cells #[.slice none 0 0, .int .i64 0] 26)) w.heap.size none [] :=
  ⟨.slice none 0 0, by simpa using Go.heap_alloc_new w _, rfl, by simpa [bytesOf, cu8] using World.ownsRow_nil _ _ _ _⟩

/-- A row of bytes and the block of a Writer are two blocks. -/
theorem row_ne {w : World} {p : Nat} {c : Array Value} {v : Value} {n : Nat} {xs : List Value} (h1 : w.heap[p]? = some (.cells c 26 (0, 0))) (h3 : w.ownsRow 0 5 1 v n xs) : v.ownBlock ≠ some p := by
  rcases h3.2 with ⟨rfl, _⟩ | ⟨g, cap, cur, rfl, _, hg, _⟩
  · simp [Value.ownBlock]
  · intro he
    simp [Value.ownBlock] at he
    subst he
    rw [h1] at hg
    simp at hg

theorem cell_set_same {w : World} {b o : Nat} {v u : Value} (h : w.cell? ⟨b, o, none⟩ = some v) : (w.setCell ⟨b, o, none⟩ u).cell? ⟨b, o, none⟩ = some u := by
  unfold World.cell? at h
  have hlt : b < w.heap.size := World.block_lt_of_cell? w ⟨b, o, none⟩ h
  simp only [World.setCell, World.cell?, Array.getElem?_modify, if_true]
  rw [Array.getElem?_eq_getElem hlt] at h ⊢
  revert h
  generalize w.heap[b] = ob
  cases ob <;> simp
  rename_i c e f
  intro h
  have ho : o < c.size := (Array.getElem?_eq_some_iff.1 h).1
  simp [ho]
theorem cell_set_off {w : World} {b o b' o' : Nat} {u : Value} (h : o' ≠ o) : (w.setCell ⟨b, o, none⟩ u).cell? ⟨b', o', none⟩ = w.cell? ⟨b', o', none⟩ := by
  simp only [World.setCell, World.cell?, Array.getElem?_modify]
  by_cases hb : b = b'
  · subst hb
    cases hq : w.heap[b]? with
    | none => simp
    | some ob => cases ob <;> simp [Ne.symm h]
  · simp [hb]
theorem cell_set_block {w : World} {b o b' o' : Nat} {u : Value} (h : b' ≠ b) : (w.setCell ⟨b, o, none⟩ u).cell? ⟨b', o', none⟩ = w.cell? ⟨b', o', none⟩ :=
  World.cell?_of_block (a := ⟨b', o', none⟩) (Below.heap_setCell _ _ _ _ h)

theorem fresh_alloc {w : World} {o : Obj} {v v' : Value} (h : Fresh (w.alloc o) v v') : Fresh w v v' := by
  rcases h with h | ⟨k, hk, hl⟩
  · exact .inl h
  · exact .inr ⟨k, hk, Nat.le_trans (by simp) hl⟩

/-- What a call of Bit leaves. -/
def BitPost (p : Nat) (g : Option Nat) (l : List Bool) (b : Bool) (w : World) (e : Ending) (w' : World) : Prop :=
  e = .returned (.tuple #[]) ∧ ∃ g', Wr w' p g' (l ++ [b]) ∧ Upd (p :: g.toList) w w' ∧ (g' = g ∨ ∃ k, g' = some k ∧ w.heap.size ≤ k)

section
variable (p : Nat) (v : Value) (w : World)

set_option maxHeartbeats 400000 in
/-- There is room, the bit is a nought. -/
theorem bit_room_no (n : Nat) (hn : n < 4611686018427387904)
   (c0 : w.cell? ⟨p, 0, none⟩ = some v) (c1 : w.cell? ⟨p, 1, none⟩ = some (.int .i64 n)) (f0 : w.frozen? ⟨p, 0, none⟩ = false) (f1 : w.frozen? ⟨p, 1, none⟩ = false) (hm : ((n : Int) % 8 == 0) = false) :
    Calls Try.prog 72 #[.pointer (some ⟨p, 0, none⟩), .bool false] w fun e w' => e = .returned (.tuple #[]) ∧ w' = w.setCell ⟨p, 1, none⟩ (.int .i64 (n+1)) := by
  go_enter Try.func72, Try.ntmps72
  go_wp2
  go_end0
  exact ⟨rfl, rfl⟩

set_option maxHeartbeats 400000 in
/-- There is room, the bit is set. -/
theorem bit_room_yes (n g m cap : Nat) (x : Int) (hn : n < 4611686018427387904)
   (c0 : w.cell? ⟨p, 0, none⟩ = some (.slice (some ⟨g, 0, none⟩) m cap)) (c1 : w.cell? ⟨p, 1, none⟩ = some (.int .i64 n)) (f0 : w.frozen? ⟨p, 0, none⟩ = false) (f1 : w.frozen? ⟨p, 1, none⟩ = false)
   (hx : w.cell? ⟨g, n / 8, none⟩ = some (.int .u8 x)) (fx : w.frozen? ⟨g, n / 8, none⟩ = false) (x0 : 0 ≤ x) (x1 : x < 256)
   (hw1 : IntKind.i64.wrap ((n : Int) / 8) = (n : Int) / 8) (hw2 : IntKind.i64.wrap ((n : Int) % 8) = (n : Int) % 8) (hw3 : ((n : Int) / 8).toNat = n / 8) (hk0 : 0 ≤ (n : Int) / 8)
   (htm : (n : Int).tmod 8 = (n : Int) % 8) (hm0 : 0 ≤ (n : Int) % 8) (hm8 : (n : Int) % 8 ≤ 8) (hk : (n : Int) / 8 < (m : Int)) (hgp : g ≠ p) (hm : ((n : Int) % 8 == 0) = false) :
    Calls Try.prog 72 #[.pointer (some ⟨p, 0, none⟩), .bool true] w fun e w' => e = .returned (.tuple #[]) ∧
      w' = ((w.setCell ⟨g, n / 8, none⟩ (.int .u8 (bits .or .u8 x (128 / 2 ^ (n % 8))))).setCell ⟨p, 1, none⟩ (.int .i64 (n+1))).drew := by
  go_enter Try.func72, Try.ntmps72
  go_wp2
  go_still_tail 19, (by kernel_rfl)
  change wpList _ _ _ _ _ w.drew
  go_wp2
  go_end0
  exact ⟨rfl, rfl⟩

set_option maxHeartbeats 400000 in
/-- There is none, the bit is a nought. -/
theorem bit_grow_no (n : Nat) (xs : List Value) (hp : p < w.heap.size) (hn : n < 1125899906842624)
   (c0 : w.cell? ⟨p, 0, none⟩ = some v) (c1 : w.cell? ⟨p, 1, none⟩ = some (.int .i64 n)) (f0 : w.frozen? ⟨p, 0, none⟩ = false) (f1 : w.frozen? ⟨p, 1, none⟩ = false)
   (hown : w.ownsRow 0 5 1 v (n / 8) xs) (hvp : v.ownBlock ≠ some p) (hm : ((n : Int) % 8 == 0) = true) :
    Calls Try.prog 72 #[.pointer (some ⟨p, 0, none⟩), .bool false] w fun e w' => e = .returned (.tuple #[]) ∧
      ∃ v1 w1, w1.ownsRow 0 5 1 v1 (n / 8 + 1) (xs ++ [.int .u8 0]) ∧ w.grownBy w1 v.ownBlock ∧ Fresh w v v1 ∧ w' = (w1.setCell ⟨p, 0, none⟩ v1).setCell ⟨p, 1, none⟩ (.int .i64 (n+1)) := by
  go_enter Try.func72, Try.ntmps72
  go_wp2_with (at_builtin; refine wpList_append_sl _ rfl (.tmp 14) (.tmp 15) 24 rfl 0 5 (.int .u8 0) 1 Try.underlying24 infoU8 rfl _ _ _ rfl (hown.alloc _) _ [.int .u8 0] rfl (Sl.lit1 w _ _) ?c2 ?c3 ?c4 ?c5 ?go)
  case c2 => intro u hu; simp at hu; subst hu; rfl
  case c3 => unfold maxLen; simp; omega
  case c4 => simp; omega
  case c5 => exact Nat.zero_le _
  case go =>
    intro v1 w1 hown1 hg1 hnil
    have HN := Lib.hid hnil
    obtain ⟨g1, cap1, rfl⟩ : ∃ g1 cap1, v1 = .slice (some ⟨g1, 0, none⟩) (n / 8 + 1) cap1 := by
      rcases hown1.2 with ⟨_, h⟩ | ⟨g, cap', _, h, _⟩
      · omega
      · exact ⟨g, cap', h⟩
    have hbl : w1.heap[p]? = w.heap[p]? := by
      rw [hg1.block p (by simp; omega) (fun h => hvp h.symm)]; exact Below.heap_alloc w _ p hp
    have k0 := (World.cell?_of_block (a := ⟨p, 0, none⟩) hbl).trans c0
    have k1 := (World.cell?_of_block (a := ⟨p, 1, none⟩) hbl).trans c1
    have e0 := (World.frozen?_of_block (a := ⟨p, 0, none⟩) hbl).trans f0
    have e1 := (World.frozen?_of_block (a := ⟨p, 1, none⟩) hbl).trans f1
    have HG := Lib.hid hg1
    have HO := Lib.hid hown1
    have HB := Lib.hid hbl
    clear hg1 hown1 hbl hnil hown hvp
    go_wp2
    go_end0
    refine ⟨rfl, _, w1, HO.out, ?_, fresh_alloc HN.out, rfl⟩
    exact ⟨HG.out.os, HG.out.tape, HG.out.output, Nat.le_trans (by simp) HG.out.size, fun k hk hkr => (HG.out.block k (by simp; omega) hkr).trans (Below.heap_alloc w _ k hk)⟩

set_option maxHeartbeats 800000 in
/-- There is none, the bit is set. -/
theorem bit_grow_yes (n : Nat) (xs : List Value) (hp : p < w.heap.size) (hn : n < 1125899906842624)
   (c0 : w.cell? ⟨p, 0, none⟩ = some v) (c1 : w.cell? ⟨p, 1, none⟩ = some (.int .i64 n)) (f0 : w.frozen? ⟨p, 0, none⟩ = false) (f1 : w.frozen? ⟨p, 1, none⟩ = false)
   (hown : w.ownsRow 0 5 1 v (n / 8) xs) (hvp : v.ownBlock ≠ some p) (hm : ((n : Int) % 8 == 0) = true)
   (hw1 : IntKind.i64.wrap ((n : Int) / 8) = (n : Int) / 8) (hw2 : IntKind.i64.wrap ((n : Int) % 8) = (n : Int) % 8) (hw3 : ((n : Int) / 8).toNat = n / 8) (hk0 : 0 ≤ (n : Int) / 8)
   (htm : (n : Int).tmod 8 = (n : Int) % 8) (hm0 : 0 ≤ (n : Int) % 8) (hm8 : (n : Int) % 8 ≤ 8) (hk : (n : Int) / 8 < (n : Int) / 8 + 1) (hxs : xs.length = n / 8) (hpb : ∃ c, w.heap[p]? = some (.cells c 26 (0, 0))) :
    Calls Try.prog 72 #[.pointer (some ⟨p, 0, none⟩), .bool true] w fun e w' => e = .returned (.tuple #[]) ∧
      ∃ g1 cap1 w1, w1.ownsRow 0 5 1 (.slice (some ⟨g1, 0, none⟩) (n / 8 + 1) cap1) (n / 8 + 1) (xs ++ [.int .u8 0]) ∧ w.grownBy w1 v.ownBlock ∧ Fresh w v (.slice (some ⟨g1, 0, none⟩) (n / 8 + 1) cap1) ∧ g1 ≠ p ∧
       w' = (((w1.setCell ⟨p, 0, none⟩ (.slice (some ⟨g1, 0, none⟩) (n / 8 + 1) cap1)).setCell ⟨g1, n / 8, none⟩ (.int .u8 (bits .or .u8 0 (128 / 2 ^ (n % 8))))).setCell ⟨p, 1, none⟩ (.int .i64 (n+1))).drew := by
  go_enter Try.func72, Try.ntmps72
  go_wp2_with (at_builtin; refine wpList_append_sl _ rfl (.tmp 14) (.tmp 15) 24 rfl 0 5 (.int .u8 0) 1 Try.underlying24 infoU8 rfl _ _ _ rfl (hown.alloc _) _ [.int .u8 0] rfl (Sl.lit1 w _ _) ?c2 ?c3 ?c4 ?c5 ?go)
  case c2 => intro u hu; simp at hu; subst hu; rfl
  case c3 => unfold maxLen; simp; omega
  case c4 => simp; omega
  case c5 => exact Nat.zero_le _
  case go =>
    intro v1 w1 hown1 hg1 hnil
    have HN := Lib.hid hnil
    obtain ⟨g1, cap1, rfl⟩ : ∃ g1 cap1, v1 = .slice (some ⟨g1, 0, none⟩) (n / 8 + 1) cap1 := by
      rcases hown1.2 with ⟨_, h⟩ | ⟨g, cap', _, h, _⟩
      · omega
      · exact ⟨g, cap', h⟩
    have hbl : w1.heap[p]? = w.heap[p]? := by
      rw [hg1.block p (by simp; omega) (fun h => hvp h.symm)]; exact Below.heap_alloc w _ p hp
    have k0 := (World.cell?_of_block (a := ⟨p, 0, none⟩) hbl).trans c0
    have k1 := (World.cell?_of_block (a := ⟨p, 1, none⟩) hbl).trans c1
    have e0 := (World.frozen?_of_block (a := ⟨p, 0, none⟩) hbl).trans f0
    have e1 := (World.frozen?_of_block (a := ⟨p, 1, none⟩) hbl).trans f1
    have hgp : g1 ≠ p := by
      obtain ⟨c, hc⟩ := hpb
      have := row_ne (hbl.trans hc) hown1
      simpa [Value.ownBlock] using this
    have hgp' : p ≠ g1 := hgp.symm
    have kx : w1.cell? ⟨g1, n / 8, none⟩ = some (.int .u8 0) := by rw [hown1.cellAt (n / 8) (by omega), List.getElem?_append_right (by omega), hxs]; simp
    have fx : w1.frozen? ⟨g1, n / 8, none⟩ = false := hown1.frozenAt _
    obtain ⟨W2, hW⟩ : ∃ W2, W2 = w1.setCell ⟨p, 0, none⟩ (.slice (some ⟨g1, 0, none⟩) (n / 8 + 1) cap1) := ⟨_, rfl⟩
    have q0 : W2.cell? ⟨p, 0, none⟩ = some (.slice (some ⟨g1, 0, none⟩) (n / 8 + 1) cap1) := by rw [hW]; exact cell_set_same k0
    have q1 : W2.cell? ⟨p, 1, none⟩ = some (.int .i64 n) := by rw [hW]; exact (cell_set_off (by decide)).trans k1
    have r0 : W2.frozen? ⟨p, 0, none⟩ = false := by rw [hW]; simpa using e0
    have r1 : W2.frozen? ⟨p, 1, none⟩ = false := by rw [hW]; simpa using e1
    have qx : W2.cell? ⟨g1, n / 8, none⟩ = some (.int .u8 0) := by rw [hW]; exact (cell_set_block hgp).trans kx
    have rx : W2.frozen? ⟨g1, n / 8, none⟩ = false := by rw [hW]; simpa using fx
    have HG := Lib.hid hg1
    have HO := Lib.hid hown1
    have HW := Lib.hid hW
    clear hg1 hown1 hbl hnil hown hvp hxs hpb kx fx
    go_wp2
    rw [← hW]
    clear hW k0 k1 e0 e1 c0 c1 f0 f1
    go_still_tail 19, (by kernel_rfl)
    change wpList _ _ _ _ _ (World.drew _)
    go_wp2
    go_end0
    refine ⟨rfl, g1, cap1, w1, HO.out, ?_, fresh_alloc HN.out, hgp, by rw [← HW.out]⟩
    exact ⟨HG.out.os, HG.out.tape, HG.out.output, Nat.le_trans (by simp) HG.out.size, fun k hk hkr => (HG.out.block k (by simp; omega) hkr).trans (Below.heap_alloc w _ k hk)⟩
end
end Go.Proofs.Ytbbbfkcpkcfndaa
