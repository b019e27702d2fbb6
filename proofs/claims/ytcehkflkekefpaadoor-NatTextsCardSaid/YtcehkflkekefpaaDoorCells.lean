/- Bytes and bools as cells of rows; cells behind a store. -/
import Derived.Test.YtcehkflkekefpaaDoorProg
import Derived.Test.YtcehkflkekefpaaDoorAa
import Derived.Test.YtcehkflkekefpaaDoorBitsMath
import Derived.Laws.BitsAllLaws
import Derived.OneCell
namespace Go.Proofs.YtcehkflkekefpaaDoor
open Go.RowKit Go.Proofs.Tm
set_option linter.unusedVariables false
set_option maxRecDepth 20000

/-- Bytes as cells. -/
def cu8 (bs : List Nat) : List Value := bs.map fun (b : Nat) => Value.int .u8 (b : Int)
@[simp] theorem cu8_length (bs : List Nat) : (cu8 bs).length = bs.length := by simp [cu8]
theorem cu8_one (bs : List Nat) : ∀ u ∈ cu8 bs, u.oneCell' = true := by intro u hu; obtain ⟨b, _, rfl⟩ := List.mem_map.1 hu; rfl
/-- Bits as cells. -/
def cb (l : List Bool) : List Value := l.map Value.bool
@[simp] theorem cb_length (l : List Bool) : (cb l).length = l.length := by simp [cb]
theorem cb_one (l : List Bool) : ∀ u ∈ cb l, u.oneCell' = true := by intro u hu; obtain ⟨b, _, rfl⟩ := List.mem_map.1 hu; rfl
theorem cb_append (l m : List Bool) : cb (l ++ m) = cb l ++ cb m := by simp [cb]
theorem cu8_append (l m : List Nat) : cu8 (l ++ m) = cu8 l ++ cu8 m := by simp [cu8]

theorem infoU8 : (Tryd.prog.info? 5).map (fun i => (i.zero, i.size, i.bytes)) = some (some (.int .u8 0), 1, 1) := by kernel_rfl
theorem infoBool : (Tryd.prog.info? 4).map (fun i => (i.zero, i.size, i.bytes)) = some (some (.bool false), 1, 1) := by kernel_rfl

theorem cell_set_same {w : World} {b o : Nat} {v u : Value} (h : w.cell? ⟨b, o, none⟩ = some v) : (w.setCell ⟨b, o, none⟩ u).cell? ⟨b, o, none⟩ = some u := by
  unfold World.cell? at h
  have hlt : b < w.heap.size := World.block_lt_of_cell? w ⟨b, o, none⟩ h
  simp only [World.setCell, World.cell?, Array.getElem?_modify, if_true]
  rw [Array.getElem?_eq_getElem hlt] at h ⊢
  revert h
  generalize w.heap[b] = ob
  cases ob <;> simp
  rename_i c e f
  intro h
  have ho : o < c.size := (Array.getElem?_eq_some_iff.1 h).1
  simp [ho]
theorem cell_set_off {w : World} {b o b' o' : Nat} {u : Value} (h : o' ≠ o) : (w.setCell ⟨b, o, none⟩ u).cell? ⟨b', o', none⟩ = w.cell? ⟨b', o', none⟩ := by
  simp only [World.setCell, World.cell?, Array.getElem?_modify]
  by_cases hb : b = b'
  · subst hb
    cases hq : w.heap[b]? with
    | none => simp
    | some ob => cases ob <;> simp [Ne.symm h]
  · simp [hb]
theorem cell_set_block {w : World} {b o b' o' : Nat} {u : Value} (h : b' ≠ b) : (w.setCell ⟨b, o, none⟩ u).cell? ⟨b', o', none⟩ = w.cell? ⟨b', o', none⟩ :=
  World.cell?_of_block (a := ⟨b', o', none⟩) (Below.heap_setCell _ _ _ _ h)

theorem fresh_alloc {w : World} {o : Obj} {v v' : Value} (h : Fresh (w.alloc o) v v') : Fresh w v v' := by
  rcases h with h | ⟨k, hk, hl⟩
  · exact .inl h
  · exact .inr ⟨k, hk, Nat.le_trans (by simp) hl⟩

theorem cu8_set (bs : List Nat) (i b : Nat) : cu8 (bs.set i b) = (cu8 bs).set i (.int .u8 (b : Int)) := by simp [cu8, List.map_set]
theorem cu8_getElem? (bs : List Nat) (i : Nat) : (cu8 bs)[i]? = bs[i]?.map fun (b : Nat) => Value.int .u8 (b : Int) := by simp [cu8]

theorem cb_getElem? (l : List Bool) (i : Nat) (h : i < l.length) : (cb l)[i]? = some (.bool (l.getD i false)) := by simp [cb, h]

theorem or_byte (x n : Nat) (hx : x < 256) : bits .or .u8 (x : Int) (128 / 2 ^ (n % 8)) = ((x ||| (128 / 2 ^ (n % 8)) : Nat) : Int) := by
  have h1 : (128 : Int) / 2 ^ (n % 8) = ((128 / 2 ^ (n % 8) : Nat) : Int) := by simp
  rw [h1, u8_or_nat _ _ hx (Nat.lt_of_le_of_lt (Nat.div_le_self _ _) (by decide))]

theorem and_byte (x n : Nat) (hx : x < 256) : (bits .and .u8 (x : Int) (128 / 2 ^ (n % 8)) != 0) = x.testBit (7 - n % 8) := by
  have h1 : (128 : Int) / 2 ^ (n % 8) = ((128 / 2 ^ (n % 8) : Nat) : Int) := by simp
  have hr : n % 8 < 8 := Nat.mod_lt _ (by decide)
  have h2 : 128 / 2 ^ (n % 8) = 2 ^ (7 - n % 8) := by
    generalize n % 8 = r at *
    rcases (by omega : r = 0 ∨ r = 1 ∨ r = 2 ∨ r = 3 ∨ r = 4 ∨ r = 5 ∨ r = 6 ∨ r = 7) with rfl | rfl | rfl | rfl | rfl | rfl | rfl | rfl <;> rfl
  rw [h1, u8_and_nat _ _ hx (Nat.lt_of_le_of_lt (Nat.div_le_self _ _) (by decide)), h2, nat_bit, Nat.testBit_eq_decide_div_mod_eq]
  have hp := Nat.two_pow_pos (7 - n % 8)
  have h3 : x / 2 ^ (7 - n % 8) % 2 = 0 ∨ x / 2 ^ (7 - n % 8) % 2 = 1 := by omega
  rcases h3 with h3 | h3 <;> rw [h3]
  · simp
  · simp only [Nat.one_mul, decide_true]
    rw [bne_iff_ne]; omega

end Go.Proofs.YtcehkflkekefpaaDoor
