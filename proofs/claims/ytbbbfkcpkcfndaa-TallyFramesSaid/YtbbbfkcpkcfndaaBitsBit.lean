/- The contract of (*bits.Writer).Bit at every Writer: the bit stands behind the others. -/
import Derived.Test.YtbbbfkcpkcfndaaBitsW
namespace Go.Proofs.Ytbbbfkcpkcfndaa
open Go.RowKit Go.Proofs.Tm
set_option linter.unusedVariables false
set_option maxRecDepth 20000

theorem Wr.mk1 {w1 : World} {p : Nat} {v y : Value} {l : List Bool} (h : w1.heap[p]? = some (.cells #[v, y] 26 (0, 0))) (ho : w1.ownsRow 0 5 1 v ((l.length + 7) / 8) (cu8 (bytesOf l))) :
    Wr (w1.setCell ⟨p, 1, none⟩ (.int .i64 (l.length : Int))) p v.ownBlock l :=
  ⟨v, by rw [heap_setCell_same w1 p 1 _ _ _ h]; rfl, rfl, ownsRow_setCell_other ho (row_ne h ho) _⟩

theorem Wr.mk2 {w1 : World} {p : Nat} {x v y : Value} {l : List Bool} (h : w1.heap[p]? = some (.cells #[x, y] 26 (0, 0))) (ho : w1.ownsRow 0 5 1 v ((l.length + 7) / 8) (cu8 (bytesOf l))) :
    Wr ((w1.setCell ⟨p, 0, none⟩ v).setCell ⟨p, 1, none⟩ (.int .i64 (l.length : Int))) p v.ownBlock l :=
  Wr.mk1 (by rw [heap_setCell_same w1 p 0 _ _ _ h]; rfl) (ownsRow_setCell_other ho (row_ne h ho) _)

theorem Wr.drew {w : World} {p : Nat} {g : Option Nat} {l : List Bool} (h : Wr w p g l) : Wr w.drew p g l := h

theorem or_byte (x n : Nat) (hx : x < 256) : bits .or .u8 (x : Int) (128 / 2 ^ (n % 8)) = ((x ||| (128 / 2 ^ (n % 8)) : Nat) : Int) := by
  have h1 : (128 : Int) / 2 ^ (n % 8) = ((128 / 2 ^ (n % 8) : Nat) : Int) := by simp
  rw [h1, u8_or_nat _ _ hx (Nat.lt_of_le_of_lt (Nat.div_le_self _ _) (by decide))]

theorem cu8_set (bs : List Nat) (i b : Nat) : cu8 (bs.set i b) = (cu8 bs).set i (.int .u8 (b : Int)) := by simp [cu8, List.map_set]
theorem cu8_getElem? (bs : List Nat) (i : Nat) : (cu8 bs)[i]? = bs[i]?.map fun (b : Nat) => Value.int .u8 (b : Int) := by simp [cu8]

theorem bit_any (p : Nat) (g : Option Nat) (l : List Bool) (b : Bool) (w : World) (h : Wr w p g l) (hl : l.length < 1125899906842624) :
    Calls Try.prog 72 #[.pointer (some ⟨p, 0, none⟩), .bool b] w (BitPost p g l b w) := by
  obtain ⟨v, h1, rfl, h3⟩ := h
  have hp : p < w.heap.size := lt_of_block h1
  have c0 : w.cell? ⟨p, 0, none⟩ = some v := by rw [cell_of_row w p 0 _ _ _ h1]; rfl
  have c1 : w.cell? ⟨p, 1, none⟩ = some (.int .i64 (l.length : Int)) := by rw [cell_of_row w p 1 _ _ _ h1]; rfl
  have f0 : w.frozen? ⟨p, 0, none⟩ = false := frozen_of_row w p 0 _ _ h1
  have f1 : w.frozen? ⟨p, 1, none⟩ = false := frozen_of_row w p 1 _ _ h1
  have hvp := row_ne h1 h3
  have hw1 : IntKind.i64.wrap ((l.length : Int) / 8) = (l.length : Int) / 8 := IntWalk.i64_in _ (by omega)
  have hw2 : IntKind.i64.wrap ((l.length : Int) % 8) = (l.length : Int) % 8 := IntWalk.i64_in _ (by omega)
  have hw3 : ((l.length : Int) / 8).toNat = l.length / 8 := by omega
  have htm : (l.length : Int).tmod 8 = (l.length : Int) % 8 := Int.tmod_eq_emod_of_nonneg (by omega)
  by_cases hm : l.length % 8 = 0
  · have hmb : ((l.length : Int) % 8 == 0) = true := by simp; omega
    have hn8 : (l.length + 7) / 8 = l.length / 8 := by omega
    rw [hn8] at h3
    cases b with
    | false =>
      refine (bit_grow_no p v w l.length _ hp hl c0 c1 f0 f1 h3 hvp hmb).mono ?_
      rintro e w' ⟨rfl, v1, w1, ho, hg, hfr, rfl⟩
      have hb1 : w1.heap[p]? = some (.cells #[v, .int .i64 (l.length : Int)] 26 (0, 0)) := (hg.block p hp (fun e => hvp e.symm)).trans h1
      have e1 : bytesOf (l ++ [false]) = bytesOf l ++ [0] := by rw [bytesOf_snoc_false, bytesUp_of_eq _ hm]
      have ho' : w1.ownsRow 0 5 1 v1 (((l ++ [false]).length + 7) / 8) (cu8 (bytesOf (l ++ [false]))) := by
        rw [e1, cu8_append, show ((l ++ [false]).length + 7) / 8 = l.length / 8 + 1 by simp; omega]; exact ho
      have hwr := Wr.mk2 hb1 ho'
      refine ⟨rfl, v1.ownBlock, by simpa using hwr, ?_, ?_⟩
      · refine ((Upd.refl _ w).grown hg (fun k hk => .inl (by rw [hk]; simp))).setCell (.inl (by simp)) _ |>.setCell (.inl (by simp)) _
      · exact hfr
    | true =>
      refine (bit_grow_yes p v w l.length _ hp hl c0 c1 f0 f1 h3 hvp hmb hw1 hw2 hw3 (by omega) htm (by omega) (by omega) (by omega) (by simp; omega) ⟨_, h1⟩).mono ?_
      rintro e w' ⟨rfl, g1, cap1, w1, ho, hg, hfr, hgp, rfl⟩
      have hb1 : w1.heap[p]? = some (.cells #[v, .int .i64 (l.length : Int)] 26 (0, 0)) := (hg.block p hp (fun e => hvp e.symm)).trans h1
      have hb2 : (w1.setCell ⟨p, 0, none⟩ (.slice (some ⟨g1, 0, none⟩) (l.length / 8 + 1) cap1)).heap[p]? = some (.cells #[.slice (some ⟨g1, 0, none⟩) (l.length / 8 + 1) cap1, .int .i64 (l.length : Int)] 26 (0, 0)) := by
        rw [heap_setCell_same w1 p 0 _ _ _ hb1]; rfl
      have ho2 := ownsRow_setCell_other ho (a := ⟨p, 0, none⟩) (by simpa [Value.ownBlock] using hgp) (.slice (some ⟨g1, 0, none⟩) (l.length / 8 + 1) cap1)
      have ho3 := ho2.stored (l.length / 8) (.int .u8 (bits .or .u8 0 (128 / 2 ^ (l.length % 8))))
      have hb3 := (Below.heap_setCell (w1.setCell ⟨p, 0, none⟩ (.slice (some ⟨g1, 0, none⟩) (l.length / 8 + 1) cap1)) ⟨g1, l.length / 8, none⟩ (.int .u8 (bits .or .u8 0 (128 / 2 ^ (l.length % 8)))) p hgp.symm).trans hb2
      have e0 : byteAt l (l.length / 8) = 0 := part_eq_zero _ _ _ (by omega)
      have e1 : cu8 (bytesOf (l ++ [true])) = (cu8 (bytesOf l) ++ [Value.int .u8 0]).set (l.length / 8) (Value.int .u8 (bits .or .u8 0 (128 / 2 ^ (l.length % 8)))) := by
        rw [bytesOf_snoc_true, cu8_set, bytesUp_of_eq _ hm, cu8_append, e0]
        have := or_byte 0 l.length (by decide)
        rw [show ((0 : Nat) : Int) = 0 from rfl] at this
        rw [this]; rfl
      have ho4 := ho3.1
      rw [← e1] at ho4
      have hwr := Wr.mk1 (l := l ++ [true]) hb3 (by rw [show ((l ++ [true]).length + 7) / 8 = l.length / 8 + 1 by simp; omega]; exact ho4)
      refine ⟨rfl, some g1, (by simpa [Value.ownBlock] using hwr.drew), ?_, ?_⟩
      · refine (((((Upd.refl _ w).grown hg (fun k hk => .inl (by rw [hk]; simp))).setCell (.inl (by simp)) _).setCell ?_ _).setCell (.inl (by simp)) _).drew
        rcases hfr with hq | ⟨k, hk, hk2⟩
        · exact .inl (by rw [← hq]; simp [Value.ownBlock])
        · simp [Value.ownBlock] at hk; subst hk; exact .inr hk2
      · exact hfr
  · have hmb : ((l.length : Int) % 8 == 0) = false := by simp; omega
    have hn8 : (l.length + 7) / 8 = l.length / 8 + 1 := by omega
    rw [hn8] at h3
    have hup := bytesUp_of_ne l hm
    cases b with
    | false =>
      refine (bit_room_no p v w l.length (by omega) c0 c1 f0 f1 hmb).mono ?_
      rintro e w' ⟨rfl, rfl⟩
      have e1 : bytesOf (l ++ [false]) = bytesOf l := by rw [bytesOf_snoc_false, hup]
      have hwr := Wr.mk1 (l := l ++ [false]) h1 (by rw [show ((l ++ [false]).length + 7) / 8 = l.length / 8 + 1 by simp; omega, e1]; exact h3)
      refine ⟨rfl, v.ownBlock, by simpa using hwr, (Upd.refl _ w).setCell (.inl (by simp)) _, .inl rfl⟩
    | true =>
      obtain ⟨g1, cap1, rfl⟩ : ∃ g1 cap1, v = .slice (some ⟨g1, 0, none⟩) (l.length / 8 + 1) cap1 := by
        rcases h3.2 with ⟨_, h⟩ | ⟨g, cap', _, h, _⟩
        · omega
        · exact ⟨g, cap', h⟩
      have hgp : g1 ≠ p := by simpa [Value.ownBlock] using hvp
      have hx : w.cell? ⟨g1, l.length / 8, none⟩ = some (.int .u8 ((byteAt l (l.length / 8) : Nat) : Int)) := by
        rw [h3.cellAt (l.length / 8) (by omega), cu8_getElem?, hup]
        simp [bytesUp]
      have hlt := byteAt_lt l (l.length / 8)
      refine (bit_room_yes p w l.length g1 (l.length / 8 + 1) cap1 _ (by omega) c0 c1 f0 f1 hx (h3.frozenAt _) (by omega) (by omega) hw1 hw2 hw3 (by omega) htm (by omega) (by omega) (by omega) hgp hmb).mono ?_
      rintro e w' ⟨rfl, rfl⟩
      have ho3 := h3.stored (l.length / 8) (.int .u8 (bits .or .u8 ((byteAt l (l.length / 8) : Nat) : Int) (128 / 2 ^ (l.length % 8))))
      have hb3 := (Below.heap_setCell w ⟨g1, l.length / 8, none⟩ (.int .u8 (bits .or .u8 ((byteAt l (l.length / 8) : Nat) : Int) (128 / 2 ^ (l.length % 8)))) p hgp.symm).trans h1
      have e1 : cu8 (bytesOf (l ++ [true])) = (cu8 (bytesOf l)).set (l.length / 8) (Value.int .u8 (bits .or .u8 ((byteAt l (l.length / 8) : Nat) : Int) (128 / 2 ^ (l.length % 8)))) := by
        rw [bytesOf_snoc_true, cu8_set, hup, or_byte _ _ hlt]
      have ho4 := ho3.1
      rw [← e1] at ho4
      have hwr := Wr.mk1 (l := l ++ [true]) hb3 (by rw [show ((l ++ [true]).length + 7) / 8 = l.length / 8 + 1 by simp; omega]; exact ho4)
      refine ⟨rfl, some g1, (by simpa [Value.ownBlock] using hwr.drew), ?_, .inl rfl⟩
      exact (((Upd.refl _ w).setCell (.inl (by simp [Value.ownBlock])) _).setCell (.inl (by simp)) _).drew
end Go.Proofs.Ytbbbfkcpkcfndaa
