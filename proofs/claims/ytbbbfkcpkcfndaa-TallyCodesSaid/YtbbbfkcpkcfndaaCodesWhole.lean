/- whole: a reading from a copy of the reader. -/
import Derived.Test.YtbbbfkcpkcfndaaCodesGet
namespace Go.Proofs.Ytbbbfkcpkcfndaa
open Go.RowKit Go.Proofs.Tm
set_option linter.unusedVariables false
set_option maxRecDepth 20000

/-- What Gamma, Delta, Var leave: beside an error the reader is where it was. -/
def WholeTo (p : Nat) (g : Option Nat) (bs : List Nat) (i : Nat) (w : World) (r : Nat × Nat × Int) (e : Ending) (w' : World) : Prop :=
  e = .returned (.tuple #[.int .u64 ((r.1 : Nat) : Int), .int .i64 r.2.2]) ∧ Rd w' p g bs (if r.2.2 = 0 then r.2.1 else i) ∧ Upd [p] w w'

theorem whole_copy {w : World} {g : Option Nat} {bs : List Nat} {i : Nat} {v : Value} (h2 : v.ownBlock = g) (h3 : w.ownsRow 0 5 1 v bs.length (cu8 bs)) (h4 : i ≤ 8 * bs.length ∧ bs.length ≤ 140737488355328 ∧ ∀ b ∈ bs, b < 256) :
    Rd (w.alloc (.cells #[v, .int .i64 (i : Int)] 104)) w.heap.size g bs i ∧ Upd [] w (w.alloc (.cells #[v, .int .i64 (i : Int)] 104)) := by
  have hu : Upd [] w (w.alloc (.cells #[v, .int .i64 (i : Int)] 104)) := (Upd.refl [] w).alloc _
  exact ⟨⟨v, by simpa using Go.heap_alloc_new w _, h2, ownsRow_upd h3 hu (by simp), h4⟩, hu⟩

set_option maxHeartbeats 1600000 in
theorem whole_any (F : Nat) (p : Nat) (g : Option Nat) (bs : List Nat) (i : Nat) (r : Nat × Nat × Int) (w : World) (h : Rd w p g bs i)
    (eg : ∀ args W, (callFunc F args).run Try.prog W = .ok (.enter F args) W) (HF : Hid (∀ q W, Rd W q g bs i → Calls Try.prog F #[.pointer (some ⟨q, 0, none⟩)] W (ReadTo q g bs W r))) :
    Calls Try.prog 78 #[.pointer (some ⟨p, 0, none⟩), .func (.func F) #[] #[]] w (WholeTo p g bs i w r) := by
  have HI := Lib.hid h
  have hlp := h.lt
  obtain ⟨v, h1, h2, h3, h4⟩ := h
  obtain ⟨a, cap, rfl, _⟩ := (Sl.own h3).open
  simp only [cu8_length] at *
  have c0 : w.cell? ⟨p, 0, none⟩ = some (.slice a bs.length cap) := by rw [cell_of_row w p 0 _ _ _ h1]; rfl
  have c1 : w.cell? ⟨p, 1, none⟩ = some (.int .i64 (i : Int)) := by rw [cell_of_row w p 1 _ _ _ h1]; rfl
  have HC := Lib.hid (whole_copy h2 h3 h4)
  have HNE := Lib.hid (rd_row_ne h1 h3)
  have HG := Lib.hid h2
  have H1 := Lib.hid h1
  clear h1 h2 h3 h4
  obtain ⟨x, y, z⟩ := r
  go_enter Try.func78, Try.ntmps78
  go_wp2_with fail
  refine (HF.out _ _ HC.out.1).mono ?_
  rintro e w2 ⟨rfl, ⟨j, hj, hjy⟩, hu⟩
  have hup := Lib.hid ((HC.out.2).trans hu (by intro x hx; simp at hx; subst hx; right; exact Nat.le_refl _))
  dsimp only at hjy
  by_cases hz : z = 0
  · subst hz
    obtain rfl : j = y := hjy rfl
    obtain ⟨v', q1, q2, q3, q4⟩ := hj
    obtain ⟨a', cap', rfl, _⟩ := (Sl.own q3).open
    simp only [cu8_length] at *
    have d0 : w2.cell? ⟨w.heap.size, 0, none⟩ = some (.slice a' bs.length cap') := by rw [cell_of_row w2 _ 0 _ _ _ q1]; rfl
    have d1 : w2.cell? ⟨w.heap.size, 1, none⟩ = some (.int .i64 (j : Int)) := by rw [cell_of_row w2 _ 1 _ _ _ q1]; rfl
    have hb2 := (hup.out.block p hlp (by simp)).trans H1.out
    have e0 : w2.cell? ⟨p, 0, none⟩ = some (.slice a bs.length cap) := by rw [cell_of_row w2 p 0 _ _ _ hb2]; rfl
    have e1 : w2.cell? ⟨p, 1, none⟩ = some (.int .i64 (i : Int)) := by rw [cell_of_row w2 p 1 _ _ _ hb2]; rfl
    have f0 : w2.frozen? ⟨p, 0, none⟩ = false := frozen_of_row w2 p 0 _ _ hb2
    have f1 : w2.frozen? ⟨p, 1, none⟩ = false := frozen_of_row w2 p 1 _ _ hb2
    have HB2 := Lib.hid hb2
    have Q2 := Lib.hid q2
    have Q3 := Lib.hid q3
    have Q4 := Lib.hid q4
    clear hjy hu q1 q2 q3 q4 hb2 c0 c1
    have hne : ∀ u : Value, (w2.setCell ⟨p, 0, none⟩ u).cell? ⟨p, 1, none⟩ = some (.int .i64 (i : Int)) := fun u => (cell_set_off (by decide)).trans e1
    go_wp2
    go_ret2
    refine ⟨rfl, ?_, ?_⟩
    · rw [if_pos rfl]
      have hne2 : (Value.slice a' bs.length cap').ownBlock ≠ some p := by rw [Q2.out, ← HG.out]; exact HNE.out
      have hb3 : (w2.setCell ⟨p, 0, none⟩ (.slice a' bs.length cap')).heap[p]? = some (.cells #[.slice a' bs.length cap', .int .i64 (i : Int)] 104 (0, 0)) := by
        rw [heap_setCell_same _ _ 0 _ _ _ HB2.out]; rfl
      exact ⟨_, by rw [heap_setCell_same _ _ 1 _ _ _ hb3]; rfl, Q2.out, ownsRow_setCell_other (ownsRow_setCell_other Q3.out hne2 _) hne2 _, Q4.out⟩
    · exact ((hup.out.mono (by simp)).setCell (.inl (by simp)) _).setCell (.inl (by simp)) _
  · have hb : (z == 0) = false := by simpa using hz
    have HZ := Lib.hid hz
    clear hz hjy hu hj c0 c1
    go_wp2
    go_ret2
    refine ⟨rfl, ?_, hup.out.mono (by simp)⟩
    rw [if_neg HZ.out]
    exact HI.out.upd hup.out (by simp) (by simp)
end Go.Proofs.Ytbbbfkcpkcfndaa
