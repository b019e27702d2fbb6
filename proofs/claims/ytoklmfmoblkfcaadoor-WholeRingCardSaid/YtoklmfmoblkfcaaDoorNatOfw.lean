/- Small helps on numbers: of one word, texts, lengths. -/
import Derived.Test.YtoklmfmoblkfcaaDoorNatPow
import Derived.Test.YtoklmfmoblkfcaaDoorNatText
namespace Go.Proofs.YtoklmfmoblkfcaaDoor
open Go.RowKit Go.Proofs.Tm Go.Shelf
set_option linter.unusedVariables false
set_option linter.unusedSimpArgs false
set_option maxRecDepth 20000

theorem nv_len (n : Nat) (h : n < 2 ^ 255) : (wds n).length ≤ 4 := by
  rw [wds_length_le_iff]
  exact Nat.lt_of_lt_of_le h (by decide)

theorem ofw (x : Nat) (z : Int) (hz : z = (x : Int)) (hx : x < 18446744073709551616) (v : Value) (W : World) (h : Sl W v [.int .u64 z]) : Calls Tryd.prog 29 #[v] W (RNat x W) := by
  subst hz
  have := of_any v [x] W h (by simp) (by simpa using hx)
  simpa [wval] using this

theorem upd_facts {X A : World} (u : Upd [] X A) : (∀ k, k < X.heap.size → A.cell? ⟨k, 0, none⟩ = X.cell? ⟨k, 0, none⟩) ∧ (∀ k, k < X.heap.size → A.frozen? ⟨k, 0, none⟩ = X.frozen? ⟨k, 0, none⟩) ∧ X.heap.size ≤ A.heap.size :=
  ⟨fun k hk => u.cell (p := ⟨k, 0, none⟩) hk (by simp), fun k hk => u.frozen (p := ⟨k, 0, none⟩) hk (by simp), u.size⟩
/-- A slice of one cell. -/
theorem sl_cell {W : World} {k : Nat} {x : Value} (h : W.cell? ⟨k, 0, none⟩ = some x) : Sl W (.slice (some ⟨k, 0, none⟩) 1 1) [x] :=
  ⟨_, 1, rfl, Nat.le_refl _, by simp [maxLen], fun _ => ⟨k, 0, rfl, fun i hi => by
    obtain rfl : i = 0 := by simpa using hi
    exact h⟩⟩
/-- A store into a cell that holds no word changes no number. -/
theorem NV.setc {W : World} {v : Value} {n k : Nat} (h : NV W v n) (hk : ∀ z, W.cell? ⟨k, 0, none⟩ ≠ some (.int .u64 z)) (x : Value) : NV (W.setCell ⟨k, 0, none⟩ x) v n := by
  obtain ⟨sv, rfl, a, cap, rfl, h1, h2, h3⟩ := h
  refine ⟨_, rfl, a, cap, rfl, h1, h2, fun hx => ?_⟩
  obtain ⟨b, o, rfl, hc⟩ := h3 hx
  refine ⟨b, o, rfl, fun i hi => ?_⟩
  have hci := hc i hi
  rw [cu64_length] at hi
  rw [← hci]
  refine World.cell?_setCell_other _ _ _ _ (fun e => ?_)
  rw [cu64_getD _ _ hi] at hci
  exact hk _ (by rw [e]; exact hci)
theorem NV.al {W : World} {v : Value} {n : Nat} (h : NV W v n) (o : Obj) : NV (W.alloc o) v n := h.upd0 ((Upd.refl _ _).alloc _)
theorem NV.dr {W : World} {v : Value} {n : Nat} (h : NV W v n) : NV W.drew v n := h.upd0 (Upd.refl _ _).drew

theorem text_is (u : Value) (n : Nat) (l : List UInt8) (hl : l ≠ []) (hd : l.all (fun c => 48 ≤ c.toNat ∧ c.toNat ≤ 57)) (h0 : l.length = 1 ∨ l.head? ≠ some 48) (hv : decVal l = n) (w : World) (hu : NV w u n) (ht : Tab w) (hlen : (wds n).length ≤ 4) :
    Calls Tryd.prog 38 #[u] w fun e w' => e = .returned (.string ⟨l.toArray⟩) ∧ Upd [] w w' := by
  have h := text_any u n w hu ht (by omega)
  rw [← hv, decDigits_decVal l (fun c hc => by simpa using List.all_eq_true.1 hd c hc) hl h0] at h
  exact h
end Go.Proofs.YtoklmfmoblkfcaaDoor
