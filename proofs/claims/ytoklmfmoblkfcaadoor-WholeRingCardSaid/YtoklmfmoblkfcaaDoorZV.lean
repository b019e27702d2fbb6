/- The document's whole numbers and fractions (layers 6, 7) in memory: two numbers, the first less the second; and what is below the line. -/
import Derived.Test.YtoklmfmoblkfcaaDoorAa
import Derived.Test.YtoklmfmoblkfcaaDoorAb
import Derived.Test.YtoklmfmoblkfcaaDoorRefOf
import Derived.Test.YtoklmfmoblkfcaaDoorRefMul
namespace Go.Proofs.YtoklmfmoblkfcaaDoor
open Go.RowKit Go.Proofs.Tm
set_option linter.unusedVariables false
set_option linter.unusedSimpArgs false
set_option maxRecDepth 20000

/-- s is the document's number n. -/
def DV (w : World) (s : Value) (n : Nat) : Prop := Sl w s (ci64 (digs n))
theorem DV.of {w : World} {s : Value} {n : Nat} (h : Sl w s (ci64 (digs n))) : DV w s n := h
theorem DV.upd0 {w w' : World} {s : Value} {n : Nat} (h : DV w s n) (u : Upd [] w w') : DV w' s n := Sl.upd0 h u
theorem DV.open {w : World} {s : Value} {n : Nat} (h : DV w s n) : ∃ a l c, s = .slice a l c := by
  obtain ⟨a, c, rfl, _⟩ := Sl.open h
  exact ⟨_, _, _, rfl⟩
theorem DV.nil (w : World) : DV w (.slice none 0 0) 0 := by unfold DV; rw [digs_zero]; exact Sl.nil w
def NoInt (cs : Array Value) : Prop := ∀ (j : Nat) (z : Int), cs[j]? ≠ some (.int .i64 z)
theorem ni2 {a a' : Option Addr} {l c l' c' : Nat} : NoInt #[.slice a l c, .slice a' l' c'] := fun j z => by rcases j with _ | _ | j <;> simp
theorem ni3 {a a' a'' : Option Addr} {l c l' c' l'' c'' : Nat} : NoInt #[.slice a l c, .slice a' l' c', .slice a'' l'' c''] := fun j z => by rcases j with _ | _ | _ | j <;> simp
theorem niW {b : Bool} {a : Option Addr} {l c : Nat} : NoInt #[.bool b, .slice a l c] := fun j z => by rcases j with _ | _ | j <;> simp
theorem nwZ2 {a a' : Option Addr} {l c l' c' : Nat} : NoWord #[.slice a l c, .slice a' l' c'] := fun j z => by rcases j with _ | _ | j <;> simp
theorem nwZ3 {a a' a'' : Option Addr} {l c l' c' l'' c'' : Nat} : NoWord #[.slice a l c, .slice a' l' c', .slice a'' l'' c''] := fun j z => by rcases j with _ | _ | _ | j <;> simp
theorem DV.putr {W : World} {s : Value} {n k : Nat} {cs : Array Value} {t : TypeId} (h : DV W s n) (hk : Row W k cs t) (hw : NoInt cs) (i : Nat) (x : Value) : DV (W.setCell ⟨k, i, none⟩ x) s n := by
  refine Sl.upd (S := [k]) h ((Upd.refl _ _).setCell (.inl (by simp)) _) (fun hx j hj => ?_)
  obtain ⟨b, o, cap, rfl, hc⟩ := sl_at h hx
  simp [Value.ownBlock] at hj
  subst hj
  have hpos : 0 < (ci64 (digs n)).length := List.length_pos_iff.2 hx
  have h0 := hc 0 hpos
  simp only [List.mem_singleton]
  rintro rfl
  rw [hk.cell, ci64_getD _ _ (by simpa using hpos)] at h0
  exact hw _ _ h0

def ZV (w : World) (v : Value) (p m : Nat) : Prop := ∃ a b, v = .agg #[a, b] ∧ DV w a p ∧ DV w b m
theorem ZV.upd0 {w w' : World} {v : Value} {p m : Nat} (h : ZV w v p m) (u : Upd [] w w') : ZV w' v p m := by
  obtain ⟨a, b, rfl, ha, hb⟩ := h
  exact ⟨a, b, rfl, ha.upd0 u, hb.upd0 u⟩
theorem ZV.open {w : World} {v : Value} {p m : Nat} (h : ZV w v p m) : ∃ a l c a' l' c', v = .agg #[.slice a l c, .slice a' l' c'] ∧ DV w (.slice a l c) p ∧ DV w (.slice a' l' c') m := by
  obtain ⟨s, t, rfl, hn, hd⟩ := h
  obtain ⟨a, l, c, rfl⟩ := hn.open
  obtain ⟨a', l', c', rfl⟩ := hd.open
  exact ⟨a, l, c, a', l', c', rfl, hn, hd⟩
theorem ZV.putr {W : World} {v : Value} {p m k : Nat} {cs : Array Value} {t : TypeId} (h : ZV W v p m) (hk : Row W k cs t) (hw : NoInt cs) (i : Nat) (x : Value) : ZV (W.setCell ⟨k, i, none⟩ x) v p m := by
  obtain ⟨a, b, rfl, ha, hb⟩ := h
  exact ⟨a, b, rfl, ha.putr hk hw i x, hb.putr hk hw i x⟩
def RZ (p m : Nat) (w : World) (e : Ending) (w' : World) : Prop := ∃ v, e = .returned v ∧ ZV w' v p m ∧ Upd [] w w'
structure NewZ (w : World) (p m : Nat) (W : World) (k : Nat) (s : Option Addr) (l c : Nat) (s' : Option Addr) (l' c' : Nat) : Prop where
  row : Row W k #[.slice s l c, .slice s' l' c'] 33
  lo : w.heap.size ≤ k
  zv : ZV W (.agg #[.slice s l c, .slice s' l' c']) p m
  upd : Upd [] w W
theorem NewZ.set {w W : World} {p m k : Nat} {s s' : Option Addr} {l c l' c' : Nat} (r : NewRow w k #[.slice none 0 0, .slice none 0 0] 33 W) (u : Upd [] w W) (h : ZV W (.agg #[.slice s l c, .slice s' l' c']) p m) :
    NewZ w p m ((W.setCell ⟨k, 0, none⟩ (.slice s l c)).setCell ⟨k, 1, none⟩ (.slice s' l' c')) k s l c s' l' c' :=
  ⟨(r.row.set 0 _).set 1 _, r.lo, (h.putr r.row ni2 _ _).putr (r.row.set 0 _) ni2 _ _, (u.setCell (.inr r.lo) _).setCell (.inr r.lo) _⟩
/-- The document's numbers, as calls. -/
theorem dadd {u v : Value} {m n : Nat} {w : World} (hu : DV w u m) (hv : DV w v n) (hm : (digs m).length ≤ 1099511627776) (hn : (digs n).length ≤ 1099511627776) : Calls Tryd.prog 43 #[u, v] w (RDig (m + n) w) := radd_any u v m n w hu hv hm hn
theorem dmul {u v : Value} {m n : Nat} {w : World} (hu : DV w u m) (hv : DV w v n) (hm : (digs m).length ≤ 1099511627776) (hn : (digs n).length ≤ 1099511627776) : Calls Tryd.prog 44 #[u, v] w (RDig (m * n) w) := rmul_any u v m n w hu hv hm hn
theorem dcmp {u v : Value} {m n : Nat} {w : World} (hu : DV w u m) (hv : DV w v n) (hm : (digs m).length ≤ 1099511627776) (hn : (digs n).length ≤ 1099511627776) : Calls Tryd.prog 45 #[u, v] w (fun e w' => e = .returned (.int .i64 (cmpN m n)) ∧ Upd [] w w') := rcmp_any u v m n w hu hv hm hn
theorem digs_add_len (a b : Nat) : (digs (a + b)).length ≤ (digs a).length + (digs b).length + 1 := by
  refine digs_len _ _ ?_
  have h1 := digs_lt_pow a
  have h2 := digs_lt_pow b
  have e1 : 10000 ^ (digs a).length ≤ 10000 ^ ((digs a).length + (digs b).length) := Nat.pow_le_pow_right (by decide) (by omega)
  have e2 : 10000 ^ (digs b).length ≤ 10000 ^ ((digs a).length + (digs b).length) := Nat.pow_le_pow_right (by decide) (by omega)
  rw [Nat.pow_succ]
  omega
end Go.Proofs.YtoklmfmoblkfcaaDoor
