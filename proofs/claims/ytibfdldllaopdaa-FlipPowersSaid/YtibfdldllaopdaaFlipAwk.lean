/- The fixed fact of layer 10's law. -/
import Derived.Test.YtibfdldllaopdaaFlipP
import Derived.Test.YtibfdldllaopdaaTapeAwk
namespace Go.Proofs.Ytibfdldllaopdaa
open Go.RowKit Go.Proofs.Tm
set_option linter.unusedVariables false
set_option maxRecDepth 20000

theorem fofw (x : Nat) (hx : x < 18446744073709551616) (v : Value) (W : World) (h : Sl W v [.int .u64 (x : Int)]) : Calls Try.prog 28 #[v] W (RNat x W) := by
  have := of_any v [x] W h (by simp) (by simpa using hx)
  simpa [wval] using this
theorem upd_facts {X A : World} (u : Upd [] X A) : (∀ k, k < X.heap.size → A.cell? ⟨k, 0, none⟩ = X.cell? ⟨k, 0, none⟩) ∧ (∀ k, k < X.heap.size → A.frozen? ⟨k, 0, none⟩ = X.frozen? ⟨k, 0, none⟩) ∧ X.heap.size ≤ A.heap.size :=
  ⟨fun k hk => u.cell (p := ⟨k, 0, none⟩) hk (by simp), fun k hk => u.frozen (p := ⟨k, 0, none⟩) hk (by simp), u.size⟩
/-- A slice of one cell. -/
theorem sl_cell {W : World} {k : Nat} {x : Value} (h : W.cell? ⟨k, 0, none⟩ = some x) : Sl W (.slice (some ⟨k, 0, none⟩) 1 1) [x] :=
  ⟨_, 1, rfl, Nat.le_refl _, by simp [maxLen], fun _ => ⟨k, 0, rfl, fun i hi => by
    obtain rfl : i = 0 := by simpa using hi
    exact h⟩⟩
theorem NV.al {W : World} {v : Value} {n : Nat} (h : NV W v n) (o : Obj) : NV (W.alloc o) v n := h.upd0 ((Upd.refl _ _).alloc _)
theorem NV.dr {W : World} {v : Value} {n : Nat} (h : NV W v n) : NV W.drew v n := h.upd0 (Upd.refl _ _).drew

/-- A word, just made, as a number. -/
theorem of_lit (x : Nat) (hx : x < 18446744073709551616) (W : World) (k : Nat) (hk : k = W.heap.size) : Calls Try.prog 28 #[.slice (some ⟨k, 0, none⟩) 1 1] (W.alloc (.cells #[.int .u64 (x : Int)] 58)) (RNat x W) := by
  subst hk
  refine (fofw x hx _ _ (Sl.lit1 W _ _)).mono ?_
  rintro e w' ⟨v, he, hn, hu⟩
  exact ⟨v, he, hn, ((Upd.refl _ _).alloc _).trans0 hu⟩

/-- What coins come to, of F; and how many were read. -/
def APost (o : Came) (w : World) (e : Ending) (w' : World) : Prop :=
  e = .returned (.tuple #[.bool o.1, .int .i64 (o.2.1 : Int), .int .i64 (if o.2.2 then 8 else 0)]) ∧ Upd [] w w'

set_option maxHeartbeats 800000 in
theorem third_any (v : Value) (l : List Bool) (w : World) (h : Sl w v (cb l)) (hl : l.length ≤ 100) :
    Calls Try.prog 42 #[v] w (APost (ratioF 1 3 l) w) := by
  have HN := tnew_any v l w h
  rw [List.take_of_length_le (by omega)] at HN
  have HNEW := Lib.hid HN
  clear h HN
  go_enter Try.func42, Try.ntmps42
  go_wp2_with fail
  refine HNEW.out.mono ?_
  rintro e w1 ⟨p, g, rfl, ht, hu1, hp, hg⟩
  have HT := Lib.hid ht
  have HU1 := Lib.hid hu1
  have H1 := Lib.hid (of_lit 1 (by decide) w1 _ rfl)
  clear ht hu1 hg
  go_wp2_with fail
  refine H1.out.mono ?_
  rintro e w2 ⟨v2, rfl, hn2, hu2⟩
  obtain ⟨a2, c2, rfl, _, _⟩ := hn2.open
  generalize (wds 1).length = l2 at *
  have HN2 := Lib.hid hn2
  have HU2 := Lib.hid hu2
  have H3 := Lib.hid (of_lit 3 (by decide) w2 _ rfl)
  clear hn2 hu2
  go_wp2_with fail
  refine H3.out.mono ?_
  rintro e w3 ⟨v3, rfl, hn3, hu3⟩
  obtain ⟨a3, c3, rfl, _, _⟩ := hn3.open
  have hl3 : (wds 3).length ≤ 1000000 := Nat.le_trans ((wds_length_le_iff 3 1).2 (by decide)) (by decide)
  have HR := Lib.hid (ratio_any _ _ 1 3 p g l 0 w3 (HN2.out.upd0 hu3) hn3 hl3 (by decide) (by decide) ((HT.out.upd0 HU2.out).upd0 hu3))
  generalize (wds 3).length = l3 at *
  have HU3 := Lib.hid (HU1.out.trans0 (HU2.out.trans0 hu3))
  clear hn3 hu3
  go_wp2_with fail
  refine HR.out.mono ?_
  intro e w4 hpo
  obtain ⟨x, kk, d, hF, rfl, ht4, hu4⟩ := hpo.out
  rw [List.drop_zero] at hF
  have HFH := Lib.hid hF
  obtain ⟨f, hf⟩ : ∃ f : Int, f = (if d then 8 else 0) := ⟨_, rfl⟩
  rw [← hf]
  simp only [Nat.zero_add] at ht4
  have HRD := Lib.hid (tread_any p g l kk d w4 ht4)
  have HF : Hid (Upd [] w w4) := HU3.out.trans hu4 (by intro x hx; simp at hx; subst hx; exact .inr hp)
  have HEQ := Lib.hid hf
  clear hpo hF ht4 hu4 hf
  go_wp2_with fail
  refine HRD.out.mono ?_
  rintro e w5 ⟨rfl, rfl⟩
  go_wp2
  go_ret3
  refine ⟨?_, HF.out⟩
  rw [HFH.out]
  show _ = Ending.returned (.tuple #[.bool x, .int .i64 (kk : Int), .int .i64 (if d = true then 8 else 0)])
  rw [← HEQ.out]; rfl

theorem lit_sl (w : World) (xs : List Bool) (t : TypeId) (hm : xs.length ≤ maxLen) : Sl (w.alloc (.cells (xs.map Value.bool).toArray t)) (.slice (some ⟨w.heap.size, 0, none⟩) xs.length xs.length) (cb xs) := by
  have := Sl.own (own_lit w t (xs.map Value.bool).toArray (by simpa using hm))
  simpa [cb] using this

set_option maxHeartbeats 800000 in
theorem awake10 (w : World) : Calls Try.prog 24 #[] w fun e w' => e = .returned (.bool true) ∧ Upd [] w w' := by
  have H1 : Hid (∀ W : World, Calls Try.prog 42 #[.slice (some ⟨W.heap.size, 0, none⟩) 2 2] (W.alloc (.cells #[.bool true, .bool true] 4)) fun e w' => e = .returned (.tuple #[.bool false, .int .i64 1, .int .i64 0]) ∧ Upd [] (W.alloc (.cells #[.bool true, .bool true] 4)) w') := fun W => by
    have := third_any _ [true, true] _ (lit_sl W [true, true] 4 (by decide)) (by decide)
    exact this
  have H2 : Hid (∀ W : World, Calls Try.prog 42 #[.slice (some ⟨W.heap.size, 0, none⟩) 3 3] (W.alloc (.cells #[.bool false, .bool false, .bool true] 4)) fun e w' => e = .returned (.tuple #[.bool true, .int .i64 2, .int .i64 0]) ∧ Upd [] (W.alloc (.cells #[.bool false, .bool false, .bool true] 4)) w') := fun W => by
    have := third_any _ [false, false, true] _ (lit_sl W [false, false, true] 4 (by decide)) (by decide)
    exact this
  go_enter Try.func24, Try.ntmps24
  go_wp2_with fail
  refine (H1.out w).mono ?_
  rintro e w1 ⟨rfl, hu1⟩
  have HU1 := Lib.hid (((Upd.refl [] w).alloc _).trans0 hu1)
  clear hu1
  go_wp2_with fail
  refine (H2.out w1).mono ?_
  rintro e w2 ⟨rfl, hu2⟩
  have HU2 := Lib.hid (HU1.out.trans0 (((Upd.refl [] w1).alloc _).trans0 hu2))
  clear hu2
  go_wp2
  go_ret
  exact ⟨rfl, HU2.out⟩
end Go.Proofs.Ytibfdldllaopdaa
