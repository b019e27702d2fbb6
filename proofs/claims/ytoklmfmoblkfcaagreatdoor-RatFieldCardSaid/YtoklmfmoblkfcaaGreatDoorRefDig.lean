/- The document's own numbers of layer 5 in memory: digits of base 10000; contracts of trim and Small. -/
import Derived.Test.YtoklmfmoblkfcaaGreatDoorAa
import Derived.Test.YtoklmfmoblkfcaaGreatDoorAc
import Derived.Laws.OwnMore
namespace Go.Proofs.YtoklmfmoblkfcaaGreatDoor
open Go.RowKit Go.Proofs.Tm
set_option linter.unusedVariables false
set_option linter.unusedSimpArgs false
set_option maxRecDepth 20000

/-- Digits as cells. -/
def ci64 (ws : List Nat) : List Value := ws.map fun (b : Nat) => Value.int .i64 (b : Int)
@[simp] theorem ci64_length (ws : List Nat) : (ci64 ws).length = ws.length := by simp [ci64]
theorem ci64_one (ws : List Nat) : ∀ u ∈ ci64 ws, u.oneCell' = true := by intro u hu; obtain ⟨b, _, rfl⟩ := List.mem_map.1 hu; rfl
theorem ci64_getElem? (ws : List Nat) (i : Nat) : (ci64 ws)[i]? = ws[i]?.map fun (b : Nat) => Value.int .i64 (b : Int) := by simp [ci64]
theorem ci64_getD (ws : List Nat) (i : Nat) (h : i < ws.length) : (ci64 ws)[i]? = some (.int .i64 ((ws.getD i 0 : Nat) : Int)) := by rw [ci64_getElem?, List.getElem?_eq_getElem h]; simp [h]
theorem ci64_set (ws : List Nat) (i b : Nat) : ci64 (ws.set i b) = (ci64 ws).set i (.int .i64 (b : Int)) := by simp [ci64, List.map_set]
theorem ci64_take (ws : List Nat) (i : Nat) : ci64 (ws.take i) = (ci64 ws).take i := by simp [ci64, List.map_take]
theorem ci64_append (a b : List Nat) : ci64 (a ++ b) = ci64 a ++ ci64 b := by simp [ci64]
theorem ci64_zero (n : Nat) : ci64 (List.replicate n 0) = List.replicate n (.int .i64 0) := by simp [ci64]
theorem ci64_nil {ws : List Nat} : ci64 ws ≠ [] ↔ ws ≠ [] := by cases ws <;> simp [ci64]
theorem infoI64 : (Tryz.prog.info? 3).map (fun i => (i.zero, i.size, i.bytes)) = some (some (.int .i64 0), 1, 8) := by kernel_rfl

/-- A call answers the document's number n; nothing old has turned. -/
def RDig (n : Nat) (w : World) (e : Ending) (w' : World) : Prop := ∃ v, e = .returned v ∧ Sl w' v (ci64 (digs n)) ∧ Upd [] w w'

theorem own_len (a : Option Addr) (l c l' c' : Nat) : (Value.slice a l c).ownBlock = (Value.slice a l' c').ownBlock := by cases a <;> rfl

set_option maxHeartbeats 800000 in
theorem trim_own (sv : Value) (L : List Nat) (w : World) (h : Sl w sv (ci64 L)) (hW : ∀ d ∈ L, d < 10000) :
    Calls Tryz.prog 118 #[sv] w (fun e w' => ∃ v, e = .returned v ∧ Sl w v (ci64 (digs (dval L))) ∧ w' = w ∧ ∀ k, v.ownBlock = some k → sv.ownBlock = some k) := by
  have HS := Lib.hid h
  have HW := Lib.hid hW
  obtain ⟨a, cap, rfl, hlc, hcm, _⟩ := h
  unfold maxLen at hcm
  simp only [ci64_length] at *
  obtain ⟨n, hn⟩ : ∃ n, n = L.length := ⟨_, rfl⟩
  rw [← hn] at hlc
  have HN := Lib.hid hn
  rw [← hn] at HS ⊢
  clear hn hW
  go_enter Tryz.func118, Tryz.ntmps118
  go_wp2
  go_loop [3] (fun v3 => ∃ k : Nat, k ≤ n ∧ v3 = .int .i64 k ∧ Hid (∀ j, k ≤ j → j < n → L[j]? = some 0)) (fun v3 => (intOf v3).toNat)
  case atStart => exact ⟨n, Nat.le_refl _, rfl, fun j h1 h2 => by omega⟩
  case round =>
    obtain ⟨k, hk, rfl, HZ⟩ := hrel
    by_cases hk0 : k = 0
    · subst hk0
      have ht := trim_digs L 0 HW.out (Nat.zero_le _) (.inl rfl) (fun j h1 h2 => HZ.out j h1 (by have := HN.out; omega))
      have HR : Hid (Sl w (.slice a 0 cap) (ci64 (digs (dval L)))) := by
        show Sl _ _ _
        rw [← ht, ci64_take]
        exact Sl.take HS.out 0 (Nat.zero_le _)
      clear ht
      go_wp2
      go_ret
      exact ⟨.slice a 0 cap, rfl, HR.out, rfl, fun k hk => (own_len _ _ _ _ _).trans hk⟩
    · obtain ⟨b, o, cap', hv, hc⟩ := sl_at HS.out (by rw [ci64_nil]; rintro rfl; have := HN.out; simp at this; omega)
      have hlen := HN.out
      obtain ⟨rfl, rfl⟩ : a = some ⟨b, o, none⟩ ∧ cap = cap' := by simp at hv; exact ⟨hv.1, hv.2.2⟩
      have hcell := hc (k - 1) (by rw [ci64_length]; omega)
      rw [ci64_getD _ _ (by omega)] at hcell
      have HX : Hid (L[k - 1]? = some (L.getD (k - 1) 0)) := by show _ = _; rw [List.getElem?_eq_getElem (show k - 1 < L.length by omega)]; simp [show k - 1 < L.length by omega]
      have i0 : (0 : Int) ≤ (k : Int) - 1 := by omega
      have i1 : (k : Int) - 1 < (n : Int) := by omega
      have i2 : ((k : Int) - 1).toNat = k - 1 := by omega
      have i3 : decide (0 < k) = true := by simp; omega
      have i4 : IntKind.i64.wrap ((k : Int) - 1) = (k : Int) - 1 := IntWalk.i64_in _ (by omega)
      clear hc hv hlen
      generalize L.getD (k - 1) 0 = x at *
      by_cases hx : x = 0
      · subst hx
        go_wp2
        refine ⟨⟨k - 1, by omega, by rw [Int.natCast_sub (by omega)]; rfl, fun j h1 h2 => ?_⟩, by simp [intOf]; omega⟩
        rcases Nat.lt_or_ge j k with h | h
        · obtain rfl : j = k - 1 := by omega
          exact HX.out
        · exact HZ.out j h h2
      · have hx' : ((x : Int) == 0) = false := by simp; omega
        have ht := trim_digs L k HW.out (by have := HN.out; omega) (.inr (by rw [HX.out]; simpa using hx)) (fun j h1 h2 => HZ.out j h1 (by have := HN.out; omega))
        have HR : Hid (Sl w (.slice (some ⟨b, o, none⟩) k cap) (ci64 (digs (dval L)))) := by
          show Sl _ _ _
          rw [← ht, ci64_take]
          exact Sl.take HS.out k hk
        clear ht
        go_wp2
        go_ret
        exact ⟨.slice (some ⟨b, o, none⟩) k cap, rfl, HR.out, rfl, fun k hk => (own_len _ _ _ _ _).trans hk⟩

theorem trim_any (sv : Value) (L : List Nat) (w : World) (h : Sl w sv (ci64 L)) (hW : ∀ d ∈ L, d < 10000) :
    Calls Tryz.prog 118 #[sv] w (fun e w' => ∃ v, e = .returned v ∧ Sl w v (ci64 (digs (dval L))) ∧ w' = w) :=
  (trim_own sv L w h hW).mono fun e w' ⟨v, a, b, c, _⟩ => ⟨v, a, b, c⟩

theorem tmod_nat (a b : Nat) : (a : Int).tmod (b : Int) = ((a % b : Nat) : Int) := by rw [Int.tmod_eq_emod_of_nonneg (by omega)]; simp

theorem digs_len : ∀ (k n : Nat), n < 10000 ^ k → (digs n).length ≤ k
  | 0, n, h => by
    have : n = 0 := by simpa using h
    rw [this, digs_zero]; simp
  | k + 1, n, h => by
    by_cases h0 : n = 0
    · rw [h0, digs_zero]; simp
    · rw [digs_pos _ h0, List.length_cons]
      have := digs_len k (n / 10000) (by rw [Nat.div_lt_iff_lt_mul (by decide)]; rw [Nat.pow_succ] at h; exact h)
      omega

set_option maxHeartbeats 800000 in
theorem small_any (n : Nat) (w : World) (hn : n ≤ 9223372036854775807) :
    Calls Tryz.prog 76 #[.int .i64 (n : Int)] w (RDig n w) := by
  have HLEN : Hid ((digs n).length ≤ 5) := digs_len 5 n (by omega)
  go_enter Tryz.func76, Tryz.ntmps76
  go_wp2
  go_loopw [0, 3] (fun v0 v3 wr => ∃ (m : Nat) (L : List Nat), m ≤ n ∧ v0 = .int .i64 m ∧ wr.ownsRow w.heap.size 3 1 v3 L.length (ci64 L) ∧ Hid (L ++ digs m = digs n) ∧ Upd [] w wr) (fun v0 _ _ => (intOf v0).toNat)
  case atStart => exact ⟨n, [], Nat.le_refl _, rfl, ⟨by simp, .inl ⟨rfl, rfl⟩⟩, by show _ = _; simp, Upd.refl _ _⟩
  case round =>
    obtain ⟨m, L, hm, rfl, ho, HE, hu⟩ := hrel
    obtain ⟨a5, c5, rfl⟩ := own_ex ho
    have HO := Lib.hid ho
    have HU := Lib.hid hu
    clear ho hu
    by_cases h0 : m = 0
    · have HL : Hid (L = digs n) := by show _ = _; have := HE.out; rw [h0, digs_zero, List.append_nil] at this; exact this
      subst h0
      go_wp2
      go_ret
      exact ⟨_, rfl, by rw [← HL.out]; exact Sl.own HO.out, HU.out⟩
    · have HEQ : Hid ((L ++ [m % 10000]) ++ digs (m / 10000) = digs n) := by
        show _ = _
        rw [← HE.out, digs_pos _ h0]
        simp
      have HLL : Hid (L.length < (digs n).length) := by
        show _ < _
        rw [← HE.out, digs_pos _ h0]
        simp
      have h0' : decide (0 < m) = true := by simp; omega
      obtain ⟨d, hd⟩ : ∃ d, d = m % 10000 := ⟨_, rfl⟩
      obtain ⟨q, hq⟩ : ∃ q, q = m / 10000 := ⟨_, rfl⟩
      have hql : q < m := by omega
      rw [← hd, ← hq] at HEQ
      have i1 : (m : Int) % 10000 = (d : Int) := by omega
      have i2 : (m : Int) / 10000 = (q : Int) := by omega
      have HSZ := Lib.hid HU.out.size
      clear hd hq HE
      go_wp2_with (at_builtin; refine wpList_append_sl _ rfl (.tmp 6) (.tmp 9) 31 rfl w.heap.size 3 (.int .i64 0) 8 Tryz.underlying31 infoI64 rfl _ _ _ rfl (ownsRow_upd HO.out ((Upd.refl [] _).alloc _) (by simp)) _ (ci64 [d]) rfl (Sl.lit1 _ _ _) (ci64_one _) ?c2 ?c3 ?c4 ?go)
      case c2 => have := HLEN.out; have := HLL.out; unfold maxLen; simp; omega
      case c3 => have := HLEN.out; have := HLL.out; simp; omega
      case c4 => have := HSZ.out; simp; omega
      case go =>
        intro v6 w6 ho6 hg6 hfr
        have HF : Hid (w6.ownsRow w.heap.size 3 1 v6 (L ++ [d]).length (ci64 (L ++ [d])) ∧ Upd [] w w6) := by
          refine ⟨by rw [ci64_append]; simpa using ho6, (HU.out.alloc _).grown hg6 (fun k hk => .inr (HO.out.lt k hk).1)⟩
        clear ho6 hg6 hfr
        go_wp2
        exact ⟨⟨q, L ++ [d], by omega, rfl, HF.out.1, HEQ, HF.out.2⟩, by simp [intOf]; omega⟩
end Go.Proofs.YtoklmfmoblkfcaaGreatDoor
