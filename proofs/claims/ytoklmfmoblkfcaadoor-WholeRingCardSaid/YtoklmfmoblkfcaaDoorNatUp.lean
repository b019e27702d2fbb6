/- The contract of nat.up (layer 5): words further up. -/
import Derived.Test.YtoklmfmoblkfcaaDoorNatFrom
import Derived.Test.YtoklmfmoblkfcaaDoorAb
namespace Go.Proofs.YtoklmfmoblkfcaaDoor
open Go.RowKit Go.Proofs.Tm
set_option linter.unusedVariables false
set_option linter.unusedSimpArgs false
set_option maxRecDepth 20000

theorem up_step (L : List Nat) (f x s : Nat) (hf : f + 1 < L.length) (hz : L.getD (f + 1) 0 = 0) :
    wval ((L.set f (L.getD f 0 + x * 2 ^ s % 18446744073709551616)).set (f + 1) (x * 2 ^ s / 18446744073709551616)) = wval L + 18446744073709551616 ^ f * (x * 2 ^ s) := by
  have h1 := wval_set L f (L.getD f 0 + x * 2 ^ s % 18446744073709551616) (by omega)
  have h2 := wval_set (L.set f (L.getD f 0 + x * 2 ^ s % 18446744073709551616)) (f + 1) (x * 2 ^ s / 18446744073709551616) (by rw [List.length_set]; omega)
  have e : (L.set f (L.getD f 0 + x * 2 ^ s % 18446744073709551616)).getD (f + 1) 0 = 0 := by
    rw [List.getD_eq_getElem?_getD, List.getElem?_set_ne (by omega), ← List.getD_eq_getElem?_getD]; exact hz
  rw [e, Nat.mul_zero, Nat.add_zero] at h2
  rw [h2]
  rw [Nat.mul_add] at h1
  have h3 := Nat.div_add_mod (x * 2 ^ s) 18446744073709551616
  have h4 : 18446744073709551616 ^ f * (x * 2 ^ s) = 18446744073709551616 ^ f * (x * 2 ^ s % 18446744073709551616) + 18446744073709551616 ^ (f + 1) * (x * 2 ^ s / 18446744073709551616) := by
    conv => lhs; rw [← h3]
    rw [Nat.mul_add, ← Nat.mul_assoc, ← Nat.pow_succ, Nat.add_comm]
  rw [h4]
  generalize 18446744073709551616 ^ f * (x * 2 ^ s % 18446744073709551616) = A at *
  generalize 18446744073709551616 ^ (f + 1) * (x * 2 ^ s / 18446744073709551616) = B at *
  generalize 18446744073709551616 ^ f * L.getD f 0 = C at *
  omega
theorem shr_up (x s : Nat) (hs : s < 64) : x / 2 ^ (64 - s) = x * 2 ^ s / 18446744073709551616 := by
  rw [W_two, show (2 : Nat) ^ 64 = 2 ^ (64 - s) * 2 ^ s by rw [← Nat.pow_add, Nat.sub_add_cancel (by omega)], Nat.mul_div_mul_right _ _ (Nat.two_pow_pos s)]

theorem getD_rep (n j : Nat) : (List.replicate n 0).getD j 0 = 0 := by
  rcases Nat.lt_or_ge j n with h | h
  · simp [h]
  · simp [h]
/-- A row of words of the call's own. -/
structure WRow (w : World) (g len : Nat) (L : List Nat) (wr : World) : Prop where
  own : wr.ownsRow w.heap.size 65 1 (.slice (some ⟨g, 0, none⟩) len len) len (cu64 L)
  len : L.length = len
  lt : ∀ d ∈ L, d < 18446744073709551616
  upd : Upd [] w wr
theorem WRow.set {w wr : World} {g len : Nat} {L : List Nat} (h : WRow w g len L wr) (hg : w.heap.size ≤ g) (j d : Nat) (hd : d < 18446744073709551616) : WRow w g len (L.set j d) (wr.setCell ⟨g, j, none⟩ (.int .u64 (d : Int))) := by
  refine ⟨by rw [cu64_set]; exact (h.own.stored j _).1, by rw [List.length_set]; exact h.len, fun e he => ?_, h.upd.setCell (.inr hg) _⟩
  rcases List.mem_or_eq_of_mem_set he with he | rfl
  · exact h.lt e he
  · exact hd
theorem WRow.upd0 {w wr W : World} {g len : Nat} {L : List Nat} (h : WRow w g len L wr) (u : Upd [] wr W) : WRow w g len L W :=
  ⟨ownsRow_upd h.own u (by simp), h.len, h.lt, h.upd.trans0 u⟩
theorem getD_ltw {L : List Nat} (h : ∀ d ∈ L, d < 18446744073709551616) (i : Nat) : L.getD i 0 < 18446744073709551616 := by
  rcases Nat.lt_or_ge i L.length with hi | hi
  · have : L.getD i 0 = L[i] := by simp [hi]
    rw [this]; exact h _ (List.getElem_mem hi)
  · have : L.getD i 0 = 0 := by simp [hi]
    rw [this]; decide

/-- What up answers: a row of its own. -/
def UpPost (ws : List Nat) (n : Nat) (w : World) (e : Ending) (w' : World) : Prop :=
  ∃ g L, e = .returned (.slice (some ⟨g, 0, none⟩) (ws.length + n / 64 + 1) (ws.length + n / 64 + 1)) ∧ w.heap.size ≤ g ∧ WRow w g (ws.length + n / 64 + 1) L w' ∧ wval L = wval ws * 2 ^ n ∧ L.getD (ws.length + n / 64) 0 < 2 ^ (n % 64)

set_option maxHeartbeats 1600000 in
theorem up_any (u : Value) (ws : List Nat) (n : Nat) (w : World) (hu : Sl w u (cu64 ws)) (hW : ∀ d ∈ ws, d < 18446744073709551616) (hl : ws.length ≤ 1099511627776) (hn : n ≤ 1099511627776) :
    Calls Tryd.prog 53 #[u, .int .i64 (n : Int)] w (UpPost ws n w) := by
  have HA := Lib.hid hu
  have HXL := Lib.hid (getD_ltw hW)
  obtain ⟨a, cap, rfl, hlc, hcm, _⟩ := hu
  rw [cu64_length] at *
  unfold maxLen at hcm
  obtain ⟨la, hla⟩ : ∃ la, la = ws.length := ⟨_, rfl⟩
  have HLA := Lib.hid hla
  unfold UpPost
  rw [← hla] at hl hlc HA ⊢
  obtain ⟨q, hq⟩ : ∃ q, q = n / 64 := ⟨_, rfl⟩
  obtain ⟨s, hs⟩ : ∃ s, s = n % 64 := ⟨_, rfl⟩
  have hs64 : s < 64 := by omega
  have hqn : q ≤ 1099511627776 := by omega
  have i1 : (n : Int) / 64 = (q : Int) := by omega
  have i2 : (n : Int) % 64 = (s : Int) := by omega
  have HN : Hid (n = 64 * q + s) := by show _ = _; omega
  rw [← hq, ← hs]
  obtain ⟨len, hlen⟩ : ∃ len, len = la + q + 1 := ⟨_, rfl⟩
  have hsum : (la : Int) + (q : Int) + 1 = (len : Int) := by omega
  have HLEN := Lib.hid hlen
  have hlen2 : len ≤ 2199023255553 := by omega
  rw [← hlen]
  obtain ⟨t, ht⟩ : ∃ t, t = 64 - s := ⟨_, rfl⟩
  have HT := Lib.hid ht
  have i3 : (64 : Int) - (s : Int) = (t : Int) := by omega
  have ht64 : t ≤ 64 := by omega
  clear hW hla hq hs hlen ht
  go_enter Tryd.func53, Tryd.ntmps53
  go_wp2_with (at_make; refine wpList_make_lc _ rfl (.tmp 17) (.tmp 17) 22 rfl 65 (.int .u64 0) 8 Tryd.underlying22 infoU64 rfl .i64 .i64 _ _ len len rfl rfl (by omega) (by omega) (by omega) (by omega) (by unfold maxLen; omega) ?_)
  intro w1 ho hu1 hw1
  obtain ⟨g, hg⟩ : ∃ g, g = w.heap.size := ⟨_, rfl⟩
  have hgw : w.heap.size ≤ g := by omega
  have H0 : Hid (WRow w g len (List.replicate len 0) w1) := ⟨by rw [cu64_zero, hg]; exact ho, by simp, fun d hd => by rw [List.eq_of_mem_replicate hd]; decide, hu1⟩
  rw [← hg]
  clear ho hu1 hw1 hg
  go_wp2
  go_loopw [7, 8, 21] (fun _ _ v21 wr => ∃ (i : Nat) (L : List Nat), i ≤ la ∧ v21 = .int .i64 (i : Int) ∧ Hid (wval L = 18446744073709551616 ^ q * (wval (ws.take i) * 2 ^ s)) ∧ Hid (∀ j, i + q < j → L.getD j 0 = 0) ∧ Hid (L.getD (i + q) 0 < 2 ^ s) ∧ WRow w g len L wr) (fun _ _ v21 _ => la - (intOf v21).toNat)
  case atStart => exact ⟨0, _, by omega, rfl, by show _ = _; rw [wval_zeros _ (fun d hd => List.eq_of_mem_replicate hd)]; simp [wval], fun j hj => getD_rep len j, by show _ < _; rw [getD_rep]; exact Nat.two_pow_pos s, H0.out⟩
  case round =>
    obtain ⟨i, L, hi, rfl, HE, HZ, HLT, hinv⟩ := hrel
    have HI := Lib.hid hinv
    clear hinv H0
    by_cases hlt : i < la
    · obtain ⟨ba, oa, cap', hv, hca⟩ := sl_at HA.out (by rw [cu64_nil]; intro e; have := HLA.out; rw [e] at this; simp at this; omega)
      obtain ⟨rfl, rfl⟩ : a = some ⟨ba, oa, none⟩ ∧ cap = cap' := by simp at hv; exact ⟨hv.1, hv.2.2⟩
      have hcell := hca i (by rw [cu64_length, ← HLA.out]; exact hlt)
      rw [cu64_getD _ _ (by rw [← HLA.out]; exact hlt)] at hcell
      have hlb := World.block_lt_of_cell? w _ hcell
      have hcw : wr.cell? ⟨ba, oa + i, none⟩ = some (.int .u64 ((ws.getD i 0 : Nat) : Int)) := (HI.out.upd.cell (p := ⟨ba, oa + i, none⟩) hlb (by simp)).trans hcell
      obtain ⟨x, hx⟩ : ∃ x, x = ws.getD i 0 := ⟨_, rfl⟩
      have hxl := HXL.out i
      rw [← hx] at hcw hxl
      have HX := Lib.hid hx
      obtain ⟨f, hf⟩ : ∃ f, f = i + q := ⟨_, rfl⟩
      have hfl : f + 1 < len := by have := HLEN.out; omega
      have hcl := HI.out.own.cellAt f (by rw [Nat.mul_one]; omega)
      rw [cu64_getD _ _ (by rw [HI.out.len]; omega)] at hcl
      have hfz := HI.out.own.frozenAt f
      have i4 : (i : Int) + (q : Int) = (f : Int) := by omega
      have i5 : (f : Int) < (len : Int) := by omega
      have i6 : (0 : Int) ≤ (f : Int) := by omega
      have i7 : (f : Int) + 1 < (len : Int) := by omega
      have hyl := getD_ltw HI.out.lt f
      obtain ⟨y, hy⟩ : ∃ y, y = L.getD f 0 := ⟨_, rfl⟩
      rw [← hy] at hcl hyl
      have hys : y < 2 ^ s := by rw [hy, hf]; exact HLT.out
      have HOR := Lib.hid (or_parts y x s hys (by omega) hyl)
      have HF := Lib.hid hf
      have HY := Lib.hid hy
      clear hv hca hcell hx hy hf hlb
      go_wp2
      go_region
      rw [HOR.out]
      obtain ⟨z, hz⟩ : ∃ z, z = y + x * 2 ^ s % 18446744073709551616 := ⟨_, rfl⟩
      obtain ⟨c, hc⟩ : ∃ c, c = x * 2 ^ s / 18446744073709551616 := ⟨_, rfl⟩
      rw [← hz]
      have hzl : z < 18446744073709551616 := by
        rw [hz, hi_mod x s (by omega)]
        have h1 : x % 2 ^ (64 - s) < 2 ^ (64 - s) := Nat.mod_lt _ (Nat.two_pow_pos _)
        have h2 : (x % 2 ^ (64 - s) + 1) * 2 ^ s ≤ 2 ^ (64 - s) * 2 ^ s := Nat.mul_le_mul_right _ h1
        rw [← Nat.pow_add, Nat.sub_add_cancel (by omega), ← W_two, Nat.add_mul, Nat.one_mul] at h2
        omega
      have hcs : c < 2 ^ s := by
        rw [hc, Nat.div_lt_iff_lt_mul (by decide), Nat.mul_comm]
        exact (Nat.mul_lt_mul_left (Nat.two_pow_pos s)).2 hxl
      have hcl2 : c < 18446744073709551616 := Nat.lt_of_lt_of_le hcs (by rw [W_two]; exact Nat.pow_le_pow_right (by decide) (by omega))
      have hz0 : L.getD (f + 1) 0 = 0 := HZ.out (f + 1) (by have := HF.out; omega)
      have hst := up_step L f x s (by rw [HI.out.len]; exact hfl) hz0
      rw [← HY.out, ← hz, ← hc] at hst
      have hsh : (x : Int) / 2 ^ t = (c : Int) := by rw [shr_nat, HT.out, shr_up x s hs64, ← hc]
      have HST : Hid (wval ((L.set f z).set (f + 1) c) = 18446744073709551616 ^ q * (wval (ws.take (i + 1)) * 2 ^ s)) := by
        show _ = _
        rw [hst, HE.out, wval_take_succ, ← HX.out, HF.out, Nat.pow_add, Nat.add_mul, Nat.mul_add]
        congr 1
        rw [Nat.mul_comm (18446744073709551616 ^ i) (18446744073709551616 ^ q), Nat.mul_assoc, Nat.mul_assoc]
      have hr1 := (HI.out.set hgw f z hzl).upd0 ((Upd.refl [] _).drew)
      obtain ⟨W1, hW1⟩ : ∃ W, W = (wr.setCell ⟨g, f, none⟩ (.int .u64 (z : Int))).drew := ⟨_, rfl⟩
      rw [← hW1] at hr1 ⊢
      have HR1 := Lib.hid hr1
      have hcl3 := hr1.own.cellAt (f + 1) (by rw [Nat.mul_one]; exact hfl)
      rw [cu64_getD _ _ (by rw [hr1.len]; exact hfl)] at hcl3
      have hfz3 := hr1.own.frozenAt (f + 1)
      generalize (L.set f z).getD (f + 1) 0 = y2 at *
      have HR2 := Lib.hid (hr1.set hgw (f + 1) c hcl2)
      have HCS := Lib.hid hcs
      have HHI : Hid (∀ j, i + 1 + q < j → ((L.set f z).set (f + 1) c).getD j 0 = 0) := fun j hj => by
        have := HF.out
        rw [List.getD_eq_getElem?_getD, List.getElem?_set_ne (by omega), List.getElem?_set_ne (by omega), ← List.getD_eq_getElem?_getD]
        exact HZ.out j (by omega)
      have HCU : Hid (((L.set f z).set (f + 1) c).getD (i + 1 + q) 0 < 2 ^ s) := by
        show _ < _
        rw [show i + 1 + q = f + 1 by have := HF.out; omega, List.getD_eq_getElem?_getD, List.getElem?_set_self (by rw [hr1.len]; exact hfl)]
        exact hcs
      have i8 : (i : Int) + (q : Int) + 1 = (f : Int) + 1 := by omega
      clear hst hz hc hr1 hW1 hcl hfz hzl hcs hz0
      go_wp2
      exact ⟨⟨i + 1, _, by omega, by go_num, HST, HHI, HCU, HR2.out⟩, by simp [intOf]; omega⟩
    · obtain rfl : i = la := by omega
      have HF : Hid (wval L = wval ws * 2 ^ n) := by
        show _ = _
        rw [HE.out, List.take_of_length_le (by rw [← HLA.out]; exact Nat.le_refl _), HN.out, Nat.pow_add, Nat.pow_mul, ← W_two]
        rw [Nat.mul_comm (18446744073709551616 ^ q), Nat.mul_assoc, Nat.mul_comm (2 ^ s)]
      go_wp2
      go_ret
      exact ⟨g, L, rfl, hgw, HI.out, HF.out, HLT.out⟩
end Go.Proofs.YtoklmfmoblkfcaaDoor
