/- The law TapeBytes (layer 9). -/
import Derived.Test.YtibfdldllaopdaaTapeBits
namespace Go.Proofs.Ytibfdldllaopdaa
open Go.RowKit Go.Proofs.Tm
set_option linter.unusedVariables false
set_option maxRecDepth 20000

set_option maxHeartbeats 3200000 in
theorem tapeBytes_law (a0 : Option Addr) (cap : Nat) (xs : List Nat) (n : Int) (w : World) (hx : Sl w (.slice a0 xs.length cap) (cu8 xs)) (hxb : ∀ b ∈ xs, b < 256) :
    Calls Try.prog 5 #[.slice a0 xs.length cap, .int .i64 n] w fun e w' => e = .returned (.bool true) ∧ Upd [] w w' := by
  obtain ⟨bs, hbs⟩ : ∃ bs, bs = xs.take 100 := ⟨_, rfl⟩
  have hl : bs.length ≤ 100 := by rw [hbs, List.length_take]; omega
  have HBB : Hid (∀ b ∈ bs, b < 256) := fun b hb => hxb b (by rw [hbs] at hb; exact List.mem_of_mem_take hb)
  obtain ⟨k, hk⟩ : ∃ k, k = bs.length := ⟨_, rfl⟩
  have hkx : k = min 100 xs.length := by rw [hk, hbs, List.length_take]
  have hs : Sl w (.slice a0 k cap) (cu8 bs) := by
    have := tsl_take hx k (by omega)
    rw [hbs]
    have e : cu8 (xs.take 100) = (cu8 xs).take k := by
      rw [hkx, show (cu8 xs).take (min 100 xs.length) = (cu8 xs).take 100 by rw [← cu8_length xs, ← List.take_take, List.take_length]]; simp [cu8, List.map_take]
    rw [e]; exact this
  obtain ⟨k8, hk8⟩ : ∃ k, k = 8 * bs.length := ⟨_, rfl⟩
  obtain ⟨m, hm⟩ : ∃ m, m = min n.toNat k8 := ⟨_, rfl⟩
  have hmin := fun ts t W => mini_is (P := Try.prog) (a := n) (b := (k8 : Int)) rfl ts t W
  have hmax := fun ts t W => maxi_is (P := Try.prog) (a := 0) (b := min n (k8 : Int)) (c := (m : Int)) (by omega) ts t W
  generalize min n (k8 : Int) = mm at *
  have hm8 : m ≤ k8 := by omega
  obtain ⟨L, hL⟩ : ∃ L, L = (bitsOf bs).take m := ⟨_, rfl⟩
  have hlm : L.length = m := by rw [hL, List.length_take, bitsOf_length]; omega
  have htk : (bitsOf bs).take (min n.toNat 1048576) = L := by
    rw [hL]
    rcases Nat.le_total n.toNat k8 with h | h
    · rw [show min n.toNat 1048576 = m by omega]
    · rw [List.take_of_length_le (by rw [bitsOf_length]; omega), List.take_of_length_le (by rw [bitsOf_length]; omega)]
  have HF : Hid (∀ W, Upd [] w W → Calls Try.prog 22 #[.slice a0 k cap, .int .i64 n] W (TNew L W)) := fun W hu => by
    have := tbytes_any _ bs n W (hs.upd0 hu) HBB.out (by omega)
    rw [htk] at this
    exact this
  have HR : Hid (∀ W, Upd [] w W → Calls Try.prog 23 #[.slice a0 k cap] W fun e w' => ∃ a c, e = .returned (.slice a k8 c) ∧ m ≤ c ∧ c ≤ 9223372036854775807 ∧ Sl w' (.slice a m c) (cb L) ∧ Upd [] W w' ∧ ∀ k, (Value.slice a m c).ownBlock = some k → W.heap.size ≤ k) := fun W hu => by
    refine (trbits_any _ bs W (hs.upd0 hu) (by omega) HBB.out).mono ?_
    rintro e w' ⟨v, rfl, ho, hu2⟩
    rw [← hk8] at ho
    have h1 := Sl.own ho
    obtain ⟨a, c, rfl⟩ := own_ex ho
    have hc : k8 ≤ c ∧ c ≤ 9223372036854775807 := by
      obtain ⟨a', c', he, h2, h3, _⟩ := h1
      simp only [Value.slice.injEq, cb_length, bitsOf_length] at he h2
      unfold maxLen at h3
      omega
    refine ⟨a, c, rfl, by omega, hc.2, ?_, hu2, fun k hk => (ho.lt k (by cases a with | none => simp [Value.ownBlock] at hk | some ad => simpa [Value.ownBlock] using hk)).1⟩
    have := tsl_take h1 m hm8
    rw [hL]
    simpa [cb, List.map_take] using this
  have HLM := Lib.hid hlm
  have hmb : m ≤ 800 := by omega
  have hx63 : xs.length ≤ 9223372036854775807 := by have := hx.len_le; simp at this; unfold maxLen at this; omega
  have hcapx : 100 < xs.length → 100 ≤ cap := by
    obtain ⟨a', c', he, h2, _⟩ := hx
    simp only [Value.slice.injEq, cu8_length] at he h2
    omega
  have hcase : (decide ((100 : Int) < (xs.length : Int)) = true ∧ k = 100 ∧ 100 ≤ cap) ∨ (decide ((100 : Int) < (xs.length : Int)) = false ∧ k = xs.length) := by
    rcases Nat.lt_or_ge 100 xs.length with h | h
    · exact .inl ⟨by simp; omega, by omega, hcapx h⟩
    · exact .inr ⟨by simp; omega, by omega⟩
  clear hs hx hxb hbs hk hkx hk8 hm hL hlm htk hl hcapx
  generalize xs.length = lx at *
  go_enter Try.func5, Try.ntmps5
  go_wp2_with fail
  refine (awake9 w).mono ?_
  rintro e w1 ⟨rfl, hu1⟩
  have HU1 := Lib.hid hu1
  clear hu1
  rcases hcase with ⟨hg, hk, hcap⟩ | ⟨hg, hk⟩
  all_goals
    subst hk
    go_wp2_with fail
    refine (HF.out _ HU1.out).mono ?_
    rintro e w2 ⟨p, g, rfl, ht, hu2, hp, hg2⟩
    have hp1 : w.heap.size ≤ p := Nat.le_trans HU1.out.size hp
    have hp2 := ht.lt
    have HT := Lib.hid ht
    have HU2 := Lib.hid (HU1.out.trans0 hu2)
    clear ht hu2 hp hg2
    go_wp2_with fail
    refine (HR.out _ HU2.out).mono ?_
    rintro e w3 ⟨a, c, rfl, hmc, hc63, hs3, hu3, hb3⟩
    have HS3 := Lib.hid hs3
    have HB3 : Hid (∀ k, (Value.slice a m c).ownBlock = some k → k ∉ [p]) := fun k hk => by have := hb3 k hk; simp; omega
    have HT3 := Lib.hid (HT.out.upd0 hu3)
    have HU3 := Lib.hid (HU2.out.trans0 hu3)
    have hl := tleft_any p g L 0 false w3 HT3.out
    rw [HLM.out] at hl
    have HL := Lib.hid hl
    clear hs3 hu3 hb3 hl
    have hm0 : (0 : Int) ≤ (m : Int) := by omega
    have hmc' : (m : Int) ≤ (c : Int) := by omega
    go_wp2_with fail
    refine HL.out.mono ?_
    rintro e w4 ⟨rfl, dn, rfl⟩
    have H0 : Hid (Tp (w3.drewN dn) p g L (min 0 L.length) (decide (L.length < 0)) ∧ Upd [p] w3 (w3.drewN dn)) := ⟨by rw [show min 0 L.length = 0 by omega]; exact HT3.out.drewN dn, (Upd.refl _ _).drewN dn⟩
    go_wp2
    go_loopw [39] (fun v39 wr => ∃ i : Nat, i ≤ m ∧ v39 = .int .i64 i ∧ Hid (Tp wr p g L (min i L.length) (decide (L.length < i)) ∧ Upd [p] w3 wr)) (fun v39 _ => m - (intOf v39).toNat)
    case atStart => exact ⟨0, Nat.zero_le _, rfl, H0⟩
    case round =>
      obtain ⟨i, hi, rfl, HI⟩ := hrel
      clear H0
      have HFL := Lib.hid (tflip_at p g L i wr HI.out.1)
      by_cases hlt : i < m
      · obtain ⟨b, o, cap', hv, hcs⟩ := tsl_at (HS3.out.upd HI.out.2 (fun _ => HB3.out)) (by intro h; have h2 := congrArg List.length h; rw [cb_length, HLM.out] at h2; have h4 : m = 0 := h2; omega)
        obtain ⟨rfl, rfl⟩ : a = some ⟨b, o, none⟩ ∧ c = cap' := by simp at hv; exact ⟨hv.1, hv.2.2⟩
        have hcell := hcs i (by rw [cb_length, HLM.out]; exact hlt)
        rw [cb_getElem? L i (by rw [HLM.out]; exact hlt)] at hcell
        have HFL' := HFL.out
        rw [if_pos (by rw [HLM.out]; exact hlt)] at HFL'
        have HFLY := Lib.hid HFL'
        have i0 : (0 : Int) ≤ (i : Int) := by omega
        have i1 : (i : Int) < (m : Int) := by omega
        clear hcs hv HFL' HFL
        generalize L.getD i false = x at *
        have hxx : (x != x) = false := by simp
        go_wp2_with fail
        refine HFLY.out.mono ?_
        rintro e w5 ⟨rfl, ht5, hu5⟩
        have HI5 : Hid (Tp w5 p g L (min (i + 1) L.length) (decide (L.length < i + 1)) ∧ Upd [p] w3 w5) := ⟨ht5, HI.out.2.trans hu5 (fun x hx => .inl hx)⟩
        clear ht5 hu5 hcell
        go_wp2
        go_roundw
        case rel => exact ⟨i + 1, by omega, by go_num, HI5⟩
        case measure => simp [intOf]; omega
      · obtain rfl : i = m := by omega
        have HFL' := HFL.out
        rw [if_neg (by rw [HLM.out]; omega)] at HFL'
        have HFLY := Lib.hid HFL'
        clear HFL' HFL
        generalize L.getD i false = x at *
        go_wp2_with fail
        refine HFLY.out.mono ?_
        rintro e w5 ⟨rfl, ht5, hu5⟩
        have HF : Hid (Upd [] w w5) := (HU3.out.trans (HI.out.2.trans hu5 (fun x hx => .inl hx)) (fun x hx => by simp at hx; subst hx; exact .inr hp1))
        clear ht5 hu5
        go_wp2
        go_ret
        exact ⟨rfl, HF.out⟩
end Go.Proofs.Ytibfdldllaopdaa
