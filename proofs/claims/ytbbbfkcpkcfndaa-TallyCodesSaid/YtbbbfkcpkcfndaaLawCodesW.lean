/- CodesWrites: numbers are written just as the document says, in as many bits as are told: the law's walk, out of the contracts. -/
import Derived.Test.YtbbbfkcpkcfndaaCodesRef
namespace Go.Proofs.Ytbbbfkcpkcfndaa
open Go.RowKit Go.Proofs.Tm
set_option linter.unusedVariables false
set_option maxRecDepth 20000

/-- A Writer of the bits L1 and a list of the bits L2, neither in the other's memory. -/
def Both (w : World) (p : Nat) (lv : Value) (L1 L2 : List Bool) (wr : World) : Prop :=
  ∃ g, Wr wr p g L1 ∧ Sl wr lv (cb L2) ∧ Upd [] w wr ∧ w.heap.size ≤ p ∧ (∀ q, lv.ownBlock = some q → (q ≠ p ∧ g ≠ some q) ∧ q < wr.heap.size) ∧ (∀ q, g = some q → w.heap.size ≤ q)

theorem Both.wr {w : World} {p : Nat} {lv : Value} {L1 L2 : List Bool} {wr : World} (h : Both w p lv L1 L2 wr) : ∃ g, Wr wr p g L1 ∧ ∀ m w', WrMore p g L1 wr m w' → Both w p lv (L1 ++ m) L2 w' := by
  obtain ⟨g, h1, h2, h3, h4, h5, h6⟩ := h
  refine ⟨g, h1, fun m w' hm => ?_⟩
  obtain ⟨g', k1, k2, k3⟩ := hm
  have hs := k2.size
  have hs3 := h3.size
  refine ⟨g', k1, h2.upd k2 (fun _ q hq hm => ?_), h3.trans k2 (fun x hx => ?_), h4, fun q hq => ?_, fun q hq => ?_⟩
  · have := h5 q hq
    rcases List.mem_cons.1 hm with h | h
    · exact this.1.1 h
    · exact this.1.2 (by simpa [Option.mem_toList] using h)
  · rcases List.mem_cons.1 hx with rfl | hx
    · exact .inr h4
    · exact .inr (h6 x (by simpa [Option.mem_toList] using hx))
  · have h0 := h5 q hq
    refine ⟨⟨h0.1.1, fun hg => ?_⟩, by omega⟩
    rcases k3 with rfl | ⟨k, hk, hl⟩
    · exact h0.1.2 hg
    · rw [hk] at hg; obtain rfl : k = q := by simpa using hg
      omega
  · rcases k3 with rfl | ⟨k, hk, hl⟩
    · exact h6 q hq
    · rw [hk] at hq; obtain rfl : k = q := by simpa using hq
      omega

theorem Both.upd {w : World} {p : Nat} {lv : Value} {L1 L2 : List Bool} {wr w' : World} (h : Both w p lv L1 L2 wr) (u : Upd [] wr w') : Both w p lv L1 L2 w' := by
  obtain ⟨g, h1, h2, h3, h4, h5, h6⟩ := h
  exact ⟨g, h1.upd u (by simp) (by simp), h2.upd0 u, h3.trans0 u, h4, fun q hq => ⟨(h5 q hq).1, Nat.lt_of_lt_of_le (h5 q hq).2 u.size⟩, h6⟩

theorem Both.ref {w : World} {p : Nat} {lv v : Value} {L1 L2 L3 : List Bool} {wr w' : World} (h : Both w p lv L1 L2 wr) (hr : RefTo lv wr v L3 w') : Both w p v L1 L3 w' := by
  obtain ⟨g, h1, h2, h3, h4, h5, h6⟩ := h
  obtain ⟨r1, r2, r3⟩ := hr
  have hs := r2.size
  refine ⟨g, h1.upd r2 (by simp) (by simp), r1, h3.trans0 r2, h4, fun q hq => ?_, h6⟩
  rcases r3 q hq with h | h
  · exact ⟨(h5 q h).1, Nat.lt_of_lt_of_le (h5 q h).2 hs⟩
  · have hp := h1.lt
    refine ⟨⟨by omega, fun hg => ?_⟩, h.2⟩
    have := h1.glt q hg
    omega

theorem Both.list {w : World} {p : Nat} {lv : Value} {L1 L2 : List Bool} {wr : World} (h : Both w p lv L1 L2 wr) : Sl wr lv (cb L2) := by
  obtain ⟨g, _, h2, _⟩ := h; exact h2
theorem Both.all {w : World} {p : Nat} {lv : Value} {L1 L2 : List Bool} {wr : World} (h : Both w p lv L1 L2 wr) : Upd [] w wr := by
  obtain ⟨g, _, _, h3, _⟩ := h; exact h3

set_option maxHeartbeats 800000 in
theorem awake2 (w : World) : Calls Try.prog 34 #[] w fun e w' => e = .returned (.bool true) ∧ Upd [] w w' := by
  have HZ : Hid (Both w w.heap.size (.slice none 0 0) [] [] (w.alloc (.cells #[.slice none 0 0, .int .i64 0] 26))) :=
    ⟨none, Wr.zero w, Sl.nil _, (Upd.refl _ _).alloc _, Nat.le_refl _, by simp [Value.ownBlock], by simp⟩
  obtain ⟨g0, hw0, hn0⟩ := HZ.out.wr
  have H1 := Lib.hid (putGamma_any w.heap.size g0 [] 5 _ hw0 (by decide) (by decide) (by decide))
  have HN0 := Lib.hid hn0
  clear hw0 hn0
  go_enter Try.func34, Try.ntmps34
  go_wp2_with fail
  refine H1.out.mono ?_
  rintro e w1 ⟨rfl, hm1⟩
  have HB1 := Lib.hid (HN0.out _ _ hm1)
  obtain ⟨g1, hw1, hn1⟩ := HB1.out.wr
  have H2 := Lib.hid (putVar_any w.heap.size g1 _ 300 _ hw1 (by decide) (by decide))
  have HN1 := Lib.hid hn1
  clear hw1 hn1 hm1
  go_wp2_with fail
  refine H2.out.mono ?_
  rintro e w2 ⟨rfl, hm2⟩
  have HB2 := Lib.hid (HN1.out _ _ hm2)
  obtain ⟨g2, hw2, _⟩ := HB2.out.wr
  have H3 := Lib.hid (bytes_any w.heap.size g2 _ _ hw2 (by decide))
  have HW2 := Lib.hid hw2
  clear hw2 hm2
  go_wp2_with fail
  refine H3.out.mono ?_
  rintro e w3 ⟨v, rfl, ho3, hu3⟩
  obtain ⟨gb, capb, rfl⟩ := own_shape ho3 (by decide)
  have hc := ho3.cellAt 0 (by decide)
  have HU3 := Lib.hid hu3
  have hL := Lib.hid (len_any w.heap.size g2 _ _ (HW2.out.upd hu3 (by simp) (by simp)))
  replace hc : w3.cell? ⟨gb, 0, none⟩ = some (.int .u8 45) := hc
  clear ho3 hu3
  go_wp2_with fail
  refine hL.out.mono ?_
  rintro e w4 ⟨rfl, rfl⟩
  have hG := Lib.hid (gammas_any 5 w3 (by decide))
  go_wp2_with fail
  refine hG.out.mono ?_
  rintro e w4 ⟨rfl, rfl⟩
  go_wp2
  go_ret
  exact ⟨rfl, HB2.out.all.trans0 HU3.out⟩

/-- What is written of a number, in all three ways. -/
def wordW (n : Nat) : List Bool := if n = 0 then varBits 0 else gammaBits n ++ (deltaBits n ++ varBits n)
theorem wordW_len (n : Nat) (hn : n < 18446744073709551616) : (wordW n).length ≤ 500 := by
  unfold wordW
  have h1 := log2_lt64 n hn
  have h2 := log2_lt64 (Nat.log2 n + 1) (by omega)
  have h3 := varG_length 10 n
  have h4 := varG_length 10 0
  split
  · rw [varBits_length]; omega
  · rw [List.length_append, List.length_append, gammaBits_length, deltaBits_length, varBits_length]; omega

/-- One number, written and told: the Writer's way. -/
theorem both_len {w : World} {p : Nat} {lv : Value} {L1 L2 : List Bool} {wr : World} (h : Both w p lv L1 L2 wr) (n : Nat) (hn : n = L1.length) :
    Calls Try.prog 22 #[.pointer (some ⟨p, 0, none⟩)] wr fun e w' => e = .returned (.int .i64 (n : Int)) ∧ wr = w' := by
  obtain ⟨g, hw, _⟩ := h
  rw [hn]
  exact len_any p g L1 wr hw

theorem both_gamma {w : World} {p : Nat} {lv : Value} {L1 L2 : List Bool} {wr : World} (h : Both w p lv L1 L2 wr) (n : Nat) (h0 : n ≠ 0) (hn : n < 18446744073709551616) (hl : L1.length < 281474976710656) :
    Calls Try.prog 35 #[.pointer (some ⟨p, 0, none⟩), .int .u64 (n : Int)] wr fun e w' => e = .returned (.int .i64 0) ∧ Both w p lv (L1 ++ gammaBits n) L2 w' := by
  obtain ⟨g, hw, hnx⟩ := h.wr
  exact (putGamma_any p g L1 n wr hw hl h0 hn).mono fun e w' ⟨he, hm⟩ => ⟨he, hnx _ _ hm⟩
theorem both_delta {w : World} {p : Nat} {lv : Value} {L1 L2 : List Bool} {wr : World} (h : Both w p lv L1 L2 wr) (n : Nat) (h0 : n ≠ 0) (hn : n < 18446744073709551616) (hl : L1.length < 140737488355328) :
    Calls Try.prog 36 #[.pointer (some ⟨p, 0, none⟩), .int .u64 (n : Int)] wr fun e w' => e = .returned (.int .i64 0) ∧ Both w p lv (L1 ++ deltaBits n) L2 w' := by
  obtain ⟨g, hw, hnx⟩ := h.wr
  exact (putDelta_any p g L1 n wr hw hl h0 hn).mono fun e w' ⟨he, hm⟩ => ⟨he, hnx _ _ hm⟩
theorem both_var {w : World} {p : Nat} {lv : Value} {L1 L2 : List Bool} {wr : World} (h : Both w p lv L1 L2 wr) (n : Nat) (hn : n < 18446744073709551616) (hl : L1.length < 140737488355328) :
    Calls Try.prog 37 #[.pointer (some ⟨p, 0, none⟩), .int .u64 (n : Int)] wr fun e w' => e = .returned (.tuple #[]) ∧ Both w p lv (L1 ++ varBits n) L2 w' := by
  obtain ⟨g, hw, hnx⟩ := h.wr
  exact (putVar_any p g L1 n wr hw hl hn).mono fun e w' ⟨he, hm⟩ => ⟨he, hnx _ _ hm⟩
theorem both_refGamma {w : World} {p : Nat} {lv : Value} {L1 L2 : List Bool} {wr : World} (h : Both w p lv L1 L2 wr) (n : Nat) (h0 : n ≠ 0) (hn : n < 18446744073709551616) (hl : L2.length ≤ 274877906944) :
    Calls Try.prog 39 #[lv, .int .u64 (n : Int)] wr fun e w' => ∃ v, e = .returned v ∧ Both w p v L1 (L2 ++ gammaBits n) w' :=
  (refGamma_any lv L2 n wr h.list (by omega) h0 hn).mono fun e w' ⟨v, he, hr⟩ => ⟨v, he, h.ref hr⟩
theorem both_refDelta {w : World} {p : Nat} {lv : Value} {L1 L2 : List Bool} {wr : World} (h : Both w p lv L1 L2 wr) (n : Nat) (h0 : n ≠ 0) (hn : n < 18446744073709551616) (hl : L2.length ≤ 274877906944) :
    Calls Try.prog 38 #[lv, .int .u64 (n : Int)] wr fun e w' => ∃ v, e = .returned v ∧ Both w p v L1 (L2 ++ deltaBits n) w' :=
  (refDelta_any lv L2 n wr h.list (by omega) h0 hn).mono fun e w' ⟨v, he, hr⟩ => ⟨v, he, h.ref hr⟩
theorem both_refVar {w : World} {p : Nat} {lv : Value} {L1 L2 : List Bool} {wr : World} (h : Both w p lv L1 L2 wr) (n : Nat) (hn : n < 18446744073709551616) (hl : L2.length ≤ 274877906944) :
    Calls Try.prog 40 #[lv, .int .u64 (n : Int)] wr fun e w' => ∃ v, e = .returned v ∧ Both w p v L1 (L2 ++ varBits n) w' :=
  (refVar_any lv L2 n wr h.list (by omega) hn).mono fun e w' ⟨v, he, hr⟩ => ⟨v, he, h.ref hr⟩

theorem ne_self_int (x : Int) (y : Int) (h : x = y) : (x != y) = false := by rw [h, bne_self_eq_false]

set_option maxRecDepth 100000 in
set_option maxHeartbeats 3200000 in
theorem codesW_law (a0 : Option Addr) (cap : Nat) (ns : List Int) (w : World) (hS : Sl w (.slice a0 ns.length cap) (ns.map (Value.int .u64))) (hN : ∀ n ∈ ns, (Lit.int .u64 n).wf = true) :
    Calls Try.prog 7 #[.slice a0 ns.length cap] w fun e w' => e = .returned (.bool true) ∧ Upd [] w w' := by
  have HS := Lib.hid hS
  have HNW := Lib.hid hN
  have hkm : ns.length ≤ maxLen := by have := hS.len_le; simpa using this
  unfold maxLen at hkm
  clear hS hN
  go_enter Try.func7, Try.ntmps7
  go_wp2_with fail
  refine (awake2 w).mono ?_
  rintro e w1 ⟨rfl, hu1⟩
  have HZ : Hid (Both w w1.heap.size (.slice none 0 0) [] [] (w1.alloc (.cells #[.slice none 0 0, .int .i64 0] 26))) :=
    ⟨none, Wr.zero w1, Sl.nil _, hu1.alloc _, hu1.size, by simp [Value.ownBlock], by simp⟩
  clear hu1
  go_wp2_with fail
  go_loopw [4, 5] (fun v4 v5 wr => ∃ (i : Nat) (l : List Bool), i ≤ ns.length ∧ v5 = .int .i64 i ∧ l.length ≤ 500 * i ∧ i ≤ 40 ∧ Both w w1.heap.size v4 l l wr) (fun _ v5 _ => ns.length - (intOf v5).toNat)
  case atStart => exact ⟨0, [], by omega, rfl, by simp, by omega, HZ.out⟩
  case round =>
    obtain ⟨i, l, hi, rfl, hll, hi40, hinv⟩ := hrel
    obtain ⟨wo, rfl⟩ : ∃ wo : World, wo = wr := ⟨_, rfl⟩
    have HB := Lib.hid hinv
    clear hinv
    by_cases hlt : i < ns.length ∧ i < 40
    · obtain ⟨hlt1, hlt2⟩ := hlt
      have b1 : decide (i < ns.length) = true := by simpa using hlt1
      obtain ⟨b, o, cap', hv, hc⟩ := sl_at (HS.out.upd0 HB.out.all) (by intro h; have := congrArg List.length h; simp at this; simp_all)
      obtain ⟨rfl, rfl⟩ : a0 = some ⟨b, o, none⟩ ∧ cap = cap' := by simpa using hv
      have hcell := hc i (by simpa using hlt1)
      rw [List.getElem?_map, List.getElem?_eq_getElem hlt1] at hcell
      simp only [Option.map_some] at hcell
      have hbd := bounds_u64 (HNW.out _ (List.getElem_mem hlt1))
      obtain ⟨n, hn⟩ := Int.eq_ofNat_of_zero_le hbd.1
      rw [hn] at hcell hbd
      have hn64 : n < 18446744073709551616 := by omega
      have c0 : (0 : Int) ≤ (i : Int) := by omega
      have hwl := wordW_len n hn64
      have HN64 := Lib.hid hn64
      clear hc hv hn hbd hn64
      obtain ⟨a, ha⟩ : ∃ a, a = l.length := ⟨_, rfl⟩
      have HA := Lib.hid ha
      have ha2 : a ≤ 20000 := by omega
      have HLEN := Lib.hid (both_len HB.out a ha)
      clear ha
      by_cases h0 : n = 0
      · subst h0
        have hb : (((0 : Nat) : Int) == 0) = true := by simp
        unfold wordW at hwl
        rw [if_pos rfl] at hwl
        go_wp2_with fail
        refine HLEN.out.mono ?_
        rintro e w2 ⟨rfl, rfl⟩
        go_wp2_with fail
        refine (putGamma_no _ _).mono ?_
        rintro e w2 ⟨rfl, rfl⟩
        go_wp2_with fail
        refine HLEN.out.mono ?_
        rintro e w2 ⟨rfl, rfl⟩
        go_wp2_with fail
        refine (putDelta_no _ _).mono ?_
        rintro e w2 ⟨rfl, rfl⟩
        go_wp2_with fail
        refine HLEN.out.mono ?_
        rintro e w2 ⟨rfl, rfl⟩
        have HV := Lib.hid (both_var HB.out 0 HN64.out (by omega))
        go_wp2_with fail
        refine HV.out.mono ?_
        rintro e w4 ⟨rfl, hb5⟩
        have HR3 := Lib.hid (both_refVar hb5 0 HN64.out (by omega))
        clear hb5
        go_wp2_with fail
        refine HR3.out.mono ?_
        rintro e w7 ⟨v7, rfl, hb8⟩
        obtain ⟨b3, hb3'⟩ : ∃ b3, b3 = (l ++ varBits 0).length := ⟨_, rfl⟩
        have hbb5 : b3 = a + 8 := by rw [hb3', List.length_append, HA.out, varBits_length]; rfl
        have HL4 := Lib.hid (both_len hb8 b3 hb3')
        have HB8 := Lib.hid hb8
        have HLFIN : (l ++ varBits 0).length ≤ 500 * (i + 1) := by rw [List.length_append]; omega
        have q1 := gammas_any 0 w7 HN64.out
        have q2 := deltas_any 0 w7 HN64.out
        have q3 := vars_any 0 w7 HN64.out
        rw [show gammaLen 0 = 0 from rfl] at q1
        rw [show deltaLen 0 = 0 from rfl] at q2
        rw [show 8 * groups 0 = 8 from rfl] at q3
        have Q1 := Lib.hid q1
        have Q2 := Lib.hid q2
        have Q3 := Lib.hid q3
        have f3 := ne_self_int (8 : Int) ((b3 : Int) - (a : Int)) (by omega)
        have i3 : (a : Int) ≤ (b3 : Int) := by omega
        have i4 : b3 ≤ 23000 := by omega
        clear hb8 hb3' hbb5 q1 q2 q3 hwl
        go_wp2_with (first
          | (go_at_call 41; refine Q1.out.mono ?_; rintro e w' ⟨rfl, rfl⟩)
          | (go_at_call 42; refine Q2.out.mono ?_; rintro e w' ⟨rfl, rfl⟩)
          | (go_at_call 43; refine Q3.out.mono ?_; rintro e w' ⟨rfl, rfl⟩)
          | (go_at_call 22; refine HL4.out.mono ?_; rintro e w' ⟨rfl, rfl⟩))
        go_roundw
        case rel => exact ⟨i + 1, _, by omega, by go_num, HLFIN, by omega, HB8.out⟩
        case measure => simp [intOf]; omega
      · have hb : ((n : Int) == 0) = false := by simp; omega
        have hb2 : decide (0 < n) = true := by simp; omega
        unfold wordW at hwl
        rw [if_neg h0, List.length_append, List.length_append] at hwl
        have HG := Lib.hid (both_gamma HB.out n h0 HN64.out (by omega))
        have HH0 := Lib.hid h0
        clear h0
        go_wp2_with fail
        refine HLEN.out.mono ?_
        rintro e w2 ⟨rfl, rfl⟩
        go_wp2_with fail
        refine HG.out.mono ?_
        rintro e w2 ⟨rfl, hb3⟩
        obtain ⟨b1', hb1'⟩ : ∃ b1, b1 = (l ++ gammaBits n).length := ⟨_, rfl⟩
        have hbb : b1' = a + (gammaBits n).length := by rw [hb1', List.length_append, HA.out]
        have HL2 := Lib.hid (both_len hb3 b1' hb1')
        have HB3 := Lib.hid hb3
        have HBB := Lib.hid hbb
        have hbb2 : b1' ≤ 21000 := by omega
        clear hb3 hb1' hbb
        go_wp2_with fail
        refine HL2.out.mono ?_
        rintro e w3 ⟨rfl, rfl⟩
        have HD := Lib.hid (both_delta HB3.out n HH0.out HN64.out (by rw [List.length_append]; omega))
        go_wp2_with fail
        refine HD.out.mono ?_
        rintro e w3 ⟨rfl, hb4⟩
        obtain ⟨b2, hb2'⟩ : ∃ b2, b2 = (l ++ gammaBits n ++ deltaBits n).length := ⟨_, rfl⟩
        have hbb3 : b2 = b1' + (deltaBits n).length := by rw [hb2', List.length_append, List.length_append, HBB.out, HA.out]
        have HL3 := Lib.hid (both_len hb4 b2 hb2')
        have HB4 := Lib.hid hb4
        have HBB2 := Lib.hid hbb3
        have hbb4 : b2 ≤ 22000 := by have := HBB.out; omega
        clear hb4 hb2' hbb3
        go_wp2_with fail
        refine HL3.out.mono ?_
        rintro e w4 ⟨rfl, rfl⟩
        have HV := Lib.hid (both_var HB4.out n HN64.out (by rw [List.length_append, List.length_append]; omega))
        go_wp2_with fail
        refine HV.out.mono ?_
        rintro e w4 ⟨rfl, hb5⟩
        have HR1 := Lib.hid (both_refGamma hb5 n HH0.out HN64.out (by omega))
        clear hb5
        go_wp2_with fail
        refine HR1.out.mono ?_
        rintro e w5 ⟨v5, rfl, hb6⟩
        have HR2 := Lib.hid (both_refDelta hb6 n HH0.out HN64.out (by rw [List.length_append]; omega))
        clear hb6
        go_wp2_with fail
        refine HR2.out.mono ?_
        rintro e w6 ⟨v6, rfl, hb7⟩
        have HR3 := Lib.hid (both_refVar hb7 n HN64.out (by rw [List.length_append, List.length_append]; omega))
        clear hb7
        go_wp2_with fail
        refine HR3.out.mono ?_
        rintro e w7 ⟨v7, rfl, hb8⟩
        obtain ⟨b3, hb3'⟩ : ∃ b3, b3 = (l ++ gammaBits n ++ deltaBits n ++ varBits n).length := ⟨_, rfl⟩
        have hbb5 : b3 = b2 + (varBits n).length := by rw [hb3', List.length_append, List.length_append, List.length_append, HBB2.out, HBB.out, HA.out]
        have HL4 := Lib.hid (both_len hb8 b3 hb3')
        have HB8 := Lib.hid hb8
        have hbb6 : b3 ≤ 23000 := by have := HBB.out; have := HBB2.out; omega
        have HBB3 := Lib.hid hbb5
        clear hb8 hb3' hbb5
        obtain ⟨gl, hgl⟩ : ∃ gl, gl = gammaLen n := ⟨_, rfl⟩
        obtain ⟨dl, hdl⟩ : ∃ dl, dl = deltaLen n := ⟨_, rfl⟩
        obtain ⟨vl, hvl⟩ : ∃ vl, vl = 8 * groups n := ⟨_, rfl⟩
        have eg : b1' = a + gl := by rw [HBB.out, gammaBits_length, hgl]; unfold gammaLen; rw [if_neg HH0.out]
        have ed : b2 = b1' + dl := by rw [HBB2.out, deltaBits_length, hdl]; unfold deltaLen; rw [if_neg HH0.out]
        have ev : b3 = b2 + vl := by rw [HBB3.out, varBits_length, hvl]; rfl
        have q1 := gammas_any n w7 HN64.out
        have q2 := deltas_any n w7 HN64.out
        have q3 := vars_any n w7 HN64.out
        rw [← hgl] at q1
        rw [← hdl] at q2
        rw [← hvl] at q3
        have Q1 := Lib.hid q1
        have Q2 := Lib.hid q2
        have Q3 := Lib.hid q3
        have f1 := ne_self_int (gl : Int) ((b1' : Int) - (a : Int)) (by omega)
        have f2 := ne_self_int (dl : Int) ((b2 : Int) - (a : Int) - ((b1' : Int) - (a : Int))) (by omega)
        have f3 := ne_self_int (vl : Int) ((b3 : Int) - (a : Int) - ((b1' : Int) - (a : Int)) - ((b2 : Int) - (a : Int) - ((b1' : Int) - (a : Int)))) (by omega)
        have EG := Lib.hid eg
        have ED := Lib.hid ed
        have EV := Lib.hid ev
        have i1 : (a : Int) ≤ (b1' : Int) := by omega
        have i2 : (b1' : Int) ≤ (b2 : Int) := by omega
        have i3 : (b2 : Int) ≤ (b3 : Int) := by omega
        have HLFIN : (l ++ gammaBits n ++ deltaBits n ++ varBits n).length ≤ 500 * (i + 1) := by
          rw [List.length_append, List.length_append, List.length_append]; omega
        clear q1 q2 q3 hgl hdl hvl eg ed ev hwl
        go_wp2_with (first
          | (go_at_call 41; refine Q1.out.mono ?_; rintro e w' ⟨rfl, rfl⟩)
          | (go_at_call 42; refine Q2.out.mono ?_; rintro e w' ⟨rfl, rfl⟩)
          | (go_at_call 43; refine Q3.out.mono ?_; rintro e w' ⟨rfl, rfl⟩)
          | (go_at_call 22; refine HL4.out.mono ?_; rintro e w' ⟨rfl, rfl⟩))
        go_roundw
        case rel => exact ⟨i + 1, _, by omega, by go_num, HLFIN, by omega, by have := HB8.out; exact this⟩
        case measure => simp [intOf]; omega
    · have hend : (decide (i < ns.length) = false) ∨ (decide (i < ns.length) = true ∧ ¬ (i : Int) < 40) := by
        by_cases h1 : i < ns.length
        · right; exact ⟨by simpa using h1, by omega⟩
        · left; simpa using h1
      clear hlt
      obtain ⟨n, hn⟩ : ∃ n, n = l.length := ⟨_, rfl⟩
      have HLEN := Lib.hid (both_len HB.out n hn)
      obtain ⟨g, hw, _⟩ := HB.out.wr
      have HBY := Lib.hid (bytes_any w1.heap.size g l wo hw (by omega))
      obtain ⟨va, vc, hv⟩ : ∃ va vc, u4 = .slice va n vc := by
        obtain ⟨a, c, h, _⟩ := HB.out.list
        exact ⟨a, c, by rw [h, cb_length, hn]⟩
      subst hv
      have HN := Lib.hid hn
      clear hw hn
      rcases hend with hend | ⟨hend, hend2⟩
      all_goals
        go_wp2_with fail
        refine HLEN.out.mono ?_
        rintro e w2 ⟨rfl, rfl⟩
        go_wp2_with fail
        refine HBY.out.mono ?_
        rintro e w6 ⟨vb, rfl, ho6, hu6⟩
        have hb6 := HB.out.upd hu6
        have HO6 := Lib.hid ho6
        have HB6 := Lib.hid hb6
        have HRB := Lib.hid (rbytes_any _ l w6 hb6.list (by omega))
        clear ho6 hu6 hb6
        go_wp2_with fail
        refine HRB.out.mono ?_
        rintro e w7 ⟨vr, rfl, ho7, hu7⟩
        have HU7 := Lib.hid hu7
        have h3 := same_any vb vr (bytesOf l) (bytesOf l) w7 ((Sl.own HO6.out).upd0 hu7) (Sl.own ho7) (by simp; omega)
        simp only [decide_true] at h3
        have H3 := Lib.hid h3
        clear ho7 hu7 h3
        go_wp2_with fail
        refine H3.out.mono ?_
        rintro e w8 ⟨rfl, m, rfl⟩
        go_wp2
        go_ret
        exact ⟨rfl, (HB6.out.all.trans0 HU7.out).drewN m⟩
end Go.Proofs.Ytbbbfkcpkcfndaa
