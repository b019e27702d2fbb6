/- The contract of draw.Below (layer 11). -/
import Derived.Test.YtcehkflkekefpaaDraw
import Derived.Lib.ItoaNum
import Derived.WalkMore
import Derived.ScopeJumps
namespace Go.Proofs.Ytcehkflkekefpaa
open Go.RowKit Go.Proofs.Tm
set_option linter.unusedVariables false
set_option maxRecDepth 20000

theorem wid_facts (n : Nat) (h1 : 1 ≤ n) (h2 : n < 18446744073709551616) : n ≤ 2 ^ Lib.bitLen (n - 1) ∧ Lib.bitLen (n - 1) ≤ 64 ∧ (Lib.bitLen (n - 1) = 0 → n = 1) := by
  by_cases h0 : n - 1 = 0
  · obtain rfl : n = 1 := by omega
    decide
  · obtain ⟨a, b, c⟩ := Lib.bitLenAux_bounds 64 (n - 1) (by omega) h0
    have e : Lib.bitLenAux 64 (n - 1) = Lib.bitLen (n - 1) := rfl
    rw [e] at a b c
    refine ⟨by omega, Lib.bitLen_le _ 64 (Nat.le_refl _) (by omega), by omega⟩

theorem numF_dead (k : Nat) : ∀ x l, (numF k x l).2.2 = true → (numF k x l).1 = 0 := by
  induction k with
  | zero => intro x l h; simp [numF] at h
  | succ k ih =>
    intro x l h
    cases l with
    | nil => rfl
    | cons c cs => exact ih _ _ h

/-- How many coins are read. -/
def posOf (w : World) (p : Nat) : Nat := match w.cell? ⟨p, 0, none⟩ with
  | some v => (intOf v).toNat
  | none => 0
theorem posOf_tp {w : World} {p g : Nat} {l : List Bool} {i : Nat} {d : Bool} (h : Tp w p g l i d) : posOf w p = i := by
  unfold posOf
  rw [h.cells.1]
  rfl

/-- One try. -/
theorem bel_try {n wd : Nat} {l : List Bool} {x t : Nat} {dd : Bool} (hF : numF wd 0 l = (x, t, dd)) (h0 : wd = 0 → n = 1) :
    (dd = true → x = 0 ∧ belowF n wd l = (0, t, true) ∧ 1 ≤ wd) ∧ (dd = false → x < n → belowF n wd l = (x, t, false)) ∧ (dd = false → ¬ x < n → 1 ≤ wd ∧ belF n wd wd 0 l = CameN.more t (belF n wd wd 0 (l.drop t)) ∧ 1 ≤ t) := by
  cases wd with
  | zero =>
    simp only [numF, Prod.mk.injEq] at hF
    obtain ⟨rfl, rfl, rfl⟩ := hF
    have := h0 rfl
    subst this
    exact ⟨fun h => (nomatch h), fun _ _ => rfl, fun _ h => absurd (by decide) h⟩
  | succ k =>
    have hb := belF_num n (k + 1) l k 0
    rw [hF] at hb
    have hbe : belowF n (k + 1) l = belF n (k + 1) (k + 1) 0 l := by unfold belowF; rw [if_neg (by omega)]
    have hx := numF_dead (k + 1) 0 l
    rw [hF] at hx
    refine ⟨fun h => ?_, fun h h1 => ?_, fun h h1 => ?_⟩
    · subst h
      refine ⟨hx rfl, ?_, by omega⟩
      rw [hbe, hb]; rfl
    · subst h
      rw [hbe, hb]; simp [h1]
    · subst h
      refine ⟨by omega, ?_, ?_⟩
      · rw [hb]; simp [h1]
      · cases l with
        | nil => simp [numF] at hF
        | cons c cs =>
          simp only [numF, CameN.more, Prod.mk.injEq] at hF
          omega

set_option maxHeartbeats 1600000 in
theorem tbel_any (p g : Nat) (l : List Bool) (i n : Nat) (d : Bool) (w : World) (h : Tp w p g l i d) (hn : 1 ≤ n) (hn2 : n < 18446744073709551616) :
    Calls Try.prog 9 #[.pointer (some ⟨p, 0, none⟩), .int .u64 (n : Int)] w (NPost .u64 (belowF n (Lib.bitLen (n - 1))) d p g l i w) := by
  have H0 := Lib.hid h
  obtain ⟨f1, f2, f3⟩ := wid_facts n hn hn2
  obtain ⟨wd, hwd⟩ : ∃ k, k = Lib.bitLen (n - 1) := ⟨_, rfl⟩
  rw [← hwd] at f1 f2 f3 ⊢
  have HLEN : Hid (∀ W, Calls Try.prog 18 #[.int .u64 ((n : Int) - 1)] W fun e w' => e = .returned (.int .i64 (wd : Int)) ∧ W = w') := fun W => by
    have := Try.bits_Len64 ((n : Int) - 1) W (by omega) (by omega)
    rw [show ((n : Int) - 1).toNat = n - 1 by omega, ← hwd] at this
    exact this.mono fun e w' q => ⟨q.1, q.2.symm⟩
  have HNUM : Hid (∀ W k, Tp W p g l k d → Calls Try.prog 17 #[.pointer (some ⟨p, 0, none⟩), .int .i64 (wd : Int)] W (NPost .u64 (numF wd 0) d p g l k W)) := fun W k hk => tnum_any p g l k wd d W hk f2
  have HF1 : Hid (wd = 0 → n = 1) := f3
  have hne : ((n : Int) == 0) = false := by simp; omega
  have hw1 : IntKind.u64.wrap ((n : Int) - 1) = (n : Int) - 1 := by rw [IntKind.wrap_u64]; omega
  clear h hwd f3
  go_enter Try.func9, Try.ntmps9
  go_wp2
  refine wp_scope_jumps 0 (fun a' w' => ∃ (k : Nat) (u4 u5 u6 u7 u8 u9 u10 u11 u12 u13 u14 u15 u16 u17 u18 u19 u20 : Value), a' = { tmps := #[.pointer (some ⟨p, 0, none⟩), .int .u64 (n : Int), undef, undef, u4, u5, u6, u7, u8, u9, u10, u11, u12, u13, u14, u15, u16, u17, u18, u19, u20, undef, undef], defers := [] } ∧
    Hid (Tp w' p g l (i + k) d ∧ Upd [p] w w' ∧ 1 ≤ wd ∧ belF n wd wd 0 (l.drop i) = CameN.more k (belF n wd wd 0 (l.drop (i + k))))) (fun _ w' => l.length - posOf w' p) rfl ?_ ?_
  · go_wp2
    go_step3
    go_wp2_with (go_at_call 18; refine (HLEN.out _).mono ?_; rintro e w' ⟨rfl, rfl⟩)
    refine (HNUM.out _ i H0.out).mono ?_
    intro e w2 hpo
    obtain ⟨x, t, dd, hF, rfl, ht, hu⟩ := hpo.out
    obtain ⟨t1, t2, t3⟩ := bel_try hF HF1.out
    have HT := Lib.hid ht
    have HU := Lib.hid hu
    have HT1 := Lib.hid t1
    have HT2 := Lib.hid t2
    have HT3 := Lib.hid t3
    clear hpo hF ht hu t1 t2 t3
    cases dd with
    | true =>
      obtain ⟨rfl, q2, q3⟩ := HT1.out rfl
      have HQ := Lib.hid q2
      have hlt : decide (n ≤ 0) = false := by simp; omega
      clear q2 q3
      simp only [if_true]
      go_wp2
      change bodyPost _ _ _ Exit.ret _ _
      go_ret2
      exact NPost.of (x := 0) HQ.out rfl HT.out HU.out
    | false =>
      simp only [Bool.false_eq_true, if_false]
      by_cases hx : x < n
      · have HQ := Lib.hid (HT2.out rfl hx)
        have hlt : decide (n ≤ x) = false := by simp; omega
        clear hx
        go_wp2
        change bodyPost _ _ _ Exit.ret _ _
        go_ret2
        exact NPost.of HQ.out rfl HT.out HU.out
      · have hlt : decide (n ≤ x) = true := by simp; omega
        obtain ⟨q1, q2, q3⟩ := HT3.out rfl hx
        have HQ1 := Lib.hid q1
        have HQ2 := Lib.hid q2
        have ht := HT.out
        rw [Bool.or_false] at ht
        have HT' := Lib.hid ht
        clear hx q1 q2 q3 ht
        go_wp2
        go_step3
        refine ⟨rfl, t, _, _, _, _, _, _, _, _, _, _, _, _, _, _, _, _, _, rfl, ?_⟩
        exact ⟨HT'.out, HU.out, HQ1.out, by have := HQ2.out; rwa [List.drop_drop] at this⟩
  · intro a' w3 hJ
    obtain ⟨k, u4, u5, u6, u7, u8, u9, u10, u11, u12, u13, u14, u15, u16, u17, u18, u19, u20, rfl, HI⟩ := hJ
    have hk0 := HI.out.1.le
    have HPOS : Hid (posOf w3 p = i + k ∧ i + k ≤ l.length) := ⟨posOf_tp HI.out.1, hk0.1⟩
    clear H0 hk0
    go_wp2_with (go_at_call 18; refine (HLEN.out _).mono ?_; rintro e w' ⟨rfl, rfl⟩)
    refine (HNUM.out _ (i + k) HI.out.1).mono ?_
    intro e w2 hpo
    obtain ⟨x, t, dd, hF, rfl, ht, hu⟩ := hpo.out
    obtain ⟨t1, t2, t3⟩ := bel_try hF HF1.out
    have ht' := ht
    rw [Nat.add_assoc] at ht'
    have HT := Lib.hid ht'
    have HU := Lib.hid (HI.out.2.1.trans hu (fun x hx => .inl hx))
    have HT1 := Lib.hid t1
    have HT2 := Lib.hid t2
    have HT3 := Lib.hid t3
    have HB : Hid (belowF n wd (l.drop i) = CameN.more k (belF n wd wd 0 (l.drop (i + k))) ∧ belowF n wd (l.drop (i + k)) = belF n wd wd 0 (l.drop (i + k))) := by
      have h1 := HI.out.2.2.1
      refine ⟨?_, ?_⟩
      · unfold belowF; rw [if_neg (by omega)]; exact HI.out.2.2.2
      · unfold belowF; rw [if_neg (by omega)]
    clear hpo hF ht ht' hu t1 t2 t3
    cases dd with
    | true =>
      obtain ⟨rfl, q2, q3⟩ := HT1.out rfl
      have HQ : Hid (belowF n wd (l.drop i) = (0, k + t, true)) := by show _ = _; rw [HB.out.1, ← HB.out.2, q2]; rfl
      have hlt : decide (n ≤ 0) = false := by simp; omega
      clear q2 q3
      simp only [if_true]
      go_wp2
      change bodyPost _ _ _ Exit.ret _ _
      go_ret2
      exact NPost.of (x := 0) HQ.out rfl HT.out HU.out
    | false =>
      simp only [Bool.false_eq_true, if_false]
      by_cases hx : x < n
      · have HQ : Hid (belowF n wd (l.drop i) = (x, k + t, false)) := by show _ = _; rw [HB.out.1, ← HB.out.2, HT2.out rfl hx]; rfl
        have hlt : decide (n ≤ x) = false := by simp; omega
        clear hx
        go_wp2
        change bodyPost _ _ _ Exit.ret _ _
        go_ret2
        exact NPost.of HQ.out rfl HT.out HU.out
      · have hlt : decide (n ≤ x) = true := by simp; omega
        obtain ⟨q1, q2, q3⟩ := HT3.out rfl hx
        have ht := HT.out
        rw [Bool.or_false] at ht
        have HT' := Lib.hid ht
        have HJ : Hid (Tp w2 p g l (i + (k + t)) d ∧ Upd [p] w w2 ∧ 1 ≤ wd ∧ belF n wd wd 0 (l.drop i) = CameN.more (k + t) (belF n wd wd 0 (l.drop (i + (k + t))))) := by
          refine ⟨ht, HU.out, q1, ?_⟩
          rw [HI.out.2.2.2, q2, moreN_more, List.drop_drop, Nat.add_assoc]
        have HM : Hid (l.length - posOf w2 p < l.length - posOf w3 p) := by
          show _ < _
          rw [posOf_tp ht, HPOS.out.1]
          have := ht.le.1
          omega
        clear hx q1 q2 q3 ht
        go_wp2
        go_step3
        refine ⟨rfl, ⟨k + t, _, _, _, _, _, _, _, _, _, _, _, _, _, _, _, _, _, rfl, HJ⟩, HM.out⟩
end Go.Proofs.Ytcehkflkekefpaa
