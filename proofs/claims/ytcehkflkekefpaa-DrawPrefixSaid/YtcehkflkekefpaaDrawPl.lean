/- The function value that DrawPrefix asks: a number below n, and so many coins. -/
import Derived.Test.YtcehkflkekefpaaDrawAsk
import Derived.Test.YtcehkflkekefpaaDrawPre
namespace Go.Proofs.Ytcehkflkekefpaa
open Go.RowKit Go.Proofs.Tm
set_option linter.unusedVariables false
set_option maxRecDepth 20000

/-- What coins come to, and how many were read. -/
def BPostN (o : CameN) (w : World) (e : Ending) (w' : World) : Prop :=
  e = .returned (.tuple #[.int .u64 (o.1 : Int), .int .i64 (if o.2.2 then 8 else 0), .int .i64 (o.2.1 : Int)]) ∧ Upd [] w w'

theorem belF_dead (n w : Nat) : ∀ l k x, (belF n w k x l).2.2 = true → (belF n w k x l).1 = 0 := by
  intro l
  induction l with
  | nil => intro k x _; rfl
  | cons c cs ih =>
    intro k x
    rw [belF]
    split
    · split
      · intro h; simp at h
      · exact ih _ _
    · exact ih _ _
theorem belowF_dead (n w : Nat) (l : List Bool) (h : (belowF n w l).2.2 = true) : (belowF n w l).1 = 0 := by
  unfold belowF at h ⊢
  split
  · rfl
  · rw [if_neg (by assumption)] at h; exact belF_dead n w l w 0 h

theorem or_256 (a b : Nat) (ha : a < 1048576) (hb : b < 256) : bits .or .u64 ((256 * a : Nat) : Int) (b : Int) = ((256 * a + b : Nat) : Int) := by
  rw [u64_or_nat _ _ (by omega) (by omega)]
  have := Nat.two_pow_add_eq_or_of_lt (i := 8) (b := b) (by omega) a
  rw [show (2 : Nat) ^ 8 = 256 from rfl] at this
  rw [← this]

set_option maxHeartbeats 1600000 in
theorem play11 (v : Value) (l : List Bool) (bn by' n y : Nat) (w : World) (h : Sl w v (cb l)) (hl : l.length ≤ 1000) (hcn : w.cell? ⟨bn, 0, none⟩ = some (.int .u64 (n : Int))) (hcy : w.cell? ⟨by', 0, none⟩ = some (.int .i64 (y : Int)))
    (hn : 1 ≤ n) (hn2 : n ≤ 1048576) (hy : y ≤ 15) :
    Calls Try.prog 13 #[v, .pointer (some ⟨bn, 0, none⟩), .pointer (some ⟨by', 0, none⟩)] w (BPostN (seqN (fun a b => 256 * a + b) (belowF n (Lib.bitLen (n - 1))) (binF y 0) l) w) := by
  have HN := tnew_any v l w h
  rw [List.take_of_length_le (by omega)] at HN
  have HNEW := Lib.hid HN
  have HC : Hid (∀ W, Upd [] w W → W.cell? ⟨bn, 0, none⟩ = some (.int .u64 (n : Int)) ∧ W.cell? ⟨by', 0, none⟩ = some (.int .i64 (y : Int))) := fun W h =>
    ⟨(h.cell (p := ⟨bn, 0, none⟩) (World.block_lt_of_cell? w _ hcn) (by simp)).trans hcn, (h.cell (p := ⟨by', 0, none⟩) (World.block_lt_of_cell? w _ hcy) (by simp)).trans hcy⟩
  obtain ⟨G, hG⟩ : ∃ G, G = belowF n (Lib.bitLen (n - 1)) := ⟨_, rfl⟩
  have HLT : Hid ((G l).1 < n ∧ ((G l).2.2 = true → (G l).1 = 0)) := by rw [hG]; exact ⟨belowF_lt (by omega) _ _, belowF_dead _ _ _⟩
  have HBI : Hid (∀ j, (binF y 0 (l.drop j)).1 ≤ 15) := fun j => by have := binF_le y 0 (l.drop j); omega
  have HBEL : Hid (∀ W p g, Tp W p g l 0 false → Calls Try.prog 9 #[.pointer (some ⟨p, 0, none⟩), .int .u64 (n : Int)] W (NPost .u64 G false p g l 0 W)) := fun W p g ht => by rw [hG]; exact tbel_any p g l 0 n false W ht hn (by omega)
  have HBIN : Hid (∀ W p g i, Tp W p g l i false → Calls Try.prog 11 #[.pointer (some ⟨p, 0, none⟩), .int .i64 (y : Int)] W (NPost .i64 (binF y 0) false p g l i W)) := fun W p g i ht => by
    have := tbin_any p g l i (y : Int) false W ht (by omega)
    rw [Int.toNat_natCast] at this
    exact this
  rw [← hG]
  clear h HN hcn hcy hG
  go_enter Try.func13, Try.ntmps13
  go_wp2_with fail
  refine HNEW.out.mono ?_
  rintro e w3 ⟨p, g, rfl, ht, hu3, hp, hg⟩
  have HT := Lib.hid ht
  have HU3 := Lib.hid hu3
  have HP := Lib.hid hp
  obtain ⟨k0, k1⟩ := HC.out _ hu3
  clear ht hu3 hp hg
  go_wp2_with fail
  refine (HBEL.out _ p g HT.out).mono ?_
  intro e w4 hpo
  obtain ⟨x, t, d, hF, rfl, ht4, hu4⟩ := hpo.out
  rw [List.drop_zero] at hF
  rw [Nat.zero_add, Bool.false_or] at ht4
  have hx := HLT.out
  rw [hF] at hx
  have hu4' : Upd [] w w4 := HU3.out.trans hu4 (by intro x hx; simp at hx; subst hx; exact .inr HP.out)
  have HU4 := Lib.hid hu4'
  have HT4 := Lib.hid ht4
  have HFF := Lib.hid hF
  obtain ⟨c0, c1⟩ := HC.out _ hu4'
  clear hpo hF ht4 hu4 hu4' k0 k1
  cases d with
  | true =>
    obtain rfl : x = 0 := hx.2 rfl
    have HR := Lib.hid (tread_any p g _ _ _ w4 HT4.out)
    simp only [if_true]
    clear hx
    go_wp2_with fail
    refine HR.out.mono ?_
    rintro e w5 ⟨rfl, rfl⟩
    go_wp2
    go_ret3
    refine ⟨?_, HU4.out⟩
    have e9 : seqN (fun a b => 256 * a + b) G (binF y 0) l = (0, t, true) := by unfold seqN; rw [HFF.out]; rfl
    rw [e9]; rfl
  | false =>
    simp only [Bool.false_eq_true, if_false]
    have hx1 : x < n := hx.1
    clear hx
    go_wp2_with fail
    refine (HBIN.out _ p g t HT4.out).mono ?_
    intro e w5 hpo
    obtain ⟨z, t2, d2, hF2, rfl, ht5, hu5⟩ := hpo.out
    rw [Bool.false_or] at ht5
    have hz := HBI.out t
    rw [hF2] at hz
    simp only at hz
    have hu5' : Upd [] w w5 := HU4.out.trans hu5 (by intro x hx; simp at hx; subst hx; exact .inr HP.out)
    have HU5 := Lib.hid hu5'
    have HR := Lib.hid (tread_any p g _ _ _ w5 ht5)
    have HF2 := Lib.hid hF2
    obtain ⟨f, hf⟩ : ∃ f : Int, f = (if d2 then 8 else 0) := ⟨_, rfl⟩
    rw [← hf]
    have HEQ := Lib.hid hf
    have s1 : IntKind.u64.wrap ((x : Int) * 256) = ((256 * x : Nat) : Int) := by rw [IntKind.wrap_u64]; omega
    have s2 : IntKind.u64.wrap (z : Int) = (z : Int) := by rw [IntKind.wrap_u64]; omega
    obtain ⟨V, hV⟩ : ∃ V, V = 256 * x + z := ⟨_, rfl⟩
    have s3 : bits .or .u64 (256 * (x : Int)) (z : Int) = (V : Int) := by
      have := or_256 x z (by omega) (by omega)
      rw [← hV] at this
      rw [← this]; simp
    have HV := Lib.hid hV
    clear hV
    clear hpo hF2 ht5 hu5 hu5' hf c0 c1
    go_wp2_with fail
    refine HR.out.mono ?_
    rintro e w6 ⟨rfl, rfl⟩
    go_wp2
    go_ret3
    refine ⟨?_, HU5.out⟩
    have e9 : seqN (fun a b => 256 * a + b) G (binF y 0) l = (V, t + t2, d2) := by
      unfold seqN; rw [HFF.out]; simp only [Bool.false_eq_true, if_false]; rw [HF2.out, HV.out]
    rw [e9]
    show _ = Ending.returned (.tuple #[.int .u64 (V : Int), .int .i64 (if d2 = true then 8 else 0), .int .i64 ((t + t2 : Nat) : Int)])
    rw [← HEQ.out]; rfl
end Go.Proofs.Ytcehkflkekefpaa
