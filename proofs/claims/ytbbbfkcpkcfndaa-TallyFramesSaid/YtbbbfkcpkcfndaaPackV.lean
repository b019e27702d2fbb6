/- The Vector of packed numbers: what it holds in memory ('Vec'), and the contracts of has, greatest, place, pair, Len, Width, Get. -/
import Derived.Test.YtbbbfkcpkcfndaaRefSame
import Derived.Test.YtbbbfkcpkcfndaaPackMath
import Derived.Test.YtbbbfkcpkcfndaaBase3
import Derived.Laws.BitsAllLaws
import Derived.BigRegion
import Derived.Deep.RegionHeld3
namespace Go.Proofs.Ytbbbfkcpkcfndaa
open Go.RowKit Go.Proofs.Tm
set_option linter.unusedVariables false
set_option maxRecDepth 20000

/-- Words as cells. -/
def cu32 (ws : List Nat) : List Value := ws.map fun (b : Nat) => Value.int .u32 (b : Int)
@[simp] theorem cu32_length (ws : List Nat) : (cu32 ws).length = ws.length := by simp [cu32]
theorem cu32_one (ws : List Nat) : ∀ u ∈ cu32 ws, u.oneCell' = true := by intro u hu; obtain ⟨b, _, rfl⟩ := List.mem_map.1 hu; rfl
theorem cu32_getElem? (ws : List Nat) (i : Nat) : (cu32 ws)[i]? = ws[i]?.map fun (b : Nat) => Value.int .u32 (b : Int) := by simp [cu32]
theorem cu32_set (ws : List Nat) (i b : Nat) : cu32 (ws.set i b) = (cu32 ws).set i (.int .u32 (b : Int)) := by simp [cu32, List.map_set]
theorem infoU32 : (Try.prog.info? 85).map (fun i => (i.zero, i.size, i.bytes)) = some (some (.int .u32 0), 1, 4) := by kernel_rfl

/-- How many words. -/
def wn (n wd : Nat) : Nat := n * wd / 32 + 2

/-- At block p stands a Vector of the numbers l, each of wd bits; its words lie in block g. -/
def Vec (w : World) (p g wd : Nat) (l : List Nat) : Prop :=
  ∃ cap, w.heap[p]? = some (.cells #[.int .i64 (l.length : Int), .int .i64 (wd : Int), .slice (some ⟨g, 0, none⟩) (wn l.length wd) cap] 108 (0, 0)) ∧
    w.ownsRow 0 85 1 (.slice (some ⟨g, 0, none⟩) (wn l.length wd) cap) (wn l.length wd) (cu32 (wordsOf (allBits wd l) (wn l.length wd))) ∧ l.length ≤ 256 ∧ 1 ≤ wd ∧ wd ≤ 32 ∧ ∀ x ∈ l, x < 2 ^ wd

theorem Vec.upd {w w' : World} {S : List Nat} {p g wd : Nat} {l : List Nat} (h : Vec w p g wd l) (u : Upd S w w') (hp : p ∉ S) (hg : g ∉ S) : Vec w' p g wd l := by
  obtain ⟨cap, h1, h2, h3⟩ := h
  exact ⟨cap, by rw [u.block p (lt_of_block h1) hp]; exact h1, ownsRow_upd h2 u (by intro k hk; simp [Value.ownBlock] at hk; subst hk; exact hg), h3⟩
theorem Vec.upd0 {w w' : World} {p g wd : Nat} {l : List Nat} (h : Vec w p g wd l) (u : Upd [] w w') : Vec w' p g wd l := h.upd u (by simp) (by simp)
theorem Vec.lt {w : World} {p g wd : Nat} {l : List Nat} (h : Vec w p g wd l) : p < w.heap.size := by
  obtain ⟨cap, h1, _⟩ := h; exact lt_of_block h1
theorem Vec.glt {w : World} {p g wd : Nat} {l : List Nat} (h : Vec w p g wd l) : g < w.heap.size := by
  obtain ⟨cap, h1, h2, _⟩ := h; exact (h2.lt g rfl).2

theorem wn_le (n wd : Nat) (h1 : n ≤ 256) (h2 : wd ≤ 32) : wn n wd ≤ 258 := by
  unfold wn
  have : n * wd ≤ 256 * 32 := Nat.mul_le_mul h1 h2
  omega

theorem place_lt (i n wd : Nat) (h : i < n) : i * wd / 32 + 1 < wn n wd := by
  unfold wn
  have : i * wd ≤ n * wd := Nat.mul_le_mul_right _ (Nat.le_of_lt h)
  have := Nat.div_le_div_right (c := 32) this
  omega

section
variable (p g wd : Nat) (l : List Nat) (w : World)

theorem vlen_any (h : Vec w p g wd l) : Calls Try.prog 61 #[.pointer (some ⟨p, 0, none⟩)] w fun e w' => e = .returned (.int .i64 (l.length : Int)) ∧ w = w' := by
  obtain ⟨cap, h1, h2, h3, h4, h5, _⟩ := h
  have c0 : w.cell? ⟨p, 0, none⟩ = some (.int .i64 (l.length : Int)) := by rw [cell_of_row w p 0 _ _ _ h1]; rfl
  clear h1 h2
  go_enter Try.func61, Try.ntmps61
  go_wp2
  go_ret
  exact ⟨rfl, rfl⟩

theorem vwidth_any (h : Vec w p g wd l) : Calls Try.prog 54 #[.pointer (some ⟨p, 0, none⟩)] w fun e w' => e = .returned (.int .i64 (wd : Int)) ∧ w = w' := by
  obtain ⟨cap, h1, h2, h3, h4, h5, _⟩ := h
  have c1 : w.cell? ⟨p, 1, none⟩ = some (.int .i64 (wd : Int)) := by rw [cell_of_row w p 1 _ _ _ h1]; rfl
  clear h1 h2
  go_enter Try.func54, Try.ntmps54
  go_wp2
  go_ret
  exact ⟨rfl, rfl⟩

theorem vhas_yes (i : Nat) (h : Vec w p g wd l) (hi : i < l.length) : Calls Try.prog 84 #[.pointer (some ⟨p, 0, none⟩), .int .i64 (i : Int)] w fun e w' => e = .returned (.bool true) ∧ w = w' := by
  obtain ⟨cap, h1, h2, h3, h4, h5, _⟩ := h
  have c0 : w.cell? ⟨p, 0, none⟩ = some (.int .i64 (l.length : Int)) := by rw [cell_of_row w p 0 _ _ _ h1]; rfl
  have i0 : decide ((0 : Int) ≤ (i : Int)) = true := by simp
  have i1 : decide (i < l.length) = true := by simpa using hi
  clear h1 h2
  go_enter Try.func84, Try.ntmps84
  go_wp2
  go_ret
  exact ⟨rfl, rfl⟩

theorem vhas_no (i : Int) (h : Vec w p g wd l) (hi : i < 0 ∨ (l.length : Int) ≤ i) : Calls Try.prog 84 #[.pointer (some ⟨p, 0, none⟩), .int .i64 i] w fun e w' => e = .returned (.bool false) ∧ w = w' := by
  obtain ⟨cap, h1, h2, h3, h4, h5, _⟩ := h
  have c0 : w.cell? ⟨p, 0, none⟩ = some (.int .i64 (l.length : Int)) := by rw [cell_of_row w p 0 _ _ _ h1]; rfl
  clear h1 h2
  by_cases hi0 : 0 ≤ i
  · have i0 : decide ((0 : Int) ≤ i) = true := by simpa using hi0
    have i1 : decide (i < (l.length : Int)) = false := by simp; omega
    go_enter Try.func84, Try.ntmps84
    go_wp2
    go_ret
    exact ⟨rfl, rfl⟩
  · have i0 : decide ((0 : Int) ≤ i) = false := by simpa using hi0
    go_enter Try.func84, Try.ntmps84
    go_wp2
    go_ret
    exact ⟨rfl, rfl⟩

theorem vgreatest_any (h : Vec w p g wd l) : Calls Try.prog 85 #[.pointer (some ⟨p, 0, none⟩)] w fun e w' => e = .returned (.int .u64 ((2 ^ wd - 1 : Nat) : Int)) ∧ w = w' := by
  obtain ⟨cap, h1, h2, h3, h4, h5, _⟩ := h
  have c1 : w.cell? ⟨p, 1, none⟩ = some (.int .i64 (wd : Int)) := by rw [cell_of_row w p 1 _ _ _ h1]; rfl
  clear h1 h2
  have hp := Nat.two_pow_pos wd
  have hp2 : 2 ^ wd ≤ 4294967296 := Nat.pow_le_pow_right (n := 2) (j := 32) (by decide) h5
  go_enter Try.func85, Try.ntmps85
  have hF : IntKind.u64.wrap (IntKind.u64.wrap (2 ^ wd) - 1) = ((2 ^ wd - 1 : Nat) : Int) := by
    have e : (2 : Int) ^ wd = ((2 ^ wd : Nat) : Int) := by simp
    rw [e]
    generalize 2 ^ wd = x at *
    rw [IntKind.wrap_u64, IntKind.wrap_u64]
    omega
  have HF := Lib.hid hF
  clear hF hp hp2
  go_wp2
  go_ret
  exact ⟨ret_int HF.out, rfl⟩

/-- Where the number i stands. -/
def behind (wd i : Nat) : Nat := 64 - i * wd % 32 - wd

theorem vplace_any (i : Nat) (h : Vec w p g wd l) (hi : i < l.length) : Calls Try.prog 86 #[.pointer (some ⟨p, 0, none⟩), .int .i64 (i : Int)] w fun e w' =>
    e = .returned (.tuple #[.int .i64 ((i * wd / 32 : Nat) : Int), .int .i64 ((behind wd i : Nat) : Int)]) ∧ ∃ n, w' = w.drewN n := by
  obtain ⟨cap, h1, h2, h3, h4, h5, _⟩ := h
  have c1 : w.cell? ⟨p, 1, none⟩ = some (.int .i64 (wd : Int)) := by rw [cell_of_row w p 1 _ _ _ h1]; rfl
  obtain ⟨f, hf⟩ : ∃ f, f = i * wd := ⟨_, rfl⟩
  have hf2 : f ≤ 256 * 32 := by rw [hf]; exact Nat.mul_le_mul (by omega) h5
  have hm : IntKind.i64.wrap ((i : Int) * (wd : Int)) = (f : Int) := by rw [hf, Int.natCast_mul]; refine IntWalk.i64_in _ ?_; rw [← Int.natCast_mul, ← hf]; omega
  have hm2 : (i : Int) * (wd : Int) = (f : Int) := by rw [hf, Int.natCast_mul]
  have hb : Hid ((behind wd i : Nat) = 64 - f % 32 - wd) := by show _ = _; rw [hf]; rfl
  rw [← hf]
  obtain ⟨k, hk⟩ : ∃ k, k = behind wd i := ⟨_, rfl⟩
  rw [← hk] at hb ⊢
  have HK : Hid (((64 - f % 32 - wd : Nat) : Int) = (k : Int)) := by show _ = _; rw [hb.out]
  have w1 : IntKind.i64.wrap ((f : Int) / 32) = (f : Int) / 32 := IntWalk.i64_in _ (by omega)
  have w2 : IntKind.i64.wrap ((f : Int) % 32) = (f : Int) % 32 := IntWalk.i64_in _ (by omega)
  have w3 : IntKind.i64.wrap (64 - (f : Int) % 32) = 64 - (f : Int) % 32 := IntWalk.i64_in _ (by omega)
  have w4 : IntKind.i64.wrap (64 - (f : Int) % 32 - (wd : Int)) = (k : Int) := by have := hb.out; rw [IntWalk.i64_in _ (by omega)]; omega
  have w5 : (f : Int).tmod 32 = (f : Int) % 32 := Int.tmod_eq_emod_of_nonneg (by omega)
  have w6 : (f : Int).tdiv 32 = (f : Int) / 32 := Int.tdiv_eq_ediv_of_nonneg (by omega)
  have w7 : (64 - (f : Int) % 32 - (wd : Int)) = (k : Int) := by have := hb.out; omega
  clear h1 h2 hf hk hb
  go_enter Try.func86, Try.ntmps86
  go_wp2
  go_quiet (fail)
  go_wp2
  go_ret2
  exact ⟨rfl, _, rfl⟩

theorem pair_or (L : List Bool) (j : Nat) : bits .or .u64 (((Tm.part L (32 * j) 32 : Nat) : Int) * 4294967296) ((Tm.part L (32 * (j + 1)) 32 : Nat) : Int) = ((Tm.part L (32 * j) 64 : Nat) : Int) := by
  have h1 := Tm.part_lt L (32 * j) 32
  have h2 := Tm.part_lt L (32 * (j + 1)) 32
  have e : (((Tm.part L (32 * j) 32 : Nat) : Int) * 4294967296) = ((Tm.part L (32 * j) 32 * 4294967296 : Nat) : Int) := by omega
  rw [e, u64_or_nat _ _ (by omega) (by omega), words_or]

theorem vpair_any (j : Nat) (h : Vec w p g wd l) (hj : j + 1 < wn l.length wd) : Calls Try.prog 87 #[.pointer (some ⟨p, 0, none⟩), .int .i64 (j : Int)] w fun e w' =>
    e = .returned (.int .u64 ((Tm.part (allBits wd l) (32 * j) 64 : Nat) : Int)) ∧ ∃ n, w' = w.drewN n := by
  obtain ⟨cap, h1, h2, h3, h4, h5, _⟩ := h
  have c2 : w.cell? ⟨p, 2, none⟩ = some (.slice (some ⟨g, 0, none⟩) (wn l.length wd) cap) := by rw [cell_of_row w p 2 _ _ _ h1]; rfl
  have d0 := h2.cellAt j (by omega)
  have d1 := h2.cellAt (j + 1) (by omega)
  rw [cu32_getElem?, wordsOf_getElem? _ _ _ (by omega)] at d0
  rw [cu32_getElem?, wordsOf_getElem? _ _ _ hj] at d1
  simp only [Option.map_some] at d0 d1
  have hor := pair_or (allBits wd l) j
  have l0 := Tm.part_lt (allBits wd l) (32 * j) 32
  have l1 := Tm.part_lt (allBits wd l) (32 * (j + 1)) 32
  have hw := wn_le l.length wd h3 h5
  clear h1 h2
  generalize Tm.part (allBits wd l) (32 * j) 64 = P at *
  generalize Tm.part (allBits wd l) (32 * j) 32 = P0 at *
  generalize Tm.part (allBits wd l) (32 * (j + 1)) 32 = P1 at *
  generalize wn l.length wd = m at *
  have i0 : (0 : Int) ≤ (j : Int) := by omega
  have i1 : (j : Int) < (m : Int) := by omega
  have i2 : (0 : Int) ≤ (j : Int) + 1 := by omega
  have i3 : (j : Int) + 1 < (m : Int) := by omega
  have i4 : ((j : Int) + 1).toNat = j + 1 := by omega
  have w1 : IntKind.i64.wrap ((j : Int) + 1) = (j : Int) + 1 := IntWalk.i64_in _ (by omega)
  have w2 : IntKind.u64.wrap (P0 : Int) = (P0 : Int) := by rw [IntKind.wrap_u64]; omega
  have w3 : IntKind.u64.wrap (P1 : Int) = (P1 : Int) := by rw [IntKind.wrap_u64]; omega
  go_enter Try.func87, Try.ntmps87
  go_wp2
  go_quiet (fail)
  go_wp2
  go_ret
  exact ⟨rfl, _, rfl⟩

theorem get_val (i : Nat) (hw : 1 ≤ wd) (hw2 : wd ≤ 32) (hi : i < l.length) (hl : ∀ x ∈ l, x < 2 ^ wd) :
    bits .and .u64 (((Tm.part (allBits wd l) (32 * (i * wd / 32)) 64 : Nat) : Int) / 2 ^ (behind wd i)) ((2 ^ wd - 1 : Nat) : Int) = ((l[i] : Nat) : Int) := by
  have hP := Tm.part_lt (allBits wd l) (32 * (i * wd / 32)) 64
  have hp2 : 2 ^ wd ≤ 4294967296 := Nat.pow_le_pow_right (n := 2) (j := 32) (by decide) hw2
  have e1 : (((Tm.part (allBits wd l) (32 * (i * wd / 32)) 64 : Nat) : Int) / 2 ^ (behind wd i)) = ((Tm.part (allBits wd l) (32 * (i * wd / 32)) 64 / 2 ^ (behind wd i) : Nat) : Int) := by simp
  rw [e1, u64_and_nat _ _ (Nat.lt_of_le_of_lt (Nat.div_le_self _ _) hP) (by omega), Nat.and_two_pow_sub_one_eq_mod]
  have h1 := part_mid (allBits wd l) (32 * (i * wd / 32)) (i * wd % 32) wd (by have := Nat.mod_lt (i * wd) (show 0 < 32 by decide); omega)
  unfold behind
  rw [h1, show 32 * (i * wd / 32) + i * wd % 32 = i * wd by omega]
  have hg : l.getD i 0 = l[i] := by simp [hi]
  rw [part_num wd l i hw (by rw [hg]; exact hl _ (List.getElem_mem hi)), hg]

theorem vget_ok (i : Nat) (h : Vec w p g wd l) (hi : i < l.length) : Calls Try.prog 82 #[.pointer (some ⟨p, 0, none⟩), .int .i64 (i : Int)] w fun e w' =>
    e = .returned (.tuple #[.int .u64 ((l[i] : Nat) : Int), .int .i64 0]) ∧ ∃ n, w' = w.drewN n := by
  have HV := Lib.hid h
  obtain ⟨cap, h1, h2, h3, h4, h5, h6⟩ := h
  have hval := get_val wd l i h4 h5 hi h6
  have HPL := Lib.hid (place_lt i l.length wd hi)
  have HPA := Lib.hid (fun W (hv : Vec W p g wd l) => vpair_any p g wd l W (i * wd / 32) hv HPL.out)
  have hk : behind wd i ≤ 64 := by unfold behind; omega
  have HPC := Lib.hid (vplace_any p g wd l w i HV.out hi)
  generalize l[i] = x at *
  generalize Tm.part (allBits wd l) (32 * (i * wd / 32)) 64 = P at *
  generalize i * wd / 32 = j at *
  generalize behind wd i = k at *
  generalize hm : 2 ^ wd - 1 = m at *
  have HG := Lib.hid (fun W (hv : Vec W p g wd l) => vgreatest_any p g wd l W hv)
  rw [hm] at HG
  clear hm h1 h2 h6
  go_enter Try.func82, Try.ntmps82
  go_wp2_with fail
  refine (vhas_yes p g wd l w i HV.out hi).mono ?_
  rintro e w' ⟨rfl, rfl⟩
  go_wp2_with fail
  refine HPC.out.mono ?_
  rintro e w1 ⟨rfl, hn⟩
  have HV1 : Hid (Vec w1 p g wd l) := by obtain ⟨n, rfl⟩ := hn; exact HV.out.upd0 ((Upd.refl _ _).drewN _)
  have HN := Lib.hid hn
  clear hn
  go_wp2
  go_quiet (first
    | (go_at_call 87; exact Calls.quiet_of (HPA.out _ (HV1.out.upd0 ((Upd.refl _ _).drewN _))))
    | (go_at_call 85; exact Calls.quiet_of_same ((HG.out _ (HV1.out.upd0 ((Upd.refl _ _).drewN _))).mono fun _ _ q => ⟨q.1, q.2.symm⟩)))
  go_wp2
  go_ret2
  obtain ⟨n, hn⟩ := HN.out
  exact ⟨rfl, n + nq, by rw [hn, World.drewN_drewN]⟩

theorem vget_bad (i : Int) (h : Vec w p g wd l) (hi : i < 0 ∨ (l.length : Int) ≤ i) : Calls Try.prog 82 #[.pointer (some ⟨p, 0, none⟩), .int .i64 i] w fun e w' =>
    e = .returned (.tuple #[.int .u64 0, .int .i64 1]) ∧ w = w' := by
  have H := Lib.hid (vhas_no p g wd l w i h hi)
  clear h hi
  go_enter Try.func82, Try.ntmps82
  go_wp2_with fail
  refine H.out.mono ?_
  rintro e w' ⟨rfl, rfl⟩
  go_wp2
  go_ret2
  exact ⟨rfl, rfl⟩

theorem vset_bad (i : Int) (x : Int) (h : Vec w p g wd l) (hi : i < 0 ∨ (l.length : Int) ≤ i) : Calls Try.prog 56 #[.pointer (some ⟨p, 0, none⟩), .int .i64 i, .int .u64 x] w fun e w' =>
    e = .returned (.int .i64 1) ∧ w = w' := by
  have H := Lib.hid (vhas_no p g wd l w i h hi)
  clear h hi
  go_enter Try.func56, Try.ntmps56
  go_wp2_with fail
  refine H.out.mono ?_
  rintro e w' ⟨rfl, rfl⟩
  go_wp2
  go_ret
  exact ⟨rfl, rfl⟩

theorem vset_over (i : Nat) (x : Nat) (h : Vec w p g wd l) (hi : i < l.length) (hx : 2 ^ wd ≤ x) : Calls Try.prog 56 #[.pointer (some ⟨p, 0, none⟩), .int .i64 (i : Int), .int .u64 (x : Int)] w fun e w' =>
    e = .returned (.int .i64 2) ∧ w = w' := by
  have H := Lib.hid (vhas_yes p g wd l w i h hi)
  have HG := Lib.hid (vgreatest_any p g wd l w h)
  have hp := Nat.two_pow_pos wd
  have hlt : decide (2 ^ wd - 1 < x) = true := by simp; omega
  generalize 2 ^ wd - 1 = m at *
  clear h hi hp hx
  go_enter Try.func56, Try.ntmps56
  go_wp2_with fail
  refine H.out.mono ?_
  rintro e w' ⟨rfl, rfl⟩
  go_wp2_with fail
  refine HG.out.mono ?_
  rintro e w' ⟨rfl, rfl⟩
  go_wp2
  go_ret
  exact ⟨rfl, rfl⟩

/-- The two words, as they are to be. -/
theorem set_val (i x : Nat) (hw : 1 ≤ wd) (hw2 : wd ≤ 32) (hi : i < l.length) (hx : x < 2 ^ wd) :
    ∃ M X : Nat, IntKind.u64.wrap (((2 ^ wd - 1 : Nat) : Int) * 2 ^ (behind wd i)) = (M : Int) ∧ IntKind.u64.wrap ((x : Int) * 2 ^ (behind wd i)) = (X : Int) ∧
      bits .or .u64 (bits .andNot .u64 ((Tm.part (allBits wd l) (32 * (i * wd / 32)) 64 : Nat) : Int) (M : Int)) (X : Int) = ((Tm.part (allBits wd (l.set i x)) (32 * (i * wd / 32)) 64 : Nat) : Int) := by
  have hP := Tm.part_lt (allBits wd l) (32 * (i * wd / 32)) 64
  have hb : behind wd i + wd ≤ 64 := by unfold behind; have := Nat.mod_lt (i * wd) (show 0 < 32 by decide); omega
  have hm : (2 ^ wd - 1) * 2 ^ (behind wd i) < 18446744073709551616 := by
    have h1 : (2 ^ wd - 1) * 2 ^ (behind wd i) < 2 ^ wd * 2 ^ (behind wd i) := Nat.mul_lt_mul_of_pos_right (by have := Nat.two_pow_pos wd; omega) (Nat.two_pow_pos _)
    rw [← Nat.pow_add] at h1
    exact Nat.lt_of_lt_of_le h1 (Nat.le_trans (Nat.pow_le_pow_right (by decide) (show wd + behind wd i ≤ 64 by omega)) (by decide))
  have hX : x * 2 ^ (behind wd i) < 18446744073709551616 := by
    have h1 : x * 2 ^ (behind wd i) < 2 ^ wd * 2 ^ (behind wd i) := Nat.mul_lt_mul_of_pos_right hx (Nat.two_pow_pos _)
    rw [← Nat.pow_add] at h1
    exact Nat.lt_of_lt_of_le h1 (Nat.le_trans (Nat.pow_le_pow_right (by decide) (show wd + behind wd i ≤ 64 by omega)) (by decide))
  have e1 : (((2 ^ wd - 1 : Nat) : Int) * 2 ^ (behind wd i)) = (((2 ^ wd - 1) * 2 ^ (behind wd i) : Nat) : Int) := by simp
  have e2 : ((x : Int) * 2 ^ (behind wd i)) = ((x * 2 ^ (behind wd i) : Nat) : Int) := by simp
  refine ⟨(2 ^ wd - 1) * 2 ^ (behind wd i), x * 2 ^ (behind wd i), by rw [e1, IntKind.wrap_u64]; omega, by rw [e2, IntKind.wrap_u64]; omega, ?_⟩
  rw [u64_andNot_nat _ _ hP hm, u64_or_nat _ _ (Nat.lt_of_le_of_lt Nat.and_le_left hP) hX]
  congr 1
  apply Nat.eq_of_testBit_eq
  intro j
  rw [← pair_set wd l i x hw hw2 hi hx j, Nat.testBit_or, Nat.testBit_and]
  rw [show 64 - i * wd % 32 - wd = behind wd i from rfl]
  have h2 := Nat.testBit_two_pow_sub_succ (n := 64) hm j
  rw [show 2 ^ 64 - ((2 ^ wd - 1) * 2 ^ behind wd i + 1) = 18446744073709551615 - (2 ^ wd - 1) * 2 ^ behind wd i by omega] at h2
  rw [h2]
  rcases Nat.lt_or_ge j 64 with h | h
  · simp [h]
  · rw [part_bit_ge _ _ _ _ h]; simp

set_option maxHeartbeats 800000 in
theorem vset_ok (i : Nat) (x : Nat) (h : Vec w p g wd l) (hi : i < l.length) (hx : x < 2 ^ wd) : Calls Try.prog 56 #[.pointer (some ⟨p, 0, none⟩), .int .i64 (i : Int), .int .u64 (x : Int)] w fun e w' =>
    e = .returned (.int .i64 0) ∧ Vec w' p g wd (l.set i x) ∧ Upd [g] w w' := by
  have HV := Lib.hid h
  obtain ⟨cap, h1, h2, h3, h4, h5, h6⟩ := h
  obtain ⟨M, X, hM, hX, hval⟩ := set_val wd l i x h4 h5 hi hx
  have hpl := place_lt i l.length wd hi
  have HPL := Lib.hid hpl
  have HPA := Lib.hid (fun W (hv : Vec W p g wd l) => vpair_any p g wd l W (i * wd / 32) hv HPL.out)
  have hk : behind wd i ≤ 64 := by unfold behind; omega
  have HPC := Lib.hid (vplace_any p g wd l w i HV.out hi)
  have HWS := Lib.hid (words_set wd l i x (wn l.length wd) h4 h5 hi hpl)
  have HWP := Lib.hid (words_pair (allBits wd (l.set i x)) (i * wd / 32))
  have l0 := Tm.part_lt (allBits wd (l.set i x)) (32 * (i * wd / 32)) 32
  have l1 := Tm.part_lt (allBits wd (l.set i x)) (32 * (i * wd / 32 + 1)) 32
  have HXL : Hid (∀ y ∈ l.set i x, y < 2 ^ wd) := by
    intro y hy
    rcases List.mem_or_eq_of_mem_set hy with hy | rfl
    · exact h6 y hy
    · exact hx
  have HO := Lib.hid h2
  have H1 := Lib.hid h1
  have hgp : g ≠ p := by
    rintro rfl
    rcases h2.2 with ⟨h, _⟩ | ⟨g', c', cur, he, _, hg, _⟩
    · cases h
    · simp only [Value.slice.injEq, Option.some.injEq, Addr.mk.injEq, and_true, true_and] at he
      obtain ⟨rfl, _⟩ := he
      rw [h1] at hg; simp at hg
  have c2 : w.cell? ⟨p, 2, none⟩ = some (.slice (some ⟨g, 0, none⟩) (wn l.length wd) cap) := by rw [cell_of_row w p 2 _ _ _ h1]; rfl
  have d0 := h2.cellAt (i * wd / 32) (by omega)
  have d1 := h2.cellAt (i * wd / 32 + 1) (by omega)
  have f0 := h2.frozenAt (i * wd / 32)
  have f1 := h2.frozenAt (i * wd / 32 + 1)
  rw [cu32_getElem?, wordsOf_getElem? _ _ _ (by omega)] at d0
  rw [cu32_getElem?, wordsOf_getElem? _ _ _ (by omega)] at d1
  simp only [Option.map_some] at d0 d1
  have hw := wn_le l.length wd h3 h5
  generalize Tm.part (allBits wd (l.set i x)) (32 * (i * wd / 32)) 64 = P' at *
  generalize Tm.part (allBits wd (l.set i x)) (32 * (i * wd / 32)) 32 = P0' at *
  generalize Tm.part (allBits wd (l.set i x)) (32 * (i * wd / 32 + 1)) 32 = P1' at *
  generalize Tm.part (allBits wd l) (32 * (i * wd / 32)) 64 = P at *
  generalize Tm.part (allBits wd l) (32 * (i * wd / 32)) 32 = P0 at *
  generalize Tm.part (allBits wd l) (32 * (i * wd / 32 + 1)) 32 = P1 at *
  generalize i * wd / 32 = j at *
  generalize behind wd i = k at *
  generalize hm : 2 ^ wd - 1 = m at *
  have HG := Lib.hid (fun W (hv : Vec W p g wd l) => vgreatest_any p g wd l W hv)
  rw [hm] at HG
  have hlt : decide (m < x) = false := by simp; omega
  have w32 : IntKind.u32.wrap ((P' : Int) / 4294967296) = (P0' : Int) := by have := HWP.out; rw [IntKind.wrap_u32]; omega
  have w33 : IntKind.u32.wrap (P' : Int) = (P1' : Int) := by have := HWP.out; rw [IntKind.wrap_u32]; omega
  have i0 : (0 : Int) ≤ (j : Int) := by omega
  generalize hmw : wn l.length wd = mw at *
  have HMW := Lib.hid hmw
  have i1 : (j : Int) < (mw : Int) := by omega
  have i2 : (0 : Int) ≤ (j : Int) + 1 := by omega
  have i3 : (j : Int) + 1 < (mw : Int) := by omega
  have i4 : ((j : Int) + 1).toNat = j + 1 := by omega
  have w1' : IntKind.i64.wrap ((j : Int) + 1) = (j : Int) + 1 := IntWalk.i64_in _ (by omega)
  clear hm h1 h2 h6 hx hmw hpl
  go_enter Try.func56, Try.ntmps56
  go_wp2_with fail
  refine (vhas_yes p g wd l w i HV.out hi).mono ?_
  rintro e w' ⟨rfl, rfl⟩
  go_wp2_with fail
  refine (HG.out w HV.out).mono ?_
  rintro e w' ⟨rfl, rfl⟩
  go_wp2_with fail
  refine HPC.out.mono ?_
  rintro e w1 ⟨rfl, hn⟩
  have HV1 : Hid (Vec w1 p g wd l) := by obtain ⟨n, rfl⟩ := hn; exact HV.out.upd0 ((Upd.refl _ _).drewN _)
  have HN := Lib.hid hn
  clear hn
  go_wp2
  go_quiet (first
    | (go_at_call 87; exact Calls.quiet_of (HPA.out _ (HV1.out.upd0 ((Upd.refl _ _).drewN _))))
    | (go_at_call 85; exact Calls.quiet_of_same ((HG.out _ (HV1.out.upd0 ((Upd.refl _ _).drewN _))).mono fun _ _ q => ⟨q.1, q.2.symm⟩)))
  go_wp2
  obtain ⟨n, hn⟩ := HN.out
  subst hn
  rw [World.drewN_drewN]
  generalize n + nq = n2
  clear HN HV1 hM hX hval
  obtain ⟨w2, hw2⟩ : ∃ w2, w2 = w.drewN n2 := ⟨_, rfl⟩
  have c2' : w2.cell? ⟨p, 2, none⟩ = some (.slice (some ⟨g, 0, none⟩) mw cap) := by rw [hw2]; exact c2
  have d0' : w2.cell? ⟨g, j, none⟩ = some (.int .u32 (P0 : Int)) := by rw [hw2]; exact d0
  have d1' : w2.cell? ⟨g, j + 1, none⟩ = some (.int .u32 (P1 : Int)) := by rw [hw2]; exact d1
  have f0' : w2.frozen? ⟨g, j, none⟩ = false := by rw [hw2]; exact f0
  have f1' : w2.frozen? ⟨g, j + 1, none⟩ = false := by rw [hw2]; exact f1
  rw [← hw2]
  have HW2 := Lib.hid hw2
  have hpg : p ≠ g := Ne.symm hgp
  clear hw2 c2 d0 d1 f0 f1
  go_region
  go_wp2
  go_ret
  have hU : Upd [] w w2 := by rw [HW2.out]; exact (Upd.refl _ _).drewN _
  have hO2 := ownsRow_upd HO.out hU (by simp)
  have hO3 := (hO2.stored j (.int .u32 (P0' : Int))).1
  have hO4 := (hO3.stored (j + 1) (.int .u32 (P1' : Int))).1
  rw [← cu32_set, ← cu32_set, ← HWS.out] at hO4
  refine ⟨rfl, ⟨cap, ?_, ?_, by simpa using h3, h4, h5, HXL.out⟩, ((hU.mono (by simp)).setCell (.inl (by simp)) _ |>.setCell (.inl (by simp)) _).drew⟩
  · rw [List.length_set, HMW.out]
    have e1 := Below.heap_setCell (w2.setCell ⟨g, j, none⟩ (.int .u32 (P0' : Int))) ⟨g, j + 1, none⟩ (.int .u32 (P1' : Int)) p hpg
    have e2 := Below.heap_setCell w2 ⟨g, j, none⟩ (.int .u32 (P0' : Int)) p hpg
    refine (e1.trans (e2.trans ?_))
    rw [HW2.out]
    exact H1.out
  · rw [List.length_set, HMW.out]
    exact hO4
end
end Go.Proofs.Ytbbbfkcpkcfndaa
