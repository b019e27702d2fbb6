/- The document's own answers of layer 3 (Fits, Set), and the statements' own 'is': their contracts. -/
import Derived.Test.YtbbbfkcpkcfndaaLawPack0
namespace Go.Proofs.Ytbbbfkcpkcfndaa
open Go.RowKit Go.Proofs.Tm
set_option linter.unusedVariables false
set_option maxRecDepth 20000

/-- Numbers of 64 bits as cells. -/
def cu64 (ws : List Nat) : List Value := ws.map fun (b : Nat) => Value.int .u64 (b : Int)
@[simp] theorem cu64_length (ws : List Nat) : (cu64 ws).length = ws.length := by simp [cu64]
theorem cu64_one (ws : List Nat) : ∀ u ∈ cu64 ws, u.oneCell' = true := by intro u hu; obtain ⟨b, _, rfl⟩ := List.mem_map.1 hu; rfl
theorem cu64_getElem? (ws : List Nat) (i : Nat) : (cu64 ws)[i]? = ws[i]?.map fun (b : Nat) => Value.int .u64 (b : Int) := by simp [cu64]
theorem cu64_set (ws : List Nat) (i b : Nat) : cu64 (ws.set i b) = (cu64 ws).set i (.int .u64 (b : Int)) := by simp [cu64, List.map_set]
theorem infoU64 : (Try.prog.info? 28).map (fun i => (i.zero, i.size, i.bytes)) = some (some (.int .u64 0), 1, 8) := by kernel_rfl

theorem rfits_any (n wd : Nat) (w : World) (hw : wd ≤ 64) (hn : n < 18446744073709551616) :
    Calls Try.prog 88 #[.int .u64 (n : Int), .int .i64 (wd : Int)] w fun e w' => e = .returned (.bool (decide (n < 2 ^ wd))) ∧ w = w' := by
  go_enter Try.func88, Try.ntmps88
  go_wp2
  go_loop [0, 5] (fun s0 s5 => ∃ k : Nat, k ≤ wd ∧ s5 = .int .i64 k ∧ s0 = .int .u64 ((n / 2 ^ k : Nat) : Int)) (fun _ s5 => wd - (intOf s5).toNat)
  case atStart => exact ⟨0, Nat.zero_le _, rfl, by simp⟩
  case round =>
    obtain ⟨k, hk, rfl, rfl⟩ := hrel
    by_cases hlt : k < wd
    · have HE : Hid (n / 2 ^ (k + 1) = n / 2 ^ k / 2) := by show _ = _; rw [Nat.pow_succ, Nat.div_div_eq_div_mul]
      have hx : n / 2 ^ k < 18446744073709551616 := Nat.lt_of_le_of_lt (Nat.div_le_self _ _) hn
      generalize n / 2 ^ k = x at *
      go_wp2
      go_round
      case rel => exact ⟨k + 1, by omega, by go_num, by rw [HE.out]; go_num⟩
      case measure => simp [intOf]; omega
    · obtain rfl : k = wd := by omega
      have HD : Hid ((((n / 2 ^ k : Nat) : Int) == 0) = decide (n < 2 ^ k)) := by
        show _ = _
        have := Nat.div_eq_zero_iff_lt (x := n) (Nat.two_pow_pos k)
        rw [Bool.eq_iff_iff, beq_iff_eq, decide_eq_true_eq, ← this]
        omega
      generalize n / 2 ^ k = x at *
      go_wp2
      go_ret
      exact ⟨ret_bool HD.out, rfl⟩

/-- The document's Set: what the list becomes, and the error. -/
def setL (l : List Nat) (wd : Nat) (i : Int) (n : Nat) : List Nat × Int :=
  if i < 0 ∨ (l.length : Int) ≤ i then (l, 1) else if 2 ^ wd ≤ n then (l, 2) else (l.set i.toNat n, 0)

theorem setL_length (l : List Nat) (wd : Nat) (i : Int) (n : Nat) : (setL l wd i n).1.length = l.length := by
  unfold setL; split
  · rfl
  · split <;> simp

theorem vset_any (p g wd : Nat) (l : List Nat) (w : World) (i : Int) (n : Nat) (h : Vec w p g wd l) :
    Calls Try.prog 56 #[.pointer (some ⟨p, 0, none⟩), .int .i64 i, .int .u64 (n : Int)] w fun e w' =>
      e = .returned (.int .i64 (setL l wd i n).2) ∧ Vec w' p g wd (setL l wd i n).1 ∧ Upd [g] w w' := by
  unfold setL
  by_cases h1 : i < 0 ∨ (l.length : Int) ≤ i
  · rw [if_pos h1]
    refine (vset_bad p g wd l w i n h h1).mono ?_
    rintro e w' ⟨rfl, rfl⟩
    exact ⟨rfl, h, Upd.refl _ _⟩
  · rw [if_neg h1]
    obtain ⟨k, rfl⟩ := Int.eq_ofNat_of_zero_le (show 0 ≤ i by omega)
    have hk : k < l.length := by omega
    by_cases h2 : 2 ^ wd ≤ n
    · rw [if_pos h2]
      refine (vset_over p g wd l w k n h hk h2).mono ?_
      rintro e w' ⟨rfl, rfl⟩
      exact ⟨rfl, h, Upd.refl _ _⟩
    · rw [if_neg h2, Int.toNat_natCast]
      exact vset_ok p g wd l w k n h hk (by omega)

/-- What the document's Set leaves. -/
def RSetPost (lv : Value) (l : List Nat) (r : List Nat × Int) (w : World) (e : Ending) (w' : World) : Prop :=
  ∃ v, e = .returned (.tuple #[v, .int .i64 r.2]) ∧ w'.ownsRow 0 28 1 v l.length (cu64 r.1) ∧ (v = lv ∨ ∃ k, v.ownBlock = some k ∧ w.heap.size ≤ k) ∧ Upd [] w w'

theorem rset_same (lv : Value) (l : List Nat) (wd : Nat) (i : Int) (n : Nat) (w : World) (z : Int) (h : w.ownsRow 0 28 1 lv l.length (cu64 l)) (hw : wd ≤ 64) (hn : n < 18446744073709551616)
   (hz : (i < 0 ∨ (l.length : Int) ≤ i) ∧ z = 1 ∨ (0 ≤ i ∧ i < (l.length : Int)) ∧ 2 ^ wd ≤ n ∧ z = 2) :
    Calls Try.prog 57 #[lv, .int .i64 (wd : Int), .agg #[.int .i64 i, .int .u64 (n : Int)]] w (RSetPost lv l (l, z) w) := by
  have HO := Lib.hid h
  obtain ⟨a, cap, rfl⟩ := own_ex h
  have HF := Lib.hid (fun W => rfits_any n wd W hw hn)
  clear h
  rcases hz with ⟨h1, rfl⟩ | ⟨⟨h0, h1⟩, h2, rfl⟩
  · by_cases hi : i < 0
    · have d0 : decide (i < 0) = true := by simpa using hi
      go_enter Try.func57, Try.ntmps57
      go_wp2
      go_ret2
      exact ⟨_, rfl, HO.out.alloc _, .inl rfl, (Upd.refl _ _).alloc _⟩
    · have d0 : decide (i < 0) = false := by simpa using hi
      have d1 : decide ((l.length : Int) ≤ i) = true := by simp; omega
      go_enter Try.func57, Try.ntmps57
      go_wp2
      go_ret2
      exact ⟨_, rfl, HO.out.alloc _, .inl rfl, (Upd.refl _ _).alloc _⟩
  · have d0 : decide (i < 0) = false := by simp; omega
    have d1 : decide ((l.length : Int) ≤ i) = false := by simp; omega
    have HD : Hid (decide (n < 2 ^ wd) = false) := by show _ = _; simp; exact h2
    clear h2
    go_enter Try.func57, Try.ntmps57
    go_wp2_with fail
    have h3 := HF.out (w.alloc (.cells #[.int .i64 i, .int .u64 (n : Int)] 74))
    rw [HD.out] at h3
    refine h3.mono ?_
    rintro e w' ⟨rfl, rfl⟩
    clear h3
    go_wp2
    go_ret2
    exact ⟨_, rfl, HO.out.alloc _, .inl rfl, (Upd.refl _ _).alloc _⟩

set_option maxHeartbeats 800000 in
theorem rset_new (lv : Value) (l : List Nat) (wd : Nat) (i n : Nat) (w : World) (h : w.ownsRow 0 28 1 lv l.length (cu64 l)) (hw : wd ≤ 64) (hi : i < l.length) (hl : l.length ≤ 1099511627776) (h64 : n < 18446744073709551616) (hn : n < 2 ^ wd) :
    Calls Try.prog 57 #[lv, .int .i64 (wd : Int), .agg #[.int .i64 (i : Int), .int .u64 (n : Int)]] w (RSetPost lv l (l.set i n, 0) w) := by
  have HO := Lib.hid h
  obtain ⟨a, cap, rfl⟩ := own_ex h
  have hf := fun W => rfits_any n wd W hw h64
  rw [show decide (n < 2 ^ wd) = true by simpa using hn] at hf
  have HF := Lib.hid hf
  have d0 : decide ((i : Int) < 0) = false := by simp
  have d1 : decide (l.length ≤ i) = false := by simp; omega
  clear h hn hf
  go_enter Try.func57, Try.ntmps57
  go_wp2_with fail
  refine (HF.out _).mono ?_
  rintro e w' ⟨rfl, rfl⟩
  have hb : (w.alloc (.cells #[.int .i64 (i : Int), .int .u64 (n : Int)] 74)).heap[w.heap.size]? = some (.cells #[.int .i64 (i : Int), .int .u64 (n : Int)] 74 (0, 0)) := heap_alloc_new _ _
  have U0 : Upd [] w (w.alloc (.cells #[.int .i64 (i : Int), .int .u64 (n : Int)] 74)) := (Upd.refl _ _).alloc _
  have hsz : (w.alloc (.cells #[.int .i64 (i : Int), .int .u64 (n : Int)] 74)).heap.size = w.heap.size + 1 := by simp
  generalize w.alloc (.cells #[.int .i64 (i : Int), .int .u64 (n : Int)] 74) = w0 at *
  have HU0 := Lib.hid U0
  have HBL := Lib.hid hb
  have HSZ := Lib.hid hsz
  clear U0 hb hsz
  go_wp2_with (at_builtin; refine wpList_append_sl _ rfl (.tmp 26) (.tmp 27) 54 rfl w0.heap.size 28 (.int .u64 0) 8 Try.underlying54 infoU64 rfl _ _ _ rfl (own_lit w0 28 #[] (by decide)) _ (cu64 l) rfl ((Sl.own HO.out).upd0 (HU0.out.alloc _)) (cu64_one _) ?c2 ?c3 ?c4 ?go)
  case c2 => unfold maxLen; simp; omega
  case c3 => simp; omega
  case c4 => simp
  case go =>
    intro v1 w1 ho hg _
    have HO1 : Hid (w1.ownsRow w0.heap.size 28 1 v1 l.length (cu64 l)) := by show World.ownsRow _ _ _ _ _ _ _; simpa using ho
    have HU1 : Hid (Upd [] w0 w1) := ((Upd.refl _ _).alloc _).grown hg (fun k hk => .inr (by simp [Value.ownBlock] at hk; omega))
    have hb1 : w1.heap[w.heap.size]? = some (.cells #[.int .i64 (i : Int), .int .u64 (n : Int)] 74 (0, 0)) := (HU1.out.block _ (by have := HSZ.out; omega) (by simp)).trans HBL.out
    have k0 : w1.cell? ⟨w.heap.size, 0, none⟩ = some (.int .i64 (i : Int)) := by rw [cell_of_row w1 _ 0 _ _ _ hb1]; rfl
    have k1 : w1.cell? ⟨w.heap.size, 1, none⟩ = some (.int .u64 (n : Int)) := by rw [cell_of_row w1 _ 1 _ _ _ hb1]; rfl
    obtain ⟨g1, cp1, rfl⟩ : ∃ g cp, v1 = .slice (some ⟨g, 0, none⟩) l.length cp := by
      rcases HO1.out.2 with ⟨_, h⟩ | ⟨g, cap', _, h, _⟩
      · omega
      · exact ⟨g, cap', h⟩
    have hx := HO1.out.cellAt i (by omega)
    rw [cu64_getElem?, List.getElem?_eq_getElem hi] at hx
    simp only [Option.map_some] at hx
    have hfz := HO1.out.frozenAt i
    have i0 : (0 : Int) ≤ (i : Int) := by omega
    have i1 : (i : Int) < (l.length : Int) := by omega
    have hgl := (HO1.out.lt g1 rfl).1
    clear ho hg hb1
    go_wp2
    go_ret2
    have h3 := (HO1.out.stored i (.int .u64 (n : Int))).1
    rw [← cu64_set] at h3
    exact ⟨_, rfl, ownsRow_base h3 (Nat.zero_le _), .inr ⟨g1, rfl, by have := HSZ.out; omega⟩, (HU0.out.trans0 HU1.out).setCell (.inr (by have := HSZ.out; show w.heap.size ≤ g1; omega)) _⟩

theorem rset_any (lv : Value) (l : List Nat) (wd : Nat) (i : Int) (n : Nat) (w : World) (h : w.ownsRow 0 28 1 lv l.length (cu64 l)) (hw : wd ≤ 64) (hl : l.length ≤ 1099511627776) (h64 : n < 18446744073709551616) :
    Calls Try.prog 57 #[lv, .int .i64 (wd : Int), .agg #[.int .i64 i, .int .u64 (n : Int)]] w (RSetPost lv l (setL l wd i n) w) := by
  unfold setL
  by_cases h1 : i < 0 ∨ (l.length : Int) ≤ i
  · rw [if_pos h1]
    exact rset_same lv l wd i n w 1 h hw h64 (.inl ⟨h1, rfl⟩)
  · rw [if_neg h1]
    obtain ⟨k, rfl⟩ := Int.eq_ofNat_of_zero_le (show 0 ≤ i by omega)
    by_cases h2 : 2 ^ wd ≤ n
    · rw [if_pos h2]
      exact rset_same lv l wd k n w 2 h hw h64 (.inr ⟨⟨by omega, by omega⟩, h2, rfl⟩)
    · rw [if_neg h2, Int.toNat_natCast]
      exact rset_new lv l wd k n w h hw (by omega) hl h64 (by omega)
end Go.Proofs.Ytbbbfkcpkcfndaa
