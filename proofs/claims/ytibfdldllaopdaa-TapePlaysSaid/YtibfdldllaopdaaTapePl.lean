/- The document's own Play (layer 9). -/
import Derived.Test.YtibfdldllaopdaaTapeAwk
namespace Go.Proofs.Ytibfdldllaopdaa
open Go.RowKit Go.Proofs.Tm
set_option linter.unusedVariables false
set_option linter.unusedSimpArgs false
set_option maxRecDepth 20000

/-- What Play answers: a tape, a coin, an error. -/
def RPlay (a : Option Addr) (len cap : Nat) (i : Nat) (d x : Bool) (e : Int) (w : World) (en : Ending) (w' : World) : Prop :=
  en = .returned (.tuple #[.agg #[.slice a len cap, .int .i64 (i : Int), .bool d], .bool x, .int .i64 e]) ∧ Upd [] w w'

section
variable (a : Option Addr) (len cap : Nat) (i : Nat) (d : Bool) (N : Int) (w : World)

set_option maxHeartbeats 800000 in
/-- Flip, where there is no coin. -/
theorem rplay_none (hi : i ≤ 1000000) (hl : len ≤ 1000000) (h : (d = true) ∨ (d = false ∧ decide (len ≤ i) = true)) :
    Calls Try.prog 17 #[.agg #[.slice a len cap, .int .i64 (i : Int), .bool d], .agg #[.int .i64 0, .int .i64 N]] w (RPlay a len cap i true false 8 w) := by
  rcases h with rfl | ⟨rfl, h⟩
  all_goals
    go_enter Try.func17, Try.ntmps17
    go_wp2
    refine bodyPost_ret (v := .tuple #[.agg #[.slice a len cap, .int .i64 (i : Int), .bool true], .bool false, .int .i64 8]) (by simp [results, Try.results17, go_sem]) rfl ?_
    exact ⟨rfl, (((Upd.refl _ _).alloc _).alloc _).alloc _⟩

set_option maxHeartbeats 800000 in
/-- Flip, where there is one. -/
theorem rplay_coin (x : Bool) (b o : Nat) (hi : i < len) (hl : len ≤ 1000000) (hc : w.cell? ⟨b, o + i, none⟩ = some (.bool x)) :
    Calls Try.prog 17 #[.agg #[.slice (some ⟨b, o, none⟩) len cap, .int .i64 (i : Int), .bool false], .agg #[.int .i64 0, .int .i64 N]] w (RPlay (some ⟨b, o, none⟩) len cap (i + 1) false x 0 w) := by
  have hb := World.block_lt_of_cell? w _ hc
  have hq : ∀ A B C t1 t2 t3, (((w.alloc (.cells A t1)).alloc (.cells B t2)).alloc (.cells C t3)).cell? ⟨b, o + i, none⟩ = some (.bool x) := fun A B C t1 t2 t3 => ((((Upd.refl [] w).alloc _).alloc _).alloc _ |>.cell (p := ⟨b, o + i, none⟩) hb (by simp)).trans hc
  have hd : decide (len ≤ i) = false := by simp; omega
  have hw1 : IntKind.i64.wrap ((i : Int) + 1) = (i : Int) + 1 := IntWalk.i64_in _ (by omega)
  have i0 : (0 : Int) ≤ (i : Int) := by omega
  have i1 : (i : Int) < (len : Int) := by omega
  clear hc hb
  go_enter Try.func17, Try.ntmps17
  go_wp2
  go_region
  go_wp2
  refine bodyPost_ret (v := .tuple #[.agg #[.slice (some ⟨b, o, none⟩) len cap, .int .i64 ((i + 1 : Nat) : Int), .bool false], .bool x, .int .i64 0]) (by simp [results, Try.results17, go_sem]) rfl ?_
  exact ⟨rfl, ((((Upd.refl _ _).alloc _).alloc _).alloc _).drew⟩

set_option maxHeartbeats 800000 in
/-- Back to where it wasn't. -/
theorem rplay_bad (hi : i ≤ 1000000) (h : decide (N < 0) = true ∨ (decide (N < 0) = false ∧ decide ((i : Int) < N) = true)) :
    Calls Try.prog 17 #[.agg #[.slice a len cap, .int .i64 (i : Int), .bool d], .agg #[.int .i64 1, .int .i64 N]] w (RPlay a len cap i d false 2 w) := by
  rcases h with h | ⟨h, h'⟩
  all_goals
    go_enter Try.func17, Try.ntmps17
    go_wp2
    refine bodyPost_ret (v := .tuple #[.agg #[.slice a len cap, .int .i64 (i : Int), .bool d], .bool false, .int .i64 2]) (by simp [results, Try.results17, go_sem]) rfl ?_
    exact ⟨rfl, (((Upd.refl _ _).alloc _).alloc _).alloc _⟩

set_option maxHeartbeats 800000 in
/-- Back to where it was. -/
theorem rplay_back (k : Nat) (hi : i ≤ 1000000) (h : k ≤ i) :
    Calls Try.prog 17 #[.agg #[.slice a len cap, .int .i64 (i : Int), .bool d], .agg #[.int .i64 1, .int .i64 (k : Int)]] w (RPlay a len cap k false false 0 w) := by
  have h1 : decide (i < k) = false := by simp; omega
  go_enter Try.func17, Try.ntmps17
  go_wp2
  refine bodyPost_ret (v := .tuple #[.agg #[.slice a len cap, .int .i64 (k : Int), .bool false], .bool false, .int .i64 0]) (by simp [results, Try.results17, go_sem]) rfl ?_
  exact ⟨rfl, (((Upd.refl _ _).alloc _).alloc _).alloc _⟩
end
end Go.Proofs.Ytibfdldllaopdaa
