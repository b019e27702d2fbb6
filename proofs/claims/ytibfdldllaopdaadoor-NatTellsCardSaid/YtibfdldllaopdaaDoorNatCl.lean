/- The contract of slices.Clone at words: a row of its own. -/
import Derived.Test.YtibfdldllaopdaaDoorNatB
namespace Go.Proofs.YtibfdldllaopdaaDoor
open Go.RowKit Go.Proofs.Tm
set_option linter.unusedVariables false
set_option maxRecDepth 20000

set_option maxHeartbeats 400000 in
/-- The clone is a row of its own. -/
theorem sclone_own (v : Value) (ws : List Nat) (w : World) (h : Sl w v (cu64 ws)) (hl : ws.length ≤ 1099511627776) :
    Calls Tryd.prog 62 #[v] w (fun e w' => ∃ v', e = .returned v' ∧ w'.ownsRow w.heap.size 31 1 v' ws.length (cu64 ws) ∧ Upd [] w w') := by
  have HS := Lib.hid h
  obtain ⟨a, cap, rfl, _, _, hc⟩ := h
  rw [cu64_length] at HS ⊢
  have hq := fun W => Lib.run_eql_slice_nil (P := Tryd.prog) W 22 31 a ws.length cap 0 0 Tryd.underlying22
  cases a with
  | none =>
    simp only [Option.isNone_none] at hq
    have hw0 : ws = [] := by
      cases ws with
      | nil => rfl
      | cons x l => obtain ⟨b, o, hb, _⟩ := hc (by simp [cu64]); cases hb
    have HW0 := Lib.hid hw0
    clear hc hw0
    go_enter Tryd.func62, Tryd.ntmps62
    go_wp2
    go_ret
    exact ⟨_, rfl, by rw [HW0.out]; exact ⟨by simp, .inl ⟨rfl, rfl⟩⟩, Upd.refl _ _⟩
  | some ad =>
    simp only [Option.isNone_some] at hq
    clear hc
    go_enter Tryd.func62, Tryd.ntmps62
    go_wp2_with (at_builtin; refine wpList_append_sl _ rfl (.tmp 5) (.tmp 6) 22 rfl w.heap.size 31 (.int .u64 0) 8 Tryd.underlying22 infoU64 rfl _ _ _ rfl (own_lit w 31 #[] (by decide)) _ (cu64 ws) rfl (HS.out.upd0 ((Upd.refl _ _).alloc _)) (cu64_one _) ?c2 ?c3 ?c4 ?go)
    case c2 => unfold maxLen; simp; omega
    case c3 => simp; omega
    case c4 => simp
    case go =>
      intro v1 w1 ho hg _
      have HO : Hid (w1.ownsRow w.heap.size 31 1 v1 ws.length (cu64 ws)) := by show World.ownsRow _ _ _ _ _ _ _; simpa using ho
      have HU : Hid (Upd [] w w1) := ((Upd.refl _ _).alloc _).grown hg (fun k hk => .inr (by simp [Value.ownBlock] at hk; omega))
      clear ho hg
      go_wp2
      go_ret
      exact ⟨_, rfl, HO.out, HU.out⟩

end Go.Proofs.YtibfdldllaopdaaDoor
