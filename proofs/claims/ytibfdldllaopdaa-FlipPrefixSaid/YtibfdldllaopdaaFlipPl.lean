/- The function value that FlipPrefix asks: coins are asked for a power. -/
import Derived.Test.YtibfdldllaopdaaFlipAwk
import Derived.BigRegion
import Derived.Deep.RegionHeld3
namespace Go.Proofs.Ytibfdldllaopdaa
open Go.RowKit Go.Proofs.Tm
set_option linter.unusedVariables false
set_option maxRecDepth 20000

/-- What coins come to, of F; and how many were read: in the other order. -/
def BPost (o : Came) (w : World) (e : Ending) (w' : World) : Prop :=
  e = .returned (.tuple #[.bool o.1, .int .i64 (if o.2.2 then 8 else 0), .int .i64 (o.2.1 : Int)]) ∧ Upd [] w w'

theorem small_len {n : Nat} (h : n < 18446744073709551616) : (wds n).length ≤ 1 := (wds_length_le_iff n 1).2 (by simpa using h)

set_option maxHeartbeats 3200000 in
theorem play10 (v : Value) (l : List Bool) (bp bq bk P Q K : Nat) (w : World) (h : Sl w v (cb l)) (hl : l.length ≤ 1000) (hp : w.cell? ⟨bp, 0, none⟩ = some (.int .i64 (P : Int))) (hq : w.cell? ⟨bq, 0, none⟩ = some (.int .i64 (Q : Int))) (hk : w.cell? ⟨bk, 0, none⟩ = some (.int .i64 (K : Int)))
    (hQ0 : Q ≠ 0) (hPQ : P ≤ Q) (hQ : Q < 1000000) (hK : K ≤ 1000) :
    Calls Try.prog 40 #[v, .pointer (some ⟨bp, 0, none⟩), .pointer (some ⟨bq, 0, none⟩), .pointer (some ⟨bk, 0, none⟩)] w (BPost (powF P Q K l) w) := by
  have HN := tnew_any v l w h
  rw [List.take_of_length_le (by omega)] at HN
  have HNEW := Lib.hid HN
  have HC : Hid (∀ W, Upd [] w W → W.cell? ⟨bp, 0, none⟩ = some (.int .i64 (P : Int)) ∧ W.cell? ⟨bq, 0, none⟩ = some (.int .i64 (Q : Int)) ∧ W.cell? ⟨bk, 0, none⟩ = some (.int .i64 (K : Int))) := fun W h =>
    ⟨(h.cell (p := ⟨bp, 0, none⟩) (World.block_lt_of_cell? w _ hp) (by simp)).trans hp, (h.cell (p := ⟨bq, 0, none⟩) (World.block_lt_of_cell? w _ hq) (by simp)).trans hq, (h.cell (p := ⟨bk, 0, none⟩) (World.block_lt_of_cell? w _ hk) (by simp)).trans hk⟩
  have hwp : IntKind.u64.wrap (P : Int) = (P : Int) := by rw [IntKind.wrap_u64]; omega
  have hwq : IntKind.u64.wrap (Q : Int) = (Q : Int) := by rw [IntKind.wrap_u64]; omega
  have HOP : Hid (∀ W v, Sl W v [.int .u64 (P : Int)] → Calls Try.prog 28 #[v] W (RNat P W)) := fun W v h => fofw P (by omega) v W h
  have HOQ : Hid (∀ W v, Sl W v [.int .u64 (Q : Int)] → Calls Try.prog 28 #[v] W (RNat Q W)) := fun W v h => fofw Q (by omega) v W h
  have HPW : Hid (∀ p g W u v, NV W u P → NV W v Q → Tp W p g l 0 false → Calls Try.prog 30 #[.pointer (some ⟨p, 0, none⟩), u, v, .int .i64 (K : Int)] W (FPost (powF P Q K) p g l 0 W)) := fun p g W u v h1 h2 h3 => by
    have := power_any u v P Q (K : Int) p g l 0 W h1 h2 (Nat.le_trans (small_len (by omega)) (by decide)) hQ0 hPQ (by omega) h3
    simpa using this
  clear h HN hp hq hk hQ0 hPQ hQ hK
  go_enter Try.func40, Try.ntmps40
  go_wp2_with fail
  refine HNEW.out.mono ?_
  rintro e w3 ⟨p, g, rfl, ht, hu3, hp, hg⟩
  have HT := Lib.hid ht
  have HU3 := Lib.hid hu3
  have hrf : Upd [] w3 w3 := Upd.refl _ _
  have HKP : Hid (∀ W, Upd [] w W → W.cell? ⟨bp, 0, none⟩ = some (.int .i64 (P : Int)) ∧ W.cell? ⟨bq, 0, none⟩ = some (.int .i64 (Q : Int)) ∧ W.cell? ⟨bk, 0, none⟩ = some (.int .i64 (K : Int)) ∧ Upd [] w W) := fun W h => by
    obtain ⟨a, b, c⟩ := HC.out W h
    exact ⟨a, b, c, h⟩
  obtain ⟨k0, k1, k2⟩ := HC.out _ hu3
  have HP0 := Lib.hid hp
  clear ht hu3 hg hp
  go_wp2_with fail
  go_region_held3 (fun W => W.cell? ⟨bp, 0, none⟩ = some (.int .i64 (P : Int)) ∧ W.cell? ⟨bq, 0, none⟩ = some (.int .i64 (Q : Int)) ∧ W.cell? ⟨bk, 0, none⟩ = some (.int .i64 (K : Int)) ∧ Upd [] w W)
    (first
      | (refine HKP.out _ ?_; repeat (first | exact HUZ.out | exact huY' | exact huX' | exact HU3.out | apply Upd.drew | apply Upd.alloc)))
    (first
      | (go_at_call 28; guard_hyp hnX : NV wx vx P; refine Calls.mono (HOQ.out _ _ ?_) ?_; (focus (refine sl_cell ?_; go_simp; done)); rintro e wy ⟨vy, rfl, hnY, hu4⟩; obtain ⟨hcy, hfy, hsz4⟩ := upd_facts hu4; (try simp only [World.size_alloc, World.size_drew] at hsz4); have huY : Upd [] w3 wy := Upd.trans0 (by repeat (first | exact huX | apply Upd.drew | apply Upd.alloc)) hu4; have huY' : Upd [] w wy := HU3.out.trans0 huY; have hnXY : NV wy vx P := NV.upd0 (by repeat (first | exact hnX | apply NV.dr | apply NV.al)) hu4)
      | (go_at_call 28; guard_hyp hnX : NV wx vx Q; refine Calls.mono (HOP.out _ _ ?_) ?_; (focus (refine sl_cell ?_; go_simp; done)); rintro e wy ⟨vy, rfl, hnY, hu4⟩; obtain ⟨hcy, hfy, hsz4⟩ := upd_facts hu4; (try simp only [World.size_alloc, World.size_drew] at hsz4); have huY : Upd [] w3 wy := Upd.trans0 (by repeat (first | exact huX | apply Upd.drew | apply Upd.alloc)) hu4; have huY' : Upd [] w wy := HU3.out.trans0 huY; have hnXY : NV wy vx Q := NV.upd0 (by repeat (first | exact hnX | apply NV.dr | apply NV.al)) hu4)
      | (go_at_call 28; (fail_if_success (have hh := hnX)); refine Calls.mono (HOP.out _ _ ?_) ?_; (focus (refine sl_cell ?_; go_simp; done)); rintro e wx ⟨vx, rfl, hnX, hu3⟩; obtain ⟨hcx, hfx, hsz3⟩ := upd_facts hu3; (try simp only [World.size_alloc, World.size_drew] at hsz3); have huX : Upd [] w3 wx := Upd.trans0 (by repeat (first | exact hrf | apply Upd.drew | apply Upd.alloc)) hu3; have huX' : Upd [] w wx := HU3.out.trans0 huX)
      | (go_at_call 28; (fail_if_success (have hh := hnX)); refine Calls.mono (HOQ.out _ _ ?_) ?_; (focus (refine sl_cell ?_; go_simp; done)); rintro e wx ⟨vx, rfl, hnX, hu3⟩; obtain ⟨hcx, hfx, hsz3⟩ := upd_facts hu3; (try simp only [World.size_alloc, World.size_drew] at hsz3); have huX : Upd [] w3 wx := Upd.trans0 (by repeat (first | exact hrf | apply Upd.drew | apply Upd.alloc)) hu3; have huX' : Upd [] w wx := HU3.out.trans0 huX)
      | (go_at_call 30; refine Calls.mono (HPW.out p g _ _ _ ?_ ?_ ?_) ?_; (focus ((repeat (first | exact hnXY | exact hnY | apply NV.dr | apply NV.al)); done)); (focus ((repeat (first | exact hnXY | exact hnY | apply NV.dr | apply NV.al)); done)); (focus ((refine HT.out.upd0 ?_); (repeat (first | exact huY | apply Upd.drew | apply Upd.alloc)); done)); intro e wz hpo; obtain ⟨x, kk, d, hF, rfl, ht5, hu5⟩ := hpo.out; have huZ : Upd [] w wz := Upd.trans (S := []) (T := [p]) (by repeat (first | exact huY' | apply Upd.drew | apply Upd.alloc)) hu5 (fun x hx => .inr (by simp at hx; subst hx; exact HP0.out)); obtain ⟨f, hf⟩ : ∃ f : Int, f = (if d then 8 else 0) := ⟨_, rfl⟩; rw [← hf]; have HF := Lib.hid hF; have HT5 := Lib.hid ht5; have HUZ := Lib.hid huZ; have HFF := Lib.hid hf; clear hpo hF ht5 hu5 huZ hf))
  all_goals
    rw [List.drop_zero] at HF
    simp only [Nat.zero_add] at HT5
    have HRD := Lib.hid (tread_any p g l kk d wz HT5.out)
    go_wp2_with fail
    refine HRD.out.mono ?_
    rintro e w5 ⟨rfl, rfl⟩
    go_wp2
    go_ret3
    refine ⟨?_, HUZ.out⟩
    rw [HF.out]
    show _ = Ending.returned (.tuple #[.bool x, .int .i64 (if d = true then 8 else 0), .int .i64 (kk : Int)])
    rw [← HFF.out]; rfl
end Go.Proofs.Ytibfdldllaopdaa
