/- The function values that Tree is given by layer 10's law. -/
import Derived.Test.YtibfdldllaopdaaTreeA
namespace Go.Proofs.Ytibfdldllaopdaa
open Go.RowKit Go.Proofs.Tm
set_option linter.unusedVariables false
set_option maxRecDepth 20000

theorem small_len {n : Nat} (h : n < 18446744073709551616) : (wds n).length ≤ 1 := (wds_length_le_iff n 1).2 (by simpa using h)

/-- What an asker leaves. -/
def AskPost (o : Came) (p : Nat) (w : World) (e : Ending) (w' : World) : Prop :=
  e = .returned (.tuple #[.bool o.1, .int .i64 (if o.2.2 then 8 else 0)]) ∧ Upd [p] w w'

set_option maxHeartbeats 800000 in
theorem ask_half (w0 : World) (bk K : Nat) (hk : w0.cell? ⟨bk, 0, none⟩ = some (.int .i64 (K : Int))) (hK : K ≤ 1000) : Asks w0 37 #[.pointer (some ⟨bk, 0, none⟩)] (halfF K) := by
  intro w p g l hu hp hl ht
  have e1 : (#[Value.pointer (some ⟨p, 0, none⟩)] ++ #[Value.pointer (some ⟨bk, 0, none⟩)] : Array Value) = #[.pointer (some ⟨p, 0, none⟩), .pointer (some ⟨bk, 0, none⟩)] := rfl
  rw [e1]
  show Calls _ _ _ w (AskPost (halfF K l) p w)
  have k0 := (hu.cell (p := ⟨bk, 0, none⟩) (World.block_lt_of_cell? w0 _ hk) (by simp)).trans hk
  have HH := half_any p g l 0 (K : Int) w ht (by omega)
  have HF := Lib.hid HH
  clear e1 hu hp hl ht hk hK HH
  go_enter Try.func37, Try.ntmps37
  go_wp2_with fail
  refine HF.out.mono ?_
  intro e w4 hpo
  obtain ⟨x, kk, d, hF, rfl, ht4, hu4⟩ := hpo.out
  rw [List.drop_zero, Int.toNat_natCast] at hF
  have HFH := Lib.hid hF
  obtain ⟨f, hf⟩ : ∃ f : Int, f = (if d then 8 else 0) := ⟨_, rfl⟩
  rw [← hf]
  have HEQ := Lib.hid hf
  have HU4 := Lib.hid hu4
  clear hpo hF ht4 hu4 hf
  go_wp2
  go_ret2
  refine ⟨?_, HU4.out⟩
  rw [HFH.out]
  show _ = Ending.returned (.tuple #[.bool x, .int .i64 (if d = true then 8 else 0)])
  rw [← HEQ.out]; rfl

set_option maxHeartbeats 3200000 in
theorem ask_ratio (w0 : World) (bp bq P Q : Nat) (hp : w0.cell? ⟨bp, 0, none⟩ = some (.int .i64 (P : Int))) (hq : w0.cell? ⟨bq, 0, none⟩ = some (.int .i64 (Q : Int))) (hQ0 : Q ≠ 0) (hPQ : P ≤ Q) (hQ : Q < 1000000) : Asks w0 38 #[.pointer (some ⟨bp, 0, none⟩), .pointer (some ⟨bq, 0, none⟩)] (ratioF P Q) := by
  intro w p g l hu hpn hl ht
  have e1 : (#[Value.pointer (some ⟨p, 0, none⟩)] ++ #[.pointer (some ⟨bp, 0, none⟩), .pointer (some ⟨bq, 0, none⟩)] : Array Value) = #[.pointer (some ⟨p, 0, none⟩), .pointer (some ⟨bp, 0, none⟩), .pointer (some ⟨bq, 0, none⟩)] := rfl
  rw [e1]
  show Calls _ _ _ w (AskPost (ratioF P Q l) p w)
  have HC : Hid (∀ W, Upd [p] w W → W.cell? ⟨bp, 0, none⟩ = some (.int .i64 (P : Int)) ∧ W.cell? ⟨bq, 0, none⟩ = some (.int .i64 (Q : Int))) := fun W h => by
    have lp := World.block_lt_of_cell? w0 _ hp
    have lq := World.block_lt_of_cell? w0 _ hq

    exact ⟨(h.cell (p := ⟨bp, 0, none⟩) (Nat.lt_of_lt_of_le lp hu.size) (by show bp ∉ [p]; simp at lp ⊢; omega)).trans ((hu.cell (p := ⟨bp, 0, none⟩) lp (by simp)).trans hp), (h.cell (p := ⟨bq, 0, none⟩) (Nat.lt_of_lt_of_le lq hu.size) (by show bq ∉ [p]; simp at lq ⊢; omega)).trans ((hu.cell (p := ⟨bq, 0, none⟩) lq (by simp)).trans hq)⟩
  have hwp : IntKind.u64.wrap (P : Int) = (P : Int) := by rw [IntKind.wrap_u64]; omega
  have hwq : IntKind.u64.wrap (Q : Int) = (Q : Int) := by rw [IntKind.wrap_u64]; omega
  have HOP : Hid (∀ W v, Sl W v [.int .u64 (P : Int)] → Calls Try.prog 28 #[v] W (RNat P W)) := fun W v h => fofw P (by omega) v W h
  have HOQ : Hid (∀ W v, Sl W v [.int .u64 (Q : Int)] → Calls Try.prog 28 #[v] W (RNat Q W)) := fun W v h => fofw Q (by omega) v W h
  have HPW : Hid (∀ W u v, NV W u P → NV W v Q → Tp W p g l 0 false → Calls Try.prog 27 #[.pointer (some ⟨p, 0, none⟩), u, v] W (FPost (ratioF P Q) p g l 0 W)) := fun W u v h1 h2 h3 => by
    have := ratio_any u v P Q p g l 0 W h1 h2 (Nat.le_trans (small_len (by omega)) (by decide)) hQ0 hPQ h3
    simpa using this
  have HT := Lib.hid ht
  have hrf : Upd [] w w := Upd.refl _ _
  have HKP : Hid (∀ W, Upd [p] w W → W.cell? ⟨bp, 0, none⟩ = some (.int .i64 (P : Int)) ∧ W.cell? ⟨bq, 0, none⟩ = some (.int .i64 (Q : Int)) ∧ Upd [p] w W) := fun W h => by
    obtain ⟨a, b⟩ := HC.out W h
    exact ⟨a, b, h⟩
  obtain ⟨k0, k1⟩ := HC.out _ (Upd.refl _ _)
  clear hu hpn hl ht hp hq hQ0 hPQ hQ e1
  go_enter Try.func38, Try.ntmps38
  go_wp2_with fail
  go_region_held3 (fun W => W.cell? ⟨bp, 0, none⟩ = some (.int .i64 (P : Int)) ∧ W.cell? ⟨bq, 0, none⟩ = some (.int .i64 (Q : Int)) ∧ Upd [p] w W)
    (first
      | exact HKP.out _ HUZ.out
      | exact HKP.out _ HUZ.out.drew
      | (refine HKP.out _ (Upd.mono (S := []) ?_ (fun _ h => nomatch h)); repeat (first | exact huY | exact huX | exact hrf | apply Upd.drew | apply Upd.alloc)))
    (first
      | (go_at_call 28; guard_hyp hnX : NV wx vx P; refine Calls.mono (HOQ.out _ _ ?_) ?_; (focus (refine sl_cell ?_; go_simp; done)); rintro e wy ⟨vy, rfl, hnY, hu4⟩; obtain ⟨hcy, hfy, hsz4⟩ := upd_facts hu4; (try simp only [World.size_alloc, World.size_drew] at hsz4); have huY : Upd [] w wy := Upd.trans0 (by repeat (first | exact huX | apply Upd.drew | apply Upd.alloc)) hu4; have hnXY : NV wy vx P := NV.upd0 (by repeat (first | exact hnX | apply NV.dr | apply NV.al)) hu4)
      | (go_at_call 28; guard_hyp hnX : NV wx vx Q; refine Calls.mono (HOP.out _ _ ?_) ?_; (focus (refine sl_cell ?_; go_simp; done)); rintro e wy ⟨vy, rfl, hnY, hu4⟩; obtain ⟨hcy, hfy, hsz4⟩ := upd_facts hu4; (try simp only [World.size_alloc, World.size_drew] at hsz4); have huY : Upd [] w wy := Upd.trans0 (by repeat (first | exact huX | apply Upd.drew | apply Upd.alloc)) hu4; have hnXY : NV wy vx Q := NV.upd0 (by repeat (first | exact hnX | apply NV.dr | apply NV.al)) hu4)
      | (go_at_call 28; (fail_if_success (have hh := hnX)); refine Calls.mono (HOP.out _ _ ?_) ?_; (focus (refine sl_cell ?_; go_simp; done)); rintro e wx ⟨vx, rfl, hnX, hu3⟩; obtain ⟨hcx, hfx, hsz3⟩ := upd_facts hu3; (try simp only [World.size_alloc, World.size_drew] at hsz3); have huX : Upd [] w wx := Upd.trans0 (by repeat (first | exact hrf | apply Upd.drew | apply Upd.alloc)) hu3)
      | (go_at_call 28; (fail_if_success (have hh := hnX)); refine Calls.mono (HOQ.out _ _ ?_) ?_; (focus (refine sl_cell ?_; go_simp; done)); rintro e wx ⟨vx, rfl, hnX, hu3⟩; obtain ⟨hcx, hfx, hsz3⟩ := upd_facts hu3; (try simp only [World.size_alloc, World.size_drew] at hsz3); have huX : Upd [] w wx := Upd.trans0 (by repeat (first | exact hrf | apply Upd.drew | apply Upd.alloc)) hu3)
      | (go_at_call 27; refine Calls.mono (HPW.out _ _ _ ?_ ?_ ?_) ?_; (focus ((repeat (first | exact hnXY | exact hnY | apply NV.dr | apply NV.al)); done)); (focus ((repeat (first | exact hnXY | exact hnY | apply NV.dr | apply NV.al)); done)); (focus ((refine HT.out.upd0 ?_); (repeat (first | exact huY | apply Upd.drew | apply Upd.alloc)); done)); intro e wz hpo; obtain ⟨x, kk, d, hF, rfl, ht5, hu5⟩ := hpo.out; have huZ : Upd [p] w wz := Upd.trans (S := [p]) (T := [p]) (Upd.mono (S := []) (by repeat (first | exact huY | apply Upd.drew | apply Upd.alloc)) (fun _ h => nomatch h)) hu5 (fun x hx => .inl hx); obtain ⟨f, hf⟩ : ∃ f : Int, f = (if d then 8 else 0) := ⟨_, rfl⟩; rw [← hf]; have HF := Lib.hid hF; have HT5 := Lib.hid ht5; have HUZ := Lib.hid huZ; have HFF := Lib.hid hf; clear hpo hF ht5 hu5 huZ hf))
  all_goals
    rw [List.drop_zero] at HF
    go_wp2
    go_ret2
    refine ⟨?_, HUZ.out⟩
    rw [HF.out]
    show _ = Ending.returned (.tuple #[.bool x, .int .i64 (if d = true then 8 else 0)])
    rw [← HFF.out]; rfl

set_option maxHeartbeats 3200000 in
theorem ask_power (w0 : World) (bp bq bk P Q K : Nat) (hp : w0.cell? ⟨bp, 0, none⟩ = some (.int .i64 (P : Int))) (hq : w0.cell? ⟨bq, 0, none⟩ = some (.int .i64 (Q : Int))) (hk : w0.cell? ⟨bk, 0, none⟩ = some (.int .i64 (K : Int))) (hK : K ≤ 1000) (hQ0 : Q ≠ 0) (hPQ : P ≤ Q) (hQ : Q < 1000000) : Asks w0 39 #[.pointer (some ⟨bp, 0, none⟩), .pointer (some ⟨bq, 0, none⟩), .pointer (some ⟨bk, 0, none⟩)] (powF P Q K) := by
  intro w p g l hu hpn hl ht
  have e1 : (#[Value.pointer (some ⟨p, 0, none⟩)] ++ #[.pointer (some ⟨bp, 0, none⟩), .pointer (some ⟨bq, 0, none⟩), .pointer (some ⟨bk, 0, none⟩)] : Array Value) = #[.pointer (some ⟨p, 0, none⟩), .pointer (some ⟨bp, 0, none⟩), .pointer (some ⟨bq, 0, none⟩), .pointer (some ⟨bk, 0, none⟩)] := rfl
  rw [e1]
  show Calls _ _ _ w (AskPost (powF P Q K l) p w)
  have HC : Hid (∀ W, Upd [p] w W → W.cell? ⟨bp, 0, none⟩ = some (.int .i64 (P : Int)) ∧ W.cell? ⟨bq, 0, none⟩ = some (.int .i64 (Q : Int)) ∧ W.cell? ⟨bk, 0, none⟩ = some (.int .i64 (K : Int))) := fun W h => by
    have lp := World.block_lt_of_cell? w0 _ hp
    have lq := World.block_lt_of_cell? w0 _ hq
    have lk := World.block_lt_of_cell? w0 _ hk
    exact ⟨(h.cell (p := ⟨bp, 0, none⟩) (Nat.lt_of_lt_of_le lp hu.size) (by show bp ∉ [p]; simp at lp ⊢; omega)).trans ((hu.cell (p := ⟨bp, 0, none⟩) lp (by simp)).trans hp), (h.cell (p := ⟨bq, 0, none⟩) (Nat.lt_of_lt_of_le lq hu.size) (by show bq ∉ [p]; simp at lq ⊢; omega)).trans ((hu.cell (p := ⟨bq, 0, none⟩) lq (by simp)).trans hq), (h.cell (p := ⟨bk, 0, none⟩) (Nat.lt_of_lt_of_le lk hu.size) (by show bk ∉ [p]; simp at lk ⊢; omega)).trans ((hu.cell (p := ⟨bk, 0, none⟩) lk (by simp)).trans hk)⟩
  have hwp : IntKind.u64.wrap (P : Int) = (P : Int) := by rw [IntKind.wrap_u64]; omega
  have hwq : IntKind.u64.wrap (Q : Int) = (Q : Int) := by rw [IntKind.wrap_u64]; omega
  have HOP : Hid (∀ W v, Sl W v [.int .u64 (P : Int)] → Calls Try.prog 28 #[v] W (RNat P W)) := fun W v h => fofw P (by omega) v W h
  have HOQ : Hid (∀ W v, Sl W v [.int .u64 (Q : Int)] → Calls Try.prog 28 #[v] W (RNat Q W)) := fun W v h => fofw Q (by omega) v W h
  have HPW : Hid (∀ W u v, NV W u P → NV W v Q → Tp W p g l 0 false → Calls Try.prog 30 #[.pointer (some ⟨p, 0, none⟩), u, v, .int .i64 (K : Int)] W (FPost (powF P Q K) p g l 0 W)) := fun W u v h1 h2 h3 => by
    have := power_any u v P Q (K : Int) p g l 0 W h1 h2 (Nat.le_trans (small_len (by omega)) (by decide)) hQ0 hPQ (by omega) h3
    simpa using this
  have HT := Lib.hid ht
  have hrf : Upd [] w w := Upd.refl _ _
  have HKP : Hid (∀ W, Upd [p] w W → W.cell? ⟨bp, 0, none⟩ = some (.int .i64 (P : Int)) ∧ W.cell? ⟨bq, 0, none⟩ = some (.int .i64 (Q : Int)) ∧ W.cell? ⟨bk, 0, none⟩ = some (.int .i64 (K : Int)) ∧ Upd [p] w W) := fun W h => by
    obtain ⟨a, b, c⟩ := HC.out W h
    exact ⟨a, b, c, h⟩
  obtain ⟨k0, k1, k2⟩ := HC.out _ (Upd.refl _ _)
  clear hu hpn hl ht hp hq hk hK hQ0 hPQ hQ e1
  go_enter Try.func39, Try.ntmps39
  go_wp2_with fail
  go_region_held3 (fun W => W.cell? ⟨bp, 0, none⟩ = some (.int .i64 (P : Int)) ∧ W.cell? ⟨bq, 0, none⟩ = some (.int .i64 (Q : Int)) ∧ W.cell? ⟨bk, 0, none⟩ = some (.int .i64 (K : Int)) ∧ Upd [p] w W)
    (first
      | exact HKP.out _ HUZ.out
      | exact HKP.out _ HUZ.out.drew
      | (refine HKP.out _ (Upd.mono (S := []) ?_ (fun _ h => nomatch h)); repeat (first | exact huY | exact huX | exact hrf | apply Upd.drew | apply Upd.alloc)))
    (first
      | (go_at_call 28; guard_hyp hnX : NV wx vx P; refine Calls.mono (HOQ.out _ _ ?_) ?_; (focus (refine sl_cell ?_; go_simp; done)); rintro e wy ⟨vy, rfl, hnY, hu4⟩; obtain ⟨hcy, hfy, hsz4⟩ := upd_facts hu4; (try simp only [World.size_alloc, World.size_drew] at hsz4); have huY : Upd [] w wy := Upd.trans0 (by repeat (first | exact huX | apply Upd.drew | apply Upd.alloc)) hu4; have hnXY : NV wy vx P := NV.upd0 (by repeat (first | exact hnX | apply NV.dr | apply NV.al)) hu4)
      | (go_at_call 28; guard_hyp hnX : NV wx vx Q; refine Calls.mono (HOP.out _ _ ?_) ?_; (focus (refine sl_cell ?_; go_simp; done)); rintro e wy ⟨vy, rfl, hnY, hu4⟩; obtain ⟨hcy, hfy, hsz4⟩ := upd_facts hu4; (try simp only [World.size_alloc, World.size_drew] at hsz4); have huY : Upd [] w wy := Upd.trans0 (by repeat (first | exact huX | apply Upd.drew | apply Upd.alloc)) hu4; have hnXY : NV wy vx Q := NV.upd0 (by repeat (first | exact hnX | apply NV.dr | apply NV.al)) hu4)
      | (go_at_call 28; (fail_if_success (have hh := hnX)); refine Calls.mono (HOP.out _ _ ?_) ?_; (focus (refine sl_cell ?_; go_simp; done)); rintro e wx ⟨vx, rfl, hnX, hu3⟩; obtain ⟨hcx, hfx, hsz3⟩ := upd_facts hu3; (try simp only [World.size_alloc, World.size_drew] at hsz3); have huX : Upd [] w wx := Upd.trans0 (by repeat (first | exact hrf | apply Upd.drew | apply Upd.alloc)) hu3)
      | (go_at_call 28; (fail_if_success (have hh := hnX)); refine Calls.mono (HOQ.out _ _ ?_) ?_; (focus (refine sl_cell ?_; go_simp; done)); rintro e wx ⟨vx, rfl, hnX, hu3⟩; obtain ⟨hcx, hfx, hsz3⟩ := upd_facts hu3; (try simp only [World.size_alloc, World.size_drew] at hsz3); have huX : Upd [] w wx := Upd.trans0 (by repeat (first | exact hrf | apply Upd.drew | apply Upd.alloc)) hu3)
      | (go_at_call 30; refine Calls.mono (HPW.out _ _ _ ?_ ?_ ?_) ?_; (focus ((repeat (first | exact hnXY | exact hnY | apply NV.dr | apply NV.al)); done)); (focus ((repeat (first | exact hnXY | exact hnY | apply NV.dr | apply NV.al)); done)); (focus ((refine HT.out.upd0 ?_); (repeat (first | exact huY | apply Upd.drew | apply Upd.alloc)); done)); intro e wz hpo; obtain ⟨x, kk, d, hF, rfl, ht5, hu5⟩ := hpo.out; have huZ : Upd [p] w wz := Upd.trans (S := [p]) (T := [p]) (Upd.mono (S := []) (by repeat (first | exact huY | apply Upd.drew | apply Upd.alloc)) (fun _ h => nomatch h)) hu5 (fun x hx => .inl hx); obtain ⟨f, hf⟩ : ∃ f : Int, f = (if d then 8 else 0) := ⟨_, rfl⟩; rw [← hf]; have HF := Lib.hid hF; have HT5 := Lib.hid ht5; have HUZ := Lib.hid huZ; have HFF := Lib.hid hf; clear hpo hF ht5 hu5 huZ hf))
  all_goals
    rw [List.drop_zero] at HF
    go_wp2
    go_ret2
    refine ⟨?_, HUZ.out⟩
    rw [HF.out]
    show _ = Ending.returned (.tuple #[.bool x, .int .i64 (if d = true then 8 else 0)])
    rw [← HFF.out]; rfl

end Go.Proofs.Ytibfdldllaopdaa
