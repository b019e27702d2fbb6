/- The contract of nat.digit (layer 5), whatever is handed in: it ends; where what is left is less than b times 2^64, the digit is the true one. -/
import Derived.Test.YtoklmfmoblkfcaaDoorNatDig
namespace Go.Proofs.YtoklmfmoblkfcaaDoor
open Go.RowKit Go.Proofs.Tm
set_option linter.unusedVariables false
set_option linter.unusedSimpArgs false
set_option maxRecDepth 20000

theorem u64_sub (a b : Nat) (ha : a < 18446744073709551616) (hb : b < 18446744073709551616) : ∃ v : Nat, IntKind.u64.wrap ((a : Int) - (b : Int)) = (v : Int) ∧ v < 18446744073709551616 ∧ (b ≤ a → v = a - b) := by
  refine ⟨(IntKind.u64.wrap ((a : Int) - (b : Int))).toNat, ?_, ?_, ?_⟩ <;> rw [IntKind.wrap_u64] <;> omega
theorem u64_dec (a : Nat) (ha : a < 18446744073709551616) : ∃ v : Nat, IntKind.u64.wrap ((a : Int) - 1) = (v : Int) ∧ v < 18446744073709551616 ∧ (1 ≤ a → v = a - 1) := by
  refine ⟨(IntKind.u64.wrap ((a : Int) - 1)).toNat, ?_, ?_, ?_⟩ <;> rw [IntKind.wrap_u64] <;> omega

theorem dig_measure {Y s s2 VB c v : Nat} (hs : s < Y) (hs2 : s2 < Y) (hV : 0 < VB) (hv : 0 < v) (hc : c ≤ 1) (h : s2 + Y * c = s + VB) : (v - c) * Y + (Y - s2) < v * Y + (Y - s) := by
  obtain ⟨u, rfl⟩ : ∃ u, v = u + 1 := ⟨v - 1, by omega⟩
  have e : (u + 1) * Y = u * Y + Y := by rw [Nat.add_mul, Nat.one_mul]
  rcases (by omega : c = 0 ∨ c = 1) with rfl | rfl
  · rw [Nat.mul_zero] at h; rw [Nat.sub_zero]; omega
  · rw [Nat.mul_one] at h; rw [Nat.add_sub_cancel]; omega

/-- The words that stand in block g, as numbers. -/
def rowOf (w : World) (g len : Nat) : List Nat := match w.heap[g]? with
  | some (.cells cur _ _) => (cur.toList.take len).map (fun v => (intOf v).toNat)
  | _ => []

theorem map_cu64 (L : List Nat) : (cu64 L).map (fun v => (intOf v).toNat) = L := by
  unfold cu64
  rw [List.map_map]
  conv => rhs; rw [← List.map_id L]
  apply List.map_congr_left
  intro a _
  rfl

theorem rowOf_own {w : World} {base g len cap : Nat} {L : List Nat} (h : w.ownsRow base 65 1 (.slice (some ⟨g, 0, none⟩) len cap) len (cu64 L)) : rowOf w g len = L := by
  rcases h.2 with h2 | ⟨g', cap', cur, hv, hb, hg, _, _, _, hx⟩
  · exact absurd h2.1 (by simp)
  · cases hv
    unfold rowOf
    rw [hg]
    show ((cur.toList.take len).map _) = L
    rw [Nat.mul_one] at hx
    rw [hx]
    exact map_cu64 L

/-- What digit leaves, whatever is handed in. -/
def DigFPost (base g len cap f : Nat) (B : List Nat) (L : List Nat) (w : World) (e : Ending) (w' : World) : Prop :=
  ∃ (d : Nat) (L' : List Nat), e = .returned (.int .u64 (d : Int)) ∧ d < 18446744073709551616 ∧ ARow base g len cap f B.length L L' w w' ∧
    (seg L f (B.length + 1) < wval B * 18446744073709551616 → d = seg L f (B.length + 1) / wval B ∧ seg L' f B.length = seg L f (B.length + 1) % wval B)

set_option maxHeartbeats 3200000 in
theorem digit_free (base g len cap f cp : Nat) (bv : Value) (B L : List Nat) (w : World) (ho : w.ownsRow base 65 1 (.slice (some ⟨g, 0, none⟩) len cap) len (cu64 L)) (hL : L.length = len) (hlt : ∀ d ∈ L, d < 18446744073709551616)
   (hB : Sl w bv (cu64 B)) (hBlt : ∀ d ∈ B, d < 18446744073709551616) (hbg : ∀ k, bv.ownBlock = some k → k ≠ g) (hf : f + B.length + 1 ≤ len) (hB0 : 1 ≤ B.length) (hcp : B.length + 1 ≤ cp) (hlen : len ≤ 1099511627776)
   (hVB : 0 < wval B) :
    Calls Tryd.prog 84 #[.slice (some ⟨g, f, none⟩) (B.length + 1) cp, bv] w (DigFPost base g len cap f B L w) := by
  obtain ⟨X, hXd⟩ : ∃ X, X = seg L f (B.length + 1) := ⟨_, rfl⟩
  obtain ⟨VB, hV⟩ : ∃ V, V = wval B := ⟨_, rfl⟩
  obtain ⟨lb, hlb⟩ : ∃ k, k = B.length := ⟨_, rfl⟩
  have HTK : Hid (∀ (W : World) (n : Nat), ARow base g len cap f 0 L L w W → n < 18446744073709551616 → Upd [] w W → Calls Tryd.prog 99 #[.slice (some ⟨g, f, none⟩) (B.length + 1) cp, bv, .int .u64 (n : Int)] W (TakeTPost base g len cap f B n L W)) := fun W n h hn hu =>
    takeTimes_any base g len cap f (B.length + 1) cp n bv B L W h.own h.len h.lt (hB.upd0 hu) hBlt (fun _ => hbg) (by omega) (by omega) hn hlen
  have HAD : Hid (∀ (W : World) (L' : List Nat), W.ownsRow base 65 1 (.slice (some ⟨g, 0, none⟩) len cap) len (cu64 L') → L'.length = len → (∀ d ∈ L', d < 18446744073709551616) → Upd [g] w W → Calls Tryd.prog 56 #[.slice (some ⟨g, f, none⟩) (B.length + 1) cp, bv, .int .u64 1] W (AddTPost base g len cap f B 1 L' W)) := fun W L' h1 h2 h3 hu =>
    addTimes_any base g len cap f (B.length + 1) cp 1 bv B L' W h1 h2 h3 (hB.upd hu (fun _ k hk => by simpa using hbg k hk)) hBlt (fun _ => hbg) (by omega) (by omega) (by decide) hlen
  have hB' := hB
  obtain ⟨b, ob, cb', hv, hc⟩ := sl_at hB' (by rw [cu64_nil]; rintro rfl; simp at hB0)
  subst hv
  rw [cu64_length] at hc HTK HAD ⊢
  have kb := hc (lb - 1) (by omega)
  rw [cu64_getD _ _ (by omega)] at kb
  have kt := ho.cellAt (f + lb) (by omega)
  rw [cu64_getD _ _ (by omega)] at kt
  have kl := ho.cellAt (f + (lb - 1)) (by omega)
  rw [cu64_getD _ _ (by omega)] at kl
  have hgb : g ≠ b := fun h => hbg b rfl h.symm
  obtain ⟨top, htop⟩ : ∃ t, t = L.getD (f + lb) 0 := ⟨_, rfl⟩
  obtain ⟨low, hlow⟩ : ∃ t, t = L.getD (f + (lb - 1)) 0 := ⟨_, rfl⟩
  obtain ⟨bt, hbt⟩ : ∃ t, t = B.getD (lb - 1) 0 := ⟨_, rfl⟩
  rw [← htop] at kt
  rw [← hlow] at kl
  rw [← hbt] at kb
  have ltop : top < 18446744073709551616 := by rw [htop]; exact getD_lt hlt _
  have llow : low < 18446744073709551616 := by rw [hlow]; exact getD_lt hlt _
  have lbt : bt < 18446744073709551616 := by rw [hbt]; exact getD_lt hBlt _
  obtain ⟨d0, hd0⟩ : ∃ d, d = if bt ≤ top then 18446744073709551615 else (top * 18446744073709551616 + low) / bt := ⟨_, rfl⟩
  have hd0l : d0 < 18446744073709551616 := by
    rw [hd0]
    split
    · decide
    · rename_i h
      have : (top * 18446744073709551616 + low) / bt < 18446744073709551616 := (Nat.div_lt_iff_lt_mul (by omega)).2 (by
        have := Nat.mul_le_mul_right 18446744073709551616 (show top + 1 ≤ bt by omega)
        omega)
      exact this
  -- the guess is no less than the digit
  have hXs : X = seg L f lb + 18446744073709551616 ^ lb * top := by rw [hXd, ← hlb, seg_succ, htop]
  have hge : X < VB * 18446744073709551616 → X / VB ≤ d0 := by
    intro hX
    rw [hd0]
    obtain ⟨j, hj⟩ : ∃ j, lb = j + 1 := ⟨lb - 1, by omega⟩
    refine guess_ge (M := 18446744073709551616 ^ j) (Nat.pow_pos (by decide)) ?_ ?_ hX (by rw [hV]; exact hVB)
    · have h1 : seg L f lb = seg L f j + 18446744073709551616 ^ j * low := by rw [hj, seg_succ, hlow, hj]; rfl
      have h2 := seg_lt (L := L) f j hlt
      rw [hXs, h1, hj, Nat.pow_succ]
      generalize 18446744073709551616 ^ j = M at *
      have e1 : (top * 18446744073709551616 + low + 1) * M = top * 18446744073709551616 * M + low * M + M := by rw [Nat.add_mul, Nat.add_mul, Nat.one_mul]
      have e2 : M * 18446744073709551616 * top = top * 18446744073709551616 * M := by rw [Nat.mul_comm M, Nat.mul_comm (_ * M), Nat.mul_assoc]
      have e3 : M * low = low * M := Nat.mul_comm _ _
      omega
    · have h1 : wval B = wval (B.take j) + 18446744073709551616 ^ j * bt := by
        have := wval_take_succ B j
        rw [List.take_of_length_le (by omega)] at this
        rw [this, hbt, hj]; rfl
      rw [hV, h1, Nat.mul_comm]; omega
  have hYB : VB ≤ 18446744073709551616 ^ lb := by rw [hV, hlb]; exact Nat.le_of_lt (wval_lt B hBlt)
  have HGE := Lib.hid hge
  have HYB := Lib.hid hYB
  have HXS := Lib.hid hXs
  have HVB : Hid (0 < VB) := by rw [hV]; exact hVB
  have HVE := Lib.hid hV
  have HA0 : Hid (ARow base g len cap f 0 L L w w) := ARow.start ho hL hlt
  have HGS : Hid (∀ W : World, Calls Tryd.prog 98 #[.int .u64 (top : Int), .int .u64 (low : Int), .int .u64 (bt : Int)] W fun e w' => e = .returned (.int .u64 (d0 : Int)) ∧ Upd [] W w') := fun W => by
    have := guess_any top low bt W ltop llow lbt
    rw [← hd0] at this
    exact this
  have HLEN : Hid (f + lb + 1 ≤ len ∧ L.length = len ∧ B.length = lb) := ⟨by omega, hL, hlb.symm⟩
  have HTOP := Lib.hid htop
  have hbw := World.block_lt_of_cell? w _ kb
  have hgw := World.block_lt_of_cell? w _ kt
  have HCE : Hid (∀ W, Upd [] w W → W.cell? ⟨g, f + lb, none⟩ = some (.int .u64 (top : Int)) ∧ W.cell? ⟨g, f + (lb - 1), none⟩ = some (.int .u64 (low : Int)) ∧ W.cell? ⟨b, ob + (lb - 1), none⟩ = some (.int .u64 (bt : Int)) ∧ Upd [] w W) := fun W h =>
    ⟨(h.cell (p := ⟨g, f + lb, none⟩) hgw (by simp)).trans kt, (h.cell (p := ⟨g, f + (lb - 1), none⟩) hgw (by simp)).trans kl, (h.cell (p := ⟨b, ob + (lb - 1), none⟩) hbw (by simp)).trans kb, h⟩
  have HXD := Lib.hid hXd
  obtain ⟨ln, hln⟩ : ∃ k, k = lb + 1 := ⟨_, rfl⟩
  rw [← hlb, ← hln] at HTK HAD ⊢
  obtain ⟨m1, hm1⟩ : ∃ k, k = lb - 1 := ⟨_, rfl⟩
  rw [← hm1] at kl kb HCE
  have i0 : (0 : Int) ≤ (m1 : Int) := by omega
  have i1 : (lb : Int) < (ln : Int) := by omega
  have i2 : (m1 : Int) < (ln : Int) := by omega
  have i4 : (m1 : Int) < (lb : Int) := by omega
  have i5 : IntKind.i64.wrap ((lb : Int) - 1) = (m1 : Int) := by rw [IntWalk.i64_in _ (by omega)]; omega
  have i6 : (0 : Int) ≤ (lb : Int) := by omega
  have hlb5 : lb ≤ 1099511627776 := by omega
  clear hc ho hL hlt hB hBlt hbg hf hB0 hlen hVB hXd hV hlb hd0 hge hXs hYB htop hlow hbt hgw hbw hln hm1
  go_enter Tryd.func84, Tryd.ntmps84
  go_wp2_with fail
  go_region_held3 (fun W => W.cell? ⟨g, f + lb, none⟩ = some (.int .u64 (top : Int)) ∧ W.cell? ⟨g, f + m1, none⟩ = some (.int .u64 (low : Int)) ∧ W.cell? ⟨b, ob + m1, none⟩ = some (.int .u64 (bt : Int)) ∧ Upd [] w W)
    (first
      | exact HCE.out _ huy
      | exact HCE.out _ (Upd.refl _ _).drew)
    (first
      | (go_at_call 98; refine (HGS.out _).mono ?_; rintro e wy ⟨rfl, hu0⟩; have huy : Upd [] w wy := (Upd.refl _ _).drew.trans0 hu0))
  have HUY := Lib.hid huy
  have HA1 : Hid (ARow base g len cap f 0 L L w wy) := ⟨ownsRow_upd HA0.out.own huy (by simp), HA0.out.len, HA0.out.lt, fun _ _ => rfl, huy.mono (by simp)⟩
  have HTW : Hid (∀ W, Upd [] wy W → Calls Tryd.prog 99 #[.slice (some ⟨g, f, none⟩) ln cp, .slice (some ⟨b, ob, none⟩) lb cb', .int .u64 (d0 : Int)] W (TakeTPost base g len cap f B d0 L W)) := fun W h =>
    HTK.out W d0 ⟨ownsRow_upd HA1.out.own h (by simp), HA1.out.len, HA1.out.lt, fun _ _ => rfl, HA1.out.upd.trans h (fun x hx => nomatch hx)⟩ hd0l (huy.trans0 h)
  have ky := (HCE.out wy huy).1
  have HCT : Hid (∀ W W0 L', Upd [] wy W0 → ARow base g len cap f B.length L L' W0 W → W.cell? ⟨g, f + lb, none⟩ = some (.int .u64 (top : Int)) ∧ Upd [g] w W) := fun W W0 L' h0 h => by
    refine ⟨?_, ((huy.trans0 h0).mono (by simp)).trans h.upd (fun x hx => .inl hx)⟩
    have hh := HLEN.out
    rw [h.own.cellAt (f + lb) (by omega), cu64_getD _ _ (by rw [h.len]; omega), h.out _ (.inr (by omega)), ← HTOP.out]
  have HC1 : Hid (∀ W, Upd [] wy W → W.cell? ⟨g, f + lb, none⟩ = some (.int .u64 (top : Int)) ∧ Upd [g] w W) := fun W h => ⟨(HCE.out W (huy.trans0 h)).1, (huy.trans0 h).mono (by simp)⟩
  have HFIN : Hid (∀ W0 W L1 o, Upd [] wy W0 → ARow base g len cap f B.length L L1 W0 W → wval L1 + 18446744073709551616 ^ f * (d0 * wval B) = wval L + 18446744073709551616 ^ (f + B.length) * o → o ≤ d0 →
      ARow base g len cap f B.length L L1 w W ∧ (X < VB * 18446744073709551616 → top ≤ o ∧ seg L1 f lb + d0 * VB = X + 18446744073709551616 ^ lb * (o - top) ∧ X / VB ≤ d0)) := fun W0 W L1 o h0 h he ho => by
    obtain ⟨q1, q2, q3⟩ := HLEN.out
    rw [q3] at he
    have h1 := seg_eq (by rw [h.len, q2]) (by omega) (fun j hj => h.out j (by rw [q3]; exact hj)) he
    rw [← HVE.out] at h1
    have h2 : seg L1 f lb + d0 * VB + 18446744073709551616 ^ lb * top = X + 18446744073709551616 ^ lb * o := by rw [HXS.out]; omega
    refine ⟨⟨h.own, h.len, h.lt, h.out, ((huy.trans0 h0).mono (by simp)).trans h.upd (fun x hx => .inl hx)⟩, fun hP => ?_⟩
    have h3 := owed_ge (HGE.out hP) HVB.out HYB.out h2
    refine ⟨h3, ?_, HGE.out hP⟩
    obtain ⟨v, rfl⟩ : ∃ v, o = top + v := ⟨o - top, by omega⟩
    rw [Nat.add_sub_cancel_left]
    rw [Nat.mul_add] at h2
    omega
  have hrf : Upd [] wy wy := Upd.refl _ _
  clear huy hu0
  go_wp2_with fail
  go_region_held3 (fun W => W.cell? ⟨g, f + lb, none⟩ = some (.int .u64 (top : Int)) ∧ Upd [g] w W)
    (first
      | exact HCZ.out
      | exact HC1.out _ (Upd.refl _ _).drew
      | exact HC1.out _ hrf)
    (first
      | (go_at_call 99; refine (HTW.out _ (Upd.refl _ _).drew).mono ?_; rintro e wz ⟨o, L1, rfl, hA, hol, heq⟩; have HCZ := Lib.hid (HCT.out _ _ _ (Upd.refl _ _).drew hA); obtain ⟨hA1, hsg⟩ := HFIN.out _ _ _ _ (Upd.refl _ _).drew hA heq hol; obtain ⟨v, hwo, hv64, hvt⟩ := u64_sub o top (Nat.lt_of_le_of_lt hol hd0l) ltop; have HR : Hid (ARow base g len cap f B.length L L1 w wz ∧ (X < VB * 18446744073709551616 → seg L1 f lb + d0 * VB = X + 18446744073709551616 ^ lb * v ∧ X / VB ≤ d0)) := ⟨hA1, fun hP => ⟨(by obtain ⟨q1, q2, q3⟩ := hsg hP; rw [hvt q1]; exact q2), (hsg hP).2.2⟩⟩; have HV64 := Lib.hid hv64; clear hA hA1 hsg heq hvt hol))
  have HDL := Lib.hid hd0l
  clear hv64 hwo HCZ hrf ky kb kt kl
  go_wp2
  go_loopw [6, 7] (fun v6 v7 wr => ∃ (d v : Nat) (L1 : List Nat), v6 = .int .u64 (d : Int) ∧ v7 = .int .u64 (v : Int) ∧ Hid (ARow base g len cap f B.length L L1 w wr ∧ (X < VB * 18446744073709551616 → seg L1 f lb + d * VB = X + 18446744073709551616 ^ lb * v ∧ X / VB ≤ d) ∧ d < 18446744073709551616 ∧ v < 18446744073709551616)) (fun _ v7 wr => (intOf v7).toNat * 18446744073709551616 ^ lb + (18446744073709551616 ^ lb - seg (rowOf wr g len) f lb))
  case atStart => exact ⟨d0, v, L1, rfl, rfl, HR.out.1, HR.out.2, HDL.out, HV64.out⟩
  case round =>
    obtain ⟨d, v', L', rfl, rfl, HI⟩ := hrel
    by_cases hlt : 0 < v'
    · have hgt : decide (0 < v') = true := by simpa using hlt
      have HA := Lib.hid (HAD.out wr L' HI.out.1.own HI.out.1.len HI.out.1.lt HI.out.1.upd)
      have HSTEP : Hid (∀ (c dn : Nat) (L2 : List Nat) (W : World), (1 ≤ d → dn = d - 1) → ARow base g len cap f B.length L' L2 wr W → c ≤ 1 → wval L2 + 18446744073709551616 ^ (f + B.length) * c = wval L' + 18446744073709551616 ^ f * (1 * wval B) →
          c ≤ v' ∧ ARow base g len cap f B.length L L2 w W ∧ (X < VB * 18446744073709551616 → seg L2 f lb + dn * VB = X + 18446744073709551616 ^ lb * (v' - c) ∧ X / VB ≤ dn) ∧
          (v' - c) * 18446744073709551616 ^ lb + (18446744073709551616 ^ lb - seg (rowOf W g len) f lb) < v' * 18446744073709551616 ^ lb + (18446744073709551616 ^ lb - seg (rowOf wr g len) f lb)) := fun c dn L2 W hdn h hc he => by
        obtain ⟨q1, q2, q3⟩ := HLEN.out
        obtain ⟨i1, i2, i3, i4⟩ := HI.out
        rw [Nat.one_mul, ← HVE.out, q3] at he
        have h2 := seg_eq2 (by rw [h.len, i1.len]) (by rw [i1.len]; omega) (fun j hj => h.out j (by rw [q3]; exact hj)) he
        refine ⟨by omega, ⟨h.own, h.len, h.lt, fun j hj => (h.out j hj).trans (i1.out j hj), i1.upd.trans h.upd (fun x hx => .inl hx)⟩, fun hP => ?_, ?_⟩
        · obtain ⟨z1, z2, z3, z4⟩ := owed_step HVB.out (seg_lt f lb i1.lt) hlt hc (i2 hP).1 h2
          rw [hdn z1]
          exact ⟨z4, z2⟩
        · rw [rowOf_own h.own, rowOf_own i1.own]
          exact dig_measure (seg_lt f lb i1.lt) (seg_lt f lb h.lt) HVB.out hlt hc h2
      clear hlt
      go_wp2_with fail
      refine HA.out.mono ?_
      rintro e w2 ⟨c, L2, rfl, hA2, hc1, heq⟩
      obtain ⟨dn, hwd, hdl, hdn⟩ := u64_dec d HI.out.2.2.1
      obtain ⟨z3, z4, z5, z6⟩ := HSTEP.out c dn L2 w2 hdn hA2 hc1 heq
      have i45 := HI.out.2.2.2
      have hwv : IntKind.u64.wrap ((v' : Int) - (c : Int)) = ((v' - c : Nat) : Int) := by rw [IntKind.wrap_u64]; omega
      obtain ⟨vn, hvn⟩ : ∃ k, k = v' - c := ⟨_, rfl⟩
      rw [← hvn] at hwv z5 z6
      have HN : Hid (ARow base g len cap f B.length L L2 w w2 ∧ (X < VB * 18446744073709551616 → seg L2 f lb + dn * VB = X + 18446744073709551616 ^ lb * vn ∧ X / VB ≤ dn) ∧ dn < 18446744073709551616 ∧ vn < 18446744073709551616) := ⟨z4, z5, hdl, by omega⟩
      have HDN := Lib.hid z6
      clear hA2 hc1 heq z3 z4 z5 z6 i45 hvn hdl hdn
      go_wp2
      go_roundw
      case rel => exact ⟨dn, vn, L2, rfl, rfl, HN⟩
      case measure => exact HDN.out
    · obtain rfl : v' = 0 := by omega
      obtain ⟨i1, i2, i3, i4⟩ := HI.out
      have HF : Hid (d < 18446744073709551616 ∧ ARow base g len cap f B.length L L' w wr ∧ (X < VB * 18446744073709551616 → d = X / VB ∧ seg L' f lb = X % VB)) := ⟨i3, i1, fun hP => by
        have h1 := (i2 hP).1
        rw [Nat.mul_zero, Nat.add_zero] at h1
        exact owed_none HVB.out (i2 hP).2 h1⟩
      clear i1 i2 i3 i4 hlt
      go_wp2
      go_ret
      refine ⟨d, L', rfl, HF.out.1, HF.out.2.1, fun hP => ?_⟩
      rw [← HXD.out, ← HVE.out] at hP ⊢
      rw [HLEN.out.2.2]
      exact HF.out.2.2 hP
end Go.Proofs.YtoklmfmoblkfcaaDoor
