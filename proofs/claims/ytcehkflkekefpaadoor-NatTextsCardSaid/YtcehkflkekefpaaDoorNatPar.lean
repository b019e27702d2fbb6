/- The contract of nat.Parse (layer 5). -/
import Derived.Test.YtcehkflkekefpaaDoorNatParM
import Derived.Test.YtcehkflkekefpaaDoorNatSum
import Derived.Test.YtcehkflkekefpaaDoorNatMul2
import Derived.Test.YtcehkflkekefpaaDoorSmall
import Derived.Deep.RegionHeld3
import Derived.Deep.RegionWith
namespace Go.Proofs.YtcehkflkekefpaaDoor
open Go.RowKit Go.Proofs.Tm
set_option linter.unusedVariables false
set_option linter.unusedSimpArgs false
set_option maxRecDepth 20000

/-- What a text is read as: which error, which number. -/
def parseOf (l : List UInt8) : Nat × Nat := if 2000 < l.length then (3, 0) else if isTxt l = true then (0, decVal l) else (4, 0)
def RParse (l : List UInt8) (w : World) (e : Ending) (w' : World) : Prop := ∃ v, e = .returned (.tuple #[v, .int .i64 ((parseOf l).1 : Int)]) ∧ NV w' v (parseOf l).2 ∧ Upd [] w w'

theorem bytes_upd (w : World) (e : TypeId) (t : ByteArray) {w' : World} (h : w' = w ∨ w' = Lib.bytesWorld w e t) : Upd [] w w' := by
  rcases h with rfl | rfl
  · exact Upd.refl _ _
  · exact upd_below (Upd.refl _ _) (Lib.bytesWorld_below _ _ _) (Nat.le_refl _)

/-- A number in a cell of the call's own, beside the cell of the answer. -/
structure ParAt (w : World) (S g A : Nat) (a : Option Addr) (la ca : Nat) (W : World) : Prop where
  r0 : W.heap[S]? = some (.cells #[.slice none 0 0] 26 (0, 0))
  r1 : W.heap[g]? = some (.cells #[.slice a la ca] 26 (0, 0))
  na : NV W (.agg #[.slice a la ca]) A
  u : Upd [] w W
theorem ParAt.upd0 {w W W' : World} {S g A : Nat} {a : Option Addr} {la ca : Nat} (h : ParAt w S g A a la ca W) (u : Upd [] W W') : ParAt w S g A a la ca W' :=
  ⟨(u.block _ (lt_of_block h.r0) (by simp)).trans h.r0, (u.block _ (lt_of_block h.r1) (by simp)).trans h.r1, h.na.upd0 u, h.u.trans0 u⟩
theorem ParAt.cells {w W : World} {S g A : Nat} {a : Option Addr} {la ca : Nat} (h : ParAt w S g A a la ca W) : W.cell? ⟨S, 0, none⟩ = some (.slice none 0 0) ∧ W.cell? ⟨g, 0, none⟩ = some (.slice a la ca) ∧ W.frozen? ⟨S, 0, none⟩ = false ∧ W.frozen? ⟨g, 0, none⟩ = false :=
  ⟨by rw [cell_of_row W _ 0 _ _ _ h.r0]; rfl, by rw [cell_of_row W _ 0 _ _ _ h.r1]; rfl, frozen_of_row W _ 0 _ _ h.r0, frozen_of_row W _ 0 _ _ h.r1⟩
theorem ParAt.put {w W : World} {S g A A' : Nat} {a a' : Option Addr} {la ca la' ca' : Nat} (hS : w.heap.size ≤ g) (hne : S ≠ g) (h : ParAt w S g A a la ca W) (n : NV W (.agg #[.slice a' la' ca']) A') :
    ParAt w S g A' a' la' ca' (W.setCell ⟨g, 0, none⟩ (.slice a' la' ca')) := by
  refine ⟨?_, one_setCell h.r1, n.store h.r1 no_u64 _ rfl _, h.u.setCell (.inr hS) _⟩
  rw [Below.heap_setCell _ _ _ _ hne]
  exact h.r0

def strLen : Value → Nat
  | .string s => s.size
  | _ => 0

theorem extract_take (s : ByteArray) (k : Nat) : (s.extract 0 k).data.toList = s.data.toList.take k := by simp
theorem extract_drop (s : ByteArray) (k : Nat) : (s.extract k s.size).data.toList = s.data.toList.drop k := by
  simp
  exact List.take_of_length_le (by simp)

set_option maxHeartbeats 3200000 in
theorem parse_any (t : ByteArray) (w : World) (hlen : t.size ≤ 9223372036854775807) :
    Calls Tryd.prog 32 #[.string t] w (RParse t.data.toList w) := by
  obtain ⟨l, hl⟩ : ∃ l, l = t.data.toList := ⟨_, rfl⟩
  have hsz : l.length = t.size := by rw [hl]; simp
  obtain ⟨S, hS⟩ : ∃ s, s = w.heap.size := ⟨_, rfl⟩
  obtain ⟨w0, hw0⟩ : ∃ W, W = w.alloc (.cells #[.slice none 0 0] 26) := ⟨_, rfl⟩
  have hu0 : Upd [] w w0 := by rw [hw0]; exact (Upd.refl _ _).alloc _
  have hr0 : w0.heap[S]? = some (.cells #[.slice none 0 0] 26 (0, 0)) := by rw [hw0, hS]; exact heap_alloc_new w _
  have HW0 := Lib.hid hw0
  have HS := Lib.hid hS
  have HU0 := Lib.hid hu0
  have HR0 := Lib.hid hr0
  have HLL := Lib.hid hl
  have HSZ := Lib.hid hsz
  have HOUT0 : Hid (∀ W k, Upd [] w W → (parseOf l).1 = k → (parseOf l).2 = 0 → RParse l w (.returned (.tuple #[.agg #[.slice none 0 0], .int .i64 (k : Int)])) W) := fun W k h h1 h2 => ⟨_, by rw [h1], by rw [h2]; exact NV.zero W, h⟩
  rw [← hl]
  have c0 : w0.cell? ⟨S, 0, none⟩ = some (.slice none 0 0) := by rw [cell_of_row w0 _ 0 _ _ _ hr0]; rfl
  have f0 : w0.frozen? ⟨S, 0, none⟩ = false := frozen_of_row w0 _ 0 _ _ hr0
  clear hw0 hS hu0 hr0 hl hsz
  by_cases h2000 : 2000 < t.size
  · have g1 : decide ((2000 : Int) < (t.size : Int)) = true := by simp; omega
    have HP : Hid ((parseOf l).1 = 3 ∧ (parseOf l).2 = 0) := by
      show _ ∧ _
      unfold parseOf
      rw [if_pos (by rw [HSZ.out]; exact h2000)]
      exact ⟨rfl, rfl⟩
    clear h2000
    go_enter Tryd.func32, Tryd.ntmps32
    go_wp2_with fail
    rw [← HW0.out]
    rw [← HS.out]
    refine bodyPost_ret (v := .tuple #[.agg #[.slice none 0 0], .int .i64 3]) (by simp [results, Tryd.results32, go_sem, c0]) rfl ?_
    exact HOUT0.out _ 3 HU0.out HP.out.1 HP.out.2
  · have g1 : decide ((2000 : Int) < (t.size : Int)) = false := by simp; omega
    have HI := Lib.hid (istext_any t w0 (by omega))
    by_cases htx : isTxt l = true
    · have HP : Hid ((parseOf l).1 = 0 ∧ (parseOf l).2 = decVal l) := by
        show _ ∧ _
        unfold parseOf
        rw [if_neg (by rw [HSZ.out]; exact h2000), if_pos htx]
        exact ⟨rfl, rfl⟩
      rw [← HLL.out, htx] at HI
      have HTX := Lib.hid htx
      have H2 : Hid (l.length ≤ 2000) := by show _ ≤ _; rw [HSZ.out]; omega
      clear h2000 htx
      go_enter Tryd.func32, Tryd.ntmps32
      go_wp2_with fail
      rw [← HW0.out]
      rw [← HS.out]
      refine HI.out.mono ?_
      rintro e w1 ⟨rfl, hu1⟩
      obtain ⟨w2, hw2⟩ : ∃ W, W = w1.alloc (.cells #[.slice none 0 0] 26) := ⟨_, rfl⟩
      have HU1 := Lib.hid hu1
      have HW2 := Lib.hid hw2
      clear hu1 hw2
      go_wp2_with fail
      obtain ⟨g, hg⟩ : ∃ g, g = w1.heap.size := ⟨_, rfl⟩
      have HG := Lib.hid hg
      have hSg : S < g := by rw [hg]; exact Nat.lt_of_lt_of_le (lt_of_block HR0.out) HU1.out.size
      have HPA0 : Hid (ParAt w S g 0 none 0 0 w2) := by
        have hu12 : Upd [] w1 w2 := by rw [HW2.out]; exact (Upd.refl _ _).alloc _
        refine ⟨?_, ?_, NV.zero _, (HU0.out.trans0 HU1.out).trans0 hu12⟩
        · exact ((HU1.out.trans0 hu12).block _ (lt_of_block HR0.out) (by simp)).trans HR0.out
        · rw [HW2.out, hg]; exact heap_alloc_new w1 _
      have HSG : Hid (S < g ∧ w.heap.size ≤ g) := ⟨hSg, by have := HS.out; omega⟩
      have HDL : Hid (Digs l) := by
        have h := HTX.out
        unfold isTxt at h
        rw [Bool.and_eq_true] at h
        exact digs_all h.2
      rw [← HW2.out, ← HG.out]
      clear hg hSg c0 f0 g1
      go_loopw [0, 5, 6, 7] (fun v0 v5 v6 v7 wr => ∃ s : ByteArray, v0 = .string s ∧ Hid (∃ (A : Nat) (a : Option Addr) (la ca : Nat), ParAt w S g A a la ca wr ∧ Digs s.data.toList ∧ A * 10 ^ s.data.toList.length + decVal s.data.toList = decVal l ∧ (A = 0 ∨ s.data.toList.length % 19 = 0) ∧ s.size ≤ 2000)) (fun v0 _ _ _ _ => strLen v0)
      case atStart => exact ⟨t, rfl, 0, none, 0, 0, HPA0.out, by rw [← HLL.out]; exact HDL.out, by rw [← HLL.out]; omega, .inl rfl, by rw [← HSZ.out]; exact H2.out⟩
      case round =>
        obtain ⟨s, rfl, hrel⟩ := hrel
        obtain ⟨A, a, la, ca, hat, hds, hA, h19, hs2⟩ := hrel.out
        have HAT := Lib.hid hat
        have HM : Hid (Digs s.data.toList ∧ A * 10 ^ s.data.toList.length + decVal s.data.toList = decVal l ∧ (A = 0 ∨ s.data.toList.length % 19 = 0) ∧ s.size ≤ 2000) := ⟨hds, hA, h19, hs2⟩
        clear hat hds hA h19 hs2 hrel HPA0
        obtain ⟨d0, d1, e0, e1⟩ := HAT.out.cells
        by_cases hs0 : s.size = 0
        · have hse : s = ByteArray.empty := by simpa using hs0
          subst hse
          have HE : Hid (A = decVal l) := by
            have := HM.out.2.1
            show _ = _
            rw [← this]
            simp [decVal]
          clear hs0
          go_wp2_with fail
          have hrow := one_setCell (u := .slice a la ca) HAT.out.r0
          have z2 : (wr.setCell ⟨S, 0, none⟩ (.slice a la ca)).cell? ⟨S, 0, none⟩ = some (.slice a la ca) := by rw [cell_of_row _ _ 0 _ _ _ hrow]; rfl
          refine bodyPost_ret (v := .tuple #[.agg #[.slice a la ca], .int .i64 0]) (by simp [results, Tryd.results32, go_sem, z2]) rfl ?_
          refine ⟨_, by rw [HP.out.1]; rfl, ?_, HAT.out.u.setCell (.inr (Nat.le_of_eq HS.out.symm)) _⟩
          rw [HP.out.2, ← HE.out]
          exact HAT.out.na.store HAT.out.r0 no_u64 _ rfl _
        · have hse : s.toList.isEmpty = false := by
            rw [ByteArray.toList_eq]
            have : s.data.toList.length = s.size := by simp
            cases h : s.data.toList with
            | nil => rw [h] at this; simp at this; omega
            | cons _ _ => rfl
          obtain ⟨m, hm⟩ : ∃ m, m = s.data.toList := ⟨_, rfl⟩
          have hml : m.length = s.size := by rw [hm]; simp
          obtain ⟨k, hk⟩ : ∃ k, k = (m.length - 1) % 19 + 1 := ⟨_, rfl⟩
          obtain ⟨q, hq⟩ : ∃ q, q = (s.size - 1) % 19 := ⟨_, rfl⟩
          have hkq : k = q + 1 := by rw [hk, hq, hml]
          have HMM := HM.out
          rw [← hm] at HMM
          obtain ⟨hds, hA, h19, hs2⟩ := HMM
          obtain ⟨hA', h19', hkl, hk1, hk19⟩ := par_step hk (by omega) h19 hA
          have w1' : IntKind.i64.wrap ((s.size : Int) - 1) = (s.size : Int) - 1 := IntWalk.i64_in _ (by omega)
          have w2' : ((s.size : Int) - 1).tmod 19 = (q : Int) := by rw [Int.tmod_eq_emod_of_nonneg (by omega)]; omega
          have w2'' : ((s.size : Int) - 1) % 19 = (q : Int) := by omega
          have w3' : IntKind.i64.wrap ((q : Int) + 1) = (k : Int) := by rw [IntWalk.i64_in _ (by omega)]; omega
          have w4' : (q : Int) + 1 = (k : Int) := by omega
          have k0 : (0 : Int) ≤ (k : Int) := by omega
          have k2 : (k : Int) ≤ (s.size : Int) := by omega
          obtain ⟨G, hG⟩ : ∃ G, G = decVal (m.take k) := ⟨_, rfl⟩
          have hdk : Digs (m.take k) := fun c hc => hds c (List.mem_of_mem_take hc)
          have hGl : G < 18446744073709551616 := by
            rw [hG]
            have h1 := decVal_lt _ hdk
            have h2 : 10 ^ (m.take k).length ≤ 10 ^ 19 := Nat.pow_le_pow_right (by decide) (by rw [List.length_take]; omega)
            omega
          have HPU : Hid (∀ W, Calls Tryd.prog 76 #[.string (s.extract 0 k), .int .i64 10, .int .i64 64] W fun e w' => e = .returned (.tuple #[.int .u64 (G : Int), .nilIface]) ∧ Upd [] W w') := fun W => by
            have hl2 : (m.take k).length = k := by rw [List.length_take]; omega
            have h : Lib.parseUintB 64 (s.extract 0 k).data.toList = .ok G := by
              rw [extract_take, ← hm, hG]
              exact parse_ok (m.take k) hdk (by intro h; rw [h] at hl2; simp at hl2; omega) (by omega)
            refine (Tryd.strconv_ParseUint_10_at64_ok (s.extract 0 k) (by rw [ByteArray.size_extract]; omega) G h W).mono ?_
            rintro e w' ⟨rfl, h⟩
            exact ⟨rfl, bytes_upd _ _ _ h⟩
          have HNEW : Hid (Digs (s.extract k s.size).data.toList ∧ (A * 10000000000000000000 + G) * 10 ^ (s.extract k s.size).data.toList.length + decVal (s.extract k s.size).data.toList = decVal l ∧ (A * 10000000000000000000 + G = 0 ∨ (s.extract k s.size).data.toList.length % 19 = 0) ∧ (s.extract k s.size).size ≤ 2000 ∧ (s.extract k s.size).size < s.size) := by
            rw [extract_drop, ← hm, hG]
            refine ⟨fun c hc => hds c (List.mem_of_mem_drop hc), hA', .inr h19', ?_, ?_⟩
            · rw [ByteArray.size_extract]; omega
            · rw [ByteArray.size_extract]; omega
          have hAl : (wds A).length ≤ 2000 := by
            obtain ⟨E, hE⟩ : ∃ E, E = 2000 := ⟨_, rfl⟩
            rw [← hE]
            exact par_len (Nat.le_trans (Nat.le_add_right _ _) (Nat.le_of_eq hA)) (Nat.lt_of_lt_of_le (decVal_lt l HDL.out) (Nat.pow_le_pow_right (by decide) (by rw [hE]; exact H2.out)))
          have HGL := Lib.hid hGl
          have HAL := Lib.hid hAl
          have HMUL : Hid (∀ W u v, NV W u A → NV W v 10000000000000000000 → Calls Tryd.prog 22 #[u, v] W (RNat (A * 10000000000000000000) W)) := fun W u v h1 h2 => mul_any _ _ _ _ W h1 h2 (by have := HAL.out; omega) (by have := (wds_length_le_iff 10000000000000000000 1).2 (by decide); omega)
          have HADD : Hid (∀ W u v, NV W u (A * 10000000000000000000) → NV W v G → Calls Tryd.prog 21 #[u, v] W (RNat (A * 10000000000000000000 + G) W)) := fun W u v h1 h2 => add_any _ _ _ _ W h1 h2 (by
            have h4 : (wds (A * 10000000000000000000)).length ≤ 2001 := by
              obtain ⟨E, hE⟩ : ∃ E, E = 2000 := ⟨_, rfl⟩
              have h3 := HAL.out
              rw [← hE, wds_length_le_iff] at h3
              rw [show 2001 = E + 1 by omega, wds_length_le_iff, Nat.pow_succ]
              exact Nat.mul_lt_mul'' h3 (by decide)
            omega) (by have := (wds_length_le_iff G 1).2 (by have := HGL.out; omega); omega)
          have HOX : Hid (∀ W v, Sl W v [.int .u64 10000000000000000000] → Calls Tryd.prog 14 #[v] W (RNat 10000000000000000000 W)) := fun W v h => by
            have := of_any v [10000000000000000000] W h (by simp) (by simp)
            simpa [wval] using this
          have HOG : Hid (∀ W v, Sl W v [.int .u64 (G : Int)] → Calls Tryd.prog 14 #[v] W (RNat G W)) := fun W v h => by
            have := of_any v [G] W h (by simp) (by simpa using HGL.out)
            simpa [wval] using this
          clear hs0 hm hml hk hq hkq hds hA h19 hs2 hA' h19' hkl hk1 hk19 hG hdk hGl hAl
          go_wp2_with fail
          refine (HPU.out _).mono ?_
          rintro e w3 ⟨rfl, hu3⟩
          have HA3 := Lib.hid (HAT.out.upd0 hu3)
          clear d0 d1 e0 e1 hu3 HAT
          obtain ⟨d0, d1, e0, e1⟩ := HA3.out.cells
          have hcA : ∀ W, Upd [] w3 W → W.cell? ⟨g, 0, none⟩ = some (.slice a la ca) := fun W h => (HA3.out.upd0 h).cells.2.1
          have hfA : ∀ W, Upd [] w3 W → W.frozen? ⟨g, 0, none⟩ = false := fun W h => (HA3.out.upd0 h).cells.2.2.2
          go_wp2_with fail
          have hrf : Upd [] w3 w3 := Upd.refl _ _
          have lg3 := World.block_lt_of_cell? w3 _ d1
          dsimp only at lg3
          have mg3 : ¬ g = w3.heap.size := by omega
          have mg4 : ¬ g = w3.heap.size + 1 := by omega
          go_region_with
            (first
              | (go_at_call 14; (fail_if_success (have hh := HNX)); refine Calls.mono (HOX.out _ _ ?_) ?_; (focus (refine sl_cell ?_; first | (go_simp; done) | (rw [hcz _ (by first | omega | (simp; done) | (simp; omega))]; go_simp; done) | (rw [hcz _ (by first | omega | (simp; done) | (simp; omega)), hcy _ (by first | omega | (simp; done) | (simp; omega))]; go_simp; done))); rintro e wz ⟨vX, rfl, hnX, hu20⟩; (try (have HNM := Lib.hid (HNM.out.upd0 (Upd.trans0 (by repeat (first | exact Upd.refl _ _ | apply Upd.drew | apply Upd.alloc)) hu20)))); (try (have HNG := Lib.hid (HNG.out.upd0 (Upd.trans0 (by repeat (first | exact Upd.refl _ _ | apply Upd.drew | apply Upd.alloc)) hu20)))); have HNX := Lib.hid hnX; clear hnX; have huz : Upd [] w3 wz := Upd.trans0 (by repeat (first | exact huy | exact hrf | apply Upd.drew | apply Upd.alloc)) hu20; (try have hcy := hcz); obtain ⟨hcz, hfz, hsz⟩ := upd_facts hu20; (try simp only [World.size_alloc, World.size_drew] at hsz); (try clear huy); clear hu20; have huy := huz; clear huz; have dgz := hcA _ huy; have egz := hfA _ huy; have lgz := World.block_lt_of_cell? wz _ dgz; (try dsimp only at lgz); have mgz : ¬ g = wz.heap.size := (by omega); have mgz2 : ¬ g = wz.heap.size + 1 := (by omega))
              | (go_at_call 14; (fail_if_success (have hh := HNG)); refine Calls.mono (HOG.out _ _ ?_) ?_; (focus (refine sl_cell ?_; first | (go_simp; done) | (rw [hcz _ (by first | omega | (simp; done) | (simp; omega))]; go_simp; done) | (rw [hcz _ (by first | omega | (simp; done) | (simp; omega)), hcy _ (by first | omega | (simp; done) | (simp; omega))]; go_simp; done))); rintro e wz ⟨vG, rfl, hnG, hu20⟩; (try (have HNX := Lib.hid (HNX.out.upd0 (Upd.trans0 (by repeat (first | exact Upd.refl _ _ | apply Upd.drew | apply Upd.alloc)) hu20)))); (try (have HNM := Lib.hid (HNM.out.upd0 (Upd.trans0 (by repeat (first | exact Upd.refl _ _ | apply Upd.drew | apply Upd.alloc)) hu20)))); have HNG := Lib.hid hnG; clear hnG; have huz : Upd [] w3 wz := Upd.trans0 (by repeat (first | exact huy | exact hrf | apply Upd.drew | apply Upd.alloc)) hu20; (try have hcy := hcz); obtain ⟨hcz, hfz, hsz⟩ := upd_facts hu20; (try simp only [World.size_alloc, World.size_drew] at hsz); (try clear huy); clear hu20; have huy := huz; clear huz; have dgz := hcA _ huy; have egz := hfA _ huy; have lgz := World.block_lt_of_cell? wz _ dgz; (try dsimp only at lgz); have mgz : ¬ g = wz.heap.size := (by omega); have mgz2 : ¬ g = wz.heap.size + 1 := (by omega))
              | (go_at_call 22; refine Calls.mono (HMUL.out _ _ _ ?_ ?_) ?_; (focus (refine HA3.out.na.upd0 ?_; (repeat (first | exact huy | exact hrf | apply Upd.drew | apply Upd.alloc)); done)); (focus ((refine NV.upd0 HNX.out ?_); (repeat (first | exact Upd.refl _ _ | apply Upd.drew | apply Upd.alloc)); done)); rintro e wz ⟨vM, rfl, hnM, hu20⟩; (try (have HNX := Lib.hid (HNX.out.upd0 (Upd.trans0 (by repeat (first | exact Upd.refl _ _ | apply Upd.drew | apply Upd.alloc)) hu20)))); (try (have HNG := Lib.hid (HNG.out.upd0 (Upd.trans0 (by repeat (first | exact Upd.refl _ _ | apply Upd.drew | apply Upd.alloc)) hu20)))); have HNM := Lib.hid hnM; clear hnM; have huz : Upd [] w3 wz := Upd.trans0 (by repeat (first | exact huy | exact hrf | apply Upd.drew | apply Upd.alloc)) hu20; (try have hcy := hcz); obtain ⟨hcz, hfz, hsz⟩ := upd_facts hu20; (try simp only [World.size_alloc, World.size_drew] at hsz); (try clear huy); clear hu20; have huy := huz; clear huz; have dgz := hcA _ huy; have egz := hfA _ huy; have lgz := World.block_lt_of_cell? wz _ dgz; (try dsimp only at lgz); have mgz : ¬ g = wz.heap.size := (by omega); have mgz2 : ¬ g = wz.heap.size + 1 := (by omega))
              | (go_at_call 21; refine Calls.mono (HADD.out _ _ _ ?_ ?_) ?_; (focus ((refine NV.upd0 HNM.out ?_); (repeat (first | exact Upd.refl _ _ | apply Upd.drew | apply Upd.alloc)); done)); (focus ((refine NV.upd0 HNG.out ?_); (repeat (first | exact Upd.refl _ _ | apply Upd.drew | apply Upd.alloc)); done)); rintro e wz ⟨vS, rfl, hnS, hu20⟩; obtain ⟨aS, cS, rfl, _, _⟩ := hnS.open; have HNS := Lib.hid hnS; clear hnS; have huz : Upd [] w3 wz := Upd.trans0 (by repeat (first | exact huy | exact hrf | apply Upd.drew | apply Upd.alloc)) hu20; (try have hcy := hcz); obtain ⟨hcz, hfz, hsz⟩ := upd_facts hu20; (try simp only [World.size_alloc, World.size_drew] at hsz); (try clear huy); clear hu20; have huy := huz; clear huz; have dgz := hcA _ huy; have egz := hfA _ huy; have lgz := World.block_lt_of_cell? wz _ dgz; (try dsimp only at lgz); have mgz : ¬ g = wz.heap.size := (by omega); have mgz2 : ¬ g = wz.heap.size + 1 := (by omega)))
          all_goals
            have HP3 := Lib.hid (ParAt.put HSG.out.2 (by have := HSG.out.1; omega) (HA3.out.upd0 huy) HNS.out)
            clear hcA hfA huy
            go_wp2_with fail
            refine ⟨⟨_, rfl, _, _, _, _, HP3.out, HNEW.out.1, HNEW.out.2.1, HNEW.out.2.2.1, HNEW.out.2.2.2.1⟩, ?_⟩
            show (s.extract k s.size).size < s.size
            exact HNEW.out.2.2.2.2
    · have HP : Hid ((parseOf l).1 = 4 ∧ (parseOf l).2 = 0) := by
        show _ ∧ _
        unfold parseOf
        rw [if_neg (by rw [HSZ.out]; exact h2000), if_neg htx]
        exact ⟨rfl, rfl⟩
      rw [← HLL.out, show isTxt l = false by simpa using htx] at HI
      clear h2000 htx
      go_enter Tryd.func32, Tryd.ntmps32
      go_wp2_with fail
      rw [← HW0.out]
      rw [← HS.out]
      refine HI.out.mono ?_
      rintro e w1 ⟨rfl, hu1⟩
      have hr1 := (hu1.block _ (lt_of_block HR0.out) (by simp)).trans HR0.out
      have z0 : w1.cell? ⟨S, 0, none⟩ = some (.slice none 0 0) := by rw [cell_of_row w1 _ 0 _ _ _ hr1]; rfl
      have z1 : w1.frozen? ⟨S, 0, none⟩ = false := frozen_of_row w1 _ 0 _ _ hr1
      have HU1 := Lib.hid (HU0.out.trans0 hu1)
      have HRS := Lib.hid (one_setCell (u := .slice none 0 0) hr1)
      have HUS := Lib.hid (HU1.out.setCell (p := ⟨S, 0, none⟩) (.inr (Nat.le_of_eq HS.out.symm)) (.slice none 0 0))
      clear hu1 hr1
      go_wp2_with fail
      have z2 : (w1.setCell ⟨S, 0, none⟩ (.slice none 0 0)).cell? ⟨S, 0, none⟩ = some (.slice none 0 0) := by rw [cell_of_row _ _ 0 _ _ _ HRS.out]; rfl
      refine bodyPost_ret (v := .tuple #[.agg #[.slice none 0 0], .int .i64 4]) (by simp [results, Tryd.results32, go_sem, z2]) rfl ?_
      exact HOUT0.out _ 4 HUS.out HP.out.1 HP.out.2
end Go.Proofs.YtcehkflkekefpaaDoor
