/- CrcTable: what bytes are turned to is linear, and a step of it is eight of bits: the walk of the law, out of the contracts. -/
import Derived.Test.YtbbbfkcpkcfndaaLawCrcS
import Derived.Deep.RegionHeld3
namespace Go.Proofs.Ytbbbfkcpkcfndaa
open Go.RowKit Go.Proofs.Tm
set_option linter.unusedVariables false
set_option maxRecDepth 20000

theorem sl_bytes1 (w : World) (b : Nat) : Sl (w.alloc (.cells #[.int .u8 (b : Int)] 5)) (.slice (some ⟨w.heap.size, 0, none⟩) 1 1) (cu8 [b]) := Sl.lit1 w _ _

theorem sl_bytes1d (w : World) (b : Nat) : Sl (w.alloc (.cells #[.int .u8 (b : Int)] 5)).drew (.slice (some ⟨w.heap.size, 0, none⟩) 1 1) (cu8 [b]) := (sl_bytes1 w b).upd0 (Upd.refl _ _).drew

theorem more_one (c b m : Nat) (w : World) (hc : c < 4294967296) (hb : b < 256) (hm : m = 4294967295 - crcF c b) (bv : Value) (hs : Sl w bv (cu8 [b])) :
    Calls Try.prog 67 #[.int .u32 ((4294967295 - c : Nat) : Int), bv] w fun e w' => e = .returned (.int .u32 (m : Int)) ∧ Upd [] w w' := by
  have h := more_any (4294967295 - c) bv [b] w (by omega) hs (by simpa using hb)
  rw [show 4294967295 - (4294967295 - c) = c by omega] at h
  rw [hm]
  exact h

theorem tabs_upd {g j b x v0 v1 v2 : Nat} {w3 w' w'' : World} (hlt : g < w3.heap.size) (hu : Upd [] w' w'')
    (k0 : w'.cell? ⟨g, j, none⟩ = some (.int .u32 (v0 : Int))) (k1 : w'.cell? ⟨g, b, none⟩ = some (.int .u32 (v1 : Int))) (k2 : w'.cell? ⟨g, x, none⟩ = some (.int .u32 (v2 : Int))) (k3 : w'.cell? ⟨g, 0, none⟩ = some (.int .u32 0)) (k4 : w'.cell? ⟨g, 128, none⟩ = some (.int .u32 3988292384)) (k5 : Upd [] w3 w') :
    w''.cell? ⟨g, j, none⟩ = some (.int .u32 (v0 : Int)) ∧ w''.cell? ⟨g, b, none⟩ = some (.int .u32 (v1 : Int)) ∧ w''.cell? ⟨g, x, none⟩ = some (.int .u32 (v2 : Int)) ∧ w''.cell? ⟨g, 0, none⟩ = some (.int .u32 0) ∧ w''.cell? ⟨g, 128, none⟩ = some (.int .u32 3988292384) ∧ Upd [] w3 w'' := by
  have h : ∀ i, w''.cell? ⟨g, i, none⟩ = w'.cell? ⟨g, i, none⟩ := fun i => hu.cell (p := ⟨g, i, none⟩) (Nat.lt_of_lt_of_le hlt k5.size) (by simp)
  rw [h, h, h, h, h]
  exact ⟨k0, k1, k2, k3, k4, k5.trans0 hu⟩

set_option maxHeartbeats 3200000 in
theorem crcTable_law (b c : Nat) (w : World) (hb : b < 256) (hc : c < 4294967296) :
    Calls Try.prog 14 #[.int .u8 (b : Int), .int .u32 (c : Int)] w fun e w' => e = .returned (.bool true) ∧ Upd [] w w' := by
  obtain ⟨x, hx⟩ : ∃ x, x = c % 256 := ⟨_, rfl⟩
  have hx2 : x < 256 := by omega
  have hw : IntKind.u8.wrap (c : Int) = (x : Int) := by rw [IntKind.wrap_u8']; omega
  obtain ⟨j, hj⟩ : ∃ j, j = b ^^^ x := ⟨_, rfl⟩
  have hj2 : j < 256 := by rw [hj]; exact Nat.xor_lt_two_pow (n := 8) hb hx2
  have hx1 : bits .xor .u8 (b : Int) (x : Int) = (j : Int) := by rw [hj]; exact u8_xor_nat _ _ hb hx2
  have hx3 : bits .xor .u8 (x : Int) (b : Int) = (j : Int) := by rw [hj, Nat.xor_comm]; exact u8_xor_nat _ _ hx2 hb
  have hlin : stpN 8 b ^^^ stpN 8 x = stpN 8 j := by rw [hj, stpN_xor]
  have hq1 : bits .xor .u32 ((stpN 8 b : Nat) : Int) ((stpN 8 x : Nat) : Int) = ((stpN 8 j : Nat) : Int) := by rw [← hlin]; exact u32_xor_nat _ _ (stpN_lt 8 _ (by omega)) (stpN_lt 8 _ (by omega))
  have hcp := compl32 c hc
  have hF : stpN 8 j ^^^ (c / 256) = crcF c b := by rw [crcF_table c b hb, ← hx, hj, Nat.xor_comm b x]
  have hq2 : bits .xor .u32 ((stpN 8 j : Nat) : Int) ((c : Int) / 256) = ((crcF c b : Nat) : Int) := by
    rw [← hF, show (c : Int) / 256 = ((c / 256 : Nat) : Int) by simp]; exact u32_xor_nat _ _ (stpN_lt 8 _ (by omega)) (by omega)
  have hFl := crcF_lt c b hc hb
  have hq3 := compl32 (crcF c b) hFl
  obtain ⟨m, hm⟩ : ∃ m, m = 4294967295 - crcF c b := ⟨_, rfl⟩
  rw [← hm] at hq3
  have i0 : (0 : Int) ≤ (j : Int) := by omega
  have i1 : (j : Int) < 256 := by omega
  have i2 : (0 : Int) ≤ (b : Int) := by omega
  have i3 : (b : Int) < 256 := by omega
  have i4 : (0 : Int) ≤ (x : Int) := by omega
  have i5 : (x : Int) < 256 := by omega
  have HMore := Lib.hid (fun w bv hs => more_one c b m w hc hb hm bv hs)
  have HJ := Lib.hid hj
  clear hx hj hlin hF hm
  have hsg : IntKind.u32.signed = false := rfl
  obtain ⟨c', hc'⟩ : ∃ c', c' = 4294967295 - c := ⟨_, rfl⟩
  rw [← hc'] at hcp HMore
  clear hc'
  go_enter Try.func14, Try.ntmps14
  go_wp2_with fail
  refine (awake4 w).mono ?_
  rintro e w1 ⟨rfl, hu1⟩
  have HU1 := Lib.hid hu1
  clear hu1
  go_wp2_with fail
  refine (table_any w1).mono ?_
  rintro e w2 ⟨arr, rfl, hsz, hv, hone, hu2⟩
  have HV := Lib.hid hv
  have HO := Lib.hid hone
  have HU2 := Lib.hid hu2
  clear hv hone hu2
  go_wp2_with (refine wpList_store_row rfl 89 _ _ rfl w2.heap.size arr rfl rfl 89 _ (heap_alloc_new _ _) (by rw [hsz]; exact tab_size) (by rw [hsz]; exact zc_size) HO.out ?_)
  have HM : Hid (MoreTo w2.heap.size w ((w2.alloc (Obj.cells Try.zeroCells89 89)).setRow w2.heap.size arr)) :=
    ⟨arr, setRow_heap _ _ _ _ _ _ (heap_alloc_new _ _), hsz, HV.out, ((HU1.out.trans0 HU2.out).alloc _).setRow (.inr (HU1.out.trans0 HU2.out).size) _⟩
  obtain ⟨g, hg⟩ : ∃ g, g = w2.heap.size := ⟨_, rfl⟩
  rw [← hg] at HM ⊢
  generalize (w2.alloc (Obj.cells Try.zeroCells89 89)).setRow g arr = w3 at HM ⊢
  clear HV HO hsz HU1 HU2 hg
  obtain ⟨arr', ha, hs, hv, hu⟩ := HM.out
  have k0 : w3.cell? ⟨g, j, none⟩ = some (.int .u32 ((stpN 8 j : Nat) : Int)) := by rw [cell_of_row w3 g j _ _ _ ha]; exact hv j hj2
  have k1 : w3.cell? ⟨g, b, none⟩ = some (.int .u32 ((stpN 8 b : Nat) : Int)) := by rw [cell_of_row w3 g b _ _ _ ha]; exact hv b hb
  have k2 : w3.cell? ⟨g, x, none⟩ = some (.int .u32 ((stpN 8 x : Nat) : Int)) := by rw [cell_of_row w3 g x _ _ _ ha]; exact hv x hx2
  have k3 : w3.cell? ⟨g, 0, none⟩ = some (.int .u32 0) := by rw [cell_of_row w3 g 0 _ _ _ ha]; exact hv 0 (by decide)
  have k4 : w3.cell? ⟨g, 128, none⟩ = some (.int .u32 3988292384) := by rw [cell_of_row w3 g 128 _ _ _ ha]; exact hv 128 (by decide)
  have HU := Lib.hid hu
  have hlt : g < w3.heap.size := lt_of_block ha
  clear ha hs hv hu HM
  generalize stpN 8 j = v0 at *
  generalize stpN 8 b = v1 at *
  generalize stpN 8 x = v2 at *
  generalize crcF c b = y at *
  go_wp2_with fail
  go_region_held3 (fun w' => w'.cell? ⟨g, j, none⟩ = some (.int .u32 (v0 : Int)) ∧ w'.cell? ⟨g, b, none⟩ = some (.int .u32 (v1 : Int)) ∧ w'.cell? ⟨g, x, none⟩ = some (.int .u32 (v2 : Int)) ∧ w'.cell? ⟨g, 0, none⟩ = some (.int .u32 0) ∧ w'.cell? ⟨g, 128, none⟩ = some (.int .u32 3988292384) ∧ Upd [] w3 w')
    (first
      | exact ⟨k0, k1, k2, k3, k4, (Upd.refl _ _).drew⟩
      | exact tabs_upd hlt ((Upd.refl _ _).alloc _).drew k0 k1 k2 k3 k4 (Upd.refl _ _)
      | exact tabs_upd hlt (((Upd.refl _ _).alloc _).drew.trans0 huy) k0 k1 k2 k3 k4 (Upd.refl _ _)
      | exact tabs_upd hlt (Upd.refl _ _) (by assumption) (by assumption) (by assumption) (by assumption) (by assumption) (by assumption)
      | exact tabs_upd hlt ((Upd.refl _ _).alloc _) (by assumption) (by assumption) (by assumption) (by assumption) (by assumption) (by assumption)
      | exact tabs_upd hlt (((Upd.refl _ _).alloc _).trans0 huy) (by assumption) (by assumption) (by assumption) (by assumption) (by assumption) (by assumption)
      | exact tabs_upd hlt huy (by assumption) (by assumption) (by assumption) (by assumption) (by assumption) (by assumption)
      | go_keep)
    (first
      | (go_at_call 67; refine (HMore.out _ _ (sl_bytes1d _ _)).mono ?_; rintro e wy ⟨rfl, huy⟩))
  go_wp2
  go_ret
  exact ⟨rfl, (HU.out.alloc _).drew.trans0 huy⟩
end Go.Proofs.Ytbbbfkcpkcfndaa
