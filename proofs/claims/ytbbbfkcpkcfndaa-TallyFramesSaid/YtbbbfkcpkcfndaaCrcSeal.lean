/- The contracts of bytes.Equal, crc.Seal, crc.Open and of the own Seal of the document. -/
import Derived.Test.YtbbbfkcpkcfndaaCrcMore
import Derived.Shelf.Bytes.SlSmallAll
import Derived.Test.YtbbbfkcpkcfndaaLawJoins
namespace Go.Proofs.Ytbbbfkcpkcfndaa
open Go.RowKit Go.Proofs.Tm
set_option linter.unusedVariables false
set_option maxRecDepth 20000

/-- Bytes as a string. -/
def bstr (bs : List Nat) : ByteArray := strOfNums (bs.map Int.ofNat)

theorem sl_convert {P : Program} {src e dst : TypeId} (hs : P.underlying src = some (.slice e)) (he : P.underlying e = some (.int .u8)) (hd : P.underlying dst = some .string)
    {w : World} {v : Value} {bs : List Nat} (h : Sl w v (cu8 bs)) : (convert src dst v).run P w = .ok (.string (bstr bs)) w := by
  obtain ⟨a, cap, rfl, _, _, h3⟩ := h
  rw [cu8_length]
  by_cases h0 : bs = []
  · subst h0
    exact run_convert_bytes_zero w src e hs he a cap dst hd
  · obtain ⟨b, o, rfl, hc⟩ := h3 (by intro h; apply h0; have := congrArg List.length h; simp at this; exact this)
    refine run_convert_bytes_arg w src e hs he b o bs.length cap (bs.map Int.ofNat) (by simp) (fun i hi => ?_) dst hd
    rw [hc i (by simpa using hi), cu8_getElem?]
    simp [hi]

theorem bstr_inj {xs ys : List Nat} (hx : ∀ b ∈ xs, b < 256) (hy : ∀ b ∈ ys, b < 256) (h : (bstr xs).toList = (bstr ys).toList) : xs = ys := by
  unfold bstr at h
  rw [Lib.strOfNums_toList, Lib.strOfNums_toList] at h
  unfold Lib.bytesOf at h
  have h2 := congrArg (List.map UInt8.toNat) h
  simp only [List.map_map] at h2
  have e : ∀ l : List Nat, (∀ b ∈ l, b < 256) → List.map (UInt8.toNat ∘ (fun (n : Int) => UInt8.ofNat n.toNat) ∘ Int.ofNat) l = l := by
    intro l hl
    rw [List.map_congr_left (g := id)]
    · simp
    · intro b hb
      have := hl b hb
      simp [Nat.mod_eq_of_lt this]
  rw [e xs hx, e ys hy] at h2
  exact h2

set_option maxHeartbeats 400000 in
theorem beq_any (av bv : Value) (xs ys : List Nat) (w : World) (ha : Sl w av (cu8 xs)) (hb : Sl w bv (cu8 ys)) (hx : ∀ b ∈ xs, b < 256) (hy : ∀ b ∈ ys, b < 256) :
    Calls Try.prog 91 #[av, bv] w fun e w' => e = .returned (.bool (decide (xs = ys))) ∧ w = w' := by
  have h1 := sl_convert (P := Try.prog) (dst := 9) Try.underlying24 Try.underlying5 Try.underlying9 ha
  have h2 := sl_convert (P := Try.prog) (dst := 9) Try.underlying24 Try.underlying5 Try.underlying9 hb
  have HI := Lib.hid (fun h => bstr_inj hx hy h)
  clear ha hb hx hy
  obtain ⟨s, hs⟩ : ∃ s, s = bstr xs := ⟨_, rfl⟩
  obtain ⟨t, ht⟩ : ∃ t, t = bstr ys := ⟨_, rfl⟩
  rw [← hs] at h1
  rw [← ht] at h2
  have H1 := Lib.hid hs
  have H2 := Lib.hid ht
  clear hs ht
  go_enter Try.func91, Try.ntmps91
  go_wp2
  go_ret
  refine ⟨ret_bool ?_, rfl⟩
  rw [H1.out, H2.out, Bool.eq_iff_iff, beq_iff_eq, decide_eq_true_eq]
  exact ⟨HI.out, fun h => by rw [h]⟩

/-- What is sealed: bytes, and their sum behind them. -/
def sealL (l : List Nat) : List Nat := l ++ [sumL l / 16777216, sumL l / 65536 % 256, sumL l / 256 % 256, sumL l % 256]

set_option maxHeartbeats 800000 in
theorem rseal_any (bv : Value) (bs : List Nat) (w : World) (h : Sl w bv (cu8 bs)) (hb : ∀ b ∈ bs, b < 256) (hl : bs.length ≤ 1099511627776) :
    Calls Try.prog 71 #[bv] w fun e w' => ∃ v, e = .returned v ∧ w'.ownsRow w.heap.size 5 1 v (bs.length + 4) (cu8 (sealL bs)) ∧ Upd [] w w' := by
  have H := Lib.hid (rsum_any bv bs w h hb)
  have HS := Lib.hid h
  clear h hb
  go_enter Try.func71, Try.ntmps71
  go_wp2_with fail
  refine H.out.mono ?_
  rintro e w1 ⟨rfl, rfl⟩
  have hs := sumL_lt bs
  have HE : Hid (cu8 (sealL bs) = cu8 bs ++ [Value.int .u8 ((sumL bs / 16777216 : Nat) : Int), Value.int .u8 ((sumL bs / 65536 % 256 : Nat) : Int), Value.int .u8 ((sumL bs / 256 % 256 : Nat) : Int), Value.int .u8 ((sumL bs % 256 : Nat) : Int)]) := by
    show _ = _
    unfold sealL; rw [cu8_append]; rfl
  generalize sumL bs = s at *
  go_wp2_with (at_builtin; refine wpList_append_sl _ rfl (.tmp 6) (.tmp 7) 24 rfl w.heap.size 5 (.int .u8 0) 1 Try.underlying24 infoU8 rfl _ _ _ rfl (own_lit w 5 #[] (by decide)) _ (cu8 bs) rfl (HS.out.upd0 ((Upd.refl _ _).alloc _)) (cu8_one _) ?c2 ?c3 ?c4 ?go)
  case c2 => unfold maxLen; simp; omega
  case c3 => simp; omega
  case c4 => simp
  case go =>
    intro v1 w1 ho hg _
    have HO : Hid (w1.ownsRow w.heap.size 5 1 v1 bs.length (cu8 bs)) := by show World.ownsRow _ _ _ _ _ _ _; simpa using ho
    have HU : Hid (Upd [] w w1) := ((Upd.refl _ _).alloc _).grown hg (fun k hk => .inr (by simp [Value.ownBlock] at hk; omega))
    have d1 : IntKind.u8.wrap ((s : Int) / 16777216) = ((s / 16777216 : Nat) : Int) := by rw [IntKind.wrap_u8']; omega
    have d2 : IntKind.u8.wrap ((s : Int) / 65536) = ((s / 65536 % 256 : Nat) : Int) := by rw [IntKind.wrap_u8']; omega
    have d3 : IntKind.u8.wrap ((s : Int) / 256) = ((s / 256 % 256 : Nat) : Int) := by rw [IntKind.wrap_u8']; omega
    have d4 : IntKind.u8.wrap (s : Int) = ((s % 256 : Nat) : Int) := by rw [IntKind.wrap_u8']; omega
    clear ho hg
    go_wp2_with (at_builtin; refine wpList_append_sl _ rfl (.tmp 8) (.tmp 20) 24 rfl w.heap.size 5 (.int .u8 0) 1 Try.underlying24 infoU8 rfl _ _ _ rfl (HO.out.alloc _) _ _ rfl (Sl.own (own_lit w1 _ _ (by simp [maxLen]))) ?d1 ?d2 ?d3 ?d4 ?go2)
    case d1 => exact ⟨rfl, rfl, rfl, rfl⟩
    case d2 => unfold maxLen; first | omega | (simp; omega)
    case d3 => first | omega | (simp; omega)
    case d4 => have := HU.out.size; simp; omega
    case go2 =>
      intro v2 w2 ho hg _
      have HO2 : Hid (w2.ownsRow w.heap.size 5 1 v2 (bs.length + 4) (cu8 (sealL bs))) := by show World.ownsRow _ _ _ _ _ _ _; rw [HE.out]; simpa using ho
      have HU2 : Hid (Upd [] w w2) := (HU.out.alloc _).grown hg (fun k hk => .inr (HO.out.lt k hk).1)
      clear ho hg
      go_wp2
      go_ret
      exact ⟨_, rfl, HO2.out, HU2.out⟩

set_option maxHeartbeats 800000 in
theorem seal_any (bv : Value) (bs : List Nat) (w : World) (h : Sl w bv (cu8 bs)) (hb : ∀ b ∈ bs, b < 256) (hl : bs.length ≤ 1099511627776) :
    Calls Try.prog 69 #[bv] w fun e w' => ∃ v, e = .returned v ∧ w'.ownsRow w.heap.size 5 1 v (bs.length + 4) (cu8 (sealL bs)) ∧ Upd [] w w' := by
  have hsz : (Try.prog.info? 5).map (·.size) = some 1 := by obtain ⟨i0, hi, hz0, hz1, hz2⟩ := info_parts infoU8; rw [hi]; simp [hz1]
  have HS := Lib.hid h
  have HB := Lib.hid hb
  obtain ⟨a, cap, rfl, hlc, hcm, _⟩ := h
  simp only [cu8_length] at HS hlc ⊢
  have HE : Hid (cu8 (sealL bs) = cu8 bs ++ (List.range 4).map fun q => Value.int .u8 ((sumL bs / 2 ^ (8 * (3 - q)) % 256 : Nat) : Int)) := by
    show _ = _
    have hs := sumL_lt bs
    unfold sealL
    rw [cu8_append]
    show _ = _ ++ [_, _, _, _]
    simp [cu8]
    omega
  clear hb
  go_enter Try.func69, Try.ntmps69
  go_wp2_with (refine wpList_make_lc _ rfl (.tmp 7) (.tmp 10) 24 rfl 5 (.int .u8 0) 1 Try.underlying24 infoU8 rfl .i64 .i64 _ _ bs.length (bs.length + 4) rfl rfl rfl (by simp) (by omega) (by omega) (by unfold maxLen; omega) ?_)
  intro w1 ho hu hw
  have HU := Lib.hid hu
  go_wp2_with (refine wpList_copy_sl _ rfl (.tmp 12) (.tmp 13) 24 rfl w.heap.size 5 Try.underlying24 hsz _ bs.length _ rfl ho _ (cu8 bs) rfl (HS.out.upd0 hu) (cu8_one _) ?c2)
  case c2 =>
    intro w2 ho2 hg2
    have HO : Hid (w2.ownsRow w.heap.size 5 1 (.slice (some ⟨w.heap.size, 0, none⟩) bs.length (bs.length + 4)) bs.length (cu8 bs)) := by
      show World.ownsRow _ _ _ _ _ _ _
      have := ho2
      rw [List.take_of_length_le (by simp)] at this
      simpa using this
    have HU2 : Hid (Upd [] w w2) := HU.out.grown hg2 (fun k hk => .inr (by simp [Value.ownBlock] at hk; omega))
    clear ho2 hg2 ho hu
    go_wp2_with fail
    refine (sum_any _ bs w2 (HS.out.upd0 HU2.out) HB.out).mono ?_
    rintro e w3 ⟨rfl, hu3⟩
    have HO3 := Lib.hid (ownsRow_upd HO.out hu3 (by simp))
    have HU3 := Lib.hid (HU2.out.trans0 hu3)
    have hs := sumL_lt bs
    generalize sumL bs = s at *
    clear hu3
    go_wp2
    go_loopw [3, 17] (fun s3 s17 wr => ∃ q : Nat, q ≤ 4 ∧ s17 = .int .i64 q ∧ wr.ownsRow w.heap.size 5 1 s3 (bs.length + q) (cu8 bs ++ (List.range q).map fun q => Value.int .u8 ((s / 2 ^ (8 * (3 - q)) % 256 : Nat) : Int)) ∧ Upd [] w wr) (fun _ s17 _ => 4 - (intOf s17).toNat)
    case atStart => exact ⟨0, by omega, rfl, by simpa using HO3.out, HU3.out⟩
    case round =>
      obtain ⟨q, hq, rfl, hown, hup⟩ := hrel
      obtain ⟨wo, rfl⟩ : ∃ wo : World, wo = wr := ⟨_, rfl⟩
      have HOW := Lib.hid hown
      have HUP := Lib.hid hup
      clear hown hup
      by_cases hq4 : q < 4
      · have e1 : IntKind.i64.wrap (3 - (q : Int)) = ((3 - q : Nat) : Int) := by rw [IntWalk.i64_in _ (by omega)]; omega
        go_wp2_with (at_builtin; refine wpList_append_sl _ rfl (.tmp 20) (.tmp 27) 24 rfl w.heap.size 5 (.int .u8 0) 1 Try.underlying24 infoU8 rfl _ _ _ rfl (HOW.out.alloc _) _ _ rfl (Sl.lit1 wo _ _) ?c1 ?c2 ?c3 ?c4 ?go)
        case c1 => intro u hu; simp at hu; subst hu; rfl
        case c2 => unfold maxLen; first | omega | (simp; omega)
        case c3 => first | omega | (simp; omega)
        case c4 => have := HUP.out.size; simp; omega
        case go =>
          intro v4 w4 ho4 hg4 _
          have HO4 : Hid (w4.ownsRow w.heap.size 5 1 v4 (bs.length + (q + 1)) (cu8 bs ++ (List.range (q + 1)).map fun q => Value.int .u8 ((s / 2 ^ (8 * (3 - q)) % 256 : Nat) : Int))) := by
            show World.ownsRow _ _ _ _ _ _ _
            rw [List.range_succ, List.map_append, ← List.append_assoc, ← Nat.add_assoc]
            simpa using ho4
          have HU4 : Hid (Upd [] w w4) := (HUP.out.alloc _).grown hg4 (fun k hk => .inr (HOW.out.lt k hk).1)
          clear ho4 hg4 e1
          go_wp2
          go_roundw
          case rel => exact ⟨q + 1, by omega, by go_num, HO4.out, HU4.out⟩
          case measure => simp [intOf]; omega
      · obtain rfl : q = 4 := by omega
        go_wp2
        go_ret
        exact ⟨_, rfl, by rw [HE.out]; exact HOW.out, HUP.out⟩

theorem sealL_length (l : List Nat) : (sealL l).length = l.length + 4 := by simp [sealL]
theorem sealL_lt (l : List Nat) (h : ∀ b ∈ l, b < 256) : ∀ b ∈ sealL l, b < 256 := by
  intro b hb
  have := sumL_lt l
  simp only [sealL, List.mem_append, List.mem_cons, List.not_mem_nil, or_false] at hb
  rcases hb with hb | hb | hb | hb | hb
  · exact h b hb
  all_goals omega

/-- What Open tells. -/
def openOk (l : List Nat) : Bool := decide (4 ≤ l.length) && decide (sealL (l.take (l.length - 4)) = l)

set_option maxHeartbeats 400000 in
/-- Too little. -/
theorem open_end (bv : Value) (bs : List Nat) (w : World) (h : Sl w bv (cu8 bs)) (hl : bs.length < 4) :
    Calls Try.prog 70 #[bv] w fun e w' => e = .returned (.tuple #[.slice none 0 0, .int .i64 5]) ∧ w = w' := by
  obtain ⟨a, cap, rfl, hlc, hcm, _⟩ := h
  simp only [cu8_length] at *
  have h1 : ((bs.length : Int) - 4 < 0) := by omega
  go_enter Try.func70, Try.ntmps70
  go_wp2
  go_ret2
  exact ⟨rfl, rfl⟩

set_option maxHeartbeats 400000 in
/-- Another sum. -/
theorem open_sum (bv : Value) (bs : List Nat) (w : World) (h : Sl w bv (cu8 bs)) (hb : ∀ b ∈ bs, b < 256) (hl : 4 ≤ bs.length) (hm : bs.length ≤ 1099511627776) (hn : sealL (bs.take (bs.length - 4)) ≠ bs) :
    Calls Try.prog 70 #[bv] w fun e w' => e = .returned (.tuple #[.slice none 0 0, .int .i64 6]) ∧ Upd [] w w' := by
  have HS := Lib.hid h
  have HB := Lib.hid hb
  obtain ⟨a, cap, rfl, hlc, hcm, _⟩ := h
  simp only [cu8_length] at *
  have h1 : (0 : Int) ≤ (bs.length : Int) - 4 := by omega
  have HT : Hid (Sl w (.slice a (bs.length - 4) cap) (cu8 (bs.take (bs.length - 4)))) := by
    have := sl_take HS.out (bs.length - 4) (by omega)
    show Sl _ _ _
    simpa [cu8, List.map_take] using this
  have HTB : Hid (∀ b ∈ bs.take (bs.length - 4), b < 256) := fun b hb => HB.out b (List.mem_of_mem_take hb)
  have HD : Hid (decide (sealL (bs.take (bs.length - 4)) = bs) = false) := by show _ = _; simpa using hn
  obtain ⟨k, hk⟩ : ∃ k, k = bs.length - 4 := ⟨_, rfl⟩
  have h2 : (bs.length : Int) - 4 = (k : Int) := by omega
  rw [← hk] at HT HTB HD
  clear hn hb hk
  go_enter Try.func70, Try.ntmps70
  go_wp2_with fail
  refine (seal_any _ (bs.take k) w HT.out HTB.out (by simp; omega)).mono ?_
  rintro e w1 ⟨v, rfl, ho, hu⟩
  have HBE := Lib.hid (beq_any v (.slice a bs.length cap) (sealL (bs.take k)) bs w1 (Sl.own ho) (HS.out.upd0 hu) (sealL_lt _ HTB.out) HB.out)
  rw [HD.out] at HBE
  have HU := Lib.hid hu
  clear ho hu
  go_wp2_with fail
  refine HBE.out.mono ?_
  rintro e w2 ⟨rfl, rfl⟩
  go_wp2
  go_ret2
  exact ⟨rfl, HU.out⟩

theorem sl_cut3 {w : World} {a : Option Addr} {n cap : Nat} {xs : List Value} (h : Sl w (.slice a n cap) xs) (k : Nat) (hk : k ≤ n) : Sl w (.slice a k k) (xs.take k) := by
  obtain ⟨a', cap', he, h1, h2, h3⟩ := h
  simp only [Value.slice.injEq] at he
  obtain ⟨rfl, rfl, rfl⟩ := he
  have hl : (xs.take k).length = k := by simp; omega
  refine ⟨a, k, by rw [hl], by rw [hl]; exact Nat.le_refl _, by omega, fun hne => ?_⟩
  obtain ⟨b, o, rfl, hc⟩ := h3 (by rintro rfl; simp at hne)
  refine ⟨b, o, rfl, fun i hi => ?_⟩
  rw [hl] at hi
  rw [hc i (by omega), List.getElem?_take, if_pos hi]

set_option maxHeartbeats 400000 in
/-- The sum is right. -/
theorem open_ok (bv : Value) (bs : List Nat) (w : World) (h : Sl w bv (cu8 bs)) (hb : ∀ b ∈ bs, b < 256) (hl : 4 ≤ bs.length) (hm : bs.length ≤ 1099511627776) (hn : sealL (bs.take (bs.length - 4)) = bs) :
    Calls Try.prog 70 #[bv] w fun e w' => ∃ v, e = .returned (.tuple #[v, .int .i64 0]) ∧ Sl w' v (cu8 (bs.take (bs.length - 4))) ∧ Upd [] w w' := by
  have HS := Lib.hid h
  have HB := Lib.hid hb
  obtain ⟨a, cap, rfl, hlc, hcm, _⟩ := h
  simp only [cu8_length] at *
  have h1 : (0 : Int) ≤ (bs.length : Int) - 4 := by omega
  have HT : Hid (Sl w (.slice a (bs.length - 4) cap) (cu8 (bs.take (bs.length - 4)))) := by
    have := sl_take HS.out (bs.length - 4) (by omega)
    show Sl _ _ _
    simpa [cu8, List.map_take] using this
  have HTB : Hid (∀ b ∈ bs.take (bs.length - 4), b < 256) := fun b hb => HB.out b (List.mem_of_mem_take hb)
  have HD : Hid (decide (sealL (bs.take (bs.length - 4)) = bs) = true) := by show _ = _; simpa using hn
  obtain ⟨k, hk⟩ : ∃ k, k = bs.length - 4 := ⟨_, rfl⟩
  have h2 : (bs.length : Int) - 4 = (k : Int) := by omega
  rw [← hk] at HT HTB HD
  rw [← hk]
  have HK4 : Hid (bs.length = k + 4) := by show _ = _; omega
  clear hn hb hk
  go_enter Try.func70, Try.ntmps70
  go_wp2_with fail
  refine (seal_any _ (bs.take k) w HT.out HTB.out (by simp; omega)).mono ?_
  rintro e w1 ⟨v, rfl, ho, hu⟩
  have HBE := Lib.hid (beq_any v (.slice a bs.length cap) (sealL (bs.take k)) bs w1 (Sl.own ho) (HS.out.upd0 hu) (sealL_lt _ HTB.out) HB.out)
  rw [HD.out] at HBE
  have hlk : (bs.take k).length = k := by simp; omega
  rw [hlk] at ho
  obtain ⟨g, cp, hv, hlc2, _⟩ := Sl.own ho
  simp only [cu8_length, sealL_length, hlk] at hv hlc2
  subst hv
  have HR : Hid (Sl w1 (.slice g k k) (cu8 (bs.take k))) := by
    have := sl_cut3 (Sl.own ho) k (by omega)
    show Sl _ _ _
    simpa [sealL, cu8_append, hlk] using this
  have HU := Lib.hid hu
  have hkc : k ≤ cp := by omega
  clear ho hu hlk hlc2
  go_wp2_with fail
  refine HBE.out.mono ?_
  rintro e w2 ⟨rfl, rfl⟩
  go_wp2
  go_ret2
  exact ⟨_, rfl, HR.out, HU.out⟩
end Go.Proofs.Ytbbbfkcpkcfndaa
