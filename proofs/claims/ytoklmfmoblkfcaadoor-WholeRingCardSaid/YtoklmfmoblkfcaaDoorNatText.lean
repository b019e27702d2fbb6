/- The contract of nat.Text. -/
import Derived.Test.YtoklmfmoblkfcaaDoorNatGroups
import Derived.Test.YtoklmfmoblkfcaaDoorAa
import Derived.Test.YtoklmfmoblkfcaaDoorNatDec
namespace Go.Proofs.YtoklmfmoblkfcaaDoor
open Go.RowKit Go.Proofs.Tm Go.Shelf
set_option linter.unusedVariables false
set_option maxRecDepth 20000
attribute [local go_sem] Oper.semAt_some

theorem wstr (B b : Nat) (bs : List Value) (s : ByteArray) (w : World) (h : Lib.IsBuilderF 97 5 B b bs w) (hlen : bs.length + s.size ≤ 140737488355328) (hBw : B ≤ w.heap.size) :
    Calls Tryd.prog 63 #[.pointer (some ⟨b, 0, none⟩), .string s] w fun e w' => e = .returned (.tuple #[.int .i64 s.size, .nilIface]) ∧ (Lib.BuilderAtF 97 5 B b (.pointer (some ⟨b, 0, none⟩)) (bs ++ Lib.strCells s) w' ∧ Below B w w' ∧ Lib.OthersKept 5 (some b) w w') :=
  Any.Builder_WriteString_k { Tryd.lays105 with } Tryd.Builder_Extra_105 B b bs s w h hlen hBw

theorem builder_upd {T e : TypeId} {B b : Nat} {p : Value} {bs : List Value} {w w' : World} (h : Lib.BuilderAtF T e B b p bs w) (hk : ∀ (k : Nat) (o : Obj), w.heap[k]? = some o → o.isCells = true → w'.heap[k]? = some o) : Lib.BuilderAtF T e B b p bs w' := by
  obtain ⟨hB, v, hb, ⟨hl, ho⟩, hne⟩ := h
  refine ⟨hB, v, hk _ _ hb rfl, ⟨hl, ?_⟩, hne⟩
  rcases ho with h0 | ⟨g, cap, cur, fz, hv, hbg, hg, r⟩
  · exact .inl h0
  · exact .inr ⟨g, cap, cur, fz, hv, hbg, hk _ _ hg rfl, r⟩
theorem upd_blocks {w w' : World} (u : Upd [] w w') (k : Nat) (o : Obj) (h : w.heap[k]? = some o) (_ : o.isCells = true) : w'.heap[k]? = some o :=
  (u.block k (Array.getElem?_eq_some_iff.1 h).1 (by simp)).trans h

theorem byteCells_append (l m : List UInt8) : Lib.byteCells (l ++ m) = Lib.byteCells l ++ Lib.byteCells m := by simp [Lib.byteCells]
/-- More bytes are written. -/
theorem wstr2 (p : Nat) (l s : List UInt8) (W : World) (h : Lib.BuilderAtF 97 5 p p (.pointer (some ⟨p, 0, none⟩)) (Lib.byteCells l) W) (hlen : l.length + s.length ≤ 140737488355328) :
    Calls Tryd.prog 63 #[.pointer (some ⟨p, 0, none⟩), .string ⟨s.toArray⟩] W fun e w' => e = .returned (.tuple #[.int .i64 (s.length : Int), .nilIface]) ∧ Lib.BuilderAtF 97 5 p p (.pointer (some ⟨p, 0, none⟩)) (Lib.byteCells (l ++ s)) w' ∧ Below p W w' ∧ Lib.OthersKept 5 (some p) W w' := by
  have hs : ByteArray.size ⟨s.toArray⟩ = s.length := by simp [ByteArray.size]
  refine (wstr p p (Lib.byteCells l) ⟨s.toArray⟩ W (.inr h) (by rw [hs]; simpa [Lib.byteCells] using hlen) (Nat.le_of_lt h.lt)).mono ?_
  rintro e w' ⟨rfl, h1, h2, h3⟩
  refine ⟨by rw [hs], ?_, h2, h3⟩
  rw [byteCells_append]
  exact h1

theorem repeat_nought : ∀ c, Lib.repeatL [48] c = List.replicate c 48
  | 0 => rfl
  | c + 1 => by rw [Lib.repeatL, repeat_nought c, List.replicate_succ]; rfl

theorem pad_any (k c : Nat) (hk : k + c = 19) (W : World) :
    Calls Tryd.prog 65 #[.string ⟨#[48]⟩, .int .i64 (19 - (k : Int))] W fun e w' => e = .returned (.string ⟨(List.replicate c (48 : UInt8)).toArray⟩) ∧ Upd [] W w' := by
  have e : (19 : Int) - (k : Int) = (c : Int) := by omega
  rw [e]
  refine (Tryd.strings_Repeat ⟨#[48]⟩ c W (by omega) (by show 1 * c ≤ _; omega)).mono ?_
  rintro e w' ⟨rfl, h⟩
  exact ⟨by show _ = Ending.returned (.string ⟨(List.replicate c (48 : UInt8)).toArray⟩); rw [← repeat_nought c], Upd.of_below h⟩

theorem grp_cells {w : World} {v : Value} {n K : Nat} (h : Sl w v (cu64 (grps n))) (hK : (grps n).length = K + 1) : ∃ b o cap, v = .slice (some ⟨b, o, none⟩) (K + 1) cap ∧ b < w.heap.size ∧ K + 1 ≤ cap ∧ cap ≤ maxLen ∧ w.cell? ⟨b, o + K, none⟩ = some (.int .u64 ((n / 10000000000000000000 ^ K : Nat) : Int)) := by
  have hne : grps n ≠ [] := by intro e; rw [e] at hK; simp at hK
  obtain ⟨b, o, cap, hv0, hc⟩ := sl_at h (cu64_nil.2 hne)
  obtain ⟨a', cap', hv, h1, h2, _⟩ := h.open
  have e : (cu64 (grps n)).length = K + 1 := by rw [cu64_length, hK]
  rw [hv0] at hv
  simp only [Value.slice.injEq] at hv
  obtain ⟨_, _, rfl⟩ := hv
  have h0 := hc K (by rw [e]; omega)
  rw [cu64_getD _ _ (by omega)] at h0
  have h3 := grps_last n
  rw [hK, Nat.add_sub_cancel] at h3
  rw [h3] at h0
  exact ⟨b, o, cap, by rw [hv0, e], World.block_lt_of_cell? w _ h0, by rw [← e]; exact h1, h2, h0⟩

/-- Between two rounds of Text. -/
structure TxI (w w0 : World) (p n K : Nat) (Q : Nat → Prop) (cnt : Nat) (good : Prop) (l : List UInt8) (W : World) : Prop where
  b : Lib.BuilderAtF 97 5 p p (.pointer (some ⟨p, 0, none⟩)) (Lib.byteCells l) W
  len : l.length ≤ 19 * (cnt + 1)
  kq : Kq Q w0.heap.size w0 W
  u : Upd [] w W
  good : good → l = Lib.decDigits (n / 10000000000000000000 ^ (K - cnt))

def TxIn (w w0 : World) (p n K m : Nat) (Q : Nat → Prop) (pre : List (Fin m)) (W : World) : Prop := ∃ l, TxI w w0 p n K Q pre.length (Good pre) l W

theorem TxIn.from (w w0 : World) (p n K m : Nat) (Q : Nat → Prop) (hw : w.heap.size ≤ w0.heap.size) : OwnFrom w0.heap.size (TxIn w w0 p n K m Q) := fun s A B row hs hgr hr => by
  obtain ⟨l, h⟩ := hs
  refine ⟨l, builder_upd h.b (fun k o hk ho => (hgr.block k (Array.getElem?_eq_some_iff.1 hk).1 (fun e => ?_)).trans hk), h.len, ⟨Nat.le_trans h.kq.size hgr.size, fun k hk hq => (hgr.block k (Nat.lt_of_lt_of_le hk h.kq.size) (fun e => ?_)).trans (h.kq.block k hk hq)⟩, h.u.grown hgr (fun k e => .inr (Nat.le_trans hw (hr k e).1)), h.good⟩
  · obtain ⟨_, o', h1, h2⟩ := hr k e.symm
    rw [hk] at h1
    cases h1
    rw [ho] at h2
    cases h2
  · have := (hr k e.symm).1
    omega

/-- What the iterator reads stays. -/
def Qt (w0 : World) (p k : Nat) : Prop := k < p ∨ (k ≠ p ∧ ∀ c fz, w0.heap[k]? ≠ some (.cells c 5 fz))

theorem kq_of (w0 : World) (p : Nat) {A B : World} (hA : Kq (Qt w0 p) w0.heap.size w0 A) (hb : Below p A B) (h : Lib.OthersKept 5 (some p) A B) : Kq (Qt w0 p) w0.heap.size A B := by
  refine ⟨hb.size, fun k hk hq => ?_⟩
  obtain ⟨o, ho⟩ : ∃ o, w0.heap[k]? = some o := ⟨_, Array.getElem?_eq_getElem hk⟩
  have h1 := (hA.block k hk hq).trans ho
  rcases hq with hq | hq
  · exact hb.block k hq
  · rw [h1]
    exact h k o h1 (by intro e; cases e; exact hq.1 rfl) (fun c fz e => hq.2 c fz (by rw [ho, e]))
theorem upd_below {w A B : World} {p : Nat} (u : Upd [] w A) (h : Below p A B) (hp : w.heap.size ≤ p) : Upd [] w B :=
  ⟨h.os.trans u.os, h.tape.trans u.tape, h.output.trans u.output, Nat.le_trans u.size h.size, fun k hk hn => (h.block k (by omega)).trans (u.block k hk hn)⟩
theorem below_upd {A B : World} {p : Nat} (u : Upd [] A B) (hp : p ≤ A.heap.size) : Below p A B :=
  ⟨u.os, u.tape, u.output, u.size, fun k hk => u.block k (by omega) (by simp)⟩
theorem ok_upd {A B : World} (p : Nat) (u : Upd [] A B) : Lib.OthersKept 5 (some p) A B := fun k o h _ _ => (u.block k (Array.getElem?_eq_some_iff.1 h).1 (by simp)).trans h
theorem keeps_ok {A B : World} {p : Nat} {bs : List Value} {q : Value} (hb : Lib.BuilderAtF 97 5 p p q bs A) (hs : A.heap.size ≤ B.heap.size) (h : Lib.OthersKept 5 (some p) A B) : KeepsOthers A B := by
  refine ⟨hs, fun k o hk ho => h k o hk (fun e => ?_) (fun c fz e => by rw [e] at ho; cases ho)⟩
  cases e
  obtain ⟨_, v, hb, _⟩ := hb
  rw [hk] at hb
  cases hb
  cases ho

set_option maxHeartbeats 1600000 in
theorem text_any (u : Value) (n : Nat) (w : World) (hu : NV w u n) (ht : Tab w) (hlen : (wds n).length ≤ 1073741824) :
    Calls Tryd.prog 38 #[u] w fun e w' => e = .returned (.string ⟨(Lib.decDigits n).toArray⟩) ∧ Upd [] w w' := by
  obtain ⟨a, cap, rfl, hl, hcm⟩ := hu.open
  have HA := Lib.hid hu
  have HT := Lib.hid ht
  have HLEN := Lib.hid hlen
  have HG := Lib.hid (groups_any _ _ _ (hu.upd0 ((Upd.refl [] w).alloc (.cells #[.slice a (wds n).length cap] 27))) hlen)
  have hM : (grps n).length ≤ 2147483649 := by have := grps_length_le n; omega
  obtain ⟨K, hK⟩ : ∃ K, (grps n).length = K + 1 := ⟨(grps n).length - 1, by have := grps_pos n; omega⟩
  rw [hK] at hM
  have HK := Lib.hid hK
  obtain ⟨top, htop⟩ : ∃ top, top = n / 10000000000000000000 ^ K := ⟨_, rfl⟩
  have htl : top < 10000000000000000000 := by
    rw [htop]
    have h := grps_last n
    rw [hK, Nat.add_sub_cancel] at h
    rw [← h, grps_getD]
    exact Nat.mod_lt _ (by decide)
  have HTOP := Lib.hid htop
  have hnd : Lib.nDigits top ≤ 19 := (nDigits_le_iff top 19 (by decide)).2 htl
  have HTL := Lib.hid htl
  generalize (wds n).length = lm at *
  clear hu ht hlen hK htop htl
  have i1 : (((K + 1 : Nat) : Int)) - 1 = (K : Int) := by omega
  have i2 : IntKind.i64.wrap (((K + 1 : Nat) : Int) - 1) = (K : Int) := by rw [IntKind.wrap_i64]; omega
  refine (callsIn_wide (n := 3)).1 ?_
  refine callsIn_of_wp_marks Tryd.func38 rfl trivial ?_ rfl
  simp only [Tryd.ntmps38, List.size_toArray, List.length_cons, List.length_nil, Nat.reduceAdd, Nat.reduceSub, Array.replicate_succ, Array.replicate_zero, List.push_toArray, List.append_toArray, List.nil_append, List.cons_append]
  gi_wp2_with (refine ⟨trivial, ?_⟩; first
    | (gi_at_call 62; refine (callsIn_wide.2 HG.out).mono ?_; rintro e w1 ⟨v1, rfl, hs1, hu1, hf1⟩; obtain ⟨b1, o1, cap1, rfl, hb1, hl1, hm1, hcell⟩ := grp_cells hs1 HK.out; rw [← HTOP.out] at hcell; have hcell2 : (w1.alloc (.cells #[.pointer none, .slice none 0 0] 97)).cell? ⟨b1, o1 + K, none⟩ = some (.int .u64 (top : Int)) := (Below.cell ((Below.refl _ w1).alloc (Nat.le_refl _) _) (p := ⟨b1, o1 + K, none⟩) hb1).trans hcell)
    | (gi_at_call 63; refine (callsIn_wide.2 (wstr w1.heap.size w1.heap.size [] ⟨(Lib.decDigits top).toArray⟩ _ (Lib.IsBuilderF.of (.inl ⟨Nat.le_refl _, .slice none 0 0, (hu2.block _ (by simp) (by simp)).trans (alloc_nth _ _ _ _ rfl), ⟨by simp, .inl ⟨rfl, rfl⟩⟩, by simp [Value.ownBlock]⟩)) (by show 0 + (Lib.decDigits top).toArray.size ≤ _; simp only [List.size_toArray]; rw [Lib.decDigits_length]; omega) (by have := hu2.size; simp at this; omega))).mono ?_; rintro e w3 ⟨rfl, hB3, hbl3, hok3⟩; simp only [List.nil_append] at hB3)
    | (gi_at_call 48; refine (callsIn_wide.2 (backward_any _ _ _ _)).mono ?_; rintro e w' ⟨rfl, rfl⟩)
    | (gi_at_call 64; refine (callsIn_wide.2 (fmt_any top (by have := HTL.out; omega) _ (HT.out.upd0 ((((Upd.refl [] w).alloc _).trans0 hu1).alloc _)))).mono ?_; rintro e w2 ⟨rfl, hu2⟩))
  obtain ⟨w0, hw0⟩ : ∃ w0, w0 = w3.alloc (.cells #[.slice (some ⟨b1, o1, none⟩) K cap1] 22) := ⟨_, rfl⟩
  rw [← hw0]
  obtain ⟨p, hp⟩ : ∃ p, p = w1.heap.size := ⟨_, rfl⟩
  rw [← hp] at hB3 hok3 hbl3
  rw [← hp]
  have hu01 : Upd [] w w1 := ((Upd.refl [] w).alloc _).trans0 hu1
  have hpw : w.heap.size ≤ p := by rw [hp]; exact hu01.size
  have hu12 : Upd [] w1 w2 := ((Upd.refl [] w1).alloc _).trans0 hu2
  have hu13 : Upd [] w1 w3 := upd_below hu12 hbl3 (Nat.le_of_eq hp.symm)
  have hu10 : Upd [] w1 w0 := by rw [hw0]; exact hu13.alloc _
  have hu30 : Upd [] w3 w0 := by rw [hw0]; exact (Upd.refl _ _).alloc _
  have hb10 : b1 < w0.heap.size := Nat.lt_of_lt_of_le hb1 hu10.size
  have hp3 : p < w3.heap.size := hB3.lt
  have hI0 : Hid (TxIn w w0 p n K ((grps n).take K).length (Qt w0 p) [] w0) := ⟨_, builder_upd hB3 (upd_blocks hu30), by rw [Lib.decDigits_length]; simp; omega, Kq.refl _ _ _, hu01.trans0 hu10, fun _ => by rw [HTOP.out]; simp⟩
  have hlenK : ((grps n).take K).length = K := by rw [List.length_take, HK.out]; omega
  obtain ⟨ws, hws⟩ : ∃ ws, ws = (grps n).take K := ⟨_, rfl⟩
  rw [← hws] at hI0 hlenK
  have hcB : w0.cell? ⟨w3.heap.size, 0, none⟩ = some (.slice (some ⟨b1, o1, none⟩) ws.length cap1) := by rw [hw0, hlenK]; exact World.cell?_alloc_at _ _ _ _ rfl
  have hSl : Sl w0 (.slice (some ⟨b1, o1, none⟩) ws.length cap1) (cu64 ws) := by rw [hlenK, hws, cu64_take]; exact (Sl.take hs1 K (Nat.le_succ K)).upd0 hu10
  have hQ1 : Qt w0 p w3.heap.size := .inr ⟨by omega, fun c fz e => by rw [hw0, heap_alloc_new w3] at e; simp at e⟩
  have hQ2 : Qt w0 p b1 := .inl (by omega)
  have hs0 : w0.heap.size = w3.heap.size + 1 := by rw [hw0]; simp
  have HS0 := Lib.hid hs0
  have HU0 : Hid (Upd [] w w0) := hu01.trans0 hu10
  have HWS := Lib.hid hws
  have HLK := Lib.hid hlenK
  have hle3 : w3.heap.size < w0.heap.size := by omega
  have hK40 : ws.length ≤ 1099511627776 := by omega
  clear hw0 hp hu1 hcell hcell2 hu2 hB3 hbl3 hok3 hu01 hu12 hu13 hu10 hu30 hs0 hws hlenK hs1 hf1 hb1 hl1 hm1
  refine wpIn_rangeFunc_ownF rfl (by decide) (gf := 73) (lb := #[.pointer (some ⟨w3.heap.size, 0, none⟩)]) rfl trivial (enters_of Tryd.func73 (by kernel_rfl) rfl)
    (back_stops (Qt w0 p) 2 (by decide) w3.heap.size w0.heap.size _ cap1 ws hK40 w0 hle3 hQ1 (Nat.le_refl _) hcB hSl (fun hne k hk => by simp [Value.ownBlock] at hk; subst hk; exact ⟨hb10, hQ2⟩)) Kq.trans Kq.put (Below.refl _ _) (fun _ => rfl)
    (TxIn w w0 p n K ws.length (Qt w0 p)) (fun _ _ _ => False) (TxIn.from w w0 p n K ws.length (Qt w0 p) HU0.out.size) (fun _ _ _ _ _ hs _ _ => hs) hI0.out
    ?a1 ?assign ?body ?done ?stop
  case assign =>
    intro l x W K hK
    simp only [encP]
    gi_wp2
    exact hK
  case body =>
    rintro l pre x W ⟨dl, hI⟩ hlt
    obtain ⟨j, hj⟩ : ∃ j, j = ws.length - 1 - x.val := ⟨_, rfl⟩
    have hjl : j < ws.length := by have := x.isLt; omega
    rw [← hj]
    have HI := Lib.hid hI
    have HJ := Lib.hid hj
    obtain ⟨g, hg⟩ : ∃ g, g = gd ws j := ⟨_, rfl⟩
    have HGV : Hid (g = n / 10000000000000000000 ^ j % 10000000000000000000) := by
      show _ = _
      rw [hg, ← grps_getD]
      unfold gd
      rw [HWS.out, List.getD_eq_getElem?_getD, List.getElem?_take, if_pos (by have := HLK.out; omega), ← List.getD_eq_getElem?_getD]
    have hgl : g < 10000000000000000000 := by rw [HGV.out]; exact Nat.mod_lt _ (by decide)
    rw [← hg]
    obtain ⟨gl, hgl2⟩ : ∃ gl, gl = Lib.decDigits g := ⟨_, rfl⟩
    have hglen : gl.length ≤ 19 := by rw [hgl2, Lib.decDigits_length]; exact (nDigits_le_iff g 19 (by decide)).2 hgl
    have hgpos : 0 < gl.length := by rw [hgl2]; exact List.length_pos_iff.2 (decDigits_ne g)
    have HF : Hid (∀ W, Tab W → Calls Tryd.prog 64 #[.int .u64 (g : Int), .int .i64 10] W fun e w' => e = .returned (.string ⟨gl.toArray⟩) ∧ Upd [] W w') := fun W h => by rw [hgl2]; exact fmt_any g (by omega) W h
    obtain ⟨c, hc⟩ : ∃ c, gl.length + c = 19 := ⟨19 - gl.length, by omega⟩
    obtain ⟨pad, hpad⟩ : ∃ pad, pad = List.replicate c (48 : UInt8) := ⟨_, rfl⟩
    have hpl : pad.length = c := by rw [hpad]; simp
    have HPAD : Hid (∀ W, Calls Tryd.prog 65 #[.string ⟨#[48]⟩, .int .i64 (19 - (gl.length : Int))] W fun e w' => e = .returned (.string ⟨pad.toArray⟩) ∧ Upd [] W w') := by rw [hpad]; exact pad_any gl.length c hc
    have HP := Lib.hid hpad
    have hdl : dl.length ≤ 41000000000 := by have := hI.len; have := HLK.out; omega
    have HDL := Lib.hid hdl
    have HC := Lib.hid hc
    have HGL := Lib.hid hgl2
    have HG := Lib.hid hg
    have HTW := HT.out.upd0 hI.u
    have HL1 : Hid (dl.length + pad.length ≤ 140737488355328) := by show _ ≤ _; omega
    have HL2 : Hid ((dl ++ pad).length + gl.length ≤ 140737488355328) := by show _ ≤ _; rw [List.length_append]; omega
    clear hI hj hg hgl hgl2 hc hdl hpad hpl
    gi_wp2_with (refine ⟨trivial, ?_⟩; first
      | (gi_at_call 64; refine (CallsIn.inRound l (callsIn_wide.2 (HF.out _ HTW))).mono ?_; rintro e w4 ⟨rfl, hu4⟩)
      | (gi_at_call 65; refine (CallsIn.inRound l (callsIn_wide.2 (HPAD.out _))).mono ?_; rintro e w5 ⟨rfl, hu5⟩)
      | (gi_at_call 63; with_reducible refine (CallsIn.inRound l (callsIn_wide.2 (wstr2 p dl pad w5 (builder_upd HI.out.b (upd_blocks (hu4.trans0 hu5))) HL1.out))).mono ?_; rintro e w6 ⟨rfl, hB6, hbl6, hok6⟩)
      | (gi_at_call 63; with_reducible refine (CallsIn.inRound l (callsIn_wide.2 (wstr2 p (dl ++ pad) gl w6 hB6 HL2.out))).mono ?_; rintro e w7 ⟨rfl, hB7, hbl7, hok7⟩))
    have hbl : Below p W w7 := ((below_upd (hu4.trans0 hu5) (Nat.le_of_lt HI.out.b.lt)).trans hbl6).trans hbl7
    have hok : Lib.OthersKept 5 (some p) W w7 := ((ok_upd p (hu4.trans0 hu5)).trans hok6).trans hok7
    have hkq := kq_of w0 p HI.out.kq hbl hok
    refine (show _ ∧ _ ∧ TxIn w w0 p n K ws.length (Qt w0 p) (pre ++ [x]) _ from ⟨keeps_ok HI.out.b hbl.size hok, hkq, dl ++ pad ++ gl, hB7, ?_, HI.out.kq.trans hkq, upd_below HI.out.u hbl hpw, fun hg => ?_⟩)
    · have h1 := HI.out.len
      have h2 := HC.out
      have h3 := HP.out
      rw [List.length_append, List.length_append, h3, List.length_replicate, List.length_append, List.length_singleton]
      omega
    · obtain ⟨hg', hx⟩ := good_snoc hg
      have h1 := HI.out.good hg'
      have hj := HJ.out
      have hlk := HLK.out
      have e1 : K - (pre ++ [x]).length = j := by simp; omega
      have e2 : K - pre.length = j + 1 := by omega
      have h0 : n / 10000000000000000000 ^ j / 10 ^ 19 ≠ 0 := by
        rw [show (10 : Nat) ^ 19 = 10000000000000000000 from rfl, Nat.div_div_eq_div_mul, ← Nat.pow_succ]
        exact (grps_top n).2 (j + 1) (by omega) (by rw [HK.out]; omega)
      rw [e1, decDigits_split _ 19 (by decide) h0, show (10 : Nat) ^ 19 = 10000000000000000000 from rfl, Nat.div_div_eq_div_mul, ← Nat.pow_succ, ← HGV.out, h1, e2, List.append_assoc]
      congr 1
      have h5 := HC.out
      rw [HP.out, HGL.out]
      rw [HGL.out, Lib.decDigits_length] at h5
      rw [show 19 - Lib.nDigits g = c by omega]
  case done =>
    rintro D ys W hD rfl ⟨l, hI⟩ hK
    have hl := hI.good (good_upto (Nat.le_refl _))
    rw [upto_length (Nat.le_refl _), HLK.out, Nat.sub_self, Nat.pow_zero, Nat.div_one] at hl
    subst hl
    have HI := Lib.hid hI
    have HK2 := Lib.hid hK
    clear hI hK
    gi_wp2_with (refine ⟨trivial, ?_⟩; gi_at_call 66; refine (callsIn_wide.2 (Tryd.Builder_String_any_k p p (Lib.decDigits n) W (.inr HI.out.b) (Nat.le_of_lt HI.out.b.lt))).mono ?_; rintro e w8 ⟨rfl, hB8, hbl8, hok8⟩)
    have hK' := (keeps_ok HI.out.b hbl8.size hok8).same D _ HK2.out rfl
    have hw0 := HU0.out.size
    refine ⟨by simp, .inl ⟨_, _, rfl, run_takeDeferred hK', ?_⟩⟩
    refine ⟨.string ⟨(Lib.decDigits n).toArray⟩, by simp [results, Tryd.f38, go_sem], rfl, ?_⟩
    exact (upd_below HI.out.u hbl8 hpw).grown (grownBy_putObj' _ D (.deferred none)) (fun k e => by cases e; exact .inr (by omega))
  case stop =>
    rintro D c pre W _ _ h _
    exact h.elim
end Go.Proofs.YtoklmfmoblkfcaaDoor
