/- 'append' onto a slice that has no room: a row of its own comes. -/
import Derived.Test.YtcehkflkekefpaaSmall
import Derived.ArgAppend
namespace Go.Proofs.Ytcehkflkekefpaa
open Go.RowKit Go.Proofs.Tm
set_option linter.unusedVariables false
set_option maxRecDepth 20000

theorem run_append_full {P : Program} (w : World) (t ty : TypeId) (e : TypeId) (z : Value) (bytes : Nat) (ht : P.underlying t = some (.slice e)) (hinfo : (P.info? e).map (fun i => (i.zero, i.size, i.bytes)) = some (some z, 1, bytes)) (hzs : z.cells.size = 1)
    (a : Option Addr) (n : Nat) (xs : List Value) (hxs : ∃ cap, Sl w (.slice a n cap) xs)
    (u y : Value) (hy : Sl w u [y]) (h1 : y.oneCell' = true) (h63 : n + 1 ≤ maxLen) (hbytes : (n + 1) * bytes ≤ 140737488355328) :
    ∃ v' w', (Builtin.append_ #[t, t] ty #[.slice a n n, u]).run P w = .ok v' w' ∧ w'.ownsRow w.heap.size e 1 v' (n + 1) (xs ++ [y]) ∧ Upd [] w w' := by
  obtain ⟨i, hi, hz, hsz, hby⟩ := info_parts hinfo
  obtain ⟨cap0, ad, cap, he, hl, hm, hc⟩ := hxs
  simp only [Value.slice.injEq] at he
  obtain ⟨rfl, hn, rfl⟩ := he
  cases a with
  | none =>
    have hx0 : xs = [] := by
      cases xs with
      | nil => rfl
      | cons x l => obtain ⟨b, o, hb, _⟩ := hc (by simp); cases hb
    subst hx0
    obtain rfl : n = 0 := by simpa using hn
    have hown : w.ownsRow w.heap.size e 1 (.slice none 0 0) 0 [] := ⟨by simp, .inl ⟨rfl, rfl⟩⟩
    obtain ⟨v', w', hr, ho, hg, _⟩ := run_append_sl (P := P) w t ty w.heap.size e z bytes ht hinfo hzs _ 0 [] hown u [y] hy (by simpa using h1) (by simpa using h63) (by simpa using hbytes) (Nat.le_refl _)
    exact ⟨v', w', hr, by simpa using ho, (Upd.refl _ _).grown hg (fun k hk => by simp [Value.ownBlock] at hk)⟩
  | some ad =>
    obtain ⟨ua, uc, rfl, _, hum, huc⟩ := hy
    obtain ⟨b, o, rfl, hucell⟩ := huc (by simp)
    have holds : ∀ j u, xs[j]? = some u → w.cell? (ad.add j) = some u := by
      intro j u hj
      have hjl : j < xs.length := (List.getElem?_eq_some_iff.1 hj).1
      obtain ⟨b', o', hb, hcell⟩ := hc (by rintro rfl; simp at hjl)
      obtain rfl : ad = ⟨b', o', none⟩ := by simpa using hb
      have hadd : (⟨b', o', none⟩ : Addr).add j = ⟨b', o' + j, none⟩ := by unfold Addr.add; split <;> simp_all
      rw [hadd, hcell j hjl, hj]
    have hnews : ∀ j u, [y][j]? = some u → w.cell? ((⟨b, o, none⟩ : Addr).add j) = some u := by
      intro j u hj
      have hjl : j < 1 := by simpa using (List.getElem?_eq_some_iff.1 hj).1
      have hadd : (⟨b, o, none⟩ : Addr).add j = ⟨b, o + j, none⟩ := by unfold Addr.add; split <;> simp_all
      rw [hadd, hucell j (by simpa using hjl), hj]
    obtain ⟨v', w', hr, ho, hg⟩ := run_append_arg_grows (P := P) w t ty e i z 1 bytes ht hi hz hsz hby hzs (by decide) ad n n xs (by omega) holds ⟨b, o, none⟩ 1 uc [y] (by simp) hnews (by omega) h63 hbytes
    exact ⟨v', w', hr, ho, ⟨hg.os, hg.tape, hg.output, hg.size, fun k hk _ => hg.block k hk (by simp)⟩⟩

/-- The same, at an operation that a region draws. -/
theorem step_append_full {P : Program} (w : World) {ops : Array Oper} {o : Oper} {a : Act} {K : Act → World → Prop} {Q : Exit → Act → World → Prop} {E : Prop} (hgd : o.guard = none) (s x : Operand) (t : TypeId)
    (ho : o.op = .call { callee := .builtin .append, args := #[s, x], argTypes := #[t, t] })
    (e : TypeId) (z : Value) (bytes : Nat) (ht : P.underlying t = some (.slice e)) (hinfo : (P.info? e).map (fun i => (i.zero, i.size, i.bytes)) = some (some z, 1, bytes)) (hzs : z.cells.size = 1)
    (v : Option Addr) (n : Nat) (xs : List Value) (hs : a.eval s = .slice v n n) (hxs : ∃ cap, Sl w (.slice v n cap) xs)
    (u y : Value) (hx : a.eval x = u) (hy : Sl w u [y]) (h1 : y.oneCell' = true)
    (h63 : n + 1 ≤ maxLen) (hbytes : (n + 1) * bytes ≤ 140737488355328)
    (h : ∀ v' w', w'.ownsRow w.heap.size e 1 v' (n + 1) (xs ++ [y]) → Upd [] w w' → K (a.put o.dst v') w') :
    if Region.wanted o (yielded ops a.tmps) = true then Oper.wp P o a w K Q else E := by
  have hw : Region.wanted o (yielded ops a.tmps) = true := by simp [Region.wanted, hgd]
  rw [if_pos hw]
  obtain ⟨v', w', hr, h2, h3⟩ := run_append_full (P := P) w t o.type e z bytes ht hinfo hzs v n xs hxs u y hy h1 h63 hbytes
  unfold Oper.wp execOp
  simp only [ho, resolve, invoke, builtin, Sem.run_bind, Sem.run_pure, Result.andThen_ok, List.map_toArray, List.map_cons, List.map_nil, hs, hx, hr]
  exact h v' w' h2 h3
end Go.Proofs.Ytcehkflkekefpaa
