/-
  No cell of these rows narrows 'for every input' (looked for: loops, veiled, ifaces, maps, wideKeys, modest, calm, conditions, laid).
  DERIVED. THE GIVEN ROWS OF THIS SEAT. 9 by the template 'for every input the law returns true; each argument reads behind the call as it read before'; 0 by the template 'total and deterministic' (their statements: YtaokkfbcjacmfaaTotals.lean).
  GIVEN WITH THE SEED: the statements are not yours to turn. If you find one false, say at which input.
  Laid BY PROGRAM, IN A SANDBOX (cutbox-rows.mjs): the forced cells as the released guide's own fill.sh prints them over the translation 6c45bc90dd8b4562… (all of the seat's roots in one cut). By AI agents, Wed Nov 11 2026. No macro, syntax, notation, axiom, sorry.
-/
import Derived.Test.YtaokkfbcjacmfaaChecked
import GoSem.Claim
import GoSem.ClaimJoined
import GoSem.ClaimMapViews
import Derived.JoinedTies
import Derived.KernelRfl
namespace Go.Proofs.Ytaokkfbcjacmfaa
/- THE CELL 'sum', in the pinned program and in every row, IS THE sha256 OF THE DUMP (.gsa) THAT YtaokkfbcjacmfaaProg.lean LOADS. Nothing in Lean hashes anything: it is a label: what it is worth is what the hold of that sum in a sandbox is worth. -/
noncomputable def Try.pinned : Pinned := { name := "ytaokkfbcjacmfaa", sum := "6c45bc90dd8b45625aec4907a8a8c9f02be814eeeef5c3a68450aff8fb80c5c0", checked := Try.checked }
namespace Rows
def none {H : Type} : Left H := { results := [], args := [] }

/-- 'tallymarklaw01.BitsWrites': WHATEVER THE INPUT: true; the input reads as it did. -/
def bitsWritesSpec : ChangeSpec := { name := "bitsWrites", fn := fun _ => fun
  | [d] => { results := [.lit (.bool true)], args := [d] }
  | _ => none }
def bitsWritesRow : OpenClaim := { program := "ytaokkfbcjacmfaa", sum := "6c45bc90dd8b45625aec4907a8a8c9f02be814eeeef5c3a68450aff8fb80c5c0", func := "tallymark/tallymarklaw01.BitsWrites", spec := "bitsWrites", apart := false }
def BitsWritesSaid : Prop := bitsWritesRow.holds Try.pinned (OpenSpec.ofChange bitsWritesSpec)

/-- ITS FALSE NEIGHBOUR: 'it returns false'. Refute it at one input. -/
def bitsWritesWrong : ChangeSpec := { name := "bitsWrites", fn := fun _ => fun
  | [d] => { results := [.lit (.bool false)], args := [d] }
  | _ => none }
def BitsWritesWrongFalsely : Prop := bitsWritesRow.holds Try.pinned (OpenSpec.ofChange bitsWritesWrong)

/-- 'tallymarklaw01.BitsReads': WHATEVER THE INPUT: true; the input reads as it did. -/
def bitsReadsSpec : ChangeSpec := { name := "bitsReads", fn := fun _ => fun
  | [d1, d2] => { results := [.lit (.bool true)], args := [d1, d2] }
  | _ => none }
def bitsReadsRow : OpenClaim := { program := "ytaokkfbcjacmfaa", sum := "6c45bc90dd8b45625aec4907a8a8c9f02be814eeeef5c3a68450aff8fb80c5c0", func := "tallymark/tallymarklaw01.BitsReads", spec := "bitsReads", apart := false }
def BitsReadsSaid : Prop := bitsReadsRow.holds Try.pinned (OpenSpec.ofChange bitsReadsSpec)

/-- ITS FALSE NEIGHBOUR: 'it returns false'. Refute it at one input. -/
def bitsReadsWrong : ChangeSpec := { name := "bitsReads", fn := fun _ => fun
  | [d1, d2] => { results := [.lit (.bool false)], args := [d1, d2] }
  | _ => none }
def BitsReadsWrongFalsely : Prop := bitsReadsRow.holds Try.pinned (OpenSpec.ofChange bitsReadsWrong)

/-- 'tallymarklaw01.BitsBack': WHATEVER THE INPUT: true; the input reads as it did. -/
def bitsBackSpec : ChangeSpec := { name := "bitsBack", fn := fun _ => fun
  | [d] => { results := [.lit (.bool true)], args := [d] }
  | _ => none }
def bitsBackRow : OpenClaim := { program := "ytaokkfbcjacmfaa", sum := "6c45bc90dd8b45625aec4907a8a8c9f02be814eeeef5c3a68450aff8fb80c5c0", func := "tallymark/tallymarklaw01.BitsBack", spec := "bitsBack", apart := false }
def BitsBackSaid : Prop := bitsBackRow.holds Try.pinned (OpenSpec.ofChange bitsBackSpec)

/-- ITS FALSE NEIGHBOUR: 'it returns false'. Refute it at one input. -/
def bitsBackWrong : ChangeSpec := { name := "bitsBack", fn := fun _ => fun
  | [d] => { results := [.lit (.bool false)], args := [d] }
  | _ => none }
def BitsBackWrongFalsely : Prop := bitsBackRow.holds Try.pinned (OpenSpec.ofChange bitsBackWrong)

/-- 'tallymarklaw01.BitsJoins': WHATEVER THE INPUT: true; the input reads as it did. -/
def bitsJoinsSpec : ChangeSpec := { name := "bitsJoins", fn := fun _ => fun
  | [d1, d2, d3] => { results := [.lit (.bool true)], args := [d1, d2, d3] }
  | _ => none }
def bitsJoinsRow : OpenClaim := { program := "ytaokkfbcjacmfaa", sum := "6c45bc90dd8b45625aec4907a8a8c9f02be814eeeef5c3a68450aff8fb80c5c0", func := "tallymark/tallymarklaw01.BitsJoins", spec := "bitsJoins", apart := false }
def BitsJoinsSaid : Prop := bitsJoinsRow.holds Try.pinned (OpenSpec.ofChange bitsJoinsSpec)

/-- ITS FALSE NEIGHBOUR: 'it returns false'. Refute it at one input. -/
def bitsJoinsWrong : ChangeSpec := { name := "bitsJoins", fn := fun _ => fun
  | [d1, d2, d3] => { results := [.lit (.bool false)], args := [d1, d2, d3] }
  | _ => none }
def BitsJoinsWrongFalsely : Prop := bitsJoinsRow.holds Try.pinned (OpenSpec.ofChange bitsJoinsWrong)

/-- 'tallymarklaw02.CodesWrites': WHATEVER THE INPUT: true; the input reads as it did. -/
def codesWritesSpec : ChangeSpec := { name := "codesWrites", fn := fun _ => fun
  | [d] => { results := [.lit (.bool true)], args := [d] }
  | _ => none }
def codesWritesRow : OpenClaim := { program := "ytaokkfbcjacmfaa", sum := "6c45bc90dd8b45625aec4907a8a8c9f02be814eeeef5c3a68450aff8fb80c5c0", func := "tallymark/tallymarklaw02.CodesWrites", spec := "codesWrites", apart := false }
def CodesWritesSaid : Prop := codesWritesRow.holds Try.pinned (OpenSpec.ofChange codesWritesSpec)

/-- ITS FALSE NEIGHBOUR: 'it returns false'. Refute it at one input. -/
def codesWritesWrong : ChangeSpec := { name := "codesWrites", fn := fun _ => fun
  | [d] => { results := [.lit (.bool false)], args := [d] }
  | _ => none }
def CodesWritesWrongFalsely : Prop := codesWritesRow.holds Try.pinned (OpenSpec.ofChange codesWritesWrong)

/-- 'tallymarklaw02.CodesReads': WHATEVER THE INPUT: true; the input reads as it did. -/
def codesReadsSpec : ChangeSpec := { name := "codesReads", fn := fun _ => fun
  | [d1, d2] => { results := [.lit (.bool true)], args := [d1, d2] }
  | _ => none }
def codesReadsRow : OpenClaim := { program := "ytaokkfbcjacmfaa", sum := "6c45bc90dd8b45625aec4907a8a8c9f02be814eeeef5c3a68450aff8fb80c5c0", func := "tallymark/tallymarklaw02.CodesReads", spec := "codesReads", unfollowed := true, recurses := true, apart := false }
def CodesReadsSaid : Prop := codesReadsRow.holds Try.pinned (OpenSpec.ofChange codesReadsSpec)

/-- ITS FALSE NEIGHBOUR: 'it returns false'. Refute it at one input. -/
def codesReadsWrong : ChangeSpec := { name := "codesReads", fn := fun _ => fun
  | [d1, d2] => { results := [.lit (.bool false)], args := [d1, d2] }
  | _ => none }
def CodesReadsWrongFalsely : Prop := codesReadsRow.holds Try.pinned (OpenSpec.ofChange codesReadsWrong)

/-- 'tallymarklaw02.CodesOne': WHATEVER THE INPUT: true; the input reads as it did. -/
def codesOneSpec : ChangeSpec := { name := "codesOne", fn := fun _ => fun
  | [d1, d2] => { results := [.lit (.bool true)], args := [d1, d2] }
  | _ => none }
def codesOneRow : OpenClaim := { program := "ytaokkfbcjacmfaa", sum := "6c45bc90dd8b45625aec4907a8a8c9f02be814eeeef5c3a68450aff8fb80c5c0", func := "tallymark/tallymarklaw02.CodesOne", spec := "codesOne", unfollowed := true, recurses := true, apart := false }
def CodesOneSaid : Prop := codesOneRow.holds Try.pinned (OpenSpec.ofChange codesOneSpec)

/-- ITS FALSE NEIGHBOUR: 'it returns false'. Refute it at one input. -/
def codesOneWrong : ChangeSpec := { name := "codesOne", fn := fun _ => fun
  | [d1, d2] => { results := [.lit (.bool false)], args := [d1, d2] }
  | _ => none }
def CodesOneWrongFalsely : Prop := codesOneRow.holds Try.pinned (OpenSpec.ofChange codesOneWrong)

/-- 'tallymarklaw02.CodesSeveral': WHATEVER THE INPUT: true; the input reads as it did. -/
def codesSeveralSpec : ChangeSpec := { name := "codesSeveral", fn := fun _ => fun
  | [d1, d2] => { results := [.lit (.bool true)], args := [d1, d2] }
  | _ => none }
def codesSeveralRow : OpenClaim := { program := "ytaokkfbcjacmfaa", sum := "6c45bc90dd8b45625aec4907a8a8c9f02be814eeeef5c3a68450aff8fb80c5c0", func := "tallymark/tallymarklaw02.CodesSeveral", spec := "codesSeveral", unfollowed := true, recurses := true, apart := false }
def CodesSeveralSaid : Prop := codesSeveralRow.holds Try.pinned (OpenSpec.ofChange codesSeveralSpec)

/-- ITS FALSE NEIGHBOUR: 'it returns false'. Refute it at one input. -/
def codesSeveralWrong : ChangeSpec := { name := "codesSeveral", fn := fun _ => fun
  | [d1, d2] => { results := [.lit (.bool false)], args := [d1, d2] }
  | _ => none }
def CodesSeveralWrongFalsely : Prop := codesSeveralRow.holds Try.pinned (OpenSpec.ofChange codesSeveralWrong)

/-- 'tallymarktop.TallyCodes': WHATEVER THE INPUT: true; the input reads as it did. -/
def tallyCodesSpec : ChangeSpec := { name := "tallyCodes", fn := fun _ => fun
  | [d1, d2] => { results := [.lit (.bool true)], args := [d1, d2] }
  | _ => none }
def tallyCodesRow : OpenClaim := { program := "ytaokkfbcjacmfaa", sum := "6c45bc90dd8b45625aec4907a8a8c9f02be814eeeef5c3a68450aff8fb80c5c0", func := "tallymark/tallymarktop.TallyCodes", spec := "tallyCodes", unfollowed := true, recurses := true, apart := false }
def TallyCodesSaid : Prop := tallyCodesRow.holds Try.pinned (OpenSpec.ofChange tallyCodesSpec)

/-- ITS FALSE NEIGHBOUR: 'it returns false'. Refute it at one input. -/
def tallyCodesWrong : ChangeSpec := { name := "tallyCodes", fn := fun _ => fun
  | [d1, d2] => { results := [.lit (.bool false)], args := [d1, d2] }
  | _ => none }
def TallyCodesWrongFalsely : Prop := tallyCodesRow.holds Try.pinned (OpenSpec.ofChange tallyCodesWrong)

/- THE SECOND FORM. 'bulk': how many values and letters a reading holds, each counted each time it is reached (what is shared counts as often as it is met; a slice's spare places count too). A statement '..UptoSaid' is the law's where the arguments, and the package variables that the reading takes, are together of bulk at most 1048576: NARROWER than '..Said'. Prove '..Said' where nothing that the law and all that it calls make is longer than what came in: it says more and counts as full. Else prove '..UptoSaid'. A law counts once. -/
mutual
def uptoBulk {H : Type} : DataW H → Nat
  | .lit (.string bytes) => bytes.length + 1
  | .lit _ => 1
  | .nil => 1
  | .ptr d => uptoBulk d + 1
  | .slice elems spare => uptoBulkAll elems + uptoBulkAll spare + 1
  | .agg parts => uptoBulkAll parts + 1
  | .iface _ d => uptoBulk d + 1
  | .map entries => uptoBulkEntries entries + 1
  | .held _ => 1
def uptoBulkAll {H : Type} : List (DataW H) → Nat
  | [] => 0
  | d :: r => uptoBulk d + uptoBulkAll r
def uptoBulkEntries {H : Type} : List (Lit × DataW H) → Nat
  | [] => 0
  | x :: r => uptoBulkEntry x + uptoBulkEntries r
def uptoBulkEntry {H : Type} : Lit × DataW H → Nat
  | (.string bytes, d) => bytes.length + uptoBulk d + 1
  | (_, d) => uptoBulk d + 1
 end
def uptoSmall : (H : Type) → List (DataW H) → Bool := fun _ ds => decide (uptoBulkAll ds ≤ 1048576)
def OpenSpec.upto (s : _root_.Go.ChangeSpec) : _root_.Go.OpenSpec := { _root_.Go.OpenSpec.ofChange s with cond := some uptoSmall }

/-- 'tallymarklaw01.BitsWrites', WHERE WHAT IT READS IS OF BULK AT MOST 1048576: true; the input reads as it did. -/
def bitsWritesUptoRow : OpenClaim := { program := "ytaokkfbcjacmfaa", sum := "6c45bc90dd8b45625aec4907a8a8c9f02be814eeeef5c3a68450aff8fb80c5c0", func := "tallymark/tallymarklaw01.BitsWrites", spec := "bitsWrites", apart := false, narrowed := true }
def BitsWritesUptoSaid : Prop := bitsWritesUptoRow.holds Try.pinned (OpenSpec.upto bitsWritesSpec)

/-- 'tallymarklaw01.BitsReads', WHERE WHAT IT READS IS OF BULK AT MOST 1048576: true; the input reads as it did. -/
def bitsReadsUptoRow : OpenClaim := { program := "ytaokkfbcjacmfaa", sum := "6c45bc90dd8b45625aec4907a8a8c9f02be814eeeef5c3a68450aff8fb80c5c0", func := "tallymark/tallymarklaw01.BitsReads", spec := "bitsReads", apart := false, narrowed := true }
def BitsReadsUptoSaid : Prop := bitsReadsUptoRow.holds Try.pinned (OpenSpec.upto bitsReadsSpec)

/-- 'tallymarklaw01.BitsBack', WHERE WHAT IT READS IS OF BULK AT MOST 1048576: true; the input reads as it did. -/
def bitsBackUptoRow : OpenClaim := { program := "ytaokkfbcjacmfaa", sum := "6c45bc90dd8b45625aec4907a8a8c9f02be814eeeef5c3a68450aff8fb80c5c0", func := "tallymark/tallymarklaw01.BitsBack", spec := "bitsBack", apart := false, narrowed := true }
def BitsBackUptoSaid : Prop := bitsBackUptoRow.holds Try.pinned (OpenSpec.upto bitsBackSpec)

/-- 'tallymarklaw01.BitsJoins', WHERE WHAT IT READS IS OF BULK AT MOST 1048576: true; the input reads as it did. -/
def bitsJoinsUptoRow : OpenClaim := { program := "ytaokkfbcjacmfaa", sum := "6c45bc90dd8b45625aec4907a8a8c9f02be814eeeef5c3a68450aff8fb80c5c0", func := "tallymark/tallymarklaw01.BitsJoins", spec := "bitsJoins", apart := false, narrowed := true }
def BitsJoinsUptoSaid : Prop := bitsJoinsUptoRow.holds Try.pinned (OpenSpec.upto bitsJoinsSpec)

/-- 'tallymarklaw02.CodesWrites', WHERE WHAT IT READS IS OF BULK AT MOST 1048576: true; the input reads as it did. -/
def codesWritesUptoRow : OpenClaim := { program := "ytaokkfbcjacmfaa", sum := "6c45bc90dd8b45625aec4907a8a8c9f02be814eeeef5c3a68450aff8fb80c5c0", func := "tallymark/tallymarklaw02.CodesWrites", spec := "codesWrites", apart := false, narrowed := true }
def CodesWritesUptoSaid : Prop := codesWritesUptoRow.holds Try.pinned (OpenSpec.upto codesWritesSpec)

/-- 'tallymarklaw02.CodesReads', WHERE WHAT IT READS IS OF BULK AT MOST 1048576: true; the input reads as it did. -/
def codesReadsUptoRow : OpenClaim := { program := "ytaokkfbcjacmfaa", sum := "6c45bc90dd8b45625aec4907a8a8c9f02be814eeeef5c3a68450aff8fb80c5c0", func := "tallymark/tallymarklaw02.CodesReads", spec := "codesReads", unfollowed := true, recurses := true, apart := false, narrowed := true }
def CodesReadsUptoSaid : Prop := codesReadsUptoRow.holds Try.pinned (OpenSpec.upto codesReadsSpec)

/-- 'tallymarklaw02.CodesOne', WHERE WHAT IT READS IS OF BULK AT MOST 1048576: true; the input reads as it did. -/
def codesOneUptoRow : OpenClaim := { program := "ytaokkfbcjacmfaa", sum := "6c45bc90dd8b45625aec4907a8a8c9f02be814eeeef5c3a68450aff8fb80c5c0", func := "tallymark/tallymarklaw02.CodesOne", spec := "codesOne", unfollowed := true, recurses := true, apart := false, narrowed := true }
def CodesOneUptoSaid : Prop := codesOneUptoRow.holds Try.pinned (OpenSpec.upto codesOneSpec)

/-- 'tallymarklaw02.CodesSeveral', WHERE WHAT IT READS IS OF BULK AT MOST 1048576: true; the input reads as it did. -/
def codesSeveralUptoRow : OpenClaim := { program := "ytaokkfbcjacmfaa", sum := "6c45bc90dd8b45625aec4907a8a8c9f02be814eeeef5c3a68450aff8fb80c5c0", func := "tallymark/tallymarklaw02.CodesSeveral", spec := "codesSeveral", unfollowed := true, recurses := true, apart := false, narrowed := true }
def CodesSeveralUptoSaid : Prop := codesSeveralUptoRow.holds Try.pinned (OpenSpec.upto codesSeveralSpec)

/-- 'tallymarktop.TallyCodes', WHERE WHAT IT READS IS OF BULK AT MOST 1048576: true; the input reads as it did. -/
def tallyCodesUptoRow : OpenClaim := { program := "ytaokkfbcjacmfaa", sum := "6c45bc90dd8b45625aec4907a8a8c9f02be814eeeef5c3a68450aff8fb80c5c0", func := "tallymark/tallymarktop.TallyCodes", spec := "tallyCodes", unfollowed := true, recurses := true, apart := false, narrowed := true }
def TallyCodesUptoSaid : Prop := tallyCodesUptoRow.holds Try.pinned (OpenSpec.upto tallyCodesSpec)

end Rows
end Go.Proofs.Ytaokkfbcjacmfaa
