/-
  No cell of these rows narrows 'for every input' (looked for: loops, veiled, ifaces, maps, wideKeys, modest, calm, conditions, laid).
  DERIVED. THE GIVEN ROWS OF THIS SEAT. 8 by the template 'for every input the law returns true; each argument reads behind the call as it read before'; 0 by the template 'total and deterministic' (their statements: YtpieapinofojdaaTotals.lean).
  GIVEN WITH THE SEED: the statements are not yours to turn. If you find one false, say at which input.
  Laid BY PROGRAM, IN A SANDBOX (cutbox-rows.mjs): the forced cells as the released guide's own fill.sh prints them over the translation 6e3fed3670277199… (all of the seat's roots in one cut). By AI agents, Wed Nov 11 2026. No macro, syntax, notation, axiom, sorry.
-/
import Derived.Test.YtpieapinofojdaaChecked
import GoSem.Claim
import GoSem.ClaimJoined
import GoSem.ClaimMapViews
import Derived.JoinedTies
import Derived.KernelRfl
namespace Go.Proofs.Ytpieapinofojdaa
/- THE CELL 'sum', in the pinned program and in every row, IS THE sha256 OF THE DUMP (.gsa) THAT YtpieapinofojdaaProg.lean LOADS. Nothing in Lean hashes anything: it is a label: what it is worth is what the hold of that sum in a sandbox is worth. -/
noncomputable def Try.pinned : Pinned := { name := "ytpieapinofojdaa", sum := "6e3fed3670277199a30376f5b153a55212ef19631972a1bb4772431e3e927a4e", checked := Try.checked }
namespace Rows
def none {H : Type} : Left H := { results := [], args := [] }

/-- 'laws.FnEnough': WHATEVER THE INPUT: true; the input reads as it did. -/
def fnEnoughSpec : ChangeSpec := { name := "fnEnough", fn := fun _ => fun
  | [d] => { results := [.lit (.bool true)], args := [d] }
  | _ => none }
def fnEnoughRow : OpenClaim := { program := "ytpieapinofojdaa", sum := "6e3fed3670277199a30376f5b153a55212ef19631972a1bb4772431e3e927a4e", func := "loop.example/g00946/laws.FnEnough", spec := "fnEnough", unfollowed := true, recurses := true, apart := false }
def FnEnoughSaid : Prop := fnEnoughRow.holds Try.pinned (OpenSpec.ofChange fnEnoughSpec)

/-- ITS FALSE NEIGHBOUR: 'it returns false'. Refute it at one input. -/
def fnEnoughWrong : ChangeSpec := { name := "fnEnough", fn := fun _ => fun
  | [d] => { results := [.lit (.bool false)], args := [d] }
  | _ => none }
def FnEnoughWrongFalsely : Prop := fnEnoughRow.holds Try.pinned (OpenSpec.ofChange fnEnoughWrong)

/-- 'laws.FnExactValsOk': WHATEVER THE INPUT: true; the input reads as it did. -/
def fnExactValsOkSpec : ChangeSpec := { name := "fnExactValsOk", fn := fun _ => fun
  | [d] => { results := [.lit (.bool true)], args := [d] }
  | _ => none }
def fnExactValsOkRow : OpenClaim := { program := "ytpieapinofojdaa", sum := "6e3fed3670277199a30376f5b153a55212ef19631972a1bb4772431e3e927a4e", func := "loop.example/g00946/laws.FnExactValsOk", spec := "fnExactValsOk", apart := false }
def FnExactValsOkSaid : Prop := fnExactValsOkRow.holds Try.pinned (OpenSpec.ofChange fnExactValsOkSpec)

/-- ITS FALSE NEIGHBOUR: 'it returns false'. Refute it at one input. -/
def fnExactValsOkWrong : ChangeSpec := { name := "fnExactValsOk", fn := fun _ => fun
  | [d] => { results := [.lit (.bool false)], args := [d] }
  | _ => none }
def FnExactValsOkWrongFalsely : Prop := fnExactValsOkRow.holds Try.pinned (OpenSpec.ofChange fnExactValsOkWrong)

/-- 'laws.FnExactPowerOf': WHATEVER THE INPUT: true; the input reads as it did. -/
def fnExactPowerOfSpec : ChangeSpec := { name := "fnExactPowerOf", fn := fun _ => fun
  | [d] => { results := [.lit (.bool true)], args := [d] }
  | _ => none }
def fnExactPowerOfRow : OpenClaim := { program := "ytpieapinofojdaa", sum := "6e3fed3670277199a30376f5b153a55212ef19631972a1bb4772431e3e927a4e", func := "loop.example/g00946/laws.FnExactPowerOf", spec := "fnExactPowerOf", unfollowed := true, recurses := true, apart := false }
def FnExactPowerOfSaid : Prop := fnExactPowerOfRow.holds Try.pinned (OpenSpec.ofChange fnExactPowerOfSpec)

/-- ITS FALSE NEIGHBOUR: 'it returns false'. Refute it at one input. -/
def fnExactPowerOfWrong : ChangeSpec := { name := "fnExactPowerOf", fn := fun _ => fun
  | [d] => { results := [.lit (.bool false)], args := [d] }
  | _ => none }
def FnExactPowerOfWrongFalsely : Prop := fnExactPowerOfRow.holds Try.pinned (OpenSpec.ofChange fnExactPowerOfWrong)

/-- 'laws.FnExactEnough': WHATEVER THE INPUT: true; the input reads as it did. -/
def fnExactEnoughSpec : ChangeSpec := { name := "fnExactEnough", fn := fun _ => fun
  | [d1, d2] => { results := [.lit (.bool true)], args := [d1, d2] }
  | _ => none }
def fnExactEnoughRow : OpenClaim := { program := "ytpieapinofojdaa", sum := "6e3fed3670277199a30376f5b153a55212ef19631972a1bb4772431e3e927a4e", func := "loop.example/g00946/laws.FnExactEnough", spec := "fnExactEnough", unfollowed := true, recurses := true, apart := false }
def FnExactEnoughSaid : Prop := fnExactEnoughRow.holds Try.pinned (OpenSpec.ofChange fnExactEnoughSpec)

/-- ITS FALSE NEIGHBOUR: 'it returns false'. Refute it at one input. -/
def fnExactEnoughWrong : ChangeSpec := { name := "fnExactEnough", fn := fun _ => fun
  | [d1, d2] => { results := [.lit (.bool false)], args := [d1, d2] }
  | _ => none }
def FnExactEnoughWrongFalsely : Prop := fnExactEnoughRow.holds Try.pinned (OpenSpec.ofChange fnExactEnoughWrong)

/-- 'laws.FnExactProposer': WHATEVER THE INPUT: true; the input reads as it did. -/
def fnExactProposerSpec : ChangeSpec := { name := "fnExactProposer", fn := fun _ => fun
  | [d1, d2, d3] => { results := [.lit (.bool true)], args := [d1, d2, d3] }
  | _ => none }
def fnExactProposerRow : OpenClaim := { program := "ytpieapinofojdaa", sum := "6e3fed3670277199a30376f5b153a55212ef19631972a1bb4772431e3e927a4e", func := "loop.example/g00946/laws.FnExactProposer", spec := "fnExactProposer", apart := false }
def FnExactProposerSaid : Prop := fnExactProposerRow.holds Try.pinned (OpenSpec.ofChange fnExactProposerSpec)

/-- ITS FALSE NEIGHBOUR: 'it returns false'. Refute it at one input. -/
def fnExactProposerWrong : ChangeSpec := { name := "fnExactProposer", fn := fun _ => fun
  | [d1, d2, d3] => { results := [.lit (.bool false)], args := [d1, d2, d3] }
  | _ => none }
def FnExactProposerWrongFalsely : Prop := fnExactProposerRow.holds Try.pinned (OpenSpec.ofChange fnExactProposerWrong)

/-- 'laws.FnExactChangeVals': WHATEVER THE INPUT: true; the input reads as it did. -/
def fnExactChangeValsSpec : ChangeSpec := { name := "fnExactChangeVals", fn := fun _ => fun
  | [d1, d2] => { results := [.lit (.bool true)], args := [d1, d2] }
  | _ => none }
def fnExactChangeValsRow : OpenClaim := { program := "ytpieapinofojdaa", sum := "6e3fed3670277199a30376f5b153a55212ef19631972a1bb4772431e3e927a4e", func := "loop.example/g00946/laws.FnExactChangeVals", spec := "fnExactChangeVals", unfollowed := true, recurses := true, apart := false }
def FnExactChangeValsSaid : Prop := fnExactChangeValsRow.holds Try.pinned (OpenSpec.ofChange fnExactChangeValsSpec)

/-- ITS FALSE NEIGHBOUR: 'it returns false'. Refute it at one input. -/
def fnExactChangeValsWrong : ChangeSpec := { name := "fnExactChangeVals", fn := fun _ => fun
  | [d1, d2] => { results := [.lit (.bool false)], args := [d1, d2] }
  | _ => none }
def FnExactChangeValsWrongFalsely : Prop := fnExactChangeValsRow.holds Try.pinned (OpenSpec.ofChange fnExactChangeValsWrong)

/-- 'laws.FnExactShowVals': WHATEVER THE INPUT: true; the input reads as it did. -/
def fnExactShowValsSpec : ChangeSpec := { name := "fnExactShowVals", fn := fun _ => fun
  | [d] => { results := [.lit (.bool true)], args := [d] }
  | _ => none }
def fnExactShowValsRow : OpenClaim := { program := "ytpieapinofojdaa", sum := "6e3fed3670277199a30376f5b153a55212ef19631972a1bb4772431e3e927a4e", func := "loop.example/g00946/laws.FnExactShowVals", spec := "fnExactShowVals", apart := false }
def FnExactShowValsSaid : Prop := fnExactShowValsRow.holds Try.pinned (OpenSpec.ofChange fnExactShowValsSpec)

/-- ITS FALSE NEIGHBOUR: 'it returns false'. Refute it at one input. -/
def fnExactShowValsWrong : ChangeSpec := { name := "fnExactShowVals", fn := fun _ => fun
  | [d] => { results := [.lit (.bool false)], args := [d] }
  | _ => none }
def FnExactShowValsWrongFalsely : Prop := fnExactShowValsRow.holds Try.pinned (OpenSpec.ofChange fnExactShowValsWrong)

/-- 'laws.FnExactReadVals': WHATEVER THE INPUT: true; the input reads as it did. -/
def fnExactReadValsSpec : ChangeSpec := { name := "fnExactReadVals", fn := fun _ => fun
  | [d] => { results := [.lit (.bool true)], args := [d] }
  | _ => none }
def fnExactReadValsRow : OpenClaim := { program := "ytpieapinofojdaa", sum := "6e3fed3670277199a30376f5b153a55212ef19631972a1bb4772431e3e927a4e", func := "loop.example/g00946/laws.FnExactReadVals", spec := "fnExactReadVals", apart := false }
def FnExactReadValsSaid : Prop := fnExactReadValsRow.holds Try.pinned (OpenSpec.ofChange fnExactReadValsSpec)

/-- ITS FALSE NEIGHBOUR: 'it returns false'. Refute it at one input. -/
def fnExactReadValsWrong : ChangeSpec := { name := "fnExactReadVals", fn := fun _ => fun
  | [d] => { results := [.lit (.bool false)], args := [d] }
  | _ => none }
def FnExactReadValsWrongFalsely : Prop := fnExactReadValsRow.holds Try.pinned (OpenSpec.ofChange fnExactReadValsWrong)

/- THE SECOND FORM. 'bulk': how many values and letters a reading holds, each counted each time it is reached (what is shared counts as often as it is met; a slice's spare places count too). A statement '..UptoSaid' is the law's where the arguments, and the package variables that the reading takes, are together of bulk at most 1048576: NARROWER than '..Said'. Prove '..Said' where nothing that the law and all that it calls make is longer than what came in: it says more and counts as full. Else prove '..UptoSaid'. A law counts once. -/
mutual
def uptoBulk {H : Type} : DataW H → Nat
  | .lit (.string bytes) => bytes.length + 1
  | .lit _ => 1
  | .nil => 1
  | .ptr d => uptoBulk d + 1
  | .slice elems spare => uptoBulkAll elems + uptoBulkAll spare + 1
  | .agg parts => uptoBulkAll parts + 1
  | .iface _ d => uptoBulk d + 1
  | .map entries => uptoBulkEntries entries + 1
  | .held _ => 1
def uptoBulkAll {H : Type} : List (DataW H) → Nat
  | [] => 0
  | d :: r => uptoBulk d + uptoBulkAll r
def uptoBulkEntries {H : Type} : List (Lit × DataW H) → Nat
  | [] => 0
  | x :: r => uptoBulkEntry x + uptoBulkEntries r
def uptoBulkEntry {H : Type} : Lit × DataW H → Nat
  | (.string bytes, d) => bytes.length + uptoBulk d + 1
  | (_, d) => uptoBulk d + 1
 end
def uptoSmall : (H : Type) → List (DataW H) → Bool := fun _ ds => decide (uptoBulkAll ds ≤ 1048576)
def OpenSpec.upto (s : _root_.Go.ChangeSpec) : _root_.Go.OpenSpec := { _root_.Go.OpenSpec.ofChange s with cond := some uptoSmall }

/-- 'laws.FnEnough', WHERE WHAT IT READS IS OF BULK AT MOST 1048576: true; the input reads as it did. -/
def fnEnoughUptoRow : OpenClaim := { program := "ytpieapinofojdaa", sum := "6e3fed3670277199a30376f5b153a55212ef19631972a1bb4772431e3e927a4e", func := "loop.example/g00946/laws.FnEnough", spec := "fnEnough", unfollowed := true, recurses := true, apart := false, narrowed := true }
def FnEnoughUptoSaid : Prop := fnEnoughUptoRow.holds Try.pinned (OpenSpec.upto fnEnoughSpec)

/-- 'laws.FnExactValsOk', WHERE WHAT IT READS IS OF BULK AT MOST 1048576: true; the input reads as it did. -/
def fnExactValsOkUptoRow : OpenClaim := { program := "ytpieapinofojdaa", sum := "6e3fed3670277199a30376f5b153a55212ef19631972a1bb4772431e3e927a4e", func := "loop.example/g00946/laws.FnExactValsOk", spec := "fnExactValsOk", apart := false, narrowed := true }
def FnExactValsOkUptoSaid : Prop := fnExactValsOkUptoRow.holds Try.pinned (OpenSpec.upto fnExactValsOkSpec)

/-- 'laws.FnExactPowerOf', WHERE WHAT IT READS IS OF BULK AT MOST 1048576: true; the input reads as it did. -/
def fnExactPowerOfUptoRow : OpenClaim := { program := "ytpieapinofojdaa", sum := "6e3fed3670277199a30376f5b153a55212ef19631972a1bb4772431e3e927a4e", func := "loop.example/g00946/laws.FnExactPowerOf", spec := "fnExactPowerOf", unfollowed := true, recurses := true, apart := false, narrowed := true }
def FnExactPowerOfUptoSaid : Prop := fnExactPowerOfUptoRow.holds Try.pinned (OpenSpec.upto fnExactPowerOfSpec)

/-- 'laws.FnExactEnough', WHERE WHAT IT READS IS OF BULK AT MOST 1048576: true; the input reads as it did. -/
def fnExactEnoughUptoRow : OpenClaim := { program := "ytpieapinofojdaa", sum := "6e3fed3670277199a30376f5b153a55212ef19631972a1bb4772431e3e927a4e", func := "loop.example/g00946/laws.FnExactEnough", spec := "fnExactEnough", unfollowed := true, recurses := true, apart := false, narrowed := true }
def FnExactEnoughUptoSaid : Prop := fnExactEnoughUptoRow.holds Try.pinned (OpenSpec.upto fnExactEnoughSpec)

/-- 'laws.FnExactProposer', WHERE WHAT IT READS IS OF BULK AT MOST 1048576: true; the input reads as it did. -/
def fnExactProposerUptoRow : OpenClaim := { program := "ytpieapinofojdaa", sum := "6e3fed3670277199a30376f5b153a55212ef19631972a1bb4772431e3e927a4e", func := "loop.example/g00946/laws.FnExactProposer", spec := "fnExactProposer", apart := false, narrowed := true }
def FnExactProposerUptoSaid : Prop := fnExactProposerUptoRow.holds Try.pinned (OpenSpec.upto fnExactProposerSpec)

/-- 'laws.FnExactChangeVals', WHERE WHAT IT READS IS OF BULK AT MOST 1048576: true; the input reads as it did. -/
def fnExactChangeValsUptoRow : OpenClaim := { program := "ytpieapinofojdaa", sum := "6e3fed3670277199a30376f5b153a55212ef19631972a1bb4772431e3e927a4e", func := "loop.example/g00946/laws.FnExactChangeVals", spec := "fnExactChangeVals", unfollowed := true, recurses := true, apart := false, narrowed := true }
def FnExactChangeValsUptoSaid : Prop := fnExactChangeValsUptoRow.holds Try.pinned (OpenSpec.upto fnExactChangeValsSpec)

/-- 'laws.FnExactShowVals', WHERE WHAT IT READS IS OF BULK AT MOST 1048576: true; the input reads as it did. -/
def fnExactShowValsUptoRow : OpenClaim := { program := "ytpieapinofojdaa", sum := "6e3fed3670277199a30376f5b153a55212ef19631972a1bb4772431e3e927a4e", func := "loop.example/g00946/laws.FnExactShowVals", spec := "fnExactShowVals", apart := false, narrowed := true }
def FnExactShowValsUptoSaid : Prop := fnExactShowValsUptoRow.holds Try.pinned (OpenSpec.upto fnExactShowValsSpec)

/-- 'laws.FnExactReadVals', WHERE WHAT IT READS IS OF BULK AT MOST 1048576: true; the input reads as it did. -/
def fnExactReadValsUptoRow : OpenClaim := { program := "ytpieapinofojdaa", sum := "6e3fed3670277199a30376f5b153a55212ef19631972a1bb4772431e3e927a4e", func := "loop.example/g00946/laws.FnExactReadVals", spec := "fnExactReadVals", apart := false, narrowed := true }
def FnExactReadValsUptoSaid : Prop := fnExactReadValsUptoRow.holds Try.pinned (OpenSpec.upto fnExactReadValsSpec)

end Rows
end Go.Proofs.Ytpieapinofojdaa
