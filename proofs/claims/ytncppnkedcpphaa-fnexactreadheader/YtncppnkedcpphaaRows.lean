/-
  No cell of these rows narrows 'for every input' (looked for: loops, veiled, ifaces, maps, wideKeys, modest, calm, conditions, laid).
  DERIVED. THE GIVEN ROWS OF THIS SEAT. 3 by the template 'for every input the law returns true; each argument reads behind the call as it read before'; 0 by the template 'total and deterministic' (their statements: YtncppnkedcpphaaTotals.lean).
  GIVEN WITH THE SEED: the statements are not yours to turn. If you find one false, say at which input.
  Laid BY PROGRAM, IN A SANDBOX (cutbox-rows.mjs): the forced cells as the released guide's own fill.sh prints them over the translation f946b5fac6cc80d9… (all of the seat's roots in one cut). By AI agents, Wed Nov 11 2026. No macro, syntax, notation, axiom, sorry.
-/
import Derived.Test.YtncppnkedcpphaaChecked
import GoSem.Claim
import GoSem.ClaimJoined
import GoSem.ClaimMapViews
import Derived.JoinedTies
import Derived.KernelRfl
namespace Go.Proofs.Ytncppnkedcpphaa
/- THE CELL 'sum', in the pinned program and in every row, IS THE sha256 OF THE DUMP (.gsa) THAT YtncppnkedcpphaaProg.lean LOADS. Nothing in Lean hashes anything: it is a label: what it is worth is what the hold of that sum in a sandbox is worth. -/
noncomputable def Try.pinned : Pinned := { name := "ytncppnkedcpphaa", sum := "f946b5fac6cc80d95421561246fa588a71ddef33cf3c26884987e72252ea31a1", checked := Try.checked }
namespace Rows
def none {H : Type} : Left H := { results := [], args := [] }

/-- 'laws.FnExactHeaderOk': WHATEVER THE INPUT: true; the input reads as it did. -/
def fnExactHeaderOkSpec : ChangeSpec := { name := "fnExactHeaderOk", fn := fun _ => fun
  | [d] => { results := [.lit (.bool true)], args := [d] }
  | _ => none }
def fnExactHeaderOkRow : OpenClaim := { program := "ytncppnkedcpphaa", sum := "f946b5fac6cc80d95421561246fa588a71ddef33cf3c26884987e72252ea31a1", func := "loop.example/g00946/laws.FnExactHeaderOk", spec := "fnExactHeaderOk", apart := false }
def FnExactHeaderOkSaid : Prop := fnExactHeaderOkRow.holds Try.pinned (OpenSpec.ofChange fnExactHeaderOkSpec)

/-- ITS FALSE NEIGHBOUR: 'it returns false'. Refute it at one input. -/
def fnExactHeaderOkWrong : ChangeSpec := { name := "fnExactHeaderOk", fn := fun _ => fun
  | [d] => { results := [.lit (.bool false)], args := [d] }
  | _ => none }
def FnExactHeaderOkWrongFalsely : Prop := fnExactHeaderOkRow.holds Try.pinned (OpenSpec.ofChange fnExactHeaderOkWrong)

/-- 'laws.FnExactShowHeader': WHATEVER THE INPUT: true; the input reads as it did. -/
def fnExactShowHeaderSpec : ChangeSpec := { name := "fnExactShowHeader", fn := fun _ => fun
  | [d] => { results := [.lit (.bool true)], args := [d] }
  | _ => none }
def fnExactShowHeaderRow : OpenClaim := { program := "ytncppnkedcpphaa", sum := "f946b5fac6cc80d95421561246fa588a71ddef33cf3c26884987e72252ea31a1", func := "loop.example/g00946/laws.FnExactShowHeader", spec := "fnExactShowHeader", apart := false }
def FnExactShowHeaderSaid : Prop := fnExactShowHeaderRow.holds Try.pinned (OpenSpec.ofChange fnExactShowHeaderSpec)

/-- ITS FALSE NEIGHBOUR: 'it returns false'. Refute it at one input. -/
def fnExactShowHeaderWrong : ChangeSpec := { name := "fnExactShowHeader", fn := fun _ => fun
  | [d] => { results := [.lit (.bool false)], args := [d] }
  | _ => none }
def FnExactShowHeaderWrongFalsely : Prop := fnExactShowHeaderRow.holds Try.pinned (OpenSpec.ofChange fnExactShowHeaderWrong)

/-- 'laws.FnExactReadHeader': WHATEVER THE INPUT: true; the input reads as it did. -/
def fnExactReadHeaderSpec : ChangeSpec := { name := "fnExactReadHeader", fn := fun _ => fun
  | [d] => { results := [.lit (.bool true)], args := [d] }
  | _ => none }
def fnExactReadHeaderRow : OpenClaim := { program := "ytncppnkedcpphaa", sum := "f946b5fac6cc80d95421561246fa588a71ddef33cf3c26884987e72252ea31a1", func := "loop.example/g00946/laws.FnExactReadHeader", spec := "fnExactReadHeader", apart := false }
def FnExactReadHeaderSaid : Prop := fnExactReadHeaderRow.holds Try.pinned (OpenSpec.ofChange fnExactReadHeaderSpec)

/-- ITS FALSE NEIGHBOUR: 'it returns false'. Refute it at one input. -/
def fnExactReadHeaderWrong : ChangeSpec := { name := "fnExactReadHeader", fn := fun _ => fun
  | [d] => { results := [.lit (.bool false)], args := [d] }
  | _ => none }
def FnExactReadHeaderWrongFalsely : Prop := fnExactReadHeaderRow.holds Try.pinned (OpenSpec.ofChange fnExactReadHeaderWrong)

/- THE SECOND FORM. 'bulk': how many values and letters a reading holds, each counted each time it is reached (what is shared counts as often as it is met; a slice's spare places count too). A statement '..UptoSaid' is the law's where the arguments, and the package variables that the reading takes, are together of bulk at most 1048576: NARROWER than '..Said'. Prove '..Said' where nothing that the law and all that it calls make is longer than what came in: it says more and counts as full. Else prove '..UptoSaid'. A law counts once. -/
mutual
def uptoBulk {H : Type} : DataW H → Nat
  | .lit (.string bytes) => bytes.length + 1
  | .lit _ => 1
  | .nil => 1
  | .ptr d => uptoBulk d + 1
  | .slice elems spare => uptoBulkAll elems + uptoBulkAll spare + 1
  | .agg parts => uptoBulkAll parts + 1
  | .iface _ d => uptoBulk d + 1
  | .map entries => uptoBulkEntries entries + 1
  | .held _ => 1
def uptoBulkAll {H : Type} : List (DataW H) → Nat
  | [] => 0
  | d :: r => uptoBulk d + uptoBulkAll r
def uptoBulkEntries {H : Type} : List (Lit × DataW H) → Nat
  | [] => 0
  | x :: r => uptoBulkEntry x + uptoBulkEntries r
def uptoBulkEntry {H : Type} : Lit × DataW H → Nat
  | (.string bytes, d) => bytes.length + uptoBulk d + 1
  | (_, d) => uptoBulk d + 1
 end
def uptoSmall : (H : Type) → List (DataW H) → Bool := fun _ ds => decide (uptoBulkAll ds ≤ 1048576)
def OpenSpec.upto (s : _root_.Go.ChangeSpec) : _root_.Go.OpenSpec := { _root_.Go.OpenSpec.ofChange s with cond := some uptoSmall }

/-- 'laws.FnExactHeaderOk', WHERE WHAT IT READS IS OF BULK AT MOST 1048576: true; the input reads as it did. -/
def fnExactHeaderOkUptoRow : OpenClaim := { program := "ytncppnkedcpphaa", sum := "f946b5fac6cc80d95421561246fa588a71ddef33cf3c26884987e72252ea31a1", func := "loop.example/g00946/laws.FnExactHeaderOk", spec := "fnExactHeaderOk", apart := false, narrowed := true }
def FnExactHeaderOkUptoSaid : Prop := fnExactHeaderOkUptoRow.holds Try.pinned (OpenSpec.upto fnExactHeaderOkSpec)

/-- 'laws.FnExactShowHeader', WHERE WHAT IT READS IS OF BULK AT MOST 1048576: true; the input reads as it did. -/
def fnExactShowHeaderUptoRow : OpenClaim := { program := "ytncppnkedcpphaa", sum := "f946b5fac6cc80d95421561246fa588a71ddef33cf3c26884987e72252ea31a1", func := "loop.example/g00946/laws.FnExactShowHeader", spec := "fnExactShowHeader", apart := false, narrowed := true }
def FnExactShowHeaderUptoSaid : Prop := fnExactShowHeaderUptoRow.holds Try.pinned (OpenSpec.upto fnExactShowHeaderSpec)

/-- 'laws.FnExactReadHeader', WHERE WHAT IT READS IS OF BULK AT MOST 1048576: true; the input reads as it did. -/
def fnExactReadHeaderUptoRow : OpenClaim := { program := "ytncppnkedcpphaa", sum := "f946b5fac6cc80d95421561246fa588a71ddef33cf3c26884987e72252ea31a1", func := "loop.example/g00946/laws.FnExactReadHeader", spec := "fnExactReadHeader", apart := false, narrowed := true }
def FnExactReadHeaderUptoSaid : Prop := fnExactReadHeaderUptoRow.holds Try.pinned (OpenSpec.upto fnExactReadHeaderSpec)

end Rows
end Go.Proofs.Ytncppnkedcpphaa
