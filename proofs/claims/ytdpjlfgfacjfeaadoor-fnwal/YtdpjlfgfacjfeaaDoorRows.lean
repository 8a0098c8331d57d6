/-
  NARROWER THAN 'FOR EVERY INPUT', by the rows' own cells (each row's printed sentence says how): FnWal: laid · FnExactWalScan: laid · FnExactWalTrim: laid.
  DERIVED. THE GIVEN ROWS OF THIS SEAT. 3 by the template 'for every input the law returns true; each argument reads behind the call as it read before'; 0 by the template 'total and deterministic' (their statements: YtdpjlfgfacjfeaaDoorTotals.lean).
  GIVEN WITH THE SEED: the statements are not yours to turn. If you find one false, say at which input.
  Laid BY PROGRAM, IN A SANDBOX (cutbox-rows.mjs): the forced cells as the released guide's own fill.sh prints them over the translation 79ec65b6a02a9f18… (all of the seat's roots in one cut). By AI agents, Wed Nov 11 2026. No macro, syntax, notation, axiom, sorry.
-/
import Derived.Test.YtdpjlfgfacjfeaaDoorChecked
import GoSem.Claim
import GoSem.ClaimJoined
import GoSem.ClaimMapViews
import Derived.JoinedTies
import Derived.KernelRfl
namespace Go.Proofs.YtdpjlfgfacjfeaaDoor
/- THE CELL 'sum', in the pinned program and in every row, IS THE sha256 OF THE DUMP (.gsa) THAT YtdpjlfgfacjfeaaDoorProg.lean LOADS. Nothing in Lean hashes anything: it is a label: what it is worth is what the hold of that sum in a sandbox is worth. -/
noncomputable def Tryd.pinned : Pinned := { name := "ytdpjlfgfacjfeaadoor", sum := "79ec65b6a02a9f18d2d7418ce4978d700eb29180e5fb45fc37478ba7a67cda0b", checked := Tryd.checked }
namespace Rows
def none {H : Type} : Left H := { results := [], args := [] }

/- WHAT THE LISTED PACKAGE-LEVEL VARIABLES READ AS WHEN THE CALL BEGINS. Each datum BY PROGRAM (the guide's laid-datum.mjs) off the statement by which the dump's own 'gosem.cut.vars' lays the variable. In a bare row this is a premise. The card (YtdpjlfgfacjfeaaDoorCards.lean) ties it to the program's text. -/
def laid_loop_example_g00946_impl_crcOfFour {H : Type} : DataW H := .agg [.lit (.int .u32 0), .lit (.int .u32 274646895), .lit (.int .u32 549293790), .lit (.int .u32 820201905), .lit (.int .u32 1098587580), .lit (.int .u32 1361435347), .lit (.int .u32 1640403810), .lit (.int .u32 1905808397), .lit (.int .u32 2197175160), .lit (.int .u32 2460548119), .lit (.int .u32 2722870694), .lit (.int .u32 2987750089), .lit (.int .u32 3280807620), .lit (.int .u32 3553878443), .lit (.int .u32 3811616794), .lit (.int .u32 4084100981)]

/-- 'laws.FnWal': WHATEVER THE INPUT: true; the input reads as it did. -/
def fnWalSpec : ChangeSpec := { name := "fnWal", vars := ["loop.example/g00946/impl.crcOfFour"], fn := fun _ => fun
  | [d, g1] => { results := [.lit (.bool true)], args := [d], vars := [g1] }
  | _ => none }
def fnWalRow : OpenClaim := { program := "ytdpjlfgfacjfeaadoor", sum := "79ec65b6a02a9f18d2d7418ce4978d700eb29180e5fb45fc37478ba7a67cda0b", func := "loop.example/g00946/laws.FnWal", spec := "fnWal", unfollowed := true, recurses := true, named := ["loop.example/g00946/impl.crcOfFour"], apart := false, laid := [("loop.example/g00946/impl.crcOfFour", laid_loop_example_g00946_impl_crcOfFour)] }
def FnWalSaid : Prop := fnWalRow.holds Tryd.pinned (OpenSpec.ofChange fnWalSpec)

/-- ITS FALSE NEIGHBOUR: 'it returns false'. Refute it at one input. -/
def fnWalWrong : ChangeSpec := { name := "fnWal", vars := ["loop.example/g00946/impl.crcOfFour"], fn := fun _ => fun
  | [d, g1] => { results := [.lit (.bool false)], args := [d], vars := [g1] }
  | _ => none }
def FnWalWrongFalsely : Prop := fnWalRow.holds Tryd.pinned (OpenSpec.ofChange fnWalWrong)

/-- 'laws.FnExactWalScan': WHATEVER THE INPUT: true; the input reads as it did. -/
def fnExactWalScanSpec : ChangeSpec := { name := "fnExactWalScan", vars := ["loop.example/g00946/impl.crcOfFour"], fn := fun _ => fun
  | [d, g1] => { results := [.lit (.bool true)], args := [d], vars := [g1] }
  | _ => none }
def fnExactWalScanRow : OpenClaim := { program := "ytdpjlfgfacjfeaadoor", sum := "79ec65b6a02a9f18d2d7418ce4978d700eb29180e5fb45fc37478ba7a67cda0b", func := "loop.example/g00946/laws.FnExactWalScan", spec := "fnExactWalScan", unfollowed := true, recurses := true, named := ["loop.example/g00946/impl.crcOfFour"], apart := false, laid := [("loop.example/g00946/impl.crcOfFour", laid_loop_example_g00946_impl_crcOfFour)] }
def FnExactWalScanSaid : Prop := fnExactWalScanRow.holds Tryd.pinned (OpenSpec.ofChange fnExactWalScanSpec)

/-- ITS FALSE NEIGHBOUR: 'it returns false'. Refute it at one input. -/
def fnExactWalScanWrong : ChangeSpec := { name := "fnExactWalScan", vars := ["loop.example/g00946/impl.crcOfFour"], fn := fun _ => fun
  | [d, g1] => { results := [.lit (.bool false)], args := [d], vars := [g1] }
  | _ => none }
def FnExactWalScanWrongFalsely : Prop := fnExactWalScanRow.holds Tryd.pinned (OpenSpec.ofChange fnExactWalScanWrong)

/-- 'laws.FnExactWalTrim': WHATEVER THE INPUT: true; the input reads as it did. -/
def fnExactWalTrimSpec : ChangeSpec := { name := "fnExactWalTrim", vars := ["loop.example/g00946/impl.crcOfFour"], fn := fun _ => fun
  | [d, g1] => { results := [.lit (.bool true)], args := [d], vars := [g1] }
  | _ => none }
def fnExactWalTrimRow : OpenClaim := { program := "ytdpjlfgfacjfeaadoor", sum := "79ec65b6a02a9f18d2d7418ce4978d700eb29180e5fb45fc37478ba7a67cda0b", func := "loop.example/g00946/laws.FnExactWalTrim", spec := "fnExactWalTrim", unfollowed := true, recurses := true, named := ["loop.example/g00946/impl.crcOfFour"], apart := false, laid := [("loop.example/g00946/impl.crcOfFour", laid_loop_example_g00946_impl_crcOfFour)] }
def FnExactWalTrimSaid : Prop := fnExactWalTrimRow.holds Tryd.pinned (OpenSpec.ofChange fnExactWalTrimSpec)

/-- ITS FALSE NEIGHBOUR: 'it returns false'. Refute it at one input. -/
def fnExactWalTrimWrong : ChangeSpec := { name := "fnExactWalTrim", vars := ["loop.example/g00946/impl.crcOfFour"], fn := fun _ => fun
  | [d, g1] => { results := [.lit (.bool false)], args := [d], vars := [g1] }
  | _ => none }
def FnExactWalTrimWrongFalsely : Prop := fnExactWalTrimRow.holds Tryd.pinned (OpenSpec.ofChange fnExactWalTrimWrong)

/- THE SECOND FORM. 'bulk': how many values and letters a reading holds, each counted each time it is reached (what is shared counts as often as it is met; a slice's spare places count too). A statement '..UptoSaid' is the law's where the arguments, and the package variables that the reading takes, are together of bulk at most 1048576: NARROWER than '..Said'. Prove '..Said' where nothing that the law and all that it calls make is longer than what came in: it says more and counts as full. Else prove '..UptoSaid'. A law counts once. -/
mutual
def uptoBulk {H : Type} : DataW H → Nat
  | .lit (.string bytes) => bytes.length + 1
  | .lit _ => 1
  | .nil => 1
  | .ptr d => uptoBulk d + 1
  | .slice elems spare => uptoBulkAll elems + uptoBulkAll spare + 1
  | .agg parts => uptoBulkAll parts + 1
  | .iface _ d => uptoBulk d + 1
  | .map entries => uptoBulkEntries entries + 1
  | .held _ => 1
def uptoBulkAll {H : Type} : List (DataW H) → Nat
  | [] => 0
  | d :: r => uptoBulk d + uptoBulkAll r
def uptoBulkEntries {H : Type} : List (Lit × DataW H) → Nat
  | [] => 0
  | x :: r => uptoBulkEntry x + uptoBulkEntries r
def uptoBulkEntry {H : Type} : Lit × DataW H → Nat
  | (.string bytes, d) => bytes.length + uptoBulk d + 1
  | (_, d) => uptoBulk d + 1
 end
def uptoSmall : (H : Type) → List (DataW H) → Bool := fun _ ds => decide (uptoBulkAll ds ≤ 1048576)
def OpenSpec.upto (s : _root_.Go.ChangeSpec) : _root_.Go.OpenSpec := { _root_.Go.OpenSpec.ofChange s with cond := some uptoSmall }

/-- 'laws.FnWal', WHERE WHAT IT READS IS OF BULK AT MOST 1048576: true; the input reads as it did. -/
def fnWalUptoRow : OpenClaim := { program := "ytdpjlfgfacjfeaadoor", sum := "79ec65b6a02a9f18d2d7418ce4978d700eb29180e5fb45fc37478ba7a67cda0b", func := "loop.example/g00946/laws.FnWal", spec := "fnWal", unfollowed := true, recurses := true, named := ["loop.example/g00946/impl.crcOfFour"], apart := false, laid := [("loop.example/g00946/impl.crcOfFour", laid_loop_example_g00946_impl_crcOfFour)], narrowed := true }
def FnWalUptoSaid : Prop := fnWalUptoRow.holds Tryd.pinned (OpenSpec.upto fnWalSpec)

/-- 'laws.FnExactWalScan', WHERE WHAT IT READS IS OF BULK AT MOST 1048576: true; the input reads as it did. -/
def fnExactWalScanUptoRow : OpenClaim := { program := "ytdpjlfgfacjfeaadoor", sum := "79ec65b6a02a9f18d2d7418ce4978d700eb29180e5fb45fc37478ba7a67cda0b", func := "loop.example/g00946/laws.FnExactWalScan", spec := "fnExactWalScan", unfollowed := true, recurses := true, named := ["loop.example/g00946/impl.crcOfFour"], apart := false, laid := [("loop.example/g00946/impl.crcOfFour", laid_loop_example_g00946_impl_crcOfFour)], narrowed := true }
def FnExactWalScanUptoSaid : Prop := fnExactWalScanUptoRow.holds Tryd.pinned (OpenSpec.upto fnExactWalScanSpec)

/-- 'laws.FnExactWalTrim', WHERE WHAT IT READS IS OF BULK AT MOST 1048576: true; the input reads as it did. -/
def fnExactWalTrimUptoRow : OpenClaim := { program := "ytdpjlfgfacjfeaadoor", sum := "79ec65b6a02a9f18d2d7418ce4978d700eb29180e5fb45fc37478ba7a67cda0b", func := "loop.example/g00946/laws.FnExactWalTrim", spec := "fnExactWalTrim", unfollowed := true, recurses := true, named := ["loop.example/g00946/impl.crcOfFour"], apart := false, laid := [("loop.example/g00946/impl.crcOfFour", laid_loop_example_g00946_impl_crcOfFour)], narrowed := true }
def FnExactWalTrimUptoSaid : Prop := fnExactWalTrimUptoRow.holds Tryd.pinned (OpenSpec.upto fnExactWalTrimSpec)

end Rows
end Go.Proofs.YtdpjlfgfacjfeaaDoor
