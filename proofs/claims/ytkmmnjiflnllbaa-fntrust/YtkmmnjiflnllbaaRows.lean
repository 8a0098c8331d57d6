/-
  No cell of these rows narrows 'for every input' (looked for: loops, veiled, ifaces, maps, wideKeys, modest, calm, conditions, laid).
  DERIVED. THE GIVEN ROWS OF THIS SEAT. 5 by the template 'for every input the law returns true; each argument reads behind the call as it read before'; 0 by the template 'total and deterministic' (their statements: YtkmmnjiflnllbaaTotals.lean).
  GIVEN WITH THE SEED: the statements are not yours to turn. If you find one false, say at which input.
  Laid BY PROGRAM, IN A SANDBOX (cutbox-rows.mjs): the forced cells as the released guide's own fill.sh prints them over the translation ae0d83cca1794a73… (all of the seat's roots in one cut). By AI agents, Wed Nov 11 2026. No macro, syntax, notation, axiom, sorry.
-/
import Derived.Test.YtkmmnjiflnllbaaChecked
import GoSem.Claim
import GoSem.ClaimJoined
import GoSem.ClaimMapViews
import Derived.JoinedTies
import Derived.KernelRfl
namespace Go.Proofs.Ytkmmnjiflnllbaa
/- THE CELL 'sum', in the pinned program and in every row, IS THE sha256 OF THE DUMP (.gsa) THAT YtkmmnjiflnllbaaProg.lean LOADS. Nothing in Lean hashes anything: it is a label: what it is worth is what the hold of that sum in a sandbox is worth. -/
noncomputable def Try.pinned : Pinned := { name := "ytkmmnjiflnllbaa", sum := "ae0d83cca1794a736067b3d8b4addb0fa2ece24332b4f33817d9ed139d6211b6", checked := Try.checked }
namespace Rows
def none {H : Type} : Left H := { results := [], args := [] }

/-- 'laws.FnTrust': WHATEVER THE INPUT: true; the input reads as it did. -/
def fnTrustSpec : ChangeSpec := { name := "fnTrust", fn := fun _ => fun
  | [d] => { results := [.lit (.bool true)], args := [d] }
  | _ => none }
def fnTrustRow : OpenClaim := { program := "ytkmmnjiflnllbaa", sum := "ae0d83cca1794a736067b3d8b4addb0fa2ece24332b4f33817d9ed139d6211b6", func := "loop.example/g00946/laws.FnTrust", spec := "fnTrust", unfollowed := true, recurses := true, apart := false }
def FnTrustSaid : Prop := fnTrustRow.holds Try.pinned (OpenSpec.ofChange fnTrustSpec)

/-- ITS FALSE NEIGHBOUR: 'it returns false'. Refute it at one input. -/
def fnTrustWrong : ChangeSpec := { name := "fnTrust", fn := fun _ => fun
  | [d] => { results := [.lit (.bool false)], args := [d] }
  | _ => none }
def FnTrustWrongFalsely : Prop := fnTrustRow.holds Try.pinned (OpenSpec.ofChange fnTrustWrong)

/-- 'laws.FnExactTrustOk': WHATEVER THE INPUT: true; the input reads as it did. -/
def fnExactTrustOkSpec : ChangeSpec := { name := "fnExactTrustOk", fn := fun _ => fun
  | [d] => { results := [.lit (.bool true)], args := [d] }
  | _ => none }
def fnExactTrustOkRow : OpenClaim := { program := "ytkmmnjiflnllbaa", sum := "ae0d83cca1794a736067b3d8b4addb0fa2ece24332b4f33817d9ed139d6211b6", func := "loop.example/g00946/laws.FnExactTrustOk", spec := "fnExactTrustOk", apart := false }
def FnExactTrustOkSaid : Prop := fnExactTrustOkRow.holds Try.pinned (OpenSpec.ofChange fnExactTrustOkSpec)

/-- ITS FALSE NEIGHBOUR: 'it returns false'. Refute it at one input. -/
def fnExactTrustOkWrong : ChangeSpec := { name := "fnExactTrustOk", fn := fun _ => fun
  | [d] => { results := [.lit (.bool false)], args := [d] }
  | _ => none }
def FnExactTrustOkWrongFalsely : Prop := fnExactTrustOkRow.holds Try.pinned (OpenSpec.ofChange fnExactTrustOkWrong)

/-- 'laws.FnExactExpires': WHATEVER THE INPUT: true; the input reads as it did. -/
def fnExactExpiresSpec : ChangeSpec := { name := "fnExactExpires", fn := fun _ => fun
  | [d1, d2] => { results := [.lit (.bool true)], args := [d1, d2] }
  | _ => none }
def fnExactExpiresRow : OpenClaim := { program := "ytkmmnjiflnllbaa", sum := "ae0d83cca1794a736067b3d8b4addb0fa2ece24332b4f33817d9ed139d6211b6", func := "loop.example/g00946/laws.FnExactExpires", spec := "fnExactExpires", apart := false }
def FnExactExpiresSaid : Prop := fnExactExpiresRow.holds Try.pinned (OpenSpec.ofChange fnExactExpiresSpec)

/-- ITS FALSE NEIGHBOUR: 'it returns false'. Refute it at one input. -/
def fnExactExpiresWrong : ChangeSpec := { name := "fnExactExpires", fn := fun _ => fun
  | [d1, d2] => { results := [.lit (.bool false)], args := [d1, d2] }
  | _ => none }
def FnExactExpiresWrongFalsely : Prop := fnExactExpiresRow.holds Try.pinned (OpenSpec.ofChange fnExactExpiresWrong)

/-- 'laws.FnExactFresh': WHATEVER THE INPUT: true; the input reads as it did. -/
def fnExactFreshSpec : ChangeSpec := { name := "fnExactFresh", fn := fun _ => fun
  | [d1, d2, d3] => { results := [.lit (.bool true)], args := [d1, d2, d3] }
  | _ => none }
def fnExactFreshRow : OpenClaim := { program := "ytkmmnjiflnllbaa", sum := "ae0d83cca1794a736067b3d8b4addb0fa2ece24332b4f33817d9ed139d6211b6", func := "loop.example/g00946/laws.FnExactFresh", spec := "fnExactFresh", unfollowed := true, recurses := true, apart := false }
def FnExactFreshSaid : Prop := fnExactFreshRow.holds Try.pinned (OpenSpec.ofChange fnExactFreshSpec)

/-- ITS FALSE NEIGHBOUR: 'it returns false'. Refute it at one input. -/
def fnExactFreshWrong : ChangeSpec := { name := "fnExactFresh", fn := fun _ => fun
  | [d1, d2, d3] => { results := [.lit (.bool false)], args := [d1, d2, d3] }
  | _ => none }
def FnExactFreshWrongFalsely : Prop := fnExactFreshRow.holds Try.pinned (OpenSpec.ofChange fnExactFreshWrong)

/-- 'laws.FnExactTimeLeft': WHATEVER THE INPUT: true; the input reads as it did. -/
def fnExactTimeLeftSpec : ChangeSpec := { name := "fnExactTimeLeft", fn := fun _ => fun
  | [d1, d2, d3] => { results := [.lit (.bool true)], args := [d1, d2, d3] }
  | _ => none }
def fnExactTimeLeftRow : OpenClaim := { program := "ytkmmnjiflnllbaa", sum := "ae0d83cca1794a736067b3d8b4addb0fa2ece24332b4f33817d9ed139d6211b6", func := "loop.example/g00946/laws.FnExactTimeLeft", spec := "fnExactTimeLeft", unfollowed := true, recurses := true, apart := false }
def FnExactTimeLeftSaid : Prop := fnExactTimeLeftRow.holds Try.pinned (OpenSpec.ofChange fnExactTimeLeftSpec)

/-- ITS FALSE NEIGHBOUR: 'it returns false'. Refute it at one input. -/
def fnExactTimeLeftWrong : ChangeSpec := { name := "fnExactTimeLeft", fn := fun _ => fun
  | [d1, d2, d3] => { results := [.lit (.bool false)], args := [d1, d2, d3] }
  | _ => none }
def FnExactTimeLeftWrongFalsely : Prop := fnExactTimeLeftRow.holds Try.pinned (OpenSpec.ofChange fnExactTimeLeftWrong)

/- THE SECOND FORM. 'bulk': how many values and letters a reading holds, each counted each time it is reached (what is shared counts as often as it is met; a slice's spare places count too). A statement '..UptoSaid' is the law's where the arguments, and the package variables that the reading takes, are together of bulk at most 1048576: NARROWER than '..Said'. Prove '..Said' where nothing that the law and all that it calls make is longer than what came in: it says more and counts as full. Else prove '..UptoSaid'. A law counts once. -/
mutual
def uptoBulk {H : Type} : DataW H → Nat
  | .lit (.string bytes) => bytes.length + 1
  | .lit _ => 1
  | .nil => 1
  | .ptr d => uptoBulk d + 1
  | .slice elems spare => uptoBulkAll elems + uptoBulkAll spare + 1
  | .agg parts => uptoBulkAll parts + 1
  | .iface _ d => uptoBulk d + 1
  | .map entries => uptoBulkEntries entries + 1
  | .held _ => 1
def uptoBulkAll {H : Type} : List (DataW H) → Nat
  | [] => 0
  | d :: r => uptoBulk d + uptoBulkAll r
def uptoBulkEntries {H : Type} : List (Lit × DataW H) → Nat
  | [] => 0
  | x :: r => uptoBulkEntry x + uptoBulkEntries r
def uptoBulkEntry {H : Type} : Lit × DataW H → Nat
  | (.string bytes, d) => bytes.length + uptoBulk d + 1
  | (_, d) => uptoBulk d + 1
 end
def uptoSmall : (H : Type) → List (DataW H) → Bool := fun _ ds => decide (uptoBulkAll ds ≤ 1048576)
def OpenSpec.upto (s : _root_.Go.ChangeSpec) : _root_.Go.OpenSpec := { _root_.Go.OpenSpec.ofChange s with cond := some uptoSmall }

/-- 'laws.FnTrust', WHERE WHAT IT READS IS OF BULK AT MOST 1048576: true; the input reads as it did. -/
def fnTrustUptoRow : OpenClaim := { program := "ytkmmnjiflnllbaa", sum := "ae0d83cca1794a736067b3d8b4addb0fa2ece24332b4f33817d9ed139d6211b6", func := "loop.example/g00946/laws.FnTrust", spec := "fnTrust", unfollowed := true, recurses := true, apart := false, narrowed := true }
def FnTrustUptoSaid : Prop := fnTrustUptoRow.holds Try.pinned (OpenSpec.upto fnTrustSpec)

/-- 'laws.FnExactTrustOk', WHERE WHAT IT READS IS OF BULK AT MOST 1048576: true; the input reads as it did. -/
def fnExactTrustOkUptoRow : OpenClaim := { program := "ytkmmnjiflnllbaa", sum := "ae0d83cca1794a736067b3d8b4addb0fa2ece24332b4f33817d9ed139d6211b6", func := "loop.example/g00946/laws.FnExactTrustOk", spec := "fnExactTrustOk", apart := false, narrowed := true }
def FnExactTrustOkUptoSaid : Prop := fnExactTrustOkUptoRow.holds Try.pinned (OpenSpec.upto fnExactTrustOkSpec)

/-- 'laws.FnExactExpires', WHERE WHAT IT READS IS OF BULK AT MOST 1048576: true; the input reads as it did. -/
def fnExactExpiresUptoRow : OpenClaim := { program := "ytkmmnjiflnllbaa", sum := "ae0d83cca1794a736067b3d8b4addb0fa2ece24332b4f33817d9ed139d6211b6", func := "loop.example/g00946/laws.FnExactExpires", spec := "fnExactExpires", apart := false, narrowed := true }
def FnExactExpiresUptoSaid : Prop := fnExactExpiresUptoRow.holds Try.pinned (OpenSpec.upto fnExactExpiresSpec)

/-- 'laws.FnExactFresh', WHERE WHAT IT READS IS OF BULK AT MOST 1048576: true; the input reads as it did. -/
def fnExactFreshUptoRow : OpenClaim := { program := "ytkmmnjiflnllbaa", sum := "ae0d83cca1794a736067b3d8b4addb0fa2ece24332b4f33817d9ed139d6211b6", func := "loop.example/g00946/laws.FnExactFresh", spec := "fnExactFresh", unfollowed := true, recurses := true, apart := false, narrowed := true }
def FnExactFreshUptoSaid : Prop := fnExactFreshUptoRow.holds Try.pinned (OpenSpec.upto fnExactFreshSpec)

/-- 'laws.FnExactTimeLeft', WHERE WHAT IT READS IS OF BULK AT MOST 1048576: true; the input reads as it did. -/
def fnExactTimeLeftUptoRow : OpenClaim := { program := "ytkmmnjiflnllbaa", sum := "ae0d83cca1794a736067b3d8b4addb0fa2ece24332b4f33817d9ed139d6211b6", func := "loop.example/g00946/laws.FnExactTimeLeft", spec := "fnExactTimeLeft", unfollowed := true, recurses := true, apart := false, narrowed := true }
def FnExactTimeLeftUptoSaid : Prop := fnExactTimeLeftUptoRow.holds Try.pinned (OpenSpec.upto fnExactTimeLeftSpec)

end Rows
end Go.Proofs.Ytkmmnjiflnllbaa
