/-
  DERIVED. GIVEN WITH THE SEED: THE CARDS: each row of YtbpmjejmeaifbaaGreatDoorRows.lean that lists a variable, with what it lists TIED to the program's text (the seventh form; the later family's looks); each row that meets fmt, with fmt's text TOLD by the authors' own Lean function (tested against real Go, not proved from fmt's source: count such statements apart). THE CARD IS WHAT COUNTS. Prove the row's statement (the work); the ties are given (YtbpmjejmeaifbaaGreatDoorTie.lean); close each card by the builder's one call (the guide's Derived/Test/ToyasCard.lean, 'card_holds'). Laid BY PROGRAM, IN A SANDBOX (cutbox-door.mjs). By AI agents, Wed Nov 11 2026. No macro, syntax, notation, axiom, sorry.
-/
import Derived.Test.YtbpmjejmeaifbaaGreatDoorRows
import GoSem.ClaimSeven
namespace Go.Proofs.YtbpmjejmeaifbaaGreatDoor
namespace Rows

/-- THE TIED CARD OF 'laws.FnCommit'. -/
def fnCommitCard : Claim7 := { stood := { row := fnCommitRow, standIns := [], harness := (true, "0f0a5300a8aaa8f73d7034fb31b5b48918acebd3be749cedd872ce963df69d1e"), looks := false }, kinds := [], alts := [], laidByText := true, laidKinds := [.data], laidTests := true, laidLooks := .later }
def FnCommitCardSaid : Prop := Claim7.holds Tryz.pinned (.plain (OpenSpec.ofChange fnCommitSpec)) fnCommitCard

/-- THE TIED CARD OF 'laws.FnExactCommitOk'. -/
def fnExactCommitOkCard : Claim7 := { stood := { row := fnExactCommitOkRow, standIns := [], harness := (true, "0f0a5300a8aaa8f73d7034fb31b5b48918acebd3be749cedd872ce963df69d1e"), looks := false }, kinds := [], alts := [], laidByText := true, laidKinds := [.data], laidTests := true, laidLooks := .later }
def FnExactCommitOkCardSaid : Prop := Claim7.holds Tryz.pinned (.plain (OpenSpec.ofChange fnExactCommitOkSpec)) fnExactCommitOkCard

/-- THE SECOND FORM's CARD OF 'laws.FnCommit'. -/
def fnCommitUptoCard : Claim7 := { stood := { row := fnCommitUptoRow, standIns := [], harness := (true, "0f0a5300a8aaa8f73d7034fb31b5b48918acebd3be749cedd872ce963df69d1e"), looks := false }, kinds := [], alts := [], laidByText := true, laidKinds := [.data], laidTests := true, laidLooks := .later }
def FnCommitUptoCardSaid : Prop := Claim7.holds Tryz.pinned (.plain (OpenSpec.upto fnCommitSpec)) fnCommitUptoCard

/-- THE SECOND FORM's CARD OF 'laws.FnExactCommitOk'. -/
def fnExactCommitOkUptoCard : Claim7 := { stood := { row := fnExactCommitOkUptoRow, standIns := [], harness := (true, "0f0a5300a8aaa8f73d7034fb31b5b48918acebd3be749cedd872ce963df69d1e"), looks := false }, kinds := [], alts := [], laidByText := true, laidKinds := [.data], laidTests := true, laidLooks := .later }
def FnExactCommitOkUptoCardSaid : Prop := Claim7.holds Tryz.pinned (.plain (OpenSpec.upto fnExactCommitOkSpec)) fnExactCommitOkUptoCard
end Rows
end Go.Proofs.YtbpmjejmeaifbaaGreatDoor
