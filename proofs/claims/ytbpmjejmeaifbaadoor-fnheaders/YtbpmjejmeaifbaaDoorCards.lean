/-
  DERIVED. GIVEN WITH THE SEED: THE CARDS: each row of YtbpmjejmeaifbaaDoorRows.lean that lists a variable, with what it lists TIED to the program's text (the seventh form; the later family's looks); each row that meets fmt, with fmt's text TOLD by the authors' own Lean function (tested against real Go, not proved from fmt's source: count such statements apart). THE CARD IS WHAT COUNTS. Prove the row's statement (the work); the ties are given (YtbpmjejmeaifbaaDoorTie.lean); close each card by the builder's one call (the guide's Derived/Test/ToyasCard.lean, 'card_holds'). Laid BY PROGRAM, IN A SANDBOX (cutbox-door.mjs). By AI agents, Wed Nov 11 2026. No macro, syntax, notation, axiom, sorry.
-/
import Derived.Test.YtbpmjejmeaifbaaDoorRows
import GoSem.ClaimSeven
namespace Go.Proofs.YtbpmjejmeaifbaaDoor
namespace Rows

/-- THE TIED CARD OF 'laws.FnHeaders'. -/
def fnHeadersCard : Claim7 := { stood := { row := fnHeadersRow, standIns := [], harness := (true, "e39ef6545cf91e7e51421a92e2166b303eecc63828e780d5804050541f110fae"), looks := false }, kinds := [], alts := [], laidByText := true, laidKinds := [.data], laidTests := true, laidLooks := .later }
def FnHeadersCardSaid : Prop := Claim7.holds Tryd.pinned (.plain (OpenSpec.ofChange fnHeadersSpec)) fnHeadersCard

/-- THE TIED CARD OF 'laws.FnExactCommitVals'. -/
def fnExactCommitValsCard : Claim7 := { stood := { row := fnExactCommitValsRow, standIns := [], harness := (true, "e39ef6545cf91e7e51421a92e2166b303eecc63828e780d5804050541f110fae"), looks := false }, kinds := [], alts := [], laidByText := true, laidKinds := [.data], laidTests := true, laidLooks := .later }
def FnExactCommitValsCardSaid : Prop := Claim7.holds Tryd.pinned (.plain (OpenSpec.ofChange fnExactCommitValsSpec)) fnExactCommitValsCard

/-- THE SECOND FORM's CARD OF 'laws.FnHeaders'. -/
def fnHeadersUptoCard : Claim7 := { stood := { row := fnHeadersUptoRow, standIns := [], harness := (true, "e39ef6545cf91e7e51421a92e2166b303eecc63828e780d5804050541f110fae"), looks := false }, kinds := [], alts := [], laidByText := true, laidKinds := [.data], laidTests := true, laidLooks := .later }
def FnHeadersUptoCardSaid : Prop := Claim7.holds Tryd.pinned (.plain (OpenSpec.upto fnHeadersSpec)) fnHeadersUptoCard

/-- THE SECOND FORM's CARD OF 'laws.FnExactCommitVals'. -/
def fnExactCommitValsUptoCard : Claim7 := { stood := { row := fnExactCommitValsUptoRow, standIns := [], harness := (true, "e39ef6545cf91e7e51421a92e2166b303eecc63828e780d5804050541f110fae"), looks := false }, kinds := [], alts := [], laidByText := true, laidKinds := [.data], laidTests := true, laidLooks := .later }
def FnExactCommitValsUptoCardSaid : Prop := Claim7.holds Tryd.pinned (.plain (OpenSpec.upto fnExactCommitValsSpec)) fnExactCommitValsUptoCard
end Rows
end Go.Proofs.YtbpmjejmeaifbaaDoor
