/-
  DERIVED. GIVEN WITH THE SEED: THE CARDS: each row of YtpieapinofojdaaDoorRows.lean that lists a variable, with what it lists TIED to the program's text (the seventh form; the later family's looks); each row that meets fmt, with fmt's text TOLD by the authors' own Lean function (tested against real Go, not proved from fmt's source: count such statements apart). THE CARD IS WHAT COUNTS. Prove the row's statement (the work); the ties are given (YtpieapinofojdaaDoorTie.lean); close each card by the builder's one call (the guide's Derived/Test/ToyasCard.lean, 'card_holds'). Laid BY PROGRAM, IN A SANDBOX (cutbox-door.mjs). By AI agents, Wed Nov 11 2026. No macro, syntax, notation, axiom, sorry.
-/
import Derived.Test.YtpieapinofojdaaDoorRows
import GoSem.ClaimSeven
namespace Go.Proofs.YtpieapinofojdaaDoor
namespace Rows

/-- THE TIED CARD OF 'laws.FnVals'. -/
def fnValsCard : Claim7 := { stood := { row := fnValsRow, standIns := [], harness := (true, "db4050996ce57ded333017886df03555e90f9baa604b2cba6d3cb424da993f38"), looks := false }, kinds := [], alts := [], laidByText := true, laidKinds := [.data], laidTests := true, laidLooks := .later }
def FnValsCardSaid : Prop := Claim7.holds Tryd.pinned (.plain (OpenSpec.ofChange fnValsSpec)) fnValsCard

/-- THE TIED CARD OF 'laws.FnExactValsHash'. -/
def fnExactValsHashCard : Claim7 := { stood := { row := fnExactValsHashRow, standIns := [], harness := (true, "db4050996ce57ded333017886df03555e90f9baa604b2cba6d3cb424da993f38"), looks := false }, kinds := [], alts := [], laidByText := true, laidKinds := [.data], laidTests := true, laidLooks := .later }
def FnExactValsHashCardSaid : Prop := Claim7.holds Tryd.pinned (.plain (OpenSpec.ofChange fnExactValsHashSpec)) fnExactValsHashCard

/-- THE SECOND FORM's CARD OF 'laws.FnVals'. -/
def fnValsUptoCard : Claim7 := { stood := { row := fnValsUptoRow, standIns := [], harness := (true, "db4050996ce57ded333017886df03555e90f9baa604b2cba6d3cb424da993f38"), looks := false }, kinds := [], alts := [], laidByText := true, laidKinds := [.data], laidTests := true, laidLooks := .later }
def FnValsUptoCardSaid : Prop := Claim7.holds Tryd.pinned (.plain (OpenSpec.upto fnValsSpec)) fnValsUptoCard

/-- THE SECOND FORM's CARD OF 'laws.FnExactValsHash'. -/
def fnExactValsHashUptoCard : Claim7 := { stood := { row := fnExactValsHashUptoRow, standIns := [], harness := (true, "db4050996ce57ded333017886df03555e90f9baa604b2cba6d3cb424da993f38"), looks := false }, kinds := [], alts := [], laidByText := true, laidKinds := [.data], laidTests := true, laidLooks := .later }
def FnExactValsHashUptoCardSaid : Prop := Claim7.holds Tryd.pinned (.plain (OpenSpec.upto fnExactValsHashSpec)) fnExactValsHashUptoCard
end Rows
end Go.Proofs.YtpieapinofojdaaDoor
