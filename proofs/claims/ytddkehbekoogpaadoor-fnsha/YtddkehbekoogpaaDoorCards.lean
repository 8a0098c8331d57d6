/-
  DERIVED. GIVEN WITH THE SEED: THE CARDS: each row of YtddkehbekoogpaaDoorRows.lean that lists a variable, with what it lists TIED to the program's text (the seventh form; the later family's looks); each row that meets fmt, with fmt's text TOLD by the authors' own Lean function (tested against real Go, not proved from fmt's source: count such statements apart). THE CARD IS WHAT COUNTS. Prove the row's statement (the work); the ties are given (YtddkehbekoogpaaDoorTie.lean); close each card by the builder's one call (the guide's Derived/Test/ToyasCard.lean, 'card_holds'). Laid BY PROGRAM, IN A SANDBOX (cutbox-door.mjs). By AI agents, Wed Nov 11 2026. No macro, syntax, notation, axiom, sorry.
-/
import Derived.Test.YtddkehbekoogpaaDoorRows
import GoSem.ClaimSeven
namespace Go.Proofs.YtddkehbekoogpaaDoor
namespace Rows

/-- THE TIED CARD OF 'laws.FnSha'. -/
def fnShaCard : Claim7 := { stood := { row := fnShaRow, standIns := [], harness := (true, "d7983bdc5b53af5d6ff4fd75de6fc41e196bcf907e518382035d3bf299b9a3eb"), looks := false }, kinds := [], alts := [], laidByText := true, laidKinds := [.data], laidTests := true, laidLooks := .later }
def FnShaCardSaid : Prop := Claim7.holds Tryd.pinned (.plain (OpenSpec.ofChange fnShaSpec)) fnShaCard

/-- THE TIED CARD OF 'laws.FnExactSha'. -/
def fnExactShaCard : Claim7 := { stood := { row := fnExactShaRow, standIns := [], harness := (true, "d7983bdc5b53af5d6ff4fd75de6fc41e196bcf907e518382035d3bf299b9a3eb"), looks := false }, kinds := [], alts := [], laidByText := true, laidKinds := [.data], laidTests := true, laidLooks := .later }
def FnExactShaCardSaid : Prop := Claim7.holds Tryd.pinned (.plain (OpenSpec.ofChange fnExactShaSpec)) fnExactShaCard

/-- THE TIED CARD OF 'laws.FnExactShort'. -/
def fnExactShortCard : Claim7 := { stood := { row := fnExactShortRow, standIns := [], harness := (true, "d7983bdc5b53af5d6ff4fd75de6fc41e196bcf907e518382035d3bf299b9a3eb"), looks := false }, kinds := [], alts := [], laidByText := true, laidKinds := [.data], laidTests := true, laidLooks := .later }
def FnExactShortCardSaid : Prop := Claim7.holds Tryd.pinned (.plain (OpenSpec.ofChange fnExactShortSpec)) fnExactShortCard

/-- THE SECOND FORM's CARD OF 'laws.FnSha'. -/
def fnShaUptoCard : Claim7 := { stood := { row := fnShaUptoRow, standIns := [], harness := (true, "d7983bdc5b53af5d6ff4fd75de6fc41e196bcf907e518382035d3bf299b9a3eb"), looks := false }, kinds := [], alts := [], laidByText := true, laidKinds := [.data], laidTests := true, laidLooks := .later }
def FnShaUptoCardSaid : Prop := Claim7.holds Tryd.pinned (.plain (OpenSpec.upto fnShaSpec)) fnShaUptoCard

/-- THE SECOND FORM's CARD OF 'laws.FnExactSha'. -/
def fnExactShaUptoCard : Claim7 := { stood := { row := fnExactShaUptoRow, standIns := [], harness := (true, "d7983bdc5b53af5d6ff4fd75de6fc41e196bcf907e518382035d3bf299b9a3eb"), looks := false }, kinds := [], alts := [], laidByText := true, laidKinds := [.data], laidTests := true, laidLooks := .later }
def FnExactShaUptoCardSaid : Prop := Claim7.holds Tryd.pinned (.plain (OpenSpec.upto fnExactShaSpec)) fnExactShaUptoCard

/-- THE SECOND FORM's CARD OF 'laws.FnExactShort'. -/
def fnExactShortUptoCard : Claim7 := { stood := { row := fnExactShortUptoRow, standIns := [], harness := (true, "d7983bdc5b53af5d6ff4fd75de6fc41e196bcf907e518382035d3bf299b9a3eb"), looks := false }, kinds := [], alts := [], laidByText := true, laidKinds := [.data], laidTests := true, laidLooks := .later }
def FnExactShortUptoCardSaid : Prop := Claim7.holds Tryd.pinned (.plain (OpenSpec.upto fnExactShortSpec)) fnExactShortUptoCard
end Rows
end Go.Proofs.YtddkehbekoogpaaDoor
