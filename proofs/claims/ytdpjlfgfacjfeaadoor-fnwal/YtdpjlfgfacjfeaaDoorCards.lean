/-
  DERIVED. GIVEN WITH THE SEED: THE CARDS: each row of YtdpjlfgfacjfeaaDoorRows.lean that lists a variable, with what it lists TIED to the program's text (the seventh form; the later family's looks); each row that meets fmt, with fmt's text TOLD by the authors' own Lean function (tested against real Go, not proved from fmt's source: count such statements apart). THE CARD IS WHAT COUNTS. Prove the row's statement (the work); the ties are given (YtdpjlfgfacjfeaaDoorTie.lean); close each card by the builder's one call (the guide's Derived/Test/ToyasCard.lean, 'card_holds'). Laid BY PROGRAM, IN A SANDBOX (cutbox-door.mjs). By AI agents, Wed Nov 11 2026. No macro, syntax, notation, axiom, sorry.
-/
import Derived.Test.YtdpjlfgfacjfeaaDoorRows
import GoSem.ClaimSeven
namespace Go.Proofs.YtdpjlfgfacjfeaaDoor
namespace Rows

/-- THE TIED CARD OF 'laws.FnWal'. -/
def fnWalCard : Claim7 := { stood := { row := fnWalRow, standIns := [], harness := (true, "2a52f5edaeac21130cff84ea396ac16b7f6e72f13f7c1123d03d42fe6c7a1c87"), looks := false }, kinds := [], alts := [], laidByText := true, laidKinds := [.data], laidTests := true, laidLooks := .later }
def FnWalCardSaid : Prop := Claim7.holds Tryd.pinned (.plain (OpenSpec.ofChange fnWalSpec)) fnWalCard

/-- THE TIED CARD OF 'laws.FnExactWalScan'. -/
def fnExactWalScanCard : Claim7 := { stood := { row := fnExactWalScanRow, standIns := [], harness := (true, "2a52f5edaeac21130cff84ea396ac16b7f6e72f13f7c1123d03d42fe6c7a1c87"), looks := false }, kinds := [], alts := [], laidByText := true, laidKinds := [.data], laidTests := true, laidLooks := .later }
def FnExactWalScanCardSaid : Prop := Claim7.holds Tryd.pinned (.plain (OpenSpec.ofChange fnExactWalScanSpec)) fnExactWalScanCard

/-- THE TIED CARD OF 'laws.FnExactWalTrim'. -/
def fnExactWalTrimCard : Claim7 := { stood := { row := fnExactWalTrimRow, standIns := [], harness := (true, "2a52f5edaeac21130cff84ea396ac16b7f6e72f13f7c1123d03d42fe6c7a1c87"), looks := false }, kinds := [], alts := [], laidByText := true, laidKinds := [.data], laidTests := true, laidLooks := .later }
def FnExactWalTrimCardSaid : Prop := Claim7.holds Tryd.pinned (.plain (OpenSpec.ofChange fnExactWalTrimSpec)) fnExactWalTrimCard

/-- THE SECOND FORM's CARD OF 'laws.FnWal'. -/
def fnWalUptoCard : Claim7 := { stood := { row := fnWalUptoRow, standIns := [], harness := (true, "2a52f5edaeac21130cff84ea396ac16b7f6e72f13f7c1123d03d42fe6c7a1c87"), looks := false }, kinds := [], alts := [], laidByText := true, laidKinds := [.data], laidTests := true, laidLooks := .later }
def FnWalUptoCardSaid : Prop := Claim7.holds Tryd.pinned (.plain (OpenSpec.upto fnWalSpec)) fnWalUptoCard

/-- THE SECOND FORM's CARD OF 'laws.FnExactWalScan'. -/
def fnExactWalScanUptoCard : Claim7 := { stood := { row := fnExactWalScanUptoRow, standIns := [], harness := (true, "2a52f5edaeac21130cff84ea396ac16b7f6e72f13f7c1123d03d42fe6c7a1c87"), looks := false }, kinds := [], alts := [], laidByText := true, laidKinds := [.data], laidTests := true, laidLooks := .later }
def FnExactWalScanUptoCardSaid : Prop := Claim7.holds Tryd.pinned (.plain (OpenSpec.upto fnExactWalScanSpec)) fnExactWalScanUptoCard

/-- THE SECOND FORM's CARD OF 'laws.FnExactWalTrim'. -/
def fnExactWalTrimUptoCard : Claim7 := { stood := { row := fnExactWalTrimUptoRow, standIns := [], harness := (true, "2a52f5edaeac21130cff84ea396ac16b7f6e72f13f7c1123d03d42fe6c7a1c87"), looks := false }, kinds := [], alts := [], laidByText := true, laidKinds := [.data], laidTests := true, laidLooks := .later }
def FnExactWalTrimUptoCardSaid : Prop := Claim7.holds Tryd.pinned (.plain (OpenSpec.upto fnExactWalTrimSpec)) fnExactWalTrimUptoCard
end Rows
end Go.Proofs.YtdpjlfgfacjfeaaDoor
