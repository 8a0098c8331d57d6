/-
  DERIVED. GIVEN WITH THE SEED: THE CARDS: each row of YtncppnkedcpphaaDoorRows.lean that lists a variable, with what it lists TIED to the program's text (the seventh form; the later family's looks); each row that meets fmt, with fmt's text TOLD by the authors' own Lean function (tested against real Go, not proved from fmt's source: count such statements apart). THE CARD IS WHAT COUNTS. Prove the row's statement (the work); the ties are given (YtncppnkedcpphaaDoorTie.lean); close each card by the builder's one call (the guide's Derived/Test/ToyasCard.lean, 'card_holds'). Laid BY PROGRAM, IN A SANDBOX (cutbox-door.mjs). By AI agents, Wed Nov 11 2026. No macro, syntax, notation, axiom, sorry.
-/
import Derived.Test.YtncppnkedcpphaaDoorRows
import GoSem.ClaimSeven
namespace Go.Proofs.YtncppnkedcpphaaDoor
namespace Rows

/-- THE TIED CARD OF 'laws.FnExactHeadId'. -/
def fnExactHeadIdCard : Claim7 := { stood := { row := fnExactHeadIdRow, standIns := [], harness := (true, "184e1e7990dc62f7657ec3a3e5b883d32d02676ebacfe33d67b589f90fe4ca50"), looks := false }, kinds := [], alts := [], laidByText := true, laidKinds := [.data], laidTests := true, laidLooks := .later }
def FnExactHeadIdCardSaid : Prop := Claim7.holds Tryd.pinned (.plain (OpenSpec.ofChange fnExactHeadIdSpec)) fnExactHeadIdCard

/-- THE SECOND FORM's CARD OF 'laws.FnExactHeadId'. -/
def fnExactHeadIdUptoCard : Claim7 := { stood := { row := fnExactHeadIdUptoRow, standIns := [], harness := (true, "184e1e7990dc62f7657ec3a3e5b883d32d02676ebacfe33d67b589f90fe4ca50"), looks := false }, kinds := [], alts := [], laidByText := true, laidKinds := [.data], laidTests := true, laidLooks := .later }
def FnExactHeadIdUptoCardSaid : Prop := Claim7.holds Tryd.pinned (.plain (OpenSpec.upto fnExactHeadIdSpec)) fnExactHeadIdUptoCard
end Rows
end Go.Proofs.YtncppnkedcpphaaDoor
