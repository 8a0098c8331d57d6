/-
  DERIVED. GIVEN WITH THE SEED: THE CARDS: each row of YtppkjpfofgfiaaaDoorRows.lean that lists a variable, with what it lists TIED to the program's text (the seventh form; the later family's looks); each row that meets fmt, with fmt's text TOLD by the authors' own Lean function (tested against real Go, not proved from fmt's source: count such statements apart). THE CARD IS WHAT COUNTS. Prove the row's statement (the work); the ties are given (YtppkjpfofgfiaaaDoorTie.lean); close each card by the builder's one call (the guide's Derived/Test/ToyasCard.lean, 'card_holds'). Laid BY PROGRAM, IN A SANDBOX (cutbox-door.mjs). By AI agents, Wed Nov 11 2026. No macro, syntax, notation, axiom, sorry.
-/
import Derived.Test.YtppkjpfofgfiaaaDoorRows
import GoSem.ClaimSeven
namespace Go.Proofs.YtppkjpfofgfiaaaDoor
namespace Rows

/-- THE TIED CARD OF 'laws.FnHsig'. -/
def fnHsigCard : Claim7 := { stood := { row := fnHsigRow, standIns := [], harness := (true, "9fab01ceb4a2a1ad06b3c6e4cd77938f6817b55adee260da0586fe9aba5bbc54"), looks := false }, kinds := [], alts := [], laidByText := true, laidKinds := [.data], laidTests := true, laidLooks := .later }
def FnHsigCardSaid : Prop := Claim7.holds Tryd.pinned (.plain (OpenSpec.ofChange fnHsigSpec)) fnHsigCard

/-- THE TIED CARD OF 'laws.FnExactHsLink'. -/
def fnExactHsLinkCard : Claim7 := { stood := { row := fnExactHsLinkRow, standIns := [], harness := (true, "9fab01ceb4a2a1ad06b3c6e4cd77938f6817b55adee260da0586fe9aba5bbc54"), looks := false }, kinds := [], alts := [], laidByText := true, laidKinds := [.data], laidTests := true, laidLooks := .later }
def FnExactHsLinkCardSaid : Prop := Claim7.holds Tryd.pinned (.plain (OpenSpec.ofChange fnExactHsLinkSpec)) fnExactHsLinkCard

/-- THE TIED CARD OF 'laws.FnExactHsSecret'. -/
def fnExactHsSecretCard : Claim7 := { stood := { row := fnExactHsSecretRow, standIns := [], harness := (true, "9fab01ceb4a2a1ad06b3c6e4cd77938f6817b55adee260da0586fe9aba5bbc54"), looks := false }, kinds := [], alts := [], laidByText := true, laidKinds := [.data], laidTests := true, laidLooks := .later }
def FnExactHsSecretCardSaid : Prop := Claim7.holds Tryd.pinned (.plain (OpenSpec.ofChange fnExactHsSecretSpec)) fnExactHsSecretCard

/-- THE TIED CARD OF 'laws.FnExactHsPub'. -/
def fnExactHsPubCard : Claim7 := { stood := { row := fnExactHsPubRow, standIns := [], harness := (true, "9fab01ceb4a2a1ad06b3c6e4cd77938f6817b55adee260da0586fe9aba5bbc54"), looks := false }, kinds := [], alts := [], laidByText := true, laidKinds := [.data], laidTests := true, laidLooks := .later }
def FnExactHsPubCardSaid : Prop := Claim7.holds Tryd.pinned (.plain (OpenSpec.ofChange fnExactHsPubSpec)) fnExactHsPubCard

/-- THE TIED CARD OF 'laws.FnExactHsRoot'. -/
def fnExactHsRootCard : Claim7 := { stood := { row := fnExactHsRootRow, standIns := [], harness := (true, "9fab01ceb4a2a1ad06b3c6e4cd77938f6817b55adee260da0586fe9aba5bbc54"), looks := false }, kinds := [], alts := [], laidByText := true, laidKinds := [.data], laidTests := true, laidLooks := .later }
def FnExactHsRootCardSaid : Prop := Claim7.holds Tryd.pinned (.plain (OpenSpec.ofChange fnExactHsRootSpec)) fnExactHsRootCard

/-- THE TIED CARD OF 'laws.FnExactHsSign'. -/
def fnExactHsSignCard : Claim7 := { stood := { row := fnExactHsSignRow, standIns := [], harness := (true, "9fab01ceb4a2a1ad06b3c6e4cd77938f6817b55adee260da0586fe9aba5bbc54"), looks := false }, kinds := [], alts := [], laidByText := true, laidKinds := [.data], laidTests := true, laidLooks := .later }
def FnExactHsSignCardSaid : Prop := Claim7.holds Tryd.pinned (.plain (OpenSpec.ofChange fnExactHsSignSpec)) fnExactHsSignCard

/-- THE TIED CARD OF 'laws.FnExactHsCheck'. -/
def fnExactHsCheckCard : Claim7 := { stood := { row := fnExactHsCheckRow, standIns := [], harness := (true, "9fab01ceb4a2a1ad06b3c6e4cd77938f6817b55adee260da0586fe9aba5bbc54"), looks := false }, kinds := [], alts := [], laidByText := true, laidKinds := [.data], laidTests := true, laidLooks := .later }
def FnExactHsCheckCardSaid : Prop := Claim7.holds Tryd.pinned (.plain (OpenSpec.ofChange fnExactHsCheckSpec)) fnExactHsCheckCard

/-- THE SECOND FORM's CARD OF 'laws.FnHsig'. -/
def fnHsigUptoCard : Claim7 := { stood := { row := fnHsigUptoRow, standIns := [], harness := (true, "9fab01ceb4a2a1ad06b3c6e4cd77938f6817b55adee260da0586fe9aba5bbc54"), looks := false }, kinds := [], alts := [], laidByText := true, laidKinds := [.data], laidTests := true, laidLooks := .later }
def FnHsigUptoCardSaid : Prop := Claim7.holds Tryd.pinned (.plain (OpenSpec.upto fnHsigSpec)) fnHsigUptoCard

/-- THE SECOND FORM's CARD OF 'laws.FnExactHsLink'. -/
def fnExactHsLinkUptoCard : Claim7 := { stood := { row := fnExactHsLinkUptoRow, standIns := [], harness := (true, "9fab01ceb4a2a1ad06b3c6e4cd77938f6817b55adee260da0586fe9aba5bbc54"), looks := false }, kinds := [], alts := [], laidByText := true, laidKinds := [.data], laidTests := true, laidLooks := .later }
def FnExactHsLinkUptoCardSaid : Prop := Claim7.holds Tryd.pinned (.plain (OpenSpec.upto fnExactHsLinkSpec)) fnExactHsLinkUptoCard

/-- THE SECOND FORM's CARD OF 'laws.FnExactHsSecret'. -/
def fnExactHsSecretUptoCard : Claim7 := { stood := { row := fnExactHsSecretUptoRow, standIns := [], harness := (true, "9fab01ceb4a2a1ad06b3c6e4cd77938f6817b55adee260da0586fe9aba5bbc54"), looks := false }, kinds := [], alts := [], laidByText := true, laidKinds := [.data], laidTests := true, laidLooks := .later }
def FnExactHsSecretUptoCardSaid : Prop := Claim7.holds Tryd.pinned (.plain (OpenSpec.upto fnExactHsSecretSpec)) fnExactHsSecretUptoCard

/-- THE SECOND FORM's CARD OF 'laws.FnExactHsPub'. -/
def fnExactHsPubUptoCard : Claim7 := { stood := { row := fnExactHsPubUptoRow, standIns := [], harness := (true, "9fab01ceb4a2a1ad06b3c6e4cd77938f6817b55adee260da0586fe9aba5bbc54"), looks := false }, kinds := [], alts := [], laidByText := true, laidKinds := [.data], laidTests := true, laidLooks := .later }
def FnExactHsPubUptoCardSaid : Prop := Claim7.holds Tryd.pinned (.plain (OpenSpec.upto fnExactHsPubSpec)) fnExactHsPubUptoCard

/-- THE SECOND FORM's CARD OF 'laws.FnExactHsRoot'. -/
def fnExactHsRootUptoCard : Claim7 := { stood := { row := fnExactHsRootUptoRow, standIns := [], harness := (true, "9fab01ceb4a2a1ad06b3c6e4cd77938f6817b55adee260da0586fe9aba5bbc54"), looks := false }, kinds := [], alts := [], laidByText := true, laidKinds := [.data], laidTests := true, laidLooks := .later }
def FnExactHsRootUptoCardSaid : Prop := Claim7.holds Tryd.pinned (.plain (OpenSpec.upto fnExactHsRootSpec)) fnExactHsRootUptoCard

/-- THE SECOND FORM's CARD OF 'laws.FnExactHsSign'. -/
def fnExactHsSignUptoCard : Claim7 := { stood := { row := fnExactHsSignUptoRow, standIns := [], harness := (true, "9fab01ceb4a2a1ad06b3c6e4cd77938f6817b55adee260da0586fe9aba5bbc54"), looks := false }, kinds := [], alts := [], laidByText := true, laidKinds := [.data], laidTests := true, laidLooks := .later }
def FnExactHsSignUptoCardSaid : Prop := Claim7.holds Tryd.pinned (.plain (OpenSpec.upto fnExactHsSignSpec)) fnExactHsSignUptoCard

/-- THE SECOND FORM's CARD OF 'laws.FnExactHsCheck'. -/
def fnExactHsCheckUptoCard : Claim7 := { stood := { row := fnExactHsCheckUptoRow, standIns := [], harness := (true, "9fab01ceb4a2a1ad06b3c6e4cd77938f6817b55adee260da0586fe9aba5bbc54"), looks := false }, kinds := [], alts := [], laidByText := true, laidKinds := [.data], laidTests := true, laidLooks := .later }
def FnExactHsCheckUptoCardSaid : Prop := Claim7.holds Tryd.pinned (.plain (OpenSpec.upto fnExactHsCheckSpec)) fnExactHsCheckUptoCard
end Rows
end Go.Proofs.YtppkjpfofgfiaaaDoor
