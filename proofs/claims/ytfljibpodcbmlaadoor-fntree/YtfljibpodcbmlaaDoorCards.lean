/-
  DERIVED. GIVEN WITH THE SEED: THE CARDS: each row of YtfljibpodcbmlaaDoorRows.lean that lists a variable, with what it lists TIED to the program's text (the seventh form; the later family's looks); each row that meets fmt, with fmt's text TOLD by the authors' own Lean function (tested against real Go, not proved from fmt's source: count such statements apart). THE CARD IS WHAT COUNTS. Prove the row's statement (the work); the ties are given (YtfljibpodcbmlaaDoorTie.lean); close each card by the builder's one call (the guide's Derived/Test/ToyasCard.lean, 'card_holds'). Laid BY PROGRAM, IN A SANDBOX (cutbox-door.mjs). By AI agents, Wed Nov 11 2026. No macro, syntax, notation, axiom, sorry.
-/
import Derived.Test.YtfljibpodcbmlaaDoorRows
import GoSem.ClaimSeven
namespace Go.Proofs.YtfljibpodcbmlaaDoor
namespace Rows

/-- THE TIED CARD OF 'laws.FnTree'. -/
def fnTreeCard : Claim7 := { stood := { row := fnTreeRow, standIns := [], harness := (true, "d6ed207dc3dfc7ec474e64dcf9eccb2f4cfb916f694b0ad0a006c064bbe0e4c2"), looks := false }, kinds := [], alts := [], laidByText := true, laidKinds := [.data], laidTests := true, laidLooks := .later }
def FnTreeCardSaid : Prop := Claim7.holds Tryd.pinned (.plain (OpenSpec.ofChange fnTreeSpec)) fnTreeCard

/-- THE TIED CARD OF 'laws.FnExactLeafHash'. -/
def fnExactLeafHashCard : Claim7 := { stood := { row := fnExactLeafHashRow, standIns := [], harness := (true, "d6ed207dc3dfc7ec474e64dcf9eccb2f4cfb916f694b0ad0a006c064bbe0e4c2"), looks := false }, kinds := [], alts := [], laidByText := true, laidKinds := [.data], laidTests := true, laidLooks := .later }
def FnExactLeafHashCardSaid : Prop := Claim7.holds Tryd.pinned (.plain (OpenSpec.ofChange fnExactLeafHashSpec)) fnExactLeafHashCard

/-- THE TIED CARD OF 'laws.FnExactNodeHash'. -/
def fnExactNodeHashCard : Claim7 := { stood := { row := fnExactNodeHashRow, standIns := [], harness := (true, "d6ed207dc3dfc7ec474e64dcf9eccb2f4cfb916f694b0ad0a006c064bbe0e4c2"), looks := false }, kinds := [], alts := [], laidByText := true, laidKinds := [.data], laidTests := true, laidLooks := .later }
def FnExactNodeHashCardSaid : Prop := Claim7.holds Tryd.pinned (.plain (OpenSpec.ofChange fnExactNodeHashSpec)) fnExactNodeHashCard

/-- THE TIED CARD OF 'laws.FnExactTreeRoot'. -/
def fnExactTreeRootCard : Claim7 := { stood := { row := fnExactTreeRootRow, standIns := [], harness := (true, "d6ed207dc3dfc7ec474e64dcf9eccb2f4cfb916f694b0ad0a006c064bbe0e4c2"), looks := false }, kinds := [], alts := [], laidByText := true, laidKinds := [.data], laidTests := true, laidLooks := .later }
def FnExactTreeRootCardSaid : Prop := Claim7.holds Tryd.pinned (.plain (OpenSpec.ofChange fnExactTreeRootSpec)) fnExactTreeRootCard

/-- THE TIED CARD OF 'laws.FnExactTreePath'. -/
def fnExactTreePathCard : Claim7 := { stood := { row := fnExactTreePathRow, standIns := [], harness := (true, "d6ed207dc3dfc7ec474e64dcf9eccb2f4cfb916f694b0ad0a006c064bbe0e4c2"), looks := false }, kinds := [], alts := [], laidByText := true, laidKinds := [.data], laidTests := true, laidLooks := .later }
def FnExactTreePathCardSaid : Prop := Claim7.holds Tryd.pinned (.plain (OpenSpec.ofChange fnExactTreePathSpec)) fnExactTreePathCard

/-- THE TIED CARD OF 'laws.FnExactPathRoot'. -/
def fnExactPathRootCard : Claim7 := { stood := { row := fnExactPathRootRow, standIns := [], harness := (true, "d6ed207dc3dfc7ec474e64dcf9eccb2f4cfb916f694b0ad0a006c064bbe0e4c2"), looks := false }, kinds := [], alts := [], laidByText := true, laidKinds := [.data], laidTests := true, laidLooks := .later }
def FnExactPathRootCardSaid : Prop := Claim7.holds Tryd.pinned (.plain (OpenSpec.ofChange fnExactPathRootSpec)) fnExactPathRootCard

/-- THE TIED CARD OF 'laws.FnExactIncludes'. -/
def fnExactIncludesCard : Claim7 := { stood := { row := fnExactIncludesRow, standIns := [], harness := (true, "d6ed207dc3dfc7ec474e64dcf9eccb2f4cfb916f694b0ad0a006c064bbe0e4c2"), looks := false }, kinds := [], alts := [], laidByText := true, laidKinds := [.data], laidTests := true, laidLooks := .later }
def FnExactIncludesCardSaid : Prop := Claim7.holds Tryd.pinned (.plain (OpenSpec.ofChange fnExactIncludesSpec)) fnExactIncludesCard

/-- THE SECOND FORM's CARD OF 'laws.FnTree'. -/
def fnTreeUptoCard : Claim7 := { stood := { row := fnTreeUptoRow, standIns := [], harness := (true, "d6ed207dc3dfc7ec474e64dcf9eccb2f4cfb916f694b0ad0a006c064bbe0e4c2"), looks := false }, kinds := [], alts := [], laidByText := true, laidKinds := [.data], laidTests := true, laidLooks := .later }
def FnTreeUptoCardSaid : Prop := Claim7.holds Tryd.pinned (.plain (OpenSpec.upto fnTreeSpec)) fnTreeUptoCard

/-- THE SECOND FORM's CARD OF 'laws.FnExactLeafHash'. -/
def fnExactLeafHashUptoCard : Claim7 := { stood := { row := fnExactLeafHashUptoRow, standIns := [], harness := (true, "d6ed207dc3dfc7ec474e64dcf9eccb2f4cfb916f694b0ad0a006c064bbe0e4c2"), looks := false }, kinds := [], alts := [], laidByText := true, laidKinds := [.data], laidTests := true, laidLooks := .later }
def FnExactLeafHashUptoCardSaid : Prop := Claim7.holds Tryd.pinned (.plain (OpenSpec.upto fnExactLeafHashSpec)) fnExactLeafHashUptoCard

/-- THE SECOND FORM's CARD OF 'laws.FnExactNodeHash'. -/
def fnExactNodeHashUptoCard : Claim7 := { stood := { row := fnExactNodeHashUptoRow, standIns := [], harness := (true, "d6ed207dc3dfc7ec474e64dcf9eccb2f4cfb916f694b0ad0a006c064bbe0e4c2"), looks := false }, kinds := [], alts := [], laidByText := true, laidKinds := [.data], laidTests := true, laidLooks := .later }
def FnExactNodeHashUptoCardSaid : Prop := Claim7.holds Tryd.pinned (.plain (OpenSpec.upto fnExactNodeHashSpec)) fnExactNodeHashUptoCard

/-- THE SECOND FORM's CARD OF 'laws.FnExactTreeRoot'. -/
def fnExactTreeRootUptoCard : Claim7 := { stood := { row := fnExactTreeRootUptoRow, standIns := [], harness := (true, "d6ed207dc3dfc7ec474e64dcf9eccb2f4cfb916f694b0ad0a006c064bbe0e4c2"), looks := false }, kinds := [], alts := [], laidByText := true, laidKinds := [.data], laidTests := true, laidLooks := .later }
def FnExactTreeRootUptoCardSaid : Prop := Claim7.holds Tryd.pinned (.plain (OpenSpec.upto fnExactTreeRootSpec)) fnExactTreeRootUptoCard

/-- THE SECOND FORM's CARD OF 'laws.FnExactTreePath'. -/
def fnExactTreePathUptoCard : Claim7 := { stood := { row := fnExactTreePathUptoRow, standIns := [], harness := (true, "d6ed207dc3dfc7ec474e64dcf9eccb2f4cfb916f694b0ad0a006c064bbe0e4c2"), looks := false }, kinds := [], alts := [], laidByText := true, laidKinds := [.data], laidTests := true, laidLooks := .later }
def FnExactTreePathUptoCardSaid : Prop := Claim7.holds Tryd.pinned (.plain (OpenSpec.upto fnExactTreePathSpec)) fnExactTreePathUptoCard

/-- THE SECOND FORM's CARD OF 'laws.FnExactPathRoot'. -/
def fnExactPathRootUptoCard : Claim7 := { stood := { row := fnExactPathRootUptoRow, standIns := [], harness := (true, "d6ed207dc3dfc7ec474e64dcf9eccb2f4cfb916f694b0ad0a006c064bbe0e4c2"), looks := false }, kinds := [], alts := [], laidByText := true, laidKinds := [.data], laidTests := true, laidLooks := .later }
def FnExactPathRootUptoCardSaid : Prop := Claim7.holds Tryd.pinned (.plain (OpenSpec.upto fnExactPathRootSpec)) fnExactPathRootUptoCard

/-- THE SECOND FORM's CARD OF 'laws.FnExactIncludes'. -/
def fnExactIncludesUptoCard : Claim7 := { stood := { row := fnExactIncludesUptoRow, standIns := [], harness := (true, "d6ed207dc3dfc7ec474e64dcf9eccb2f4cfb916f694b0ad0a006c064bbe0e4c2"), looks := false }, kinds := [], alts := [], laidByText := true, laidKinds := [.data], laidTests := true, laidLooks := .later }
def FnExactIncludesUptoCardSaid : Prop := Claim7.holds Tryd.pinned (.plain (OpenSpec.upto fnExactIncludesSpec)) fnExactIncludesUptoCard
end Rows
end Go.Proofs.YtfljibpodcbmlaaDoor
