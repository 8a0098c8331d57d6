/- What spec.l1PickInt, l1Num, l1Text and l1New answer, as functions of the code's bytes and the cursor's state. -/
import Derived.Test.YtdpjlfgfacjfeaaDoorCur
import Derived.Deep.RegionHeld3
import Derived.Outline
namespace Go.Proofs.YtdpjlfgfacjfeaaDoor
open Go.RowKit
open Num
set_option linter.unusedVariables false
end Go.Proofs.YtdpjlfgfacjfeaaDoor
