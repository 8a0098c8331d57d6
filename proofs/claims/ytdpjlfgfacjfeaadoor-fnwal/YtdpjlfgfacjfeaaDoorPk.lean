/- What the claims of chapter 13 share: the table of sums as it is laid. Conditions: none of ours. -/
import Derived.Test.YtdpjlfgfacjfeaaDoorCards
import Derived.Test.YtdpjlfgfacjfeaaDoorTie
import Derived.Test.YtdpjlfgfacjfeaaDoorIcrc
import Derived.WalkKit
import Derived.ProofKit
import Derived.OpenShut
import Derived.OpenVars
import Derived.ShutString
import Derived.SizedLaws
import Derived.Below
import Derived.ChangeOld
import Derived.LaidMore
import Derived.Stop.Joined
import Derived.SevenTiedAt
namespace Go.Proofs.YtdpjlfgfacjfeaaDoor
open Go.ChangeShapes Go.WideShapes Go.ChangeAt Go.RowKit
open Num
set_option linter.unusedVariables false
theorem own : ownKnob Tryd.prog.godebug = none := by kernel_rfl
theorem laidOut : laidOutB Tryd.prog = true := by kernel_rfl
theorem gTabType : (Tryd.prog.globals[0]?).map (·.type) = some 68 := by kernel_rfl
theorem cells_word : Tryd.prog.cellsOf 59 = 1 := by kernel_rfl
theorem cells_table : Tryd.prog.cellsOf 68 = 16 := by kernel_rfl
theorem reach_le {n : Nat} (h : n ≤ reachBytes) : n ≤ 140737488355328 := Nat.le_trans h (by decide)
end Go.Proofs.YtdpjlfgfacjfeaaDoor
