/- What Val.power, sumOf at it, and the two PowerOf answer; old memory stays. Conditions: rows that a machine can hold. -/
import Derived.Test.YtaeokecodejpdaaOk
namespace Go.Proofs.Ytaeokecodejpdaa
open Go.RowKit
open Num
set_option linter.unusedVariables false
theorem ret_int {k : IntKind} {a b : Int} (h : a = b) : Ending.returned (.int k a) = .returned (.int k b) := by rw [h]
end Go.Proofs.Ytaeokecodejpdaa
