/- What the two ShowVals answer; old memory stays. Conditions: rows that a machine can hold. -/
import Derived.Test.YtaeokecodejpdaaOk
import Derived.Test.YtaeokecodejpdaaVar
import Derived.Test.YtaeokecodejpdaaKn2
namespace Go.Proofs.Ytaeokecodejpdaa
open Go.RowKit
open Num
set_option linter.unusedVariables false
end Go.Proofs.Ytaeokecodejpdaa
