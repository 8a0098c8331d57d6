/- What spec.Var and impl.Var answer: the bytes of a number in range, seven bits each, else nothing; old memory stays. -/
import Derived.Test.YtaeokecodejpdaaPb
import Derived.Test.YtaeokecodejpdaaVnum
namespace Go.Proofs.Ytaeokecodejpdaa
open Go.RowKit
open Num
set_option linter.unusedVariables false
end Go.Proofs.Ytaeokecodejpdaa
