/- What impl.putBehind answers; old memory stays. -/
import Derived.Test.YtmjlpdmdpagggaaRows
import Derived.Test.YtmjlpdmdpagggaaNum
import Derived.Test.YtmjlpdmdpagggaaLaw
import Derived.WalkKit
import Derived.WalkLawsBesides
import Derived.WalkSpells
namespace Go.Proofs.Ytmjlpdmdpagggaa
open Go.RowKit
open Num
set_option linter.unusedVariables false
theorem ret_str {a b : ByteArray} (h : a = b) : Ending.returned (.string a) = .returned (.string b) := by rw [h]
theorem info5 : (Try.prog.info? 5).map (·.size) = some 1 := by kernel_rfl
theorem map_splice (cur cs : List UInt8) (k : Nat) : splice (cur.map u8v) k (cs.map u8v) = (splice cur k cs).map u8v := by
  simp [splice, List.map_take, List.map_drop]
theorem info5f : ∃ i, Try.prog.info? 5 = some i ∧ i.zero = some (.int .u8 0) ∧ i.size = 1 ∧ i.bytes = 1 :=
  info_parts (by kernel_rfl)
end Go.Proofs.Ytmjlpdmdpagggaa
