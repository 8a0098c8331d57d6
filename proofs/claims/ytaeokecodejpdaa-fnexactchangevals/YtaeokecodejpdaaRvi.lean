/- What impl.ReadVar answers: the first beginning that is a number of seven bits to a byte, and its length; memory stays. -/
import Derived.Test.YtaeokecodejpdaaVar
import Derived.Test.YtaeokecodejpdaaRnum

namespace Go.Proofs.Ytaeokecodejpdaa
open Go.RowKit
open Num
set_option linter.unusedVariables false
theorem wrap64_in {n : Int} (h0 : -9223372036854775808 ≤ n) (h1 : n ≤ 9223372036854775807) : wrap64 n = n := by unfold wrap64; omega
theorem w64b (c : UInt8) : wrap64 (c.toNat : Int) = (c.toNat : Int) := wrap64_in (by omega) (by have := c.toNat_lt; omega)
theorem ret_rv {v : Int × Nat} {a b : Int} (h : v = (a, b.toNat)) (hb : 0 ≤ b) : Ending.returned (.tuple #[.int .i64 a, .int .i64 b]) = .returned (.tuple #[.int .i64 v.1, .int .i64 (v.2 : Nat)]) := by
  subst h; simp [Int.toNat_of_nonneg hb]
end Go.Proofs.Ytaeokecodejpdaa
