/- What spec.l1In, the program's small tests and the two VoteOk answer; old memory stays. Conditions: none of ours. -/
import Derived.Test.YtajfmjgaaapjeaaDoorVd
import Derived.Test.YtajfmjgaaapjeaaDoorPb
import Derived.WalkKit
namespace Go.Proofs.YtajfmjgaaapjeaaDoor
open Go.RowKit
open Num
set_option linter.unusedVariables false
set_option maxHeartbeats 400000 in
theorem spec_in (x lo hi : Int) (w : World) :
    Calls Tryd.prog 20 #[.int .i64 x, .int .i64 lo, .int .i64 hi] w fun e w' => e = .returned (.bool (inIs x lo hi)) ∧ w' = w := by
  have HI : Hid (inIs x lo hi = (decide (lo ≤ x) && decide (x ≤ hi))) := rfl
  by_cases h1 : lo ≤ x
  · by_cases h2 : x ≤ hi
    all_goals
      go_enter Tryd.func20, Tryd.ntmps20
      go_wp2
      go_ret
      exact ⟨by rw [HI.out]; simp [h1, h2], rfl⟩
  · go_enter Tryd.func20, Tryd.ntmps20
    go_wp2
    go_ret
    exact ⟨by rw [HI.out]; simp; omega, rfl⟩
set_option maxHeartbeats 400000 in
theorem impl_isH (x : Int) (w : World) :
    Calls Tryd.prog 24 #[.int .i64 x] w fun e w' => e = .returned (.bool (inIs x 1 1000000)) ∧ w' = w := by
  have HI : Hid (inIs x 1 1000000 = (decide (1 ≤ x) && decide (x ≤ 1000000))) := rfl
  by_cases h1 : 1 ≤ x
  · by_cases h2 : x ≤ 1000000
    all_goals
      go_enter Tryd.func24, Tryd.ntmps24
      go_wp2
      go_ret
      exact ⟨by rw [HI.out]; simp [h1, h2], rfl⟩
  · go_enter Tryd.func24, Tryd.ntmps24
    go_wp2
    go_ret
    exact ⟨by rw [HI.out]; simp; omega, rfl⟩
end Go.Proofs.YtajfmjgaaapjeaaDoor
