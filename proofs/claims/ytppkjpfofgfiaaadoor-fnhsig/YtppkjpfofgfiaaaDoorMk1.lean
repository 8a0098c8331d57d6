/- What spec.LeafHash, NodeHash, l4Split, l4Root and TreeRoot answer; old memory stays. Conditions: texts of at most 2097152 bytes, at most 40 leaves below the root. -/
import Derived.Test.YtppkjpfofgfiaaaDoorSha3
import Derived.Test.YtppkjpfofgfiaaaDoorMnum
namespace Go.Proofs.YtppkjpfofgfiaaaDoor
open Go.RowKit
open Num
set_option linter.unusedVariables false
theorem size_zero : (⟨#[0]⟩ : ByteArray).size = 1 := rfl
theorem size_one : (⟨#[1]⟩ : ByteArray).size = 1 := rfl
set_option maxHeartbeats 400000 in
theorem spec_leaf (x : ByteArray) (w : World) (hx : x.size ≤ 1099511627000) :
    Calls Tryd.prog 59 #[.string x] w fun e w' => e = .returned (.string (leafH x)) ∧ Below w.heap.size w w' := by
  have HS : Hid ((⟨#[0]⟩ ++ x : ByteArray).size ≤ 1099511627776) := by
    show _ ≤ _
    rw [ByteArray.size_append, size_zero]; omega
  go_enter Tryd.func59, Tryd.ntmps59
  go_wp2_with fail
  refine (spec_sha _ w HS.out).mono ?_
  rintro e w1 ⟨rfl, hb⟩
  go_wp2
  go_ret
  exact ⟨rfl, hb⟩
set_option maxHeartbeats 400000 in
theorem spec_node (x y : ByteArray) (w : World) (hx : x.size ≤ 10995116270) (hy : y.size ≤ 10995116270) :
    Calls Tryd.prog 70 #[.string x, .string y] w fun e w' => e = .returned (.string (nodeH x y)) ∧ Below w.heap.size w w' := by
  have HS : Hid ((⟨#[1]⟩ ++ x ++ y : ByteArray).size ≤ 1099511627776) := by
    show _ ≤ _
    rw [ByteArray.size_append, ByteArray.size_append, size_one]; omega
  go_enter Tryd.func70, Tryd.ntmps70
  go_wp2_with fail
  refine (spec_sha _ w HS.out).mono ?_
  rintro e w1 ⟨rfl, hb⟩
  go_wp2
  go_ret
  exact ⟨rfl, hb⟩
set_option maxHeartbeats 400000 in
theorem spec_split (n : Nat) (hn : 2 ≤ n) (hm : n ≤ 1048576) (w : World) :
    Calls Tryd.prog 69 #[.int .i64 (n : Int)] w fun e w' => e = .returned (.int .i64 ((spl n : Nat) : Int)) ∧ w' = w := by
  go_enter Tryd.func69, Tryd.ntmps69
  go_wp2
  go_loop [3] (fun k => ∃ j : Nat, 1 ≤ j ∧ j < n ∧ k = .int .i64 j ∧ Hid (spl n = splF n n j)) (fun k => n - (intOf k).toNat)
  case atStart => exact ⟨1, by omega, by omega, rfl, rfl⟩
  case round =>
    obtain ⟨j, hj1, hj2, rfl, HJ⟩ := hrel
    by_cases hlt : 2 * j < n
    · have HN : Hid (spl n = splF n n (2 * j)) := spl_step n j hj1 hlt HJ.out
      have hlt' : 2 * (j : Int) < (n : Int) := by omega
      go_wp2
      go_round
      case rel => exact ⟨2 * j, by omega, by omega, by go_num, HN⟩
      case measure => simp [intOf]; omega
    · have HN : Hid (spl n = j) := spl_end n j hlt HJ.out
      have hlt' : ¬ 2 * (j : Int) < (n : Int) := by omega
      go_wp2
      go_ret
      exact ⟨by rw [HN.out]; rfl, rfl⟩
end Go.Proofs.YtppkjpfofgfiaaaDoor
