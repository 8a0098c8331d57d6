/- What the laws' helper szHeader leaves of any bound, as far as the walks ask. Conditions: texts that a machine can hold. -/
import Derived.Test.YtajfmjgaaapjeaaDoorHl
namespace Go.Proofs.YtajfmjgaaapjeaaDoor
open Go.RowKit
open Num
set_option linter.unusedVariables false
set_option maxHeartbeats 800000 in
set_option maxRecDepth 100000 in
theorem sz_headL (x : H) (left : Int) (w : World) (hx : Fits x) (h0 : 0 ≤ left) (h1 : left ≤ 1048576) :
    Calls Tryd.prog 9 #[hV x, .int .i64 left] w fun e w' => ∃ r : Int, e = .returned (.int .i64 r) ∧ r ≤ 1048576 ∧ Below w.heap.size w w' := by
  obtain ⟨c0, c1, c2, c3, c4, c5⟩ := six_laws w x
  obtain ⟨h, t, a, v, n, d⟩ := x
  obtain ⟨q1, q2, q3, q4⟩ := hx
  unfold maxLen at q1 q2 q3 q4
  unfold hV
  unfold hcs at *
  simp only at *
  obtain ⟨A, hA⟩ : ∃ A : Int, (a.size : Int) = A := ⟨_, rfl⟩
  have a0 : 0 ≤ A := by omega
  have a1 : A ≤ 9223372036854775807 := by omega
  obtain ⟨B, hB⟩ : ∃ B : Int, (v.size : Int) = B := ⟨_, rfl⟩
  have b0 : 0 ≤ B := by omega
  have b1 : B ≤ 9223372036854775807 := by omega
  obtain ⟨C, hC⟩ : ∃ C : Int, (n.size : Int) = C := ⟨_, rfl⟩
  have e0 : 0 ≤ C := by omega
  have e1 : C ≤ 9223372036854775807 := by omega
  obtain ⟨D, hD⟩ : ∃ D : Int, (d.size : Int) = D := ⟨_, rfl⟩
  have d0 : 0 ≤ D := by omega
  have d1 : D ≤ 9223372036854775807 := by omega
  by_cases g1 : left - A < 0
  · go_enter Tryd.func9, Tryd.ntmps9
    go_wp2
    go_ret
    exact ⟨-1, rfl, by omega, (Below.refl _ _).alloc (Nat.le_refl _) _⟩
  by_cases g2 : left - A - B < 0
  · go_enter Tryd.func9, Tryd.ntmps9
    go_wp2
    go_ret
    exact ⟨-1, rfl, by omega, (Below.refl _ _).alloc (Nat.le_refl _) _⟩
  by_cases g3 : left - A - B - C < 0
  · go_enter Tryd.func9, Tryd.ntmps9
    go_wp2
    go_ret
    exact ⟨-1, rfl, by omega, (Below.refl _ _).alloc (Nat.le_refl _) _⟩
  by_cases g4 : left - A - B - C - D < 0
  · go_enter Tryd.func9, Tryd.ntmps9
    go_wp2
    go_ret
    exact ⟨-1, rfl, by omega, (Below.refl _ _).alloc (Nat.le_refl _) _⟩
  · go_enter Tryd.func9, Tryd.ntmps9
    go_wp2
    go_ret
    exact ⟨left - A - B - C - D, rfl, by omega, (Below.refl _ _).alloc (Nat.le_refl _) _⟩
end Go.Proofs.YtajfmjgaaapjeaaDoor
