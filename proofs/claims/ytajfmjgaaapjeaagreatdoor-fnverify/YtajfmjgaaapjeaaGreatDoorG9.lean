/- What the laws' helpers szHeader, toHeader and eqHeader (of like headers) answer; old memory stays. Conditions: texts that a machine can hold. What the laws' helper szHeader leaves of any bound, as far as the walks ask. Conditions: texts that a machine can hold. -/
import Derived.Test.YtajfmjgaaapjeaaGreatDoorHo
namespace Go.Proofs.YtajfmjgaaapjeaaGreatDoor
open Go.RowKit
open Num
set_option linter.unusedVariables false
theorem six_laws (w : World) (x : H) : (w.alloc (.cells (hcs x) 45)).cell? ⟨w.heap.size, 0, none⟩ = some (.int .i64 x.h) ∧ (w.alloc (.cells (hcs x) 45)).cell? ⟨w.heap.size, 1, none⟩ = some (.int .i64 x.t) ∧
    (w.alloc (.cells (hcs x) 45)).cell? ⟨w.heap.size, 2, none⟩ = some (.string x.a) ∧ (w.alloc (.cells (hcs x) 45)).cell? ⟨w.heap.size, 3, none⟩ = some (.string x.v) ∧
    (w.alloc (.cells (hcs x) 45)).cell? ⟨w.heap.size, 4, none⟩ = some (.string x.n) ∧ (w.alloc (.cells (hcs x) 45)).cell? ⟨w.heap.size, 5, none⟩ = some (.string x.d) := by
  unfold hcs; simp
/-- What all texts of a header leave of a bound. -/
def szH (x : H) : Int := if (1048576 : Int) < x.a.size + x.v.size + x.n.size + x.d.size then -1 else 1048576 - x.a.size - x.v.size - x.n.size - x.d.size
def Fits (x : H) : Prop := x.a.size ≤ maxLen ∧ x.v.size ≤ maxLen ∧ x.n.size ≤ maxLen ∧ x.d.size ≤ maxLen
set_option maxHeartbeats 800000 in
set_option maxRecDepth 100000 in
theorem sz_head (x : H) (w : World) (hx : Fits x) :
    Calls Tryz.prog 15 #[hV x, .int .i64 1048576] w fun e w' => e = .returned (.int .i64 (szH x)) ∧ Below w.heap.size w w' := by
  obtain ⟨c0, c1, c2, c3, c4, c5⟩ := six_laws w x
  obtain ⟨h, t, a, v, n, d⟩ := x
  obtain ⟨q1, q2, q3, q4⟩ := hx
  unfold maxLen at q1 q2 q3 q4
  unfold hV szH
  unfold hcs at *
  simp only at *
  obtain ⟨A, hA⟩ : ∃ A : Int, (a.size : Int) = A := ⟨_, rfl⟩
  have a0 : 0 ≤ A := by omega
  have a1 : A ≤ 9223372036854775807 := by omega
  obtain ⟨B, hB⟩ : ∃ B : Int, (v.size : Int) = B := ⟨_, rfl⟩
  have b0 : 0 ≤ B := by omega
  have b1 : B ≤ 9223372036854775807 := by omega
  obtain ⟨C, hC⟩ : ∃ C : Int, (n.size : Int) = C := ⟨_, rfl⟩
  have e0 : 0 ≤ C := by omega
  have e1 : C ≤ 9223372036854775807 := by omega
  obtain ⟨D, hD⟩ : ∃ D : Int, (d.size : Int) = D := ⟨_, rfl⟩
  have d0 : 0 ≤ D := by omega
  have d1 : D ≤ 9223372036854775807 := by omega
  rw [hA, hB, hC, hD]
  by_cases g1 : 1048576 - A < 0
  · rw [if_pos (by omega)]
    go_enter Tryz.func15, Tryz.ntmps15
    go_wp2
    go_ret
    exact ⟨rfl, (Below.refl _ _).alloc (Nat.le_refl _) _⟩
  by_cases g2 : 1048576 - A - B < 0
  · rw [if_pos (by omega)]
    go_enter Tryz.func15, Tryz.ntmps15
    go_wp2
    go_ret
    exact ⟨rfl, (Below.refl _ _).alloc (Nat.le_refl _) _⟩
  by_cases g3 : 1048576 - A - B - C < 0
  · rw [if_pos (by omega)]
    go_enter Tryz.func15, Tryz.ntmps15
    go_wp2
    go_ret
    exact ⟨rfl, (Below.refl _ _).alloc (Nat.le_refl _) _⟩
  by_cases g4 : 1048576 - A - B - C - D < 0
  · rw [if_pos (by omega)]
    go_enter Tryz.func15, Tryz.ntmps15
    go_wp2
    go_ret
    exact ⟨rfl, (Below.refl _ _).alloc (Nat.le_refl _) _⟩
  · rw [if_neg (by omega)]
    go_enter Tryz.func15, Tryz.ntmps15
    go_wp2
    go_ret
    exact ⟨rfl, (Below.refl _ _).alloc (Nat.le_refl _) _⟩
set_option maxHeartbeats 800000 in
set_option maxRecDepth 100000 in
theorem to_head (x : H) (w : World) :
    Calls Tryz.prog 20 #[hV x] w fun e w' => e = .returned (hV x) ∧ Below w.heap.size w w' := by
  obtain ⟨h, t, a, v, n, d⟩ := x
  unfold hV
  simp only
  go_enter Tryz.func20, Tryz.ntmps20
  go_wp2
  refine bodyPost_ret (v := .agg #[.int .i64 h, .int .i64 t, .string a, .string v, .string n, .string d]) (by simp [results, Tryz.results20, go_sem]) rfl ⟨rfl, ?_⟩
  exact (((Below.refl _ _).alloc (Nat.le_refl _) _).alloc (by simp) _).alloc (by simp; omega) _
end Go.Proofs.YtajfmjgaaapjeaaGreatDoor
namespace Go.Proofs.YtajfmjgaaapjeaaGreatDoor
open Go.RowKit
open Num
set_option linter.unusedVariables false
/-- Texts that the laws let by. -/
def Sml (x : H) : Prop := x.a.size ≤ 1048576 ∧ x.v.size ≤ 1048576 ∧ x.n.size ≤ 1048576 ∧ x.d.size ≤ 1048576
set_option maxHeartbeats 800000 in
set_option maxRecDepth 100000 in
theorem sz_headL (x : H) (left : Int) (w : World) (hx : Fits x) (h0 : 0 ≤ left) (h1 : left ≤ 1048576) :
    Calls Tryz.prog 15 #[hV x, .int .i64 left] w fun e w' => ∃ r : Int, e = .returned (.int .i64 r) ∧ r ≤ 1048576 ∧ Hid (0 ≤ r → Sml x) ∧ Below w.heap.size w w' := by
  obtain ⟨c0, c1, c2, c3, c4, c5⟩ := six_laws w x
  obtain ⟨h, t, a, v, n, d⟩ := x
  obtain ⟨q1, q2, q3, q4⟩ := hx
  unfold maxLen at q1 q2 q3 q4
  unfold hV
  unfold hcs at *
  simp only at *
  obtain ⟨A, hA⟩ : ∃ A : Int, (a.size : Int) = A := ⟨_, rfl⟩
  have a0 : 0 ≤ A := by omega
  have a1 : A ≤ 9223372036854775807 := by omega
  obtain ⟨B, hB⟩ : ∃ B : Int, (v.size : Int) = B := ⟨_, rfl⟩
  have b0 : 0 ≤ B := by omega
  have b1 : B ≤ 9223372036854775807 := by omega
  obtain ⟨C, hC⟩ : ∃ C : Int, (n.size : Int) = C := ⟨_, rfl⟩
  have e0 : 0 ≤ C := by omega
  have e1 : C ≤ 9223372036854775807 := by omega
  obtain ⟨D, hD⟩ : ∃ D : Int, (d.size : Int) = D := ⟨_, rfl⟩
  have d0 : 0 ≤ D := by omega
  have d1 : D ≤ 9223372036854775807 := by omega
  by_cases g1 : left - A < 0
  · go_enter Tryz.func15, Tryz.ntmps15
    go_wp2
    go_ret
    exact ⟨-1, rfl, by omega, fun h => by omega, (Below.refl _ _).alloc (Nat.le_refl _) _⟩
  by_cases g2 : left - A - B < 0
  · go_enter Tryz.func15, Tryz.ntmps15
    go_wp2
    go_ret
    exact ⟨-1, rfl, by omega, fun h => by omega, (Below.refl _ _).alloc (Nat.le_refl _) _⟩
  by_cases g3 : left - A - B - C < 0
  · go_enter Tryz.func15, Tryz.ntmps15
    go_wp2
    go_ret
    exact ⟨-1, rfl, by omega, fun h => by omega, (Below.refl _ _).alloc (Nat.le_refl _) _⟩
  by_cases g4 : left - A - B - C - D < 0
  · go_enter Tryz.func15, Tryz.ntmps15
    go_wp2
    go_ret
    exact ⟨-1, rfl, by omega, fun h => by omega, (Below.refl _ _).alloc (Nat.le_refl _) _⟩
  · go_enter Tryz.func15, Tryz.ntmps15
    go_wp2
    go_ret
    exact ⟨left - A - B - C - D, rfl, by omega, fun h => ⟨by show a.size ≤ _; omega, by show v.size ≤ _; omega, by show n.size ≤ _; omega, by show d.size ≤ _; omega⟩, (Below.refl _ _).alloc (Nat.le_refl _) _⟩
end Go.Proofs.YtajfmjgaaapjeaaGreatDoor
