/- What spec.l6Take answers; old memory stays. Conditions: texts of at most 2 to the 40 bytes. -/
import Derived.Test.YtdpjlfgfacjfeaaDoorRw
import Derived.WalkSmall
namespace Go.Proofs.YtdpjlfgfacjfeaaDoor
open Go.RowKit
open Num
set_option linter.unusedVariables false
set_option maxRecDepth 100000 in
theorem vL_one_none {s : ByteArray} {a : Nat} (h : vL s a 1 = none) : (rvAt s a).2 = 0 := by
  simp only [vL] at h
  split at h
  · assumption
  · cases h
set_option maxRecDepth 100000 in
theorem vL_one_some {s : ByteArray} {a e : Nat} {xs : List Int} (h : vL s a 1 = some (xs, e)) : xs = [(rvAt s a).1] ∧ e = a + (rvAt s a).2 ∧ 0 < (rvAt s a).2 := by
  simp only [vL] at h
  split at h
  · cases h
  · simp at h
    exact ⟨h.1.symm, h.2.symm, by omega⟩
set_option maxRecDepth 100000 in
set_option maxHeartbeats 800000 in
theorem spec_take (s : ByteArray) (a : Int) (w : World) (hs : s.size ≤ 1099511627776) (ha : a < 0 ∨ 0 ≤ a ∧ a ≤ (s.size : Int)) :
    Calls Tryd.prog 25 #[.string s, .int .i64 a] w fun e w' => e = .returned (.tuple #[.string (tk s a).1, .int .i64 (tk s a).2]) ∧ Below w.heap.size w w' := by
  rcases ha with ha | ⟨ha, hb⟩
  · rw [tk_neg s a ha]
    have kV := spec_vars_neg s a 1 w ha (by decide)
    simp only at kV ⊢
    go_enter Tryd.func25, Tryd.ntmps25
    go_wp2_with fail
    refine kV.mono ?_
    rintro e w1 ⟨v1, rfl, b1⟩
    go_wp2
    go_ret2
    exact ⟨rfl, b1⟩
  obtain ⟨A, rfl⟩ : ∃ A : Nat, a = (A : Int) := ⟨a.toNat, by omega⟩
  have kV := spec_vars s A 1 w hs (by omega) (by omega)
  obtain ⟨⟨x, k⟩, hr⟩ : ∃ r, rvAt s A = r := ⟨_, rfl⟩
  have hbd := rvAt_bound s A
  rw [hr] at hbd
  obtain ⟨n1, n2, n3, n4, n5⟩ := hbd
  simp only at n1 n2 n3 n4 n5
  clear n4
  have HR : Hid (rvAt s A = (x, k)) := hr
  clear hr
  by_cases hk : k = 0
  · rw [tk_none s A (by rw [HR.out]; exact hk)]
    simp only at kV ⊢
    go_enter Tryd.func25, Tryd.ntmps25
    go_wp2_with fail
    refine kV.mono ?_
    rintro e w1 ⟨v1, r1, rfl, h1, b1⟩
    obtain rfl : r1 = -1 := by
      rcases h1.out with ⟨_, h⟩ | ⟨xs, b, h, _, _⟩
      · exact h
      · have := (vL_one_some h).2.2
        rw [HR.out] at this
        simp only at this
        omega
    clear h1
    go_wp2
    go_ret2
    exact ⟨rfl, b1⟩
  have HV : Hid (∀ (v1 : Value) (r1 : Int) (w1 : World), Hid ((vL s A 1 = none ∧ r1 = -1) ∨ ∃ (xs : List Int) (b : Nat), vL s A 1 = some (xs, b) ∧ r1 = (b : Int) ∧ OwnI w1 w.heap.size v1 xs) → r1 = ((A + k : Nat) : Int) ∧ ∃ g cap, v1 = .slice (some ⟨g, 0, none⟩) 1 cap ∧ w1.cell? ⟨g, 0, none⟩ = some (.int .i64 x)) := fun v1 r1 w1 h => by
    rcases h.out with ⟨h, _⟩ | ⟨xs, b, h, hb, ho⟩
    · have := vL_one_none h
      rw [HR.out] at this
      exact absurd this hk
    · obtain ⟨rfl, rfl, _⟩ := vL_one_some h
      rw [HR.out] at hb ho
      simp only at hb ho
      obtain ⟨g, cap, rfl, hI⟩ := ho.at (by simp)
      exact ⟨hb, g, cap, rfl, by simpa using hI 0 (by simp)⟩
  obtain ⟨B, hB⟩ : ∃ B : Nat, A + k = B := ⟨_, rfl⟩
  rw [hB] at HV
  have hBs : (B : Int) ≤ (s.size : Int) := by omega
  have hB0 : ¬ (B : Int) < 0 := by omega
  by_cases hx : (s.size : Int) - (B : Int) < x
  · rw [tk_less s A (by rw [HR.out]; simp only; omega)]
    simp only at kV ⊢
    clear hB
    go_enter Tryd.func25, Tryd.ntmps25
    go_wp2_with fail
    refine kV.mono ?_
    rintro e w1 ⟨v1, r1, rfl, h1, b1⟩
    obtain ⟨rfl, g, cap, rfl, c1⟩ := HV.out _ _ _ h1
    clear h1
    go_wp2
    go_ret2
    exact ⟨rfl, b1⟩
  · have hE := tk_some s A (by rw [HR.out]; simp only; omega) (by rw [HR.out]; simp only; omega)
    rw [HR.out] at hE
    simp only at hE
    rw [hB, show (A : Int) + (k : Int) = (B : Int) from by omega] at hE
    rw [hE]
    clear hE hB
    obtain ⟨X, rfl⟩ : ∃ X : Nat, x = (X : Int) := ⟨x.toNat, by omega⟩
    simp only [Int.toNat_natCast] at kV ⊢
    have q1 : (B : Int) ≤ (B : Int) + (X : Int) := by omega
    have q2 : (B : Int) + (X : Int) ≤ (s.size : Int) := by omega
    go_enter Tryd.func25, Tryd.ntmps25
    go_wp2_with fail
    refine kV.mono ?_
    rintro e w1 ⟨v1, r1, rfl, h1, b1⟩
    obtain ⟨rfl, g, cap, rfl, c1⟩ := HV.out _ _ _ h1
    clear h1
    go_wp2_with fail
    go_quiet (fail)
    go_wp2
    go_ret2
    exact ⟨rfl, below_drewN b1 _⟩
end Go.Proofs.YtdpjlfgfacjfeaaDoor
