/- What l9Vote, isShownSig and isShownCommit answer; old memory stays. Conditions: rows that a machine can hold. -/
import Derived.Test.YtbpmjejmeaifbaaGreatDoorMC
import Derived.Test.YtbpmjejmeaifbaaGreatDoorVo
namespace Go.Proofs.YtbpmjejmeaifbaaGreatDoor
open Go.RowKit
open Num
set_option linter.unusedVariables false
set_option maxHeartbeats 400000 in
set_option maxRecDepth 100000 in
theorem spec_l9v (x : Ct) (a : Option Addr) (cap : Nat) (v : Int) (w : World) :
    Calls Tryz.prog 32 #[cV x a cap, .int .i64 v] w fun e w' => e = .returned (tV ⟨x.h, x.r, 2, x.i, v⟩) ∧ Below w.heap.size w w' := by
  obtain ⟨h, r, i, l⟩ := x
  unfold cV tV
  simp only
  go_enter Tryz.func32, Tryz.ntmps32
  go_wp2
  refine bodyPost_ret (v := .agg #[.int .i64 h, .int .i64 r, .int .i64 2, .string i, .int .i64 v]) (by simp [results, Tryz.results32, go_sem]) rfl ⟨rfl, ?_⟩
  first | exact below_two _ _ _ | exact (((((below_two _ _ _).setCell (by simp) _).setCell (by simp) _).setCell (by simp) _).setCell (by simp) _).setCell (by simp) _
/-- Rows that a machine can hold. -/
def SzOk (x : Ct) : Prop := x.i.size ≤ 9223372036854775807 ∧ x.l.length ≤ 9223372036854775807 ∧ ∀ y ∈ x.l, y.s.size ≤ 9223372036854775807
theorem cOk_h {x : Ct} (h : hdB x.h x.r x.i = false) : cOk x = false := cOk_no fun e => by rw [h] at e; exact absurd e.1 (by decide)
theorem cOk_m {x : Ct} (h : ¬ x.l.length ≤ 12) : cOk x = false := cOk_no fun e => h e.2.1
theorem cOk_g {x : Ct} {j : Nat} (hj : j < x.l.length) (h : sgB x.l[j] = false) : cOk x = false := cOk_no fun e => by
  have := e.2.2 _ (List.getElem_mem hj)
  rw [h] at this; cases this
theorem cOk_y {x : Ct} (h : hdB x.h x.r x.i = true) (h2 : x.l.length ≤ 12) (h3 : ∀ j (hj : j < x.l.length), sgB x.l[j] = true) : cOk x = true :=
  (cOk_iff x).2 ⟨h, h2, fun y hy => by obtain ⟨j, hj, rfl⟩ := List.getElem_of_mem hy; exact h3 j hj⟩
end Go.Proofs.YtbpmjejmeaifbaaGreatDoor
