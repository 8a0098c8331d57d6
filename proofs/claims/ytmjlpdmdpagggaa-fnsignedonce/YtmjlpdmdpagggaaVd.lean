/- Plain facts on votes: which are right, their digests; of no Go text. No conditions. -/
import Derived.Test.YtmjlpdmdpagggaaVnum
import Derived.Test.YtmjlpdmdpagggaaLaw
namespace Go.Proofs.Ytmjlpdmdpagggaa.Num
set_option linter.unusedVariables false
def inIs (x lo hi : Int) : Bool := decide (lo ≤ x) && decide (x ≤ hi)
theorem in_yes {x lo hi : Int} (h : lo ≤ x ∧ x ≤ hi) : inIs x lo hi = true := by unfold inIs; simp [h.1, h.2]
theorem in_no {x lo hi : Int} (h : ¬ (lo ≤ x ∧ x ≤ hi)) : inIs x lo hi = false := by unfold inIs; simp; omega
theorem in_iff (x lo hi : Int) : inIs x lo hi = true ↔ lo ≤ x ∧ x ≤ hi := by unfold inIs; simp
/-- A vote: height, round, step, id, validator. -/
structure Vt where
  h : Int
  r : Int
  s : Int
  i : ByteArray
  v : Int
def idB (i : ByteArray) : Bool := decide (i.size = 0) || decide (i.size = 8)
def voB (x : Vt) : Bool := inIs x.h 1 1000000 && (inIs x.r 0 1000 && (inIs x.s 1 2 && (idB x.i && inIs x.v 1 99)))
theorem idB_size {i : ByteArray} (h : idB i = true) : i.size ≤ 8 := by
  unfold idB at h
  rw [Bool.or_eq_true, decide_eq_true_eq, decide_eq_true_eq] at h; omega
theorem voB_iff (x : Vt) : voB x = true ↔ (1 ≤ x.h ∧ x.h ≤ 1000000) ∧ (0 ≤ x.r ∧ x.r ≤ 1000) ∧ (1 ≤ x.s ∧ x.s ≤ 2) ∧ (x.i.size = 0 ∨ x.i.size = 8) ∧ (1 ≤ x.v ∧ x.v ≤ 99) := by
  simp [voB, in_iff, idB]
theorem voB_size {x : Vt} (h : voB x = true) : x.i.size ≤ 8 := by
  have := ((voB_iff x).1 h).2.2.2.1; omega
end Go.Proofs.Ytmjlpdmdpagggaa.Num
