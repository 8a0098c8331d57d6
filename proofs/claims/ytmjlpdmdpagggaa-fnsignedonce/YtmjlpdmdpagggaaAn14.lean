/- What an asking leaves of a signer, in plain terms. Conditions: none of ours. -/
import Derived.Test.YtmjlpdmdpagggaaSo
namespace Go.Proofs.Ytmjlpdmdpagggaa
open Go.RowKit
open Num
set_option linter.unusedVariables false
def askS (x : Sg) (y : Vt) : Sg × Int :=
  bif sOk x then
    (if x.p = true ∨ y.v ≠ x.v ∨ 60 ≤ x.o.length then (x, 2)
     else if mayS x.m y = 0 then (⟨x.v, x.d, ofV y, true, x.o⟩, 0)
     else if mayS x.m y = 1 then (⟨x.v, x.d, x.m, x.p, x.o ++ [y]⟩, 1)
     else (x, mayS x.m y))
  else (zSg, 2)
theorem askS_no {x : Sg} {y : Vt} (h : sOk x = false) : askS x y = (zSg, 2) := by unfold askS; rw [h]; rfl
theorem askS_pend {x : Sg} {y : Vt} (h : sOk x = true) (hp : x.p = true) : askS x y = (x, 2) := by
  unfold askS; rw [h, cond_true, if_pos (.inl hp)]
theorem askS_other {x : Sg} {y : Vt} (h : sOk x = true) (hp : y.v ≠ x.v) : askS x y = (x, 2) := by
  unfold askS; rw [h, cond_true, if_pos (.inr (.inl hp))]
theorem askS_full {x : Sg} {y : Vt} (h : sOk x = true) (hp : ¬ x.o.length < 60) : askS x y = (x, 2) := by
  unfold askS; rw [h, cond_true, if_pos (.inr (.inr (by omega)))]
theorem askS_go {x : Sg} {y : Vt} (h : sOk x = true) (hp : x.p = false) (hv : y.v = x.v) (h60 : x.o.length < 60) : askS x y = if mayS x.m y = 0 then (⟨x.v, x.d, ofV y, true, x.o⟩, 0) else if mayS x.m y = 1 then (⟨x.v, x.d, x.m, x.p, x.o ++ [y]⟩, 1) else (x, mayS x.m y) := by
  unfold askS
  rw [h, cond_true, if_neg]
  rintro (h1 | h1 | h1)
  · rw [hp] at h1; cases h1
  · exact h1 hv
  · omega
theorem askS_ok {x : Sg} {y : Vt} (h : sOk x = true) (hp : x.p = false) (hv : y.v = x.v) (h60 : x.o.length < 60) (hm : mayS x.m y = 0) : askS x y = (⟨x.v, x.d, ofV y, true, x.o⟩, 0) := by
  rw [askS_go h hp hv h60, if_pos hm]
theorem askS_same {x : Sg} {y : Vt} (h : sOk x = true) (hp : x.p = false) (hv : y.v = x.v) (h60 : x.o.length < 60) (hm : mayS x.m y = 1) : askS x y = (⟨x.v, x.d, x.m, x.p, x.o ++ [y]⟩, 1) := by
  rw [askS_go h hp hv h60, if_neg (by omega), if_pos hm]
theorem askS_rest {x : Sg} {y : Vt} (h : sOk x = true) (hp : x.p = false) (hv : y.v = x.v) (h60 : x.o.length < 60) (h0 : mayS x.m y ≠ 0) (h1 : mayS x.m y ≠ 1) : askS x y = (x, mayS x.m y) := by
  rw [askS_go h hp hv h60, if_neg h0, if_neg h1]
theorem askS_len (x : Sg) (y : Vt) : (askS x y).1.o.length ≤ x.o.length + 1 := by
  unfold askS
  cases sOk x
  · simp [zSg]
  · rw [cond_true]
    split
    · simp
    · split
      · simp
      · split <;> simp
theorem may_ne {g : Gt} {x : Vt} (h : mayS g x ≠ 2) : gOk g = true ∧ voB x = true := by
  unfold mayS at h
  cases hg : gOk g <;> cases hv : voB x <;> rw [hg, hv] at h <;> simp at h ⊢
theorem vo_sm {x : Vt} (h : voB x = true) : SmV x := by
  have := ((voB_iff _).1 h).2.2.2.1
  unfold SmV; omega
end Go.Proofs.Ytmjlpdmdpagggaa
