/- What spec.l1New answers: a cursor over the code, its mix begun with the code's bytes. -/
import Derived.Test.YtaeokecodejpdaaCur3
import Derived.Outline
namespace Go.Proofs.Ytaeokecodejpdaa
open Go.RowKit
open Num
set_option linter.unusedVariables false
def newStep (h : Int) (c : UInt8) : Int := (h * 131 + (c.toNat : Int) + 7) % 1073741824
def newF (L : List UInt8) : Int := (L.take 4000).foldl newStep (10101 + (L.length : Int))
theorem new_snoc (L : List UInt8) (h : Int) (j : Nat) (hj : j < L.length) : (L.take (j + 1)).foldl newStep h = newStep ((L.take j).foldl newStep h) L[j] := by
  rw [List.take_succ_eq_append_getElem hj, List.foldl_append]; rfl
theorem new_bound (L : List UInt8) (h : Int) (h0 : 0 ≤ h) (h1 : h ≤ 1073741824) : 0 ≤ L.foldl newStep h ∧ L.foldl newStep h ≤ 1073741824 := by
  induction L generalizing h with
  | nil => exact ⟨h0, h1⟩
  | cons c L ih => exact ih _ (by unfold newStep; omega) (by unfold newStep; omega)
section
attribute [local go_sem] i64_and30
end
end Go.Proofs.Ytaeokecodejpdaa
