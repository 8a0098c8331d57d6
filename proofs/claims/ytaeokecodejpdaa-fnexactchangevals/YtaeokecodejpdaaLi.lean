/- What the laws' helpers toIntS and eqIntS answer; old memory stays. Conditions: rows that a machine can hold. -/
import Derived.Test.YtaeokecodejpdaaVl
namespace Go.Proofs.Ytaeokecodejpdaa
open Go.RowKit
open Num
set_option linter.unusedVariables false
theorem info3f : ∃ i, Try.prog.info? 3 = some i ∧ i.zero = some (.int .i64 0) ∧ i.size = 1 ∧ i.bytes = 8 :=
  info_parts (by kernel_rfl)
theorem IAt.snoc {w : World} {b o : Nat} {l : List Int} {v : Int} (h : IAt w b o l) (h1 : (w.cell? ⟨b, o + l.length, none⟩).isSome = true) :
    IAt (w.setCell ⟨b, o + l.length, none⟩ (.int .i64 v)) b o (l ++ [v]) := fun j hj => by
  by_cases hlt : j < l.length
  · rw [World.cell?_setCell_other _ ⟨b, o + l.length, none⟩ ⟨b, o + j, none⟩ _ (fun e => by injection e; omega), h j hlt]
    simp [hlt]
  · have : j = l.length := by simp at hj; omega
    subst this
    rw [World.cell?_setCell_same' _ _ _ h1]
    simp
end Go.Proofs.Ytaeokecodejpdaa
