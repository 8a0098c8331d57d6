/- Cells that may be written. Conditions: none of ours. -/
import Derived.Test.YtajfmjgaaapjeaaDoorBe
namespace Go.Proofs.YtajfmjgaaapjeaaDoor
open Go.RowKit
open Num
set_option linter.unusedVariables false
theorem below_two (w : World) (o o' : Obj) : Below w.heap.size w ((w.alloc o).alloc o') := ((Below.refl _ _).alloc (Nat.le_refl _) _).alloc (by simp) _
theorem below_one (w : World) (o : Obj) : Below w.heap.size w (w.alloc o) := (Below.refl _ _).alloc (Nat.le_refl _) _
/-- Cells that may be written. -/
def Room (w : World) (b o n : Nat) : Prop := ∀ j, j < n → (w.cell? ⟨b, o + j, none⟩).isSome = true ∧ w.frozen? ⟨b, o + j, none⟩ = false
theorem Room.below {w w' : World} {b o n : Nat} (h : Room w b o n) (hb : Below w.heap.size w w') : Room w' b o n := fun j hj => by
  obtain ⟨h1, h2⟩ := h j hj
  obtain ⟨u, hu⟩ := Option.isSome_iff_exists.1 h1
  have hlt := World.block_lt_of_cell? w _ hu
  exact ⟨by rw [hb.cell (p := ⟨b, o + j, none⟩) hlt]; exact h1, by rw [hb.frozen (p := ⟨b, o + j, none⟩) hlt]; exact h2⟩
theorem some_set (w : World) (a x : Addr) (u : Value) (h : (w.cell? x).isSome = true) : ((w.setCell a u).cell? x).isSome = true := by
  by_cases e : x = a
  · subst e; rw [World.cell?_setCell_same' w x u h]; rfl
  · rw [World.cell?_setCell_other w a x u (fun h => e h.symm)]; exact h
theorem Room.set {w : World} {b o n : Nat} (h : Room w b o n) (g p : Nat) (u : Value) : Room (w.setCell ⟨g, p, none⟩ u) b o n := fun j hj => by
  obtain ⟨h1, h2⟩ := h j hj
  exact ⟨some_set w _ _ u h1, by rw [World.frozen?_setCell]; exact h2⟩
end Go.Proofs.YtajfmjgaaapjeaaDoor
