/- A header's six cells in a block of its own, kept. Conditions: none of ours. -/
import Derived.Test.YtbpmjejmeaifbaaGreatDoorHl
namespace Go.Proofs.YtbpmjejmeaifbaaGreatDoor
open Go.RowKit
open Num
set_option linter.unusedVariables false
def Six (W : World) (g : Nat) (x : H) : Prop := W.cell? ⟨g, 0, none⟩ = some (.int .i64 x.h) ∧ W.cell? ⟨g, 1, none⟩ = some (.int .i64 x.t) ∧ W.cell? ⟨g, 2, none⟩ = some (.string x.a) ∧ W.cell? ⟨g, 3, none⟩ = some (.string x.v) ∧ W.cell? ⟨g, 4, none⟩ = some (.string x.n) ∧ W.cell? ⟨g, 5, none⟩ = some (.string x.d)
theorem Six.below {W W' : World} {g B : Nat} {x : H} (h : Six W g x) (hb : Below B W W') (hg : g < B) : Six W' g x := by
  obtain ⟨h0, h1, h2, h3, h4, h5⟩ := h
  exact ⟨(hb.cell (p := ⟨g, 0, none⟩) hg).trans h0, (hb.cell (p := ⟨g, 1, none⟩) hg).trans h1, (hb.cell (p := ⟨g, 2, none⟩) hg).trans h2, (hb.cell (p := ⟨g, 3, none⟩) hg).trans h3, (hb.cell (p := ⟨g, 4, none⟩) hg).trans h4, (hb.cell (p := ⟨g, 5, none⟩) hg).trans h5⟩
theorem Six.lt {W : World} {g : Nat} {x : H} (h : Six W g x) : g < W.heap.size := World.block_lt_of_cell? W _ h.1
theorem six_new (w : World) (x : H) (t : TypeId) : Six (w.alloc (.cells (hcs x) t)) w.heap.size x := by
  unfold Six hcs; simp
theorem below_next {w : World} {o : Obj} {W : World} (h : Below (w.alloc o).heap.size (w.alloc o) W) : Below w.heap.size w W :=
  ((Below.refl _ _).alloc (Nat.le_refl _) o).trans (h.mono (by simp))
end Go.Proofs.YtbpmjejmeaifbaaGreatDoor
