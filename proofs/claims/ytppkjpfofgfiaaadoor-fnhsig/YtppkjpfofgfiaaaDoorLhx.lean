/- How memory grows while a call's own block is written; texts laid one behind the other. Over any program. -/
import Derived.Test.YtppkjpfofgfiaaaDoorMk4
import Derived.Deep.QuietTactic
import Derived.BigQuiet
import Derived.Deep.MidRow
import Derived.Deep.Heap
namespace Go.Proofs.YtppkjpfofgfiaaaDoor
open Go.RowKit
open Num
set_option linter.unusedVariables false
theorem gr_refl (w : World) (r : Option Nat) : w.grownBy w r := ⟨rfl, rfl, rfl, Nat.le_refl _, fun _ _ _ => rfl⟩
theorem gr_trans {a b c : World} {r : Option Nat} (h : a.grownBy b r) (k : b.grownBy c r) : a.grownBy c r :=
  ⟨k.os.trans h.os, k.tape.trans h.tape, k.output.trans h.output, Nat.le_trans h.size k.size, fun j hj hr => (k.block j (Nat.lt_of_lt_of_le hj h.size) hr).trans (h.block j hj hr)⟩
theorem gr_below {w w' : World} {r : Option Nat} (h : Below w.heap.size w w') : w.grownBy w' r := ⟨h.os, h.tape, h.output, h.size, fun k hk _ => h.block k hk⟩
theorem gr_set (w : World) (g j : Nat) (u : Value) : w.grownBy (w.setCell ⟨g, j, none⟩ u) (some g) :=
  ⟨rfl, rfl, rfl, by rw [Deep.nblk_setCell]; exact Nat.le_refl _, fun k _ hr => Deep.blk_setCell_other w ⟨g, j, none⟩ u k (fun e => hr (by rw [e]))⟩
theorem there_below {w w' : World} {b o n : Nat} (h : w.there b o n) (hb : Below w.heap.size w w') : w'.there b o n := fun j hj => by
  obtain ⟨h1, h2⟩ := h j hj
  obtain ⟨u, hu⟩ := Option.isSome_iff_exists.1 h1
  have hlt := World.block_lt_of_cell? w _ hu
  exact ⟨by rw [hb.cell (p := ⟨b, o + j, none⟩) hlt]; exact h1, by rw [hb.frozen (p := ⟨b, o + j, none⟩) hlt]; exact h2⟩
theorem there_set {w : World} {b o n : Nat} (h : w.there b o n) (g p : Nat) (u : Value) : (w.setCell ⟨g, p, none⟩ u).there b o n := fun j hj => by
  obtain ⟨h1, h2⟩ := h j hj
  exact ⟨World.isSome_setCells g [u] p w ⟨b, o + j, none⟩ h1, by rw [World.frozen?_setCell]; exact h2⟩
theorem strAt_snoc {w : World} {b o : Nat} {ss : List ByteArray} {x : ByteArray} (h : StrAt w b o ss) (ht : (w.cell? ⟨b, o + ss.length, none⟩).isSome = true) : StrAt (w.setCell ⟨b, o + ss.length, none⟩ (.string x)) b o (ss ++ [x]) := fun j hj => by
  by_cases hlt : j < ss.length
  · rw [World.cell?_setCell_other w ⟨b, o + ss.length, none⟩ ⟨b, o + j, none⟩ _ (fun e => by injection e; omega), h j hlt]
    simp [hlt]
  · have : j = ss.length := by simp at hj; omega
    subst this
    obtain ⟨u, hu⟩ := Option.isSome_iff_exists.1 ht
    rw [World.cell?_setCell_same w _ _ hu]
    simp
end Go.Proofs.YtppkjpfofgfiaaaDoor
