/- A block of cells as one fact: its cells, a store into it, what keeps it. Conditions: none of ours. -/
import Derived.Test.YtmjlpdmdpagggaaBe
namespace Go.Proofs.Ytmjlpdmdpagggaa
open Go.RowKit
open Num
set_option linter.unusedVariables false
/-- Block g holds just these cells, and may be written. -/
def Blk (W : World) (g : Nat) (cs : List Value) (t : TypeId) : Prop := W.heap[g]? = some (.cells cs.toArray t (0, 0))
theorem Blk.cell {W : World} {g : Nat} {cs : List Value} {t : TypeId} (h : Blk W g cs t) (j : Nat) {v : Value} (hv : cs[j]? = some v) : W.cell? ⟨g, j, none⟩ = some v := by
  rw [cell_of_row W g j _ t (0, 0) h]; simpa using hv
theorem Blk.frozen {W : World} {g : Nat} {cs : List Value} {t : TypeId} (h : Blk W g cs t) (j : Nat) : W.frozen? ⟨g, j, none⟩ = false := frozen_of_row W g j _ t h
theorem Blk.set {W : World} {g : Nat} {cs : List Value} {t : TypeId} (h : Blk W g cs t) (j : Nat) (u : Value) : Blk (W.setCell ⟨g, j, none⟩ u) g (cs.set j u) t := by
  unfold Blk at h ⊢
  rw [heap_setCell_same W g j _ t _ h]; simp
theorem Blk.other {W : World} {g : Nat} {cs : List Value} {t : TypeId} (h : Blk W g cs t) {g' : Nat} (j : Nat) (u : Value) (hne : g ≠ g') : Blk (W.setCell ⟨g', j, none⟩ u) g cs t := by
  unfold Blk at h ⊢
  rw [heap_setCell_other W ⟨g', j, none⟩ g u hne]; exact h
theorem Blk.below {W W' : World} {g B : Nat} {cs : List Value} {t : TypeId} (h : Blk W g cs t) (hb : Below B W W') (hg : g < B) : Blk W' g cs t := by
  unfold Blk at h ⊢
  rw [hb.block g hg]; exact h
theorem Blk.lt {W : World} {g : Nat} {cs : List Value} {t : TypeId} (h : Blk W g cs t) : g < W.heap.size := (Array.getElem?_eq_some_iff.1 h).1
theorem Blk.grown {W W' : World} {g : Nat} {r : Option Nat} {cs : List Value} {t : TypeId} (h : Blk W g cs t) (k : W.grownBy W' r) (hr : r ≠ some g) : Blk W' g cs t := by
  have := h.lt
  unfold Blk at h ⊢
  rw [k.block g this (fun e => hr e.symm)]; exact h
theorem Blk.alloc {W : World} {g : Nat} {cs : List Value} {t : TypeId} (h : Blk W g cs t) (o : Obj) : Blk (W.alloc o) g cs t := h.below ((Below.refl _ _).alloc (Nat.le_refl _) o) h.lt
theorem blk_new (w : World) (cs : List Value) (t : TypeId) : Blk (w.alloc (.cells cs.toArray t)) w.heap.size cs t := heap_alloc_new _ _
theorem beq_str (a b : ByteArray) : (a.toList == b.toList) = decide (a = b) := by
  by_cases h : a = b
  · subst h; simp
  · rw [decide_eq_false h, ← Bool.not_eq_true, beq_iff_eq]
    intro e
    rw [Go.ByteArray.toList_eq, Go.ByteArray.toList_eq] at e
    exact h (ByteArray.ext (Array.ext' e))
end Go.Proofs.Ytmjlpdmdpagggaa
