/- What spec.l1Text and l1New answer, as functions of the code's bytes and the cursor's state. -/
import Derived.Test.YtmjlpdmdpagggaaCur2
import Derived.Outline
namespace Go.Proofs.Ytmjlpdmdpagggaa
open Go.RowKit
open Num
set_option linter.unusedVariables false
theorem grown_fresh {a b c : World} {g : Nat} {r : Option Nat} (h : a.grownBy b (some g)) (k : b.grownBy c r) (hr : ∀ j, r = some j → a.heap.size ≤ j) : a.grownBy c (some g) :=
  ⟨k.os.trans h.os, k.tape.trans h.tape, k.output.trans h.output, Nat.le_trans h.size k.size, fun i hi hg => (k.block i (Nat.lt_of_lt_of_le hi h.size) (fun e => by have := hr i e.symm; omega)).trans (h.block i hi hg)⟩
theorem cur_kept {b c : World} {g : Nat} {r : Option Nat} {a : Option Addr} {len cap : Nat} {s : St} (h : CurAt b g a len cap s) (k : b.grownBy c r) (hr : r ≠ some g) : CurAt c g a len cap s := by
  unfold CurAt at h ⊢
  rw [k.block g (Array.getElem?_eq_some_iff.1 h).1 (fun e => hr e.symm)]; exact h
end Go.Proofs.Ytmjlpdmdpagggaa
