/- What the laws' walks of chapter 9 keep: the argument's block, a copy's block. Conditions: none of ours. -/
import Derived.Test.YtbpmjejmeaifbaaDoorLc
namespace Go.Proofs.YtbpmjejmeaifbaaDoor
open Go.RowKit
open Num
set_option linter.unusedVariables false
/-- The argument lies in its block as it came; old memory stands. -/
def PS (w W : World) (x : Ct) (a : Option Addr) (cap : Nat) : Prop := Blk W w.heap.size (ccs x a cap) 41 ∧ SO W a x.l ∧ Below w.heap.size w W
theorem PS.below {w W W' : World} {x : Ct} {a : Option Addr} {cap : Nat} (h : PS w W x a cap) (hb : Below W.heap.size W W') : PS w W' x a cap :=
  ⟨h.1.below hb h.1.lt, h.2.1.below hb, h.2.2.trans (hb.mono h.2.2.size)⟩
theorem ps_new (w : World) (x : Ct) (a : Option Addr) (cap : Nat) (h : SO w a x.l) : PS w (w.alloc (.cells (ccs x a cap).toArray 41)) x a cap :=
  ⟨blk_new w _ _, h.below (below_one _ _), below_one _ _⟩
/-- A copy lies in block g. -/
def XS (W : World) (g B : Nat) (x : Ct) (a : Option Addr) : Prop := Blk W g (ccs x a x.l.length) 33 ∧ Cop W B x a
theorem XS.below {W W' : World} {g B : Nat} {x : Ct} {a : Option Addr} (h : XS W g B x a) (hb : Below W.heap.size W W') : XS W' g B x a :=
  ⟨h.1.below hb h.1.lt, h.2.below hb⟩
theorem xs_new (W : World) (B : Nat) (x : Ct) (a : Option Addr) (h : Cop W B x a) : XS (W.alloc (.cells (ccs x a x.l.length).toArray 33)) W.heap.size B x a :=
  ⟨blk_new W _ _, h.below (below_one _ _)⟩
end Go.Proofs.YtbpmjejmeaifbaaDoor
