/- What the claims of chapter 10 share: a trust that came in. -/
import Derived.Test.YtkmmnjiflnllbaaTs
import Derived.Below
import Derived.WalkKit
import Derived.ProofKit
import Derived.OpenShut
import Derived.ShutString
import Derived.ChangeOld
namespace Go.Proofs.Ytkmmnjiflnllbaa
open Go.ChangeShapes Go.WideShapes Go.ChangeAt Go.RowKit
open Num
set_option linter.unusedVariables false
theorem own : ownKnob Try.prog.godebug = none := by kernel_rfl
theorem laidOut : laidOutB Try.prog = true := by kernel_rfl
theorem some_at {α : Type} {l : List α} {n i : Nat} (h : l.length = n) (hi : i < n) : ∃ y, l[i]? = some y := ⟨l[i], List.getElem?_eq_getElem (by omega)⟩
/-- A trust that came in. -/
theorem open_trust {E : Type} {enc : TypeId × Value → E} {W : World} {base : Nat} {v0 : Value} {d0 : DataW E} {p0 : List MemPlace}
    (hval : Value.okWide Try.prog W .any base 31 v0) (h0 : DataW.Trod enc Try.prog W 0 (fun _ => true) true 31 v0 d0 p0) : ∃ x : T, v0 = tV x := by
  obtain ⟨cs, rfl, hsz⟩ := okWide_struct Try.underlying31 hval
  obtain ⟨fuel, hf⟩ := h0
  obtain ⟨xs, n, _, _, hl, hlen, hx⟩ := DataW.trod_struct Try.underlying31 hf
  have hc : (Value.agg cs).cells.toList = cs.toList := rfl
  rw [hc] at hx hl
  have cn : Try.prog.cellsOf 31 = 2 := by kernel_rfl
  have c3 : Try.prog.cellsOf 3 = 1 := by kernel_rfl
  rw [cn] at hsz
  have hlen' : xs.length = 2 := hlen
  obtain ⟨y0, e0⟩ := some_at hlen' (show 0 < 2 by omega)
  obtain ⟨y1, e1⟩ := some_at hlen' (show 1 < 2 by omega)
  obtain ⟨z0, k0, _, _⟩ := DataW.trod_int Try.underlying3 ((hx 0 _ rfl).trans e0)
  obtain ⟨z1, k1, _, _⟩ := DataW.trod_int Try.underlying3 ((hx 1 _ rfl).trans e1)
  replace k0 : List.take (Try.prog.cellsOf 3) (List.drop 0 cs.toList) = [.int .i64 z0] := k0
  rw [c3] at k0
  replace k1 : List.take (Try.prog.cellsOf 3) (List.drop 1 cs.toList) = [.int .i64 z1] := k1
  rw [c3] at k1
  refine ⟨⟨z0, z1⟩, ?_⟩
  obtain ⟨l⟩ := cs
  have hl6 : l.length = 2 := by simpa using hsz
  match l, hl6 with
  | [q0, q1], _ =>
    simp at k0 k1
    subst k0 k1
    rfl
end Go.Proofs.Ytkmmnjiflnllbaa
