/- What the claims of chapter 8 share: a vote that came in. -/
import Derived.Test.YtphoafjjilpfdaaVo
import Derived.Below
import Derived.WalkKit
import Derived.ProofKit
import Derived.OpenShut
import Derived.ShutString
import Derived.ChangeOld
namespace Go.Proofs.Ytphoafjjilpfdaa
open Go.ChangeShapes Go.WideShapes Go.ChangeAt Go.RowKit
open Num
set_option linter.unusedVariables false
theorem own : ownKnob Try.prog.godebug = none := by kernel_rfl
theorem laidOut : laidOutB Try.prog = true := by kernel_rfl
theorem some_at {α : Type} {l : List α} {n i : Nat} (h : l.length = n) (hi : i < n) : ∃ y, l[i]? = some y := ⟨l[i], List.getElem?_eq_getElem (by omega)⟩
/-- A vote that came in. -/
theorem open_vote {E : Type} {enc : TypeId × Value → E} {W : World} {base : Nat} {v0 : Value} {d0 : DataW E} {p0 : List MemPlace}
    (hval : Value.okWide Try.prog W .any base 23 v0) (h0 : DataW.Trod enc Try.prog W 0 (fun _ => true) true 23 v0 d0 p0) : ∃ x : Vt, v0 = tV x ∧ x.i.size ≤ maxLen := by
  obtain ⟨cs, rfl, hsz⟩ := okWide_struct Try.underlying23 hval
  obtain ⟨fuel, hf⟩ := h0
  obtain ⟨xs, n, _, _, hl, hlen, hx⟩ := DataW.trod_struct Try.underlying23 hf
  have hc : (Value.agg cs).cells.toList = cs.toList := rfl
  rw [hc] at hx hl
  have cn : Try.prog.cellsOf 23 = 5 := by kernel_rfl
  have c3 : Try.prog.cellsOf 3 = 1 := by kernel_rfl
  have c9 : Try.prog.cellsOf 9 = 1 := by kernel_rfl
  rw [cn] at hsz
  have hlen' : xs.length = 5 := hlen
  obtain ⟨y0, e0⟩ := some_at hlen' (show 0 < 5 by omega)
  obtain ⟨y1, e1⟩ := some_at hlen' (show 1 < 5 by omega)
  obtain ⟨y2, e2⟩ := some_at hlen' (show 2 < 5 by omega)
  obtain ⟨y3, e3⟩ := some_at hlen' (show 3 < 5 by omega)
  obtain ⟨y4, e4⟩ := some_at hlen' (show 4 < 5 by omega)
  obtain ⟨z0, k0, _, _⟩ := DataW.trod_int Try.underlying3 ((hx 0 _ rfl).trans e0)
  obtain ⟨z1, k1, _, _⟩ := DataW.trod_int Try.underlying3 ((hx 1 _ rfl).trans e1)
  obtain ⟨z2, k2, _, _⟩ := DataW.trod_int Try.underlying3 ((hx 2 _ rfl).trans e2)
  obtain ⟨z3, k3, _, m3⟩ := DataW.trod_string Try.underlying9 ((hx 3 _ rfl).trans e3)
  obtain ⟨z4, k4, _, _⟩ := DataW.trod_int Try.underlying3 ((hx 4 _ rfl).trans e4)
  replace k0 : List.take (Try.prog.cellsOf 3) (List.drop 0 cs.toList) = [.int .i64 z0] := k0
  rw [c3] at k0
  replace k1 : List.take (Try.prog.cellsOf 3) (List.drop 1 cs.toList) = [.int .i64 z1] := k1
  rw [c3] at k1
  replace k2 : List.take (Try.prog.cellsOf 3) (List.drop 2 cs.toList) = [.int .i64 z2] := k2
  rw [c3] at k2
  replace k3 : List.take (Try.prog.cellsOf 9) (List.drop 3 cs.toList) = [.string z3] := k3
  rw [c9] at k3
  replace k4 : List.take (Try.prog.cellsOf 3) (List.drop 4 cs.toList) = [.int .i64 z4] := k4
  rw [c3] at k4
  refine ⟨⟨z0, z1, z2, z3, z4⟩, ?_, m3⟩
  obtain ⟨l⟩ := cs
  have hl6 : l.length = 5 := by simpa using hsz
  match l, hl6 with
  | [q0, q1, q2, q3, q4], _ =>
    simp at k0 k1 k2 k3 k4
    subst k0 k1 k2 k3 k4
    rfl
end Go.Proofs.Ytphoafjjilpfdaa
