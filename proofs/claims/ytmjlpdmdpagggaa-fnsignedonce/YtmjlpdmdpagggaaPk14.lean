/- What the claims of chapter 14 share: guards, votes, signers that came in. -/
import Derived.Test.YtmjlpdmdpagggaaRows
import Derived.Test.YtmjlpdmdpagggaaSn
import Derived.Below
import Derived.WalkKit
import Derived.ProofKit
import Derived.OpenShut
import Derived.ShutString
import Derived.ChangeOld
import Derived.Deep.Slices
namespace Go.Proofs.Ytmjlpdmdpagggaa
open Go.ChangeShapes Go.WideShapes Go.ChangeAt Go.RowKit
open Num
set_option linter.unusedVariables false
theorem own : ownKnob Try.prog.godebug = none := by kernel_rfl
set_option maxRecDepth 100000 in
theorem laidOut : laidOutB Try.prog = true := by kernel_rfl
theorem some_at {α : Type} {l : List α} {n i : Nat} (h : l.length = n) (hi : i < n) : ∃ y, l[i]? = some y := ⟨l[i], List.getElem?_eq_getElem (by omega)⟩
theorem c3 : Try.prog.cellsOf 3 = 1 := by kernel_rfl
theorem c4 : Try.prog.cellsOf 4 = 1 := by kernel_rfl
theorem c9 : Try.prog.cellsOf 9 = 1 := by kernel_rfl
theorem cVt : Try.prog.cellsOf 55 = 5 := by kernel_rfl
theorem cGd : Try.prog.cellsOf 43 = 4 := by kernel_rfl
theorem cSg : Try.prog.cellsOf 50 = 11 := by kernel_rfl
theorem cRow : Try.prog.cellsOf 48 = 1 := by kernel_rfl
set_option maxRecDepth 100000 in
theorem open_vcells {E : Type} {enc : TypeId × Value → E} {W : World} {fuel : Nat} {cs : List Value} {y : DataW E × List MemPlace}
    (hf : DataW.trod enc Try.prog W 0 (fun _ => true) true fuel 55 cs = some y) (hsz : cs.length = 5) : ∃ x : Vt, cs = [.int .i64 x.h, .int .i64 x.r, .int .i64 x.s, .string x.i, .int .i64 x.v] ∧ x.i.size ≤ maxLen := by
  obtain ⟨xs, n, _, _, hl, hlen, hx⟩ := DataW.trod_struct Try.underlying55 hf
  have hlen' : xs.length = 5 := hlen
  obtain ⟨y0, e0⟩ := some_at hlen' (show 0 < 5 by omega)
  obtain ⟨y1, e1⟩ := some_at hlen' (show 1 < 5 by omega)
  obtain ⟨y2, e2⟩ := some_at hlen' (show 2 < 5 by omega)
  obtain ⟨y3, e3⟩ := some_at hlen' (show 3 < 5 by omega)
  obtain ⟨y4, e4⟩ := some_at hlen' (show 4 < 5 by omega)
  obtain ⟨z0, k0, _, _⟩ := DataW.trod_int Try.underlying3 ((hx 0 _ rfl).trans e0)
  obtain ⟨z1, k1, _, _⟩ := DataW.trod_int Try.underlying3 ((hx 1 _ rfl).trans e1)
  obtain ⟨z2, k2, _, _⟩ := DataW.trod_int Try.underlying3 ((hx 2 _ rfl).trans e2)
  obtain ⟨z3, k3, _, m3⟩ := DataW.trod_string Try.underlying9 ((hx 3 _ rfl).trans e3)
  obtain ⟨z4, k4, _, _⟩ := DataW.trod_int Try.underlying3 ((hx 4 _ rfl).trans e4)
  replace k0 : List.take (Try.prog.cellsOf 3) (List.drop 0 cs) = [.int .i64 z0] := k0
  rw [c3] at k0
  replace k1 : List.take (Try.prog.cellsOf 3) (List.drop 1 cs) = [.int .i64 z1] := k1
  rw [c3] at k1
  replace k2 : List.take (Try.prog.cellsOf 3) (List.drop 2 cs) = [.int .i64 z2] := k2
  rw [c3] at k2
  replace k3 : List.take (Try.prog.cellsOf 9) (List.drop 3 cs) = [.string z3] := k3
  rw [c9] at k3
  replace k4 : List.take (Try.prog.cellsOf 3) (List.drop 4 cs) = [.int .i64 z4] := k4
  rw [c3] at k4
  refine ⟨⟨z0, z1, z2, z3, z4⟩, ?_, m3⟩
  match cs, hsz with
  | [q0, q1, q2, q3, q4], _ =>
    simp at k0 k1 k2 k3 k4
    subst k0 k1 k2 k3 k4
    rfl
set_option maxRecDepth 100000 in
theorem open_gcells {E : Type} {enc : TypeId × Value → E} {W : World} {fuel : Nat} {cs : List Value} {y : DataW E × List MemPlace}
    (hf : DataW.trod enc Try.prog W 0 (fun _ => true) true fuel 43 cs = some y) (hsz : cs.length = 4) : ∃ x : Gt, cs = [.int .i64 x.h, .int .i64 x.r, .int .i64 x.s, .string x.i] ∧ x.i.size ≤ maxLen := by
  obtain ⟨xs, n, _, _, hl, hlen, hx⟩ := DataW.trod_struct Try.underlying43 hf
  have hlen' : xs.length = 4 := hlen
  obtain ⟨y0, e0⟩ := some_at hlen' (show 0 < 4 by omega)
  obtain ⟨y1, e1⟩ := some_at hlen' (show 1 < 4 by omega)
  obtain ⟨y2, e2⟩ := some_at hlen' (show 2 < 4 by omega)
  obtain ⟨y3, e3⟩ := some_at hlen' (show 3 < 4 by omega)
  obtain ⟨z0, k0, _, _⟩ := DataW.trod_int Try.underlying3 ((hx 0 _ rfl).trans e0)
  obtain ⟨z1, k1, _, _⟩ := DataW.trod_int Try.underlying3 ((hx 1 _ rfl).trans e1)
  obtain ⟨z2, k2, _, _⟩ := DataW.trod_int Try.underlying3 ((hx 2 _ rfl).trans e2)
  obtain ⟨z3, k3, _, m3⟩ := DataW.trod_string Try.underlying9 ((hx 3 _ rfl).trans e3)
  replace k0 : List.take (Try.prog.cellsOf 3) (List.drop 0 cs) = [.int .i64 z0] := k0
  rw [c3] at k0
  replace k1 : List.take (Try.prog.cellsOf 3) (List.drop 1 cs) = [.int .i64 z1] := k1
  rw [c3] at k1
  replace k2 : List.take (Try.prog.cellsOf 3) (List.drop 2 cs) = [.int .i64 z2] := k2
  rw [c3] at k2
  replace k3 : List.take (Try.prog.cellsOf 9) (List.drop 3 cs) = [.string z3] := k3
  rw [c9] at k3
  refine ⟨⟨z0, z1, z2, z3⟩, ?_, m3⟩
  match cs, hsz with
  | [q0, q1, q2, q3], _ =>
    simp at k0 k1 k2 k3
    subst k0 k1 k2 k3
    rfl
set_option maxRecDepth 100000 in
theorem open_vote {E : Type} {enc : TypeId × Value → E} {W : World} {base : Nat} {v0 : Value} {d0 : DataW E} {p0 : List MemPlace}
    (hval : Value.okWide Try.prog W .any base 55 v0) (h0 : DataW.Trod enc Try.prog W 0 (fun _ => true) true 55 v0 d0 p0) : ∃ x : Vt, v0 = tV x ∧ x.i.size ≤ 9223372036854775807 := by
  obtain ⟨cs, rfl, hsz⟩ := okWide_struct Try.underlying55 hval
  obtain ⟨fuel, hf⟩ := h0
  rw [cVt] at hsz
  obtain ⟨x, hx, hm⟩ := open_vcells hf (show cs.toList.length = 5 by simpa using hsz)
  refine ⟨x, ?_, hm⟩
  obtain ⟨l⟩ := cs
  have : l = _ := hx
  rw [this]
  rfl
set_option maxRecDepth 100000 in
theorem open_guard {E : Type} {enc : TypeId × Value → E} {W : World} {base : Nat} {v0 : Value} {d0 : DataW E} {p0 : List MemPlace}
    (hval : Value.okWide Try.prog W .any base 43 v0) (h0 : DataW.Trod enc Try.prog W 0 (fun _ => true) true 43 v0 d0 p0) : ∃ x : Gt, v0 = gV x ∧ x.i.size ≤ 9223372036854775807 := by
  obtain ⟨cs, rfl, hsz⟩ := okWide_struct Try.underlying43 hval
  obtain ⟨fuel, hf⟩ := h0
  rw [cGd] at hsz
  obtain ⟨x, hx, hm⟩ := open_gcells hf (show cs.toList.length = 4 by simpa using hsz)
  refine ⟨x, ?_, hm⟩
  obtain ⟨l⟩ := cs
  have : l = _ := hx
  rw [this]
  rfl
theorem add_off (b o i : Nat) : (⟨b, o, none⟩ : Addr).add i = ⟨b, o + i, none⟩ := by unfold Addr.add; split <;> simp_all
theorem add_add (x : Addr) (i c : Nat) : (x.add i).add c = x.add (i + c) := by
  by_cases hi : i = 0
  · subst hi
    by_cases hc : c = 0 <;> simp [Addr.add, hc]
  · by_cases hc : c = 0
    · simp [Addr.add, hc]
    · simp [Addr.add, hi, hc, Nat.add_assoc]
theorem cells_get {w : World} {base : Nat} {a : Addr} {n : Nat} {cs : List Value} (h : w.cells? base a n = some cs) : cs.length = n ∧ ∀ c, c < n → w.cell? (a.add c) = cs[c]? := by
  unfold World.cells? at h
  split at h
  · refine ⟨by have := mapM_some_length h; simpa using this, fun c hc => ?_⟩
    have := mapM_some_get h c c (by simp [hc])
    exact this
  · cases h
set_option maxRecDepth 100000 in
/-- A row of votes that came in, none or some. -/
theorem open_votes {H : Type} {enc : TypeId × Value → H} {W : World} {fuel : Nat} {cs : List Value} {y : DataW H × List MemPlace}
    (hf : DataW.trod enc Try.prog W 0 (fun _ => true) true fuel 48 cs = some y) :
    ∃ (a : Option Addr) (cap : Nat) (l : List Vt), cs = [.slice a l.length cap] ∧ YO W a l ∧ l.length ≤ 9223372036854775807 ∧ ∀ z ∈ l, SzV z := by
  obtain ⟨d, p⟩ := y
  rcases Deep.open_slice Try.underlying48 hf with ⟨hcs, _⟩ | ⟨x, len, cap, m, n, D, Pl, hcs, _, hle, hm, hmm, _, hx⟩
  · exact ⟨none, 0, [], hcs, .inl rfl, by simp, fun z hz => by cases hz⟩
  · have hmc : m = cap := by simpa using hmm
    subst hmc
    unfold maxLen at hm
    have each : ∀ i, i < m → ∃ y : Vt, (∀ c, c < 5 → W.cell? (x.add (i * 5 + c)) = (yLs y)[c]?) ∧ SzV y := fun i hi => by
      obtain ⟨cs', h1, h2⟩ := hx i hi
      rw [cVt] at h1
      obtain ⟨hlen, hcell⟩ := cells_get h1
      obtain ⟨y, hy, hs⟩ := open_vcells h2 hlen
      refine ⟨y, fun c hc => ?_, hs⟩
      show _ = ([.int .i64 y.h, .int .i64 y.r, .int .i64 y.s, .string y.i, .int .i64 y.v] : List Value)[c]?
      rw [← hy, ← hcell c hc]
      congr 1
      exact (add_add x _ c).symm
    have each' : ∀ i, ∃ y : Vt, i < m → (∀ c, c < 5 → W.cell? (x.add (i * 5 + c)) = (yLs y)[c]?) ∧ SzV y := fun i => by
      by_cases hi : i < m
      · obtain ⟨v, hv⟩ := each i hi; exact ⟨v, fun _ => hv⟩
      · exact ⟨⟨0, 0, 0, ⟨#[]⟩, 0⟩, fun h => absurd h hi⟩
    obtain ⟨f, hf⟩ := Classical.axiomOfChoice each'
    refine ⟨some x, m, (List.range len).map f, by rw [hcs]; simp, ?_, by simp; omega, fun y hy => ?_⟩
    · by_cases hz : len = 0
      · left; simp [hz]
      · right
        obtain ⟨b, off, spot⟩ := x
        have hspot : spot = none := by
          have h0 := (hf 0 (by omega)).1 0 (by omega)
          have := World.cell?_spot (show W.cell? _ = some (.int .i64 (f 0).h) from h0)
          simpa [Addr.add] using this
        subst hspot
        refine ⟨b, off, rfl, fun j hj c hc => ?_⟩
        have hj' : j < len := by simpa using hj
        have h1 := (hf j (by omega)).1 c hc
        rw [add_off] at h1
        simp only [List.getElem_map, List.getElem_range]
        rw [Nat.add_assoc]; exact h1
    · obtain ⟨j, hj, rfl⟩ := List.mem_map.1 hy
      have : j < len := by simpa using hj
      exact (hf j (by omega)).2
set_option maxRecDepth 100000 in
/-- A signer that came in. -/
theorem open_signer {E : Type} {enc : TypeId × Value → E} {W : World} {base : Nat} {v0 : Value} {d0 : DataW E} {p0 : List MemPlace}
    (hval : Value.okWide Try.prog W .any base 50 v0) (h0 : DataW.Trod enc Try.prog W 0 (fun _ => true) true 50 v0 d0 p0) :
    ∃ (x : Sg) (a : Option Addr) (cap : Nat), v0 = sV x a cap ∧ YO W a x.o ∧ x.d.i.size ≤ 9223372036854775807 ∧ x.m.i.size ≤ 9223372036854775807 ∧ x.o.length ≤ 9223372036854775807 ∧ ∀ z ∈ x.o, SzV z := by
  obtain ⟨cs, rfl, hsz⟩ := okWide_struct Try.underlying50 hval
  obtain ⟨fuel, hf⟩ := h0
  obtain ⟨xs, n, _, _, hl, hlen, hx⟩ := DataW.trod_struct Try.underlying50 hf
  have hc : (Value.agg cs).cells.toList = cs.toList := rfl
  rw [hc] at hx hl
  rw [cSg] at hsz
  have hlen' : xs.length = 5 := hlen
  obtain ⟨y0, e0⟩ := some_at hlen' (show 0 < 5 by omega)
  obtain ⟨y1, e1⟩ := some_at hlen' (show 1 < 5 by omega)
  obtain ⟨y2, e2⟩ := some_at hlen' (show 2 < 5 by omega)
  obtain ⟨y3, e3⟩ := some_at hlen' (show 3 < 5 by omega)
  obtain ⟨y4, e4⟩ := some_at hlen' (show 4 < 5 by omega)
  have hsz' : cs.toList.length = 11 := by simpa using hsz
  obtain ⟨z0, k0, _, _⟩ := DataW.trod_int Try.underlying3 ((hx 0 _ rfl).trans e0)
  have h1 := (hx 1 _ rfl).trans e1
  replace h1 : DataW.trod enc Try.prog W 0 (fun _ => true) true n 43 (List.take (Try.prog.cellsOf 43) (List.drop 1 cs.toList)) = some y1 := h1
  rw [cGd] at h1
  have h2 := (hx 2 _ rfl).trans e2
  replace h2 : DataW.trod enc Try.prog W 0 (fun _ => true) true n 43 (List.take (Try.prog.cellsOf 43) (List.drop 5 cs.toList)) = some y2 := h2
  rw [cGd] at h2
  obtain ⟨g1, k1, m1⟩ := open_gcells h1 (by rw [List.length_take, List.length_drop]; omega)
  obtain ⟨g2, k2, m2⟩ := open_gcells h2 (by rw [List.length_take, List.length_drop]; omega)
  obtain ⟨z3, k3, _⟩ := DataW.trod_bool Try.underlying4 ((hx 3 _ rfl).trans e3)
  obtain ⟨a, cap, l, k4, hso, hle, hse⟩ := open_votes ((hx 4 _ rfl).trans e4)
  replace k0 : List.take (Try.prog.cellsOf 3) (List.drop 0 cs.toList) = [.int .i64 z0] := k0
  rw [c3] at k0
  replace k3 : List.take (Try.prog.cellsOf 4) (List.drop 9 cs.toList) = [.bool z3] := k3
  rw [c4] at k3
  replace k4 : List.take (Try.prog.cellsOf 48) (List.drop 10 cs.toList) = [.slice a l.length cap] := k4
  rw [cRow] at k4
  refine ⟨⟨z0, g1, g2, z3, l⟩, a, cap, ?_, hso, m1, m2, hle, hse⟩
  obtain ⟨q⟩ := cs
  have hl6 : q.length = 11 := by simpa using hsz
  match q, hl6 with
  | [q0, q1, q2, q3, q4, q5, q6, q7, q8, q9, q10], _ =>
    simp at k0 k1 k2 k3 k4
    obtain ⟨rfl, rfl, rfl, rfl⟩ := k1
    obtain ⟨rfl, rfl, rfl, rfl⟩ := k2
    subst k0 k3 k4
    rfl
end Go.Proofs.Ytmjlpdmdpagggaa
