/- What the claims of chapter 6 share: rows of validators and of numbers that came in. -/
import Derived.Test.YtaeokecodejpdaaRows
import Derived.Test.YtaeokecodejpdaaVl
import Derived.Below
import Derived.WalkKit
import Derived.ProofKit
import Derived.OpenShut
import Derived.ShutString
import Derived.ChangeOld
import Derived.Deep.SlicePairs
namespace Go.Proofs.Ytaeokecodejpdaa
open Go.ChangeShapes Go.WideShapes Go.ChangeAt Go.RowKit
open Num
set_option linter.unusedVariables false
theorem own : ownKnob Try.prog.godebug = none := by kernel_rfl
theorem laidOut : laidOutB Try.prog = true := by kernel_rfl
theorem add_off (b o j : Nat) : (⟨b, o, none⟩ : Addr).add j = ⟨b, o + j, none⟩ := by
  unfold Addr.add
  by_cases h : j = 0 <;> simp [h]
/-- A row of validators that came in, none or some. -/
theorem open_vals {H : Type} {enc : TypeId × Value → H} {W : World} {a0 : Option Addr} {len0 cap0 : Nat} {d0 : DataW H} {p0 : List MemPlace}
    (h0 : DataW.Trod enc Try.prog W 0 (fun _ => true) true 22 (.slice a0 len0 cap0) d0 p0) :
    ∃ l : List V, l.length = len0 ∧ VO W a0 l ∧ l.length ≤ 9223372036854775807 := by
  obtain ⟨fuel, hf⟩ := h0
  rcases Deep.open_slice_pairs Try.underlying22 Try.underlying36 (by kernel_rfl) rfl rfl (by kernel_rfl) (by kernel_rfl) hf with ⟨hcs, _⟩ | ⟨x, len, cap, m, n, V0, V1, D0, D1, P0, P1, hcs, _, hl, hm, hmm, _, hx⟩
  · simp [Value.cells] at hcs
    obtain ⟨rfl, rfl, rfl⟩ := hcs
    exact ⟨[], rfl, .inl rfl, by simp⟩
  · simp [Value.cells] at hcs
    obtain ⟨rfl, rfl, rfl⟩ := hcs
    have hmc : m = cap0 := by simpa using hmm
    subst hmc
    unfold maxLen at hm
    have each : ∀ i, i < m → ∃ v : V, W.cell? (x.add (i * 2)) = some (.int .i64 v.i) ∧ W.cell? (x.add (i * 2 + 1)) = some (.int .i64 v.p) := fun i hi => by
      obtain ⟨h1, h2, h3, h4⟩ := hx i hi
      obtain ⟨y, hy, _, _⟩ := DataW.trod_int Try.underlying3 h3
      obtain ⟨z, hz, _, _⟩ := DataW.trod_int Try.underlying3 h4
      injection hy with hy _
      injection hz with hz _
      exact ⟨⟨y, z⟩, by rw [h1, hy], by rw [h2, hz]⟩
    have each' : ∀ i, ∃ v : V, i < m → W.cell? (x.add (i * 2)) = some (.int .i64 v.i) ∧ W.cell? (x.add (i * 2 + 1)) = some (.int .i64 v.p) := fun i => by
      by_cases hi : i < m
      · obtain ⟨v, hv⟩ := each i hi; exact ⟨v, fun _ => hv⟩
      · exact ⟨nobody, fun h => absurd h hi⟩
    obtain ⟨f, hf⟩ := Classical.axiomOfChoice each'
    refine ⟨(List.range len0).map f, by simp, ?_, by simp; omega⟩
    by_cases hz : len0 = 0
    · left; simp [hz]
    · right
      obtain ⟨b, off, spot⟩ := x
      have hspot : spot = none := by
        have := World.cell?_spot (hf 0 (by omega)).1
        simpa [Addr.add] using this
      subst hspot
      refine ⟨b, off, rfl, fun j hj => ?_⟩
      have hj' : j < len0 := by simpa using hj
      obtain ⟨h1, h2⟩ := hf j (by omega)
      rw [add_off] at h1 h2
      simp only [List.getElem_map, List.getElem_range]
      exact ⟨h1, by rw [Nat.add_assoc]; exact h2⟩
end Go.Proofs.Ytaeokecodejpdaa
