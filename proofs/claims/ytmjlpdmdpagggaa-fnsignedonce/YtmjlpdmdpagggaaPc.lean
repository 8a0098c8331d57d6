/- A code that came in. -/
import Derived.Test.YtmjlpdmdpagggaaPk14
import Derived.Test.YtmjlpdmdpagggaaCur
namespace Go.Proofs.Ytmjlpdmdpagggaa
open Go.ChangeShapes Go.WideShapes Go.ChangeAt Go.RowKit
open Num
set_option linter.unusedVariables false
theorem toNat_of (n : Int) (_h : 0 ≤ n) (_h' : n < 256) : (UInt8.ofNat n.toNat).toNat = n.toNat := by simp; omega
/-- The bytes of a slice that came in, as a code. -/
theorem code_of {W : World} {x : Addr} {zs : List Int} {len : Nat} (hl : len ≤ zs.length) (hcell : ∀ i, i < zs.length → W.cell? (x.add i) = some (.int .u8 (zs.getD i 0))) (hwz : ∀ n ∈ zs, (Lit.int .u8 n).wf = true) :
    ∃ L : List UInt8, L.length = len ∧ CodeAt W W.heap.size (some x) L := by
  refine ⟨(zs.take len).map (fun z => UInt8.ofNat z.toNat), by simp; omega, ?_⟩
  intro j hj
  have hj' : j < len := by simp at hj; omega
  have hc := hcell j (by omega)
  obtain ⟨b, off, spot⟩ := x
  have hspot : spot = none := by
    have := World.cell?_spot (hcell 0 (by omega))
    simpa [Addr.add] using this
  subst hspot
  have hadd : (⟨b, off, none⟩ : Addr).add j = ⟨b, off + j, none⟩ := by
    unfold Addr.add
    by_cases h : j = 0 <;> simp [h]
  rw [hadd] at hc
  have hlt := World.block_lt_of_cell? W _ hc
  refine ⟨b, off, rfl, ?_, ?_⟩
  · intro e
    have h2 : b < W.heap.size := hlt
    omega
  · rw [hc]
    have hg : zs.getD j 0 = zs[j]'(by omega) := by rw [List.getD_eq_getElem?_getD, List.getElem?_eq_getElem (by omega)]; rfl
    have hb := bounds_u8 (hwz (zs[j]'(by omega)) (List.getElem_mem ..))
    rw [hg]
    simp only [List.getElem_map, List.getElem_take]
    rw [toNat_of _ (by omega) (by omega)]
    congr 2
    omega
theorem open_code {H : Type} {enc : TypeId × Value → H} {W : World} {a0 : Option Addr} {len0 cap0 : Nat} {d0 : DataW H} {p0 : List MemPlace}
    (h0 : DataW.Trod enc Try.prog W 0 (fun _ => true) true 22 (.slice a0 len0 cap0) d0 p0) : ∃ L : List UInt8, L.length = len0 ∧ L.length ≤ 9223372036854775807 ∧ CodeAt W W.heap.size a0 L := by
  obtain ⟨fuel, hf⟩ := h0
  rcases open_ints Try.underlying22 Try.underlying5 (by kernel_rfl) hf with ⟨hcs, _⟩ | ⟨x, l, c, zs, hcs, _, hl, hm, hz, _, hcell, hwz⟩
  · simp [Value.cells] at hcs
    obtain ⟨rfl, rfl, rfl⟩ := hcs
    exact ⟨[], rfl, by simp, fun j hj => absurd hj (by simp)⟩
  · simp [Value.cells] at hcs
    obtain ⟨rfl, rfl, rfl⟩ := hcs
    have hz' : zs.length = cap0 := by simpa using hz
    obtain ⟨L, h1, h2⟩ := code_of (len := len0) (by omega) hcell hwz
    unfold maxLen at hm
    exact ⟨L, h1, by omega, h2⟩
end Go.Proofs.Ytmjlpdmdpagggaa
