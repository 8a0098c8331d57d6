/- What spec.l1New answers: a cursor over the code, its mix begun with the code's bytes. -/
import Derived.Test.YtmjlpdmdpagggaaCur3
import Derived.Outline
namespace Go.Proofs.Ytmjlpdmdpagggaa
open Go.RowKit
open Num
set_option linter.unusedVariables false
def newStep (h : Int) (c : UInt8) : Int := (h * 131 + (c.toNat : Int) + 7) % 1073741824
def newF (L : List UInt8) : Int := (L.take 4000).foldl newStep (10101 + (L.length : Int))
theorem new_snoc (L : List UInt8) (h : Int) (j : Nat) (hj : j < L.length) : (L.take (j + 1)).foldl newStep h = newStep ((L.take j).foldl newStep h) L[j] := by
  rw [List.take_succ_eq_append_getElem hj, List.foldl_append]; rfl
theorem new_bound (L : List UInt8) (h : Int) (h0 : 0 ≤ h) (h1 : h ≤ 1073741824) : 0 ≤ L.foldl newStep h ∧ L.foldl newStep h ≤ 1073741824 := by
  induction L generalizing h with
  | nil => exact ⟨h0, h1⟩
  | cons c L ih => exact ih _ (by unfold newStep; omega) (by unfold newStep; omega)
section
attribute [local go_sem] i64_and30
set_option maxHeartbeats 800000 in
set_option maxRecDepth 100000 in
theorem new_any (a : Option Addr) (L : List UInt8) (cap : Nat) (w : World) (hl : CodeAt w w.heap.size a L) (hlen : L.length ≤ 1048576) :
    Calls Try.prog 45 #[.slice a L.length cap] w fun e w' => e = .returned (.pointer (some ⟨w.heap.size, 0, none⟩)) ∧ w' = w.alloc (.cells #[.slice a L.length cap, .int .i64 0, .int .i64 (newF L)] 98) := by
  have HL : Hid (CodeAt w w.heap.size a L) := hl
  clear hl
  go_enter Try.func45, Try.ntmps45
  go_wp2
  go_loop [3, 4] (fun h i => ∃ (j : Nat) (x : Int), j ≤ L.length ∧ j ≤ 4000 ∧ i = .int .i64 j ∧ h = .int .i64 x ∧ 0 ≤ x ∧ x ≤ 1073741824 ∧ Hid ((L.take j).foldl newStep (10101 + (L.length : Int)) = x)) (fun _ i => 4000 - (intOf i).toNat)
  case atStart => exact ⟨0, _, by omega, by omega, rfl, rfl, by omega, by omega, rfl⟩
  case round =>
    obtain ⟨j, x, hj, hj4, rfl, rfl, hx0, hx1, HX⟩ := hrel
    by_cases hin : j < L.length ∧ j < 4000
    · obtain ⟨h1, h2⟩ := hin
      obtain ⟨b, off, rfl, hbg, hcell⟩ := HL.out j h1
      have hi1 : (j : Int) < (L.length : Int) := by omega
      have HS : Hid (_ = _) := new_snoc L (10101 + (L.length : Int)) j h1
      have HB : Hid (_ ∧ _) := new_bound (L.take (j + 1)) (10101 + (L.length : Int)) (by omega) (by omega)
      have hc : (L[j].toNat : Int) < 256 := by have := L[j].toNat_lt; omega
      obtain ⟨c, hcc⟩ : ∃ c : Int, (L[j].toNat : Int) = c := ⟨_, rfl⟩
      rw [hcc] at hcell hc
      have HCC : Hid (_ = _) := hcc
      have hc0 : 0 ≤ c := by omega
      clear hcc
      go_wp2
      go_round
      case rel =>
        refine ⟨j + 1, _, by omega, by omega, by go_num, rfl, by omega, by omega, ?_⟩
        show _ = _
        rw [HS.out, HX.out]; unfold newStep; rw [HCC.out]
      case measure => simp [intOf]; omega
    · have HF : Hid (newF L = x) := by
        show _ = _
        rw [← HX.out]
        unfold newF
        rcases (show j = 4000 ∨ (j = L.length ∧ L.length ≤ 4000) from by omega) with h | ⟨h, h'⟩
        · rw [h]
        · rw [h, List.take_of_length_le (Nat.le_refl _), List.take_of_length_le h']
      by_cases h1 : j < L.length
      · have h2 : ¬ (j : Int) < 4000 := by omega
        have h1' : (j : Int) < (L.length : Int) := by omega
        go_wp2
        go_ret
        exact ⟨rfl, by rw [HF.out]⟩
      · have h1' : ¬ (j : Int) < (L.length : Int) := by omega
        go_wp2
        go_ret
        exact ⟨rfl, by rw [HF.out]⟩
end
end Go.Proofs.Ytmjlpdmdpagggaa
