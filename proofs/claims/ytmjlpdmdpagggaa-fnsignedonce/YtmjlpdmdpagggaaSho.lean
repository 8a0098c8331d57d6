/- What impl.Short and spec.Short answer: the first eight bytes of a text's hash; old memory stays. Conditions: texts of at most 2 to the 40 bytes; the table. -/
import Derived.Test.YtmjlpdmdpagggaaPb
import Derived.Test.YtmjlpdmdpagggaaSha3
namespace Go.Proofs.Ytmjlpdmdpagggaa
open Go.RowKit
open Num
set_option linter.unusedVariables false
/-- The first eight bytes of a text's hash. -/
def shortB (x : ByteArray) : ByteArray := ⟨((shal x.data.toList).take 8).toArray⟩
theorem size_shortB (x : ByteArray) : (shortB x).size = 8 := by
  show ((shal x.data.toList).take 8).toArray.size = 8
  rw [List.size_toArray, List.length_take, length_shal]; rfl
theorem spec_short (s : ByteArray) (w : World) (hs : s.size ≤ 1099511627776) :
    Calls Try.prog 13 #[.string s] w fun e w' => e = .returned (.string (shortB s)) ∧ Below w.heap.size w w' := by
  obtain ⟨S, hS⟩ : ∃ S : ByteArray, S = ⟨(shal s.data.toList).toArray⟩ := ⟨_, rfl⟩
  have h32 : S.size = 32 := by rw [hS]; show (shal s.data.toList).toArray.size = 32; rw [List.size_toArray, length_shal]
  have h8 : (8 : Int) ≤ (S.size : Int) := by omega
  have HX : Hid (S.extract 0 8 = shortB s) := by
    show _ = _
    rw [hS]
    apply ByteArray.ext
    apply Array.ext'
    simp [ByteArray.data_extract, List.extract, shortB]
  have HS : Hid (S = ⟨(shal s.data.toList).toArray⟩) := hS
  have H32 : Hid (S.size = 32) := h32
  clear hS h32
  go_enter Try.func13, Try.ntmps13
  go_wp2_with fail
  refine (spec_sha s w hs).mono ?_
  rintro e w1 ⟨rfl, hb⟩
  rw [← HS.out]
  go_wp2
  go_ret
  exact ⟨by rw [← HX.out]; rfl, hb⟩
end Go.Proofs.Ytmjlpdmdpagggaa
