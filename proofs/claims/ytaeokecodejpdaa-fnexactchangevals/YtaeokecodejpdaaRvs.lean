/- What spec.ReadVar answers: the first beginning that is a number of seven bits to a byte, and its length; old memory stays. -/
import Derived.Test.YtaeokecodejpdaaVar
import Derived.Test.YtaeokecodejpdaaRnum
import Derived.Test.YtaeokecodejpdaaRvi
import Derived.Deep.RegionWith
namespace Go.Proofs.Ytaeokecodejpdaa
open Go.RowKit
open Num
set_option linter.unusedVariables false
theorem drop_step (s : ByteArray) (j k : Nat) (hj : j < k) (hk : k ≤ s.size) : (s.data.toList.take k).drop j = s[j] :: (s.data.toList.take k).drop (j + 1) := by
  have hl := len_toList s
  rw [List.drop_eq_getElem_cons (by simp; omega), List.getElem_take]; rfl
theorem ext_toList (s : ByteArray) (k : Nat) (hk : k ≤ s.size) : (s.extract 0 k).toList = s.data.toList.take k := by
  rw [Go.ByteArray.toList_eq]; simp
theorem eq_good (s : ByteArray) (k : Nat) (hk : k ≤ s.size) (h7 : k ≤ 7) : ((var (val (s.data.toList.take k))).toList == (s.extract 0 k).toList) = good (s.data.toList.take k) := by
  have hlen : (s.data.toList.take k).length ≤ 7 := by have := List.length_take_le k s.data.toList; omega
  have hv := val_le7 _ hlen
  rw [ext_toList s k hk, var_yes _ hv.1 hv.2, Go.ByteArray.toList_mk, Bool.eq_iff_iff, good_iff _ hlen, beq_iff_eq]
end Go.Proofs.Ytaeokecodejpdaa
