/- What spec.l1Spoil answers, as a function of the code's bytes, the cursor's state and the text. -/
import Derived.Test.YtmjlpdmdpagggaaTx
import Derived.Deep.RegionWith
namespace Go.Proofs.Ytmjlpdmdpagggaa
open Go.RowKit
open Num
set_option linter.unusedVariables false
theorem u8_byteV (L : List UInt8) (s : St) : byteV L s % 256 = byteV L s := by
  have := byteV_bound L s
  omega
theorem u8_mod (z : Int) : IntKind.u8.wrap z = z % 256 := by
  simp [IntKind.wrap, IntKind.signed, IntKind.bits]
theorem u8_range (z : Int) : 0 ≤ z % 256 ∧ z % 256 < 256 := by omega
theorem byte_i64' (c : UInt8) : IntKind.i64.wrap (c.toNat : Int) = (c.toNat : Int) := by
  have := c.toNat_lt
  rw [IntKind.wrap_i64]; omega
def xb (c y : Int) : Int := bits BinOp.xor IntKind.i64 c (1 + y) % 256
/-- What l1Spoil tells of a text that is not empty, and the state behind it. -/
def spoilP (L : List UInt8) (s : St) (t : ByteArray) : ByteArray × St :=
  if belowV L (belowN L s t.size) 4 = 0 then (t.extract 0 (belowV L s t.size).toNat ++ t.extract ((belowV L s t.size).toNat + 1) t.size, belowN L (belowN L s t.size) 4)
  else if belowV L (belowN L s t.size) 4 = 1 then (t.extract 0 (belowV L s t.size).toNat ++ ⟨#[UInt8.ofNat (byteV L (belowN L (belowN L s t.size) 4)).toNat]⟩ ++ t.extract (belowV L s t.size).toNat t.size, byteN L (belowN L (belowN L s t.size) 4))
  else if belowV L (belowN L s t.size) 4 = 2 then (t.extract 0 (belowV L s t.size).toNat, belowN L (belowN L s t.size) 4)
  else (t.extract 0 (belowV L s t.size).toNat ++ ⟨#[UInt8.ofNat (xb ((t.data.toList.getD (belowV L s t.size).toNat 0).toNat : Int) (belowV L (belowN L (belowN L s t.size) 4) 255)).toNat]⟩ ++ t.extract ((belowV L s t.size).toNat + 1) t.size, belowN L (belowN L (belowN L s t.size) 4) 255)
theorem getD_byte (t : ByteArray) (k : Nat) (h : k < t.size) : t.data.toList.getD k 0 = t[k] := by
  have hl : k < t.data.toList.length := by rw [Array.length_toList]; exact h
  rw [List.getD_eq_getElem?_getD, List.getElem?_eq_getElem hl]; rfl
section
attribute [local go_sem] u8_byteV byte_i64' u8_mod
end
end Go.Proofs.Ytmjlpdmdpagggaa
