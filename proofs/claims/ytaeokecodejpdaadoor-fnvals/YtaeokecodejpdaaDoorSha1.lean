/- What spec.l3Word, l3Right and l3Keys answer; memory stays (l3Keys lays a row of its own). -/
import Derived.Test.YtaeokecodejpdaaDoorProg
import Derived.Test.YtaeokecodejpdaaDoorG1
import Derived.WalkKit
import Derived.WalkLawsBesides
import Derived.WalkSpells
import Derived.Below
import Derived.Laws.DeepNot64
namespace Go.Proofs.YtaeokecodejpdaaDoor
open Go.RowKit
open Num
set_option linter.unusedVariables false
theorem i64_mask (x : Nat) (h : x < 9223372036854775808) : bits .and .i64 (x : Int) 4294967295 = ((x % 4294967296 : Nat) : Int) := i64_low x 32 h (by omega)
theorem i64_notw (e : Nat) (h : e < 4294967296) : bits .and .i64 (-1 - (e : Int)) 4294967295 = ((4294967295 - e : Nat) : Int) := by
  show IntKind.i64.wrap ((BitVec.ofInt 64 (-1 - (e : Int)) &&& BitVec.ofInt 64 4294967295).toNat : Int) = _
  have h1 : (BitVec.ofInt 64 (-1 - (e : Int))).toNat = 2 ^ 64 - 1 - e := by
    rw [BitVec.toNat_ofInt]; omega
  have h2 : (BitVec.ofInt 64 4294967295).toNat = 2 ^ 32 - 1 := by decide
  rw [BitVec.toNat_and, h1, h2, Nat.and_two_pow_sub_one_eq_mod, show (2 ^ 64 - 1 - e) % 2 ^ 32 = 4294967295 - e from by omega]
  exact i64_small _ (by omega)
theorem right_lt (x n : Nat) (h : x < 4294967296) (hn : 1 ≤ n) (hn' : n ≤ 31) : x * 2 ^ (32 - n) < 9223372036854775808 := by
  have h2 : 2 ^ (32 - n) ≤ 2 ^ 31 := Nat.pow_le_pow_right (by omega) (by omega)
  have h3 : x * 2 ^ (32 - n) ≤ x * 2 ^ 31 := Nat.mul_le_mul_left _ h2
  omega
theorem right_eq (x n : Nat) (h : x < 4294967296) (hn : 1 ≤ n) (hn' : n ≤ 31) :
    bits .or .i64 ((x : Int) / 2 ^ n) (wrap64 ((x : Int) * 2 ^ (32 - n))) = ((x / 2 ^ n ||| x * 2 ^ (32 - n) : Nat) : Int) ∧ (x / 2 ^ n ||| x * 2 ^ (32 - n)) < 9223372036854775808 := by
  have h1 := right_lt x n h hn hn'
  have h2 : x / 2 ^ n < 9223372036854775808 := Nat.lt_of_le_of_lt (Nat.div_le_self ..) (by omega)
  have e1 : (x : Int) / 2 ^ n = ((x / 2 ^ n : Nat) : Int) := by push_cast; rfl
  have e2 : (x : Int) * 2 ^ (32 - n) = ((x * 2 ^ (32 - n) : Nat) : Int) := by push_cast; rfl
  have e3 : wrap64 ((x * 2 ^ (32 - n) : Nat) : Int) = ((x * 2 ^ (32 - n) : Nat) : Int) := by unfold wrap64; omega
  refine ⟨?_, Nat.or_lt_two_pow (n := 63) (by omega) (by omega)⟩
  rw [e1, e2, e3]
  exact i64_or _ _ h2 h1
/-- A number as a cell of an int. -/
def iv (x : Nat) : Value := .int .i64 (x : Int)
end Go.Proofs.YtaeokecodejpdaaDoor
