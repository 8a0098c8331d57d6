/- What spec.l3Word, l3Right and l3Keys answer; memory stays (l3Keys lays a row of its own). -/
import Derived.Test.YtmjlpdmdpagggaaProg
import Derived.Test.YtmjlpdmdpagggaaBits
import Derived.Test.YtmjlpdmdpagggaaSnum
import Derived.WalkKit
import Derived.WalkLawsBesides
import Derived.WalkSpells
import Derived.Below
import Derived.Laws.DeepNot64
namespace Go.Proofs.Ytmjlpdmdpagggaa
open Go.RowKit
open Num
set_option linter.unusedVariables false
theorem i64_mask (x : Nat) (h : x < 9223372036854775808) : bits .and .i64 (x : Int) 4294967295 = ((x % 4294967296 : Nat) : Int) := i64_low x 32 h (by omega)
theorem spec_word (x : Nat) (h : x < 9223372036854775808) (w : World) :
    Calls Try.prog 81 #[.int .i64 (x : Int)] w fun e w' => e = .returned (.int .i64 ((x % 4294967296 : Nat) : Int)) ∧ w' = w := by
  have HM : Hid (_ = _) := i64_mask x h
  go_enter Try.func81, Try.ntmps81
  go_wp2
  go_ret
  exact ⟨by rw [HM.out]; rfl, rfl⟩
theorem i64_notw (e : Nat) (h : e < 4294967296) : bits .and .i64 (-1 - (e : Int)) 4294967295 = ((4294967295 - e : Nat) : Int) := by
  show IntKind.i64.wrap ((BitVec.ofInt 64 (-1 - (e : Int)) &&& BitVec.ofInt 64 4294967295).toNat : Int) = _
  have h1 : (BitVec.ofInt 64 (-1 - (e : Int))).toNat = 2 ^ 64 - 1 - e := by
    rw [BitVec.toNat_ofInt]; omega
  have h2 : (BitVec.ofInt 64 4294967295).toNat = 2 ^ 32 - 1 := by decide
  rw [BitVec.toNat_and, h1, h2, Nat.and_two_pow_sub_one_eq_mod, show (2 ^ 64 - 1 - e) % 2 ^ 32 = 4294967295 - e from by omega]
  exact i64_small _ (by omega)
theorem spec_word_not (x : Nat) (h : x < 4294967296) (w : World) :
    Calls Try.prog 81 #[.int .i64 (-1 - (x : Int))] w fun e w' => e = .returned (.int .i64 ((4294967295 - x : Nat) : Int)) ∧ w' = w := by
  have HM : Hid (_ = _) := i64_notw x h
  go_enter Try.func81, Try.ntmps81
  go_wp2
  go_ret
  exact ⟨by rw [HM.out]; rfl, rfl⟩
theorem right_lt (x n : Nat) (h : x < 4294967296) (hn : 1 ≤ n) (hn' : n ≤ 31) : x * 2 ^ (32 - n) < 9223372036854775808 := by
  have h2 : 2 ^ (32 - n) ≤ 2 ^ 31 := Nat.pow_le_pow_right (by omega) (by omega)
  have h3 : x * 2 ^ (32 - n) ≤ x * 2 ^ 31 := Nat.mul_le_mul_left _ h2
  omega
theorem right_eq (x n : Nat) (h : x < 4294967296) (hn : 1 ≤ n) (hn' : n ≤ 31) :
    bits .or .i64 ((x : Int) / 2 ^ n) (wrap64 ((x : Int) * 2 ^ (32 - n))) = ((x / 2 ^ n ||| x * 2 ^ (32 - n) : Nat) : Int) ∧ (x / 2 ^ n ||| x * 2 ^ (32 - n)) < 9223372036854775808 := by
  have h1 := right_lt x n h hn hn'
  have h2 : x / 2 ^ n < 9223372036854775808 := Nat.lt_of_le_of_lt (Nat.div_le_self ..) (by omega)
  have e1 : (x : Int) / 2 ^ n = ((x / 2 ^ n : Nat) : Int) := by push_cast; rfl
  have e2 : (x : Int) * 2 ^ (32 - n) = ((x * 2 ^ (32 - n) : Nat) : Int) := by push_cast; rfl
  have e3 : wrap64 ((x * 2 ^ (32 - n) : Nat) : Int) = ((x * 2 ^ (32 - n) : Nat) : Int) := by unfold wrap64; omega
  refine ⟨?_, Nat.or_lt_two_pow (n := 63) (by omega) (by omega)⟩
  rw [e1, e2, e3]
  exact i64_or _ _ h2 h1
set_option maxHeartbeats 400000 in
theorem spec_right (x n : Nat) (h : x < 4294967296) (hn : 1 ≤ n) (hn' : n ≤ 31) (w : World) :
    Calls Try.prog 80 #[.int .i64 (x : Int), .int .u64 (n : Int)] w fun e w' => e = .returned (.int .i64 ((rr n x : Nat) : Int)) ∧ w' = w := by
  obtain ⟨he, hl⟩ := right_eq x n h hn hn'
  have HE : Hid (_ = _) := he
  have HL : Hid (_ < _) := hl
  clear he hl
  go_enter Try.func80, Try.ntmps80
  go_wp2_with fail
  rw [HE.out]
  refine (spec_word _ HL.out w).mono ?_
  rintro e w1 ⟨rfl, rfl⟩
  go_wp2
  go_ret
  exact ⟨rfl, rfl⟩
theorem spec_righti (x : Nat) (n : Int) (h : x < 4294967296) (hn : 1 ≤ n) (hn' : n ≤ 31) (w : World) :
    Calls Try.prog 80 #[.int .i64 (x : Int), .int .u64 n] w fun e w' => e = .returned (.int .i64 ((rr n.toNat x : Nat) : Int)) ∧ w' = w := by
  obtain ⟨m, rfl⟩ : ∃ m : Nat, n = (m : Int) := ⟨n.toNat, by omega⟩
  exact spec_right x m h (by omega) (by omega) w
theorem spec_wordn (x : Nat) (h : x < 4294967296) (w : World) :
    Calls Try.prog 81 #[.int .i64 (bits .xor .i64 (-1) (x : Int))] w fun e w' => e = .returned (.int .i64 ((4294967295 - x : Nat) : Int)) ∧ w' = w := by
  rw [i64_not x (by omega)]
  exact spec_word_not x h w
/-- A number as a cell of an int. -/
def iv (x : Nat) : Value := .int .i64 (x : Int)
set_option maxRecDepth 100000 in
theorem spec_keys (w : World) :
    Calls Try.prog 64 #[] w fun e w' => e = .returned (.slice (some ⟨w.heap.size, 0, none⟩) 64 64) ∧ w'.heap[w.heap.size]? = some (.cells (keys.map iv).toArray 3 (0, 0)) ∧ Below w.heap.size w w' := by
  go_enter Try.func64, Try.ntmps64
  go_wp2
  go_ret
  refine ⟨rfl, ?_, (Below.refl _ _).alloc (Nat.le_refl _) _⟩
  rw [heap_alloc_new]
  rfl
end Go.Proofs.Ytmjlpdmdpagggaa
