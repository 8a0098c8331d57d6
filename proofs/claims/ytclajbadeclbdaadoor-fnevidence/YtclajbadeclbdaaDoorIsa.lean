/- What bits.RotateLeft32 (at counts to the right), impl.shaTurned and impl.shaShifted answer; memory stays. Conditions: words below 2 to the 32, counts from 1 to 31. -/
import Derived.Test.YtclajbadeclbdaaDoorProg
import Derived.Test.YtclajbadeclbdaaDoorBits
import Derived.Test.YtclajbadeclbdaaDoorSnum
import Derived.WalkKit
import Derived.WalkLawsBesides
import Derived.WalkSpells
import Derived.Below
import Derived.Laws.DeepNot64
import Derived.Deep.QuietTactic
import Derived.BigQuiet
namespace Go.Proofs.YtclajbadeclbdaaDoor
open Go.RowKit
open Num
set_option linter.unusedVariables false
theorem rot_and (m : Nat) (h1 : 1 ≤ m) (h2 : m ≤ 31) : bits .and .u64 ((18446744073709551616 : Int) - (m : Int)) 31 = ((32 - m : Nat) : Int) := by
  rcases (show m = 1 ∨ m = 2 ∨ m = 3 ∨ m = 4 ∨ m = 5 ∨ m = 6 ∨ m = 7 ∨ m = 8 ∨ m = 9 ∨ m = 10 ∨ m = 11 ∨ m = 12 ∨ m = 13 ∨ m = 14 ∨ m = 15 ∨ m = 16 ∨ m = 17 ∨ m = 18 ∨ m = 19 ∨ m = 20 ∨ m = 21 ∨ m = 22 ∨ m = 23 ∨ m = 24 ∨ m = 25 ∨ m = 26 ∨ m = 27 ∨ m = 28 ∨ m = 29 ∨ m = 30 ∨ m = 31 from by omega) with rfl | rfl | rfl | rfl | rfl | rfl | rfl | rfl | rfl | rfl | rfl | rfl | rfl | rfl | rfl | rfl | rfl | rfl | rfl | rfl | rfl | rfl | rfl | rfl | rfl | rfl | rfl | rfl | rfl | rfl | rfl <;> rfl
theorem rot_or (x m : Nat) (hx : x < 4294967296) : bits .or .u32 (((x * 2 ^ (32 - m) % 4294967296 : Nat) : Int)) ((x / 2 ^ m : Nat) : Int) = ((rr m x : Nat) : Int) := by
  have h2 : x / 2 ^ m < 4294967296 := Nat.lt_of_le_of_lt (Nat.div_le_self ..) hx
  rw [u32_or_nat _ _ (Nat.mod_lt _ (by omega)) h2]
  congr 1
  unfold rr
  have := @Nat.or_mod_two_pow (x / 2 ^ m) (x * 2 ^ (32 - m)) 32
  rw [show (4294967296 : Nat) = 2 ^ 32 from rfl, this, Nat.or_comm, Nat.mod_eq_of_lt (a := x / 2 ^ m) (by omega)]
theorem rot_cast (x k : Nat) : ((x * 2 ^ k % 4294967296 : Nat) : Int) = (x : Int) * 2 ^ k % 4294967296 := by
  rw [Int.natCast_emod, Int.natCast_mul, Int.natCast_pow]; rfl
set_option maxHeartbeats 400000 in
theorem impl_rot (x m : Nat) (a : Int) (ha : a = -(m : Int)) (hx : x < 4294967296) (h1 : 1 ≤ m) (h2 : m ≤ 31) (w : World) :
    Calls Tryd.prog 116 #[.int .u32 (x : Int), .int .i64 a] w fun e w' => e = .returned (.int .u32 ((rr m x : Nat) : Int)) ∧ w' = w := by
  have e1 : IntKind.u64.wrap a = (18446744073709551616 : Int) - (m : Int) := by
    subst ha
    simp [IntKind.wrap, IntKind.bits, IntKind.signed]; omega
  have e2 := rot_and m h1 h2
  have HO : Hid (_ = _) := rot_or x m hx
  clear ha
  obtain ⟨k, hk⟩ : ∃ k, k = 32 - m := ⟨_, rfl⟩
  rw [← hk] at e2 HO
  have HK : Hid (m + k = 32) := by show _ = _; omega
  have hk1 : 1 ≤ k := by omega
  have hk2 : k ≤ 31 := by omega
  clear hk
  generalize (18446744073709551616 : Int) - (m : Int) = y at e1 e2
  go_enter Tryd.func116, Tryd.ntmps116
  go_wp2
  go_ret
  exact ⟨by rw [← HO.out, rot_cast, show m = 32 - k from by have := HK.out; omega]; rfl, rfl⟩
theorem rot_neg (m : Nat) (hm : m ≤ 31) : IntKind.i64.wrap (-(m : Int)) = -(m : Int) := by
  rw [IntKind.wrap_i64]; omega
set_option maxHeartbeats 400000 in
theorem impl_turned (x a b c : Nat) (hx : x < 4294967296) (ha1 : 1 ≤ a) (ha2 : a ≤ 31) (hb1 : 1 ≤ b) (hb2 : b ≤ 31) (hc1 : 1 ≤ c) (hc2 : c ≤ 31) (w : World) :
    Calls Tryd.prog 114 #[.int .u32 (x : Int), .int .i64 (a : Int), .int .i64 (b : Int), .int .i64 (c : Int)] w fun e w' => e = .returned (.int .u32 ((rr a x ^^^ rr b x ^^^ rr c x : Nat) : Int)) ∧ w' = w := by
  have HX : Hid (_ = _) := u32_xor_nat _ _ (rr_lt a x) (rr_lt b x)
  have HY : Hid (_ = _) := u32_xor_nat _ _ (xor32 (rr_lt a x) (rr_lt b x)) (rr_lt c x)
  go_enter Tryd.func114, Tryd.ntmps114
  go_wp2_with fail
  refine (impl_rot x a _ rfl hx ha1 ha2 w).mono ?_
  rintro e w1 ⟨rfl, rfl⟩
  go_wp2_with fail
  refine (impl_rot x b _ rfl hx hb1 hb2 _).mono ?_
  rintro e w1 ⟨rfl, rfl⟩
  go_wp2_with fail
  rw [HX.out]
  refine (impl_rot x c _ rfl hx hc1 hc2 _).mono ?_
  rintro e w1 ⟨rfl, rfl⟩
  go_wp2
  go_ret
  exact ⟨by rw [HY.out]; rfl, rfl⟩
theorem shift_cast (x c : Nat) : ((x / 2 ^ c : Nat) : Int) = (x : Int) / 2 ^ c := by
  rw [Int.natCast_ediv, Int.natCast_pow]; rfl
theorem impl_roti (x : Nat) (n : Int) (hx : x < 4294967296) (h1 : n ≤ -1) (h2 : -31 ≤ n) (w : World) :
    Calls Tryd.prog 116 #[.int .u32 (x : Int), .int .i64 n] w fun e w' => e = .returned (.int .u32 ((rr (-n).toNat x : Nat) : Int)) ∧ w' = w :=
  impl_rot x (-n).toNat n (by omega) hx (by omega) (by omega) w
set_option maxHeartbeats 400000 in
theorem impl_shifted (x a b c : Nat) (hx : x < 4294967296) (ha1 : 1 ≤ a) (ha2 : a ≤ 31) (hb1 : 1 ≤ b) (hb2 : b ≤ 31) (hc1 : 1 ≤ c) (hc2 : c ≤ 31) (w : World) :
    Calls Tryd.prog 115 #[.int .u32 (x : Int), .int .i64 (a : Int), .int .i64 (b : Int), .int .i64 (c : Int)] w fun e w' => e = .returned (.int .u32 ((rr a x ^^^ rr b x ^^^ x / 2 ^ c : Nat) : Int)) ∧ ∃ m, w' = w.drewN m := by
  have HX : Hid (_ = _) := u32_xor_nat _ _ (rr_lt a x) (rr_lt b x)
  have HY : Hid (_ = _) := u32_xor_nat _ _ (xor32 (rr_lt a x) (rr_lt b x)) (show x / 2 ^ c < 4294967296 from Nat.lt_of_le_of_lt (Nat.div_le_self ..) hx)
  go_enter Tryd.func115, Tryd.ntmps115
  go_wp2
  go_quiet ((go_at_call 116; refine Calls.quiet_of_same (impl_roti x _ hx ?_ ?_ _) <;> omega))
  go_wp2
  go_ret
  exact ⟨by rw [HX.out, ← shift_cast, HY.out]; rfl, _, rfl⟩
end Go.Proofs.YtclajbadeclbdaaDoor
