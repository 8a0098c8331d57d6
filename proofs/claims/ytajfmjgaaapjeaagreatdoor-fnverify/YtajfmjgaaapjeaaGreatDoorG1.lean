/- Bits of an int that is not negative, as the walk spells them; no Go text. Conditions: below 2 to the 63. Plain definitions of SHA-256 on numbers below 2 to the 32, of no Go text, and their bounds. No conditions. What bits.RotateLeft32 (at counts to the right), impl.shaTurned and impl.shaShifted answer; memory stays. Conditions: words below 2 to the 32, counts from 1 to 31. What spec.l3Word, l3Right and l3Keys answer; memory stays (l3Keys lays a row of its own). -/
import Derived.Laws.BitsAllLaws
import Derived.Test.YtajfmjgaaapjeaaGreatDoorProg
import Derived.WalkKit
import Derived.WalkLawsBesides
import Derived.WalkSpells
import Derived.Below
import Derived.Laws.DeepNot64
import Derived.Deep.QuietTactic
import Derived.BigQuiet
namespace Go.Proofs.YtajfmjgaaapjeaaGreatDoor
open Go
theorem i64_small (x : Nat) (h : x < 9223372036854775808) : IntKind.i64.wrap (x : Int) = (x : Int) := by
  simp [IntKind.wrap, IntKind.bits, IntKind.signed]; omega
theorem i64_xor (a b : Nat) (ha : a < 9223372036854775808) (hb : b < 9223372036854775808) : bits .xor .i64 (a : Int) (b : Int) = ((a ^^^ b : Nat) : Int) := by
  have hx : a ^^^ b < 2 ^ 63 := Nat.xor_lt_two_pow (by omega) (by omega)
  show IntKind.i64.wrap ((BitVec.ofInt 64 (a : Int) ^^^ BitVec.ofInt 64 (b : Int)).toNat : Int) = _
  rw [BitVec.toNat_xor, ofInt_u64 a (by omega), ofInt_u64 b (by omega)]
  exact i64_small _ (by omega)
theorem i64_and (a b : Nat) (ha : a < 9223372036854775808) (hb : b < 9223372036854775808) : bits .and .i64 (a : Int) (b : Int) = ((a &&& b : Nat) : Int) := by
  have hx : a &&& b < 2 ^ 63 := Nat.and_lt_two_pow _ (by omega)
  show IntKind.i64.wrap ((BitVec.ofInt 64 (a : Int) &&& BitVec.ofInt 64 (b : Int)).toNat : Int) = _
  rw [BitVec.toNat_and, ofInt_u64 a (by omega), ofInt_u64 b (by omega)]
  exact i64_small _ (by omega)
theorem i64_or (a b : Nat) (ha : a < 9223372036854775808) (hb : b < 9223372036854775808) : bits .or .i64 (a : Int) (b : Int) = ((a ||| b : Nat) : Int) := by
  have hx : a ||| b < 2 ^ 63 := Nat.or_lt_two_pow (by omega) (by omega)
  show IntKind.i64.wrap ((BitVec.ofInt 64 (a : Int) ||| BitVec.ofInt 64 (b : Int)).toNat : Int) = _
  rw [BitVec.toNat_or, ofInt_u64 a (by omega), ofInt_u64 b (by omega)]
  exact i64_small _ (by omega)
/-- The lowest n bits by a mask. -/
theorem i64_low (a n : Nat) (ha : a < 9223372036854775808) (hn : n ≤ 32) : bits .and .i64 (a : Int) (((2 ^ n - 1 : Nat)) : Int) = ((a % 2 ^ n : Nat) : Int) := by
  have : 2 ^ n ≤ 2 ^ 32 := Nat.pow_le_pow_right (by omega) hn
  rw [i64_and a _ ha (by omega), Nat.and_two_pow_sub_one_eq_mod]
end Go.Proofs.YtajfmjgaaapjeaaGreatDoor
namespace Go.Proofs.YtajfmjgaaapjeaaGreatDoor.Num
set_option linter.unusedVariables false
/-- Turned to the right by n of 32 bits. -/
def rr (n x : Nat) : Nat := (x / 2 ^ n ||| x * 2 ^ (32 - n)) % 4294967296
def sg0 (x : Nat) : Nat := rr 7 x ^^^ rr 18 x ^^^ x / 8
def sg1 (x : Nat) : Nat := rr 17 x ^^^ rr 19 x ^^^ x / 1024
def sm1 (e : Nat) : Nat := rr 6 e ^^^ rr 11 e ^^^ rr 25 e
def sm0 (a : Nat) : Nat := rr 2 a ^^^ rr 13 a ^^^ rr 22 a
def chs (e f g : Nat) : Nat := (e &&& f) ^^^ ((4294967295 - e) &&& g)
def maj (a b c : Nat) : Nat := (a &&& b) ^^^ (a &&& c) ^^^ (b &&& c)
/-- One word more of a schedule. -/
def wnext (l : List Nat) : Nat := (l.getD (l.length - 16) 0 + sg0 (l.getD (l.length - 15) 0) + l.getD (l.length - 7) 0 + sg1 (l.getD (l.length - 2) 0)) % 4294967296
def sched (m : List Nat) : Nat → List Nat
  | 0 => m
  | k + 1 => sched m k ++ [wnext (sched m k)]
/-- The eight words of a round. -/
structure V8 where
  a : Nat
  b : Nat
  c : Nat
  d : Nat
  e : Nat
  f : Nat
  g : Nat
  h : Nat
def V8.l (v : V8) : List Nat := [v.a, v.b, v.c, v.d, v.e, v.f, v.g, v.h]
def tt (v : V8) (k w : Nat) : Nat := v.h + sm1 v.e + chs v.e v.f v.g + k + w
def uu (v : V8) : Nat := sm0 v.a + maj v.a v.b v.c
def rnd (v : V8) (k w : Nat) : V8 := ⟨(tt v k w + uu v) % 4294967296, v.a, v.b, v.c, (v.d + tt v k w) % 4294967296, v.e, v.f, v.g⟩
def rnds (v : V8) : List (Nat × Nat) → V8
  | [] => v
  | p :: l => rnds (rnd v p.1 p.2) l
def V8.lt (v : V8) : Prop := v.a < 4294967296 ∧ v.b < 4294967296 ∧ v.c < 4294967296 ∧ v.d < 4294967296 ∧ v.e < 4294967296 ∧ v.f < 4294967296 ∧ v.g < 4294967296 ∧ v.h < 4294967296
theorem rr_lt (n x : Nat) : rr n x < 4294967296 := Nat.mod_lt _ (by omega)
theorem xor32 {a b : Nat} (ha : a < 4294967296) (hb : b < 4294967296) : a ^^^ b < 4294967296 := Nat.xor_lt_two_pow (n := 32) (by omega) (by omega)
theorem and32 {a b : Nat} (hb : b < 4294967296) : a &&& b < 4294967296 := Nat.and_lt_two_pow (n := 32) _ (by omega)
theorem sg0_lt {x : Nat} (h : x < 4294967296) : sg0 x < 4294967296 := xor32 (xor32 (rr_lt ..) (rr_lt ..)) (by omega)
theorem sg1_lt {x : Nat} (h : x < 4294967296) : sg1 x < 4294967296 := xor32 (xor32 (rr_lt ..) (rr_lt ..)) (by omega)
theorem sm0_lt (x : Nat) : sm0 x < 4294967296 := xor32 (xor32 (rr_lt ..) (rr_lt ..)) (rr_lt ..)
theorem sm1_lt (x : Nat) : sm1 x < 4294967296 := xor32 (xor32 (rr_lt ..) (rr_lt ..)) (rr_lt ..)
theorem chs_lt {e f g : Nat} (hf : f < 4294967296) (hg : g < 4294967296) : chs e f g < 4294967296 := xor32 (and32 hf) (and32 hg)
theorem maj_lt {a b c : Nat} (hb : b < 4294967296) (hc : c < 4294967296) : maj a b c < 4294967296 := xor32 (xor32 (and32 hb) (and32 hc)) (and32 hc)
theorem length_sched (m : List Nat) : ∀ k, (sched m k).length = m.length + k
  | 0 => rfl
  | k + 1 => by simp [sched, length_sched m k]; omega
theorem wnext_lt (l : List Nat) : wnext l < 4294967296 := Nat.mod_lt _ (by omega)
theorem sched_lt (m : List Nat) (h : ∀ x ∈ m, x < 4294967296) : ∀ k, ∀ x ∈ sched m k, x < 4294967296
  | 0 => h
  | k + 1 => by
    intro x hx
    rcases List.mem_append.1 hx with hx | hx
    · exact sched_lt m h k x hx
    · rw [List.mem_singleton.1 hx]; exact wnext_lt _
theorem rnd_lt {v : V8} (h : v.lt) (k w : Nat) : (rnd v k w).lt := by
  obtain ⟨h1, h2, h3, h4, h5, h6, h7, h8⟩ := h
  exact ⟨Nat.mod_lt _ (by omega), h1, h2, h3, Nat.mod_lt _ (by omega), h5, h6, h7⟩
theorem rnds_snoc (p : Nat × Nat) : ∀ (l : List (Nat × Nat)) (v : V8), rnds v (l ++ [p]) = rnd (rnds v l) p.1 p.2
  | [], v => rfl
  | q :: l, v => rnds_snoc p l _
/-- The words of the first n fours of bytes. -/
def four (l : List UInt8) (i : Nat) : Nat := (l.getD (4 * i) 0).toNat * 16777216 + (l.getD (4 * i + 1) 0).toNat * 65536 + (l.getD (4 * i + 2) 0).toNat * 256 + (l.getD (4 * i + 3) 0).toNat
def words (l : List UInt8) (n : Nat) : List Nat := (List.range n).map (four l)
/-- The constants. -/
def keys : List Nat := [1116352408, 1899447441, 3049323471, 3921009573, 961987163, 1508970993, 2453635748, 2870763221, 3624381080, 310598401, 607225278, 1426881987, 1925078388, 2162078206, 2614888103, 3248222580, 3835390401, 4022224774, 264347078, 604807628, 770255983, 1249150122, 1555081692, 1996064986, 2554220882, 2821834349, 2952996808, 3210313671, 3336571891, 3584528711, 113926993, 338241895, 666307205, 773529912, 1294757372, 1396182291, 1695183700, 1986661051, 2177026350, 2456956037, 2730485921, 2820302411, 3259730800, 3345764771, 3516065817, 3600352804, 4094571909, 275423344, 430227734, 506948616, 659060556, 883997877, 958139571, 1322822218, 1537002063, 1747873779, 1955562222, 2024104815, 2227730452, 2361852424, 2428436474, 2756734187, 3204031479, 3329325298]
def h0 : V8 := ⟨1779033703, 3144134277, 1013904242, 2773480762, 1359893119, 2600822924, 528734635, 1541459225⟩
/-- A block. -/
def blk (v : V8) (s : List UInt8) : V8 :=
  let r := rnds v (keys.zip (sched (words s 16) 48))
  ⟨(v.a + r.a) % 4294967296, (v.b + r.b) % 4294967296, (v.c + r.c) % 4294967296, (v.d + r.d) % 4294967296, (v.e + r.e) % 4294967296, (v.f + r.f) % 4294967296, (v.g + r.g) % 4294967296, (v.h + r.h) % 4294967296⟩
theorem length_keys : keys.length = 64 := rfl
theorem keys_lt : ∀ x ∈ keys, x < 4294967296 := by decide
theorem four_lt (l : List UInt8) (i : Nat) : four l i < 4294967296 := by
  have h1 := (l.getD (4 * i) 0).toNat_lt
  have h2 := (l.getD (4 * i + 1) 0).toNat_lt
  have h3 := (l.getD (4 * i + 2) 0).toNat_lt
  have h4 := (l.getD (4 * i + 3) 0).toNat_lt
  unfold four; omega
end Go.Proofs.YtajfmjgaaapjeaaGreatDoor.Num
namespace Go.Proofs.YtajfmjgaaapjeaaGreatDoor
open Go.RowKit
open Num
set_option linter.unusedVariables false
theorem rot_and (m : Nat) (h1 : 1 ≤ m) (h2 : m ≤ 31) : bits .and .u64 ((18446744073709551616 : Int) - (m : Int)) 31 = ((32 - m : Nat) : Int) := by
  rcases (show m = 1 ∨ m = 2 ∨ m = 3 ∨ m = 4 ∨ m = 5 ∨ m = 6 ∨ m = 7 ∨ m = 8 ∨ m = 9 ∨ m = 10 ∨ m = 11 ∨ m = 12 ∨ m = 13 ∨ m = 14 ∨ m = 15 ∨ m = 16 ∨ m = 17 ∨ m = 18 ∨ m = 19 ∨ m = 20 ∨ m = 21 ∨ m = 22 ∨ m = 23 ∨ m = 24 ∨ m = 25 ∨ m = 26 ∨ m = 27 ∨ m = 28 ∨ m = 29 ∨ m = 30 ∨ m = 31 from by omega) with rfl | rfl | rfl | rfl | rfl | rfl | rfl | rfl | rfl | rfl | rfl | rfl | rfl | rfl | rfl | rfl | rfl | rfl | rfl | rfl | rfl | rfl | rfl | rfl | rfl | rfl | rfl | rfl | rfl | rfl | rfl <;> rfl
theorem rot_or (x m : Nat) (hx : x < 4294967296) : bits .or .u32 (((x * 2 ^ (32 - m) % 4294967296 : Nat) : Int)) ((x / 2 ^ m : Nat) : Int) = ((rr m x : Nat) : Int) := by
  have h2 : x / 2 ^ m < 4294967296 := Nat.lt_of_le_of_lt (Nat.div_le_self ..) hx
  rw [u32_or_nat _ _ (Nat.mod_lt _ (by omega)) h2]
  congr 1
  unfold rr
  have := @Nat.or_mod_two_pow (x / 2 ^ m) (x * 2 ^ (32 - m)) 32
  rw [show (4294967296 : Nat) = 2 ^ 32 from rfl, this, Nat.or_comm, Nat.mod_eq_of_lt (a := x / 2 ^ m) (by omega)]
theorem rot_cast (x k : Nat) : ((x * 2 ^ k % 4294967296 : Nat) : Int) = (x : Int) * 2 ^ k % 4294967296 := by
  rw [Int.natCast_emod, Int.natCast_mul, Int.natCast_pow]; rfl
set_option maxHeartbeats 400000 in
theorem impl_rot (x m : Nat) (a : Int) (ha : a = -(m : Int)) (hx : x < 4294967296) (h1 : 1 ≤ m) (h2 : m ≤ 31) (w : World) :
    Calls Tryz.prog 163 #[.int .u32 (x : Int), .int .i64 a] w fun e w' => e = .returned (.int .u32 ((rr m x : Nat) : Int)) ∧ w' = w := by
  have e1 : IntKind.u64.wrap a = (18446744073709551616 : Int) - (m : Int) := by
    subst ha
    simp [IntKind.wrap, IntKind.bits, IntKind.signed]; omega
  have e2 := rot_and m h1 h2
  have HO : Hid (_ = _) := rot_or x m hx
  clear ha
  obtain ⟨k, hk⟩ : ∃ k, k = 32 - m := ⟨_, rfl⟩
  rw [← hk] at e2 HO
  have HK : Hid (m + k = 32) := by show _ = _; omega
  have hk1 : 1 ≤ k := by omega
  have hk2 : k ≤ 31 := by omega
  clear hk
  generalize (18446744073709551616 : Int) - (m : Int) = y at e1 e2
  go_enter Tryz.func163, Tryz.ntmps163
  go_wp2
  go_ret
  exact ⟨by rw [← HO.out, rot_cast, show m = 32 - k from by have := HK.out; omega]; rfl, rfl⟩
theorem rot_neg (m : Nat) (hm : m ≤ 31) : IntKind.i64.wrap (-(m : Int)) = -(m : Int) := by
  rw [IntKind.wrap_i64]; omega
set_option maxHeartbeats 400000 in
theorem impl_turned (x a b c : Nat) (hx : x < 4294967296) (ha1 : 1 ≤ a) (ha2 : a ≤ 31) (hb1 : 1 ≤ b) (hb2 : b ≤ 31) (hc1 : 1 ≤ c) (hc2 : c ≤ 31) (w : World) :
    Calls Tryz.prog 150 #[.int .u32 (x : Int), .int .i64 (a : Int), .int .i64 (b : Int), .int .i64 (c : Int)] w fun e w' => e = .returned (.int .u32 ((rr a x ^^^ rr b x ^^^ rr c x : Nat) : Int)) ∧ w' = w := by
  have HX : Hid (_ = _) := u32_xor_nat _ _ (rr_lt a x) (rr_lt b x)
  have HY : Hid (_ = _) := u32_xor_nat _ _ (xor32 (rr_lt a x) (rr_lt b x)) (rr_lt c x)
  go_enter Tryz.func150, Tryz.ntmps150
  go_wp2_with fail
  refine (impl_rot x a _ rfl hx ha1 ha2 w).mono ?_
  rintro e w1 ⟨rfl, rfl⟩
  go_wp2_with fail
  refine (impl_rot x b _ rfl hx hb1 hb2 _).mono ?_
  rintro e w1 ⟨rfl, rfl⟩
  go_wp2_with fail
  rw [HX.out]
  refine (impl_rot x c _ rfl hx hc1 hc2 _).mono ?_
  rintro e w1 ⟨rfl, rfl⟩
  go_wp2
  go_ret
  exact ⟨by rw [HY.out]; rfl, rfl⟩
theorem shift_cast (x c : Nat) : ((x / 2 ^ c : Nat) : Int) = (x : Int) / 2 ^ c := by
  rw [Int.natCast_ediv, Int.natCast_pow]; rfl
theorem impl_roti (x : Nat) (n : Int) (hx : x < 4294967296) (h1 : n ≤ -1) (h2 : -31 ≤ n) (w : World) :
    Calls Tryz.prog 163 #[.int .u32 (x : Int), .int .i64 n] w fun e w' => e = .returned (.int .u32 ((rr (-n).toNat x : Nat) : Int)) ∧ w' = w :=
  impl_rot x (-n).toNat n (by omega) hx (by omega) (by omega) w
set_option maxHeartbeats 400000 in
theorem impl_shifted (x a b c : Nat) (hx : x < 4294967296) (ha1 : 1 ≤ a) (ha2 : a ≤ 31) (hb1 : 1 ≤ b) (hb2 : b ≤ 31) (hc1 : 1 ≤ c) (hc2 : c ≤ 31) (w : World) :
    Calls Tryz.prog 162 #[.int .u32 (x : Int), .int .i64 (a : Int), .int .i64 (b : Int), .int .i64 (c : Int)] w fun e w' => e = .returned (.int .u32 ((rr a x ^^^ rr b x ^^^ x / 2 ^ c : Nat) : Int)) ∧ ∃ m, w' = w.drewN m := by
  have HX : Hid (_ = _) := u32_xor_nat _ _ (rr_lt a x) (rr_lt b x)
  have HY : Hid (_ = _) := u32_xor_nat _ _ (xor32 (rr_lt a x) (rr_lt b x)) (show x / 2 ^ c < 4294967296 from Nat.lt_of_le_of_lt (Nat.div_le_self ..) hx)
  go_enter Tryz.func162, Tryz.ntmps162
  go_wp2
  go_quiet ((go_at_call 163; refine Calls.quiet_of_same (impl_roti x _ hx ?_ ?_ _) <;> omega))
  go_wp2
  go_ret
  exact ⟨by rw [HX.out, ← shift_cast, HY.out]; rfl, _, rfl⟩
end Go.Proofs.YtajfmjgaaapjeaaGreatDoor
namespace Go.Proofs.YtajfmjgaaapjeaaGreatDoor
open Go.RowKit
open Num
set_option linter.unusedVariables false
theorem i64_mask (x : Nat) (h : x < 9223372036854775808) : bits .and .i64 (x : Int) 4294967295 = ((x % 4294967296 : Nat) : Int) := i64_low x 32 h (by omega)
theorem spec_word (x : Nat) (h : x < 9223372036854775808) (w : World) :
    Calls Tryz.prog 125 #[.int .i64 (x : Int)] w fun e w' => e = .returned (.int .i64 ((x % 4294967296 : Nat) : Int)) ∧ w' = w := by
  have HM : Hid (_ = _) := i64_mask x h
  go_enter Tryz.func125, Tryz.ntmps125
  go_wp2
  go_ret
  exact ⟨by rw [HM.out]; rfl, rfl⟩
theorem i64_notw (e : Nat) (h : e < 4294967296) : bits .and .i64 (-1 - (e : Int)) 4294967295 = ((4294967295 - e : Nat) : Int) := by
  show IntKind.i64.wrap ((BitVec.ofInt 64 (-1 - (e : Int)) &&& BitVec.ofInt 64 4294967295).toNat : Int) = _
  have h1 : (BitVec.ofInt 64 (-1 - (e : Int))).toNat = 2 ^ 64 - 1 - e := by
    rw [BitVec.toNat_ofInt]; omega
  have h2 : (BitVec.ofInt 64 4294967295).toNat = 2 ^ 32 - 1 := by decide
  rw [BitVec.toNat_and, h1, h2, Nat.and_two_pow_sub_one_eq_mod, show (2 ^ 64 - 1 - e) % 2 ^ 32 = 4294967295 - e from by omega]
  exact i64_small _ (by omega)
theorem spec_word_not (x : Nat) (h : x < 4294967296) (w : World) :
    Calls Tryz.prog 125 #[.int .i64 (-1 - (x : Int))] w fun e w' => e = .returned (.int .i64 ((4294967295 - x : Nat) : Int)) ∧ w' = w := by
  have HM : Hid (_ = _) := i64_notw x h
  go_enter Tryz.func125, Tryz.ntmps125
  go_wp2
  go_ret
  exact ⟨by rw [HM.out]; rfl, rfl⟩
theorem right_lt (x n : Nat) (h : x < 4294967296) (hn : 1 ≤ n) (hn' : n ≤ 31) : x * 2 ^ (32 - n) < 9223372036854775808 := by
  have h2 : 2 ^ (32 - n) ≤ 2 ^ 31 := Nat.pow_le_pow_right (by omega) (by omega)
  have h3 : x * 2 ^ (32 - n) ≤ x * 2 ^ 31 := Nat.mul_le_mul_left _ h2
  omega
theorem right_eq (x n : Nat) (h : x < 4294967296) (hn : 1 ≤ n) (hn' : n ≤ 31) :
    bits .or .i64 ((x : Int) / 2 ^ n) (wrap64 ((x : Int) * 2 ^ (32 - n))) = ((x / 2 ^ n ||| x * 2 ^ (32 - n) : Nat) : Int) ∧ (x / 2 ^ n ||| x * 2 ^ (32 - n)) < 9223372036854775808 := by
  have h1 := right_lt x n h hn hn'
  have h2 : x / 2 ^ n < 9223372036854775808 := Nat.lt_of_le_of_lt (Nat.div_le_self ..) (by omega)
  have e1 : (x : Int) / 2 ^ n = ((x / 2 ^ n : Nat) : Int) := by push_cast; rfl
  have e2 : (x : Int) * 2 ^ (32 - n) = ((x * 2 ^ (32 - n) : Nat) : Int) := by push_cast; rfl
  have e3 : wrap64 ((x * 2 ^ (32 - n) : Nat) : Int) = ((x * 2 ^ (32 - n) : Nat) : Int) := by unfold wrap64; omega
  refine ⟨?_, Nat.or_lt_two_pow (n := 63) (by omega) (by omega)⟩
  rw [e1, e2, e3]
  exact i64_or _ _ h2 h1
set_option maxHeartbeats 400000 in
theorem spec_right (x n : Nat) (h : x < 4294967296) (hn : 1 ≤ n) (hn' : n ≤ 31) (w : World) :
    Calls Tryz.prog 124 #[.int .i64 (x : Int), .int .u64 (n : Int)] w fun e w' => e = .returned (.int .i64 ((rr n x : Nat) : Int)) ∧ w' = w := by
  obtain ⟨he, hl⟩ := right_eq x n h hn hn'
  have HE : Hid (_ = _) := he
  have HL : Hid (_ < _) := hl
  clear he hl
  go_enter Tryz.func124, Tryz.ntmps124
  go_wp2_with fail
  rw [HE.out]
  refine (spec_word _ HL.out w).mono ?_
  rintro e w1 ⟨rfl, rfl⟩
  go_wp2
  go_ret
  exact ⟨rfl, rfl⟩
theorem spec_righti (x : Nat) (n : Int) (h : x < 4294967296) (hn : 1 ≤ n) (hn' : n ≤ 31) (w : World) :
    Calls Tryz.prog 124 #[.int .i64 (x : Int), .int .u64 n] w fun e w' => e = .returned (.int .i64 ((rr n.toNat x : Nat) : Int)) ∧ w' = w := by
  obtain ⟨m, rfl⟩ : ∃ m : Nat, n = (m : Int) := ⟨n.toNat, by omega⟩
  exact spec_right x m h (by omega) (by omega) w
theorem spec_wordn (x : Nat) (h : x < 4294967296) (w : World) :
    Calls Tryz.prog 125 #[.int .i64 (bits .xor .i64 (-1) (x : Int))] w fun e w' => e = .returned (.int .i64 ((4294967295 - x : Nat) : Int)) ∧ w' = w := by
  rw [i64_not x (by omega)]
  exact spec_word_not x h w
/-- A number as a cell of an int. -/
def iv (x : Nat) : Value := .int .i64 (x : Int)
set_option maxRecDepth 100000 in
theorem spec_keys (w : World) :
    Calls Tryz.prog 106 #[] w fun e w' => e = .returned (.slice (some ⟨w.heap.size, 0, none⟩) 64 64) ∧ w'.heap[w.heap.size]? = some (.cells (keys.map iv).toArray 3 (0, 0)) ∧ Below w.heap.size w w' := by
  go_enter Tryz.func106, Tryz.ntmps106
  go_wp2
  go_ret
  refine ⟨rfl, ?_, (Below.refl _ _).alloc (Nat.le_refl _) _⟩
  rw [heap_alloc_new]
  rfl
end Go.Proofs.YtajfmjgaaapjeaaGreatDoor
