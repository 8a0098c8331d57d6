/- What spec.l5Chain, l5Leaf, l1In and impl.isHsChain, isHsLeaf answer; memory stays. Conditions: none but that the numbers are int's. And: a text made of three bytes just laid. -/
import Derived.Test.YtppkjpfofgfiaaaDoorProg
import Derived.Test.YtppkjpfofgfiaaaDoorLaw
import Derived.Test.YtppkjpfofgfiaaaDoorBits
import Derived.Test.YtppkjpfofgfiaaaDoorHnum
import Derived.WalkKit
import Derived.WalkLawsBesides
import Derived.WalkSpells
import Derived.Below
import Derived.Laws.DeepNot64
import Derived.Deep.QuietTactic
import Derived.BigQuiet
namespace Go.Proofs.YtppkjpfofgfiaaaDoor
open Go.RowKit
open Num
set_option linter.unusedVariables false
def chainIs (c : Int) : Bool := decide (0 ≤ c ∧ c < 11)
def leafIs (c : Int) : Bool := decide (0 ≤ c ∧ c < 4)
def inIs (x a b : Int) : Bool := decide (a ≤ x ∧ x ≤ b)
theorem spec_chain (c : Int) (h0 : -9223372036854775808 ≤ c) (h1 : c ≤ 9223372036854775807) (w : World) :
    Calls Tryd.prog 40 #[.int .i64 c] w fun e w' => e = .returned (.bool (chainIs c)) ∧ w' = w := by
  by_cases hc : 0 ≤ c
  · by_cases hd : c < 11
    · have HL : Hid (chainIs c = true) := by show _ = _; simp [chainIs, hc, hd]
      go_enter Tryd.func40, Tryd.ntmps40
      go_wp2
      go_ret
      exact ⟨by rw [HL.out]; first | rfl | simp_all, rfl⟩
    · have HL : Hid (chainIs c = false) := by show _ = _; simp [chainIs, hd]
      go_enter Tryd.func40, Tryd.ntmps40
      go_wp2
      go_ret
      exact ⟨by rw [HL.out]; first | rfl | simp_all, rfl⟩
  · have HL : Hid (chainIs c = false) := by show _ = _; simp [chainIs, hc]
    go_enter Tryd.func40, Tryd.ntmps40
    go_wp2
    go_ret
    exact ⟨by rw [HL.out]; first | rfl | simp_all, rfl⟩
theorem impl_chain (c : Int) (h0 : -9223372036854775808 ≤ c) (h1 : c ≤ 9223372036854775807) (w : World) :
    Calls Tryd.prog 42 #[.int .i64 c] w fun e w' => e = .returned (.bool (chainIs c)) ∧ w' = w := by
  by_cases hc : 0 ≤ c
  · by_cases hd : c < 11
    · have HL : Hid (chainIs c = true) := by show _ = _; simp [chainIs, hc, hd]
      go_enter Tryd.func42, Tryd.ntmps42
      go_wp2
      go_ret
      exact ⟨by rw [HL.out]; first | rfl | simp_all, rfl⟩
    · have HL : Hid (chainIs c = false) := by show _ = _; simp [chainIs, hd]
      go_enter Tryd.func42, Tryd.ntmps42
      go_wp2
      go_ret
      exact ⟨by rw [HL.out]; first | rfl | simp_all, rfl⟩
  · have HL : Hid (chainIs c = false) := by show _ = _; simp [chainIs, hc]
    go_enter Tryd.func42, Tryd.ntmps42
    go_wp2
    go_ret
    exact ⟨by rw [HL.out]; first | rfl | simp_all, rfl⟩
theorem spec_leafIs (c : Int) (h0 : -9223372036854775808 ≤ c) (h1 : c ≤ 9223372036854775807) (w : World) :
    Calls Tryd.prog 43 #[.int .i64 c] w fun e w' => e = .returned (.bool (leafIs c)) ∧ w' = w := by
  by_cases hc : 0 ≤ c
  · by_cases hd : c < 4
    · have HL : Hid (leafIs c = true) := by show _ = _; simp [leafIs, hc, hd]
      go_enter Tryd.func43, Tryd.ntmps43
      go_wp2
      go_ret
      exact ⟨by rw [HL.out]; first | rfl | simp_all, rfl⟩
    · have HL : Hid (leafIs c = false) := by show _ = _; simp [leafIs, hd]
      go_enter Tryd.func43, Tryd.ntmps43
      go_wp2
      go_ret
      exact ⟨by rw [HL.out]; first | rfl | simp_all, rfl⟩
  · have HL : Hid (leafIs c = false) := by show _ = _; simp [leafIs, hc]
    go_enter Tryd.func43, Tryd.ntmps43
    go_wp2
    go_ret
    exact ⟨by rw [HL.out]; first | rfl | simp_all, rfl⟩
theorem impl_leafIs (c : Int) (h0 : -9223372036854775808 ≤ c) (h1 : c ≤ 9223372036854775807) (w : World) :
    Calls Tryd.prog 26 #[.int .i64 c] w fun e w' => e = .returned (.bool (leafIs c)) ∧ w' = w := by
  by_cases hc : 0 ≤ c
  · by_cases hd : c < 4
    · have HL : Hid (leafIs c = true) := by show _ = _; simp [leafIs, hc, hd]
      go_enter Tryd.func26, Tryd.ntmps26
      go_wp2
      go_ret
      exact ⟨by rw [HL.out]; first | rfl | simp_all, rfl⟩
    · have HL : Hid (leafIs c = false) := by show _ = _; simp [leafIs, hd]
      go_enter Tryd.func26, Tryd.ntmps26
      go_wp2
      go_ret
      exact ⟨by rw [HL.out]; first | rfl | simp_all, rfl⟩
  · have HL : Hid (leafIs c = false) := by show _ = _; simp [leafIs, hc]
    go_enter Tryd.func26, Tryd.ntmps26
    go_wp2
    go_ret
    exact ⟨by rw [HL.out]; first | rfl | simp_all, rfl⟩
theorem spec_in (x a b : Int) (hx0 : -9223372036854775808 ≤ x) (hx1 : x ≤ 9223372036854775807) (ha0 : -9223372036854775808 ≤ a) (ha1 : a ≤ 9223372036854775807) (hb0 : -9223372036854775808 ≤ b) (hb1 : b ≤ 9223372036854775807) (w : World) :
    Calls Tryd.prog 41 #[.int .i64 x, .int .i64 a, .int .i64 b] w fun e w' => e = .returned (.bool (inIs x a b)) ∧ w' = w := by
  by_cases hc : a ≤ x
  · by_cases hd : x ≤ b
    · have HL : Hid (inIs x a b = true) := by show _ = _; simp [inIs, hc, hd]
      go_enter Tryd.func41, Tryd.ntmps41
      go_wp2
      go_ret
      exact ⟨by rw [HL.out]; first | rfl | simp_all, rfl⟩
    · have HL : Hid (inIs x a b = false) := by show _ = _; simp [inIs, hd]
      go_enter Tryd.func41, Tryd.ntmps41
      go_wp2
      go_ret
      exact ⟨by rw [HL.out]; first | rfl | simp_all, rfl⟩
  · have HL : Hid (inIs x a b = false) := by show _ = _; simp [inIs, hc]
    go_enter Tryd.func41, Tryd.ntmps41
    go_wp2
    go_ret
    exact ⟨by rw [HL.out]; first | rfl | simp_all, rfl⟩
/-- 'string([]byte{a, b, c})': three bytes, just laid. -/
theorem run_str_three {P : Program} (w : World) (src dst e : TypeId) (hs : P.underlying src = some (.slice e)) (he : P.underlying e = some (.int .u8)) (hd : P.underlying dst = some .string) (a b c : UInt8) (x y z : Int) (hx : x = (a.toNat : Int)) (hy : y = (b.toNat : Int)) (hz : z = (c.toNat : Int)) :
    (convert src dst (.slice (some ⟨w.heap.size, 0, none⟩) 3 3)).run P (w.alloc (.cells #[.int .u8 x, .int .u8 y, .int .u8 z] e)) = .ok (.string ⟨#[a, b, c]⟩) (w.alloc (.cells #[.int .u8 x, .int .u8 y, .int .u8 z] e)) := by
  subst hx hy hz
  exact run_str_row (P := P) (w.alloc (.cells #[.int .u8 a.toNat, .int .u8 b.toNat, .int .u8 c.toNat] e)) src dst e hs he hd w.heap.size 3 [a, b, c] [] e (0, 0) (by
    rw [heap_alloc_new]; rfl)
end Go.Proofs.YtppkjpfofgfiaaaDoor
