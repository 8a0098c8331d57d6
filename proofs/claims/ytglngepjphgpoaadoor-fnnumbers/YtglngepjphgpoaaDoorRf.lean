/- What spec.ReadFixed and impl.ReadFixed answer: the number of the first bytes, or 0 and false; memory stays. Conditions: none beyond a string's own length. -/
import Derived.Test.YtglngepjphgpoaaDoorRows
import Derived.Test.YtglngepjphgpoaaDoorNum
import Derived.WalkKit
import Derived.WalkLawsBesides
import Derived.WalkSpells
namespace Go.Proofs.YtglngepjphgpoaaDoor
open Go.RowKit
open Num
set_option linter.unusedVariables false
theorem ret2 {k : IntKind} {a a' : Int} {b b' : Bool} (h : a = a') (h' : b = b') : Ending.returned (.tuple #[.int k a, .bool b]) = .returned (.tuple #[.int k a', .bool b']) := by rw [h, h']
set_option maxHeartbeats 400000 in
theorem impl_rf_no (s : ByteArray) (width : Int) (w : World) (hs : s.size ≤ maxLen) (h : width < 1 ∨ 7 < width ∨ (s.size : Int) < width) :
    Calls Tryd.prog 12 #[.string s, .int .i64 width] w fun e w' => e = .returned (.tuple #[.int .i64 (rfVal s width), .bool (rfOk s width)]) ∧ w' = w := by
  obtain ⟨e1, e2⟩ := rf_no s width h
  rw [e1, e2]; clear e1 e2
  unfold maxLen at hs
  rcases (show width < 1 ∨ (1 ≤ width ∧ 7 < width) ∨ (1 ≤ width ∧ width ≤ 7 ∧ (s.size : Int) < width) from by omega) with h | ⟨h, h'⟩ | ⟨h, h', h''⟩
  · have hh : ¬ 1 ≤ width := by omega
    go_enter Tryd.func12, Tryd.ntmps12
    go_wp2
    go_ret2
    exact ⟨rfl, rfl⟩
  · have hh : ¬ width ≤ 7 := by omega
    go_enter Tryd.func12, Tryd.ntmps12
    go_wp2
    go_ret2
    exact ⟨rfl, rfl⟩
  · go_enter Tryd.func12, Tryd.ntmps12
    go_wp2
    go_ret2
    exact ⟨rfl, rfl⟩
set_option maxHeartbeats 400000 in
theorem impl_rf_yes (s : ByteArray) (width : Int) (w : World) (hs : s.size ≤ maxLen) (h1 : 1 ≤ width) (h2 : width ≤ 7) (h3 : width ≤ (s.size : Int)) :
    Calls Tryd.prog 12 #[.string s, .int .i64 width] w fun e w' => e = .returned (.tuple #[.int .i64 (rfVal s width), .bool (rfOk s width)]) ∧ w' = w := by
  unfold maxLen at hs
  go_enter Tryd.func12, Tryd.ntmps12
  go_wp2
  go_loop [6, 18] (fun n i => ∃ k : Nat, (k : Int) ≤ width ∧ i = .int .i64 k ∧ n = .int .i64 (be (s.data.toList.take k))) (fun _ i => width.toNat - (intOf i).toNat)
  case atStart => exact ⟨0, by omega, rfl, rfl⟩
  case round =>
    obtain ⟨k, hk, rfl, rfl⟩ := hrel
    by_cases hlt : (k : Int) < width
    · have hd := be_bound s k (by omega)
      have hks : k < s.size := by omega
      have HS : Hid (be (s.data.toList.take (k + 1)) = be (s.data.toList.take k) * 256 + (s[k].toNat : Int)) := be_step s k hks
      have hb : (s[k].toNat : Int) < 256 := by have := s[k].toNat_lt; omega
      go_wp2
      go_round
      case rel => exact ⟨k + 1, by omega, by go_num, by rw [HS.out]⟩
      case measure => simp [intOf]; omega
    · go_wp2
      go_ret2
      have hkw : width = (k : Int) := by omega
      subst hkw
      have hok := rf_yes s k h1 h2 h3
      exact ⟨ret2 (by simp [rfVal, hok]) hok.symm, rfl⟩
theorem impl_rf (s : ByteArray) (width : Int) (w : World) (hs : s.size ≤ maxLen) :
    Calls Tryd.prog 12 #[.string s, .int .i64 width] w fun e w' => e = .returned (.tuple #[.int .i64 (rfVal s width), .bool (rfOk s width)]) ∧ w' = w := by
  by_cases h : width < 1 ∨ 7 < width ∨ (s.size : Int) < width
  · exact impl_rf_no s width w hs h
  · exact impl_rf_yes s width w hs (by omega) (by omega) (by omega)
end Go.Proofs.YtglngepjphgpoaaDoor
