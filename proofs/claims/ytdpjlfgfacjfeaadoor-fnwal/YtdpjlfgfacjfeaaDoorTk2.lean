/- What spec.l6Vars and spec.l6Take answer at a place behind the text's end; and spec.l6Take at any place. Conditions: texts of at most 2 to the 40 bytes. -/
import Derived.Test.YtdpjlfgfacjfeaaDoorTk
import Derived.Test.YtdpjlfgfacjfeaaDoorWn
namespace Go.Proofs.YtdpjlfgfacjfeaaDoor
open Go.RowKit
open Num
set_option linter.unusedVariables false
set_option maxHeartbeats 400000 in
set_option maxRecDepth 100000 in
theorem spec_vars_far (s : ByteArray) (a : Nat) (w : World) (ha : (s.size : Int) < (a : Int)) :
    Calls Tryd.prog 40 #[.string s, .int .i64 (a : Int), .int .i64 1] w fun e w' => ∃ (v : Value), e = .returned (.tuple #[v, .int .i64 (-1)]) ∧ Below w.heap.size w w' := by
  have ha0 : ¬ (a : Int) < 0 := by omega
  go_enter Tryd.func40, Tryd.ntmps40
  go_wp2
  go_loopw [9, 8, 1] (fun iv ov av wr => iv = .int .i64 0 ∧ (∃ q : Value, q = ov) ∧ av = .int .i64 (a : Int) ∧ Below w.heap.size w wr) (fun _ _ _ _ => 0)
  case atStart => exact ⟨rfl, ⟨_, rfl⟩, rfl, (Below.refl _ _).alloc (Nat.le_refl _) _⟩
  case round =>
    obtain ⟨rfl, ⟨q, rfl⟩, rfl, hb⟩ := hrel
    go_wp2
    go_ret2
    exact ⟨_, rfl, hb⟩
set_option maxHeartbeats 400000 in
set_option maxRecDepth 100000 in
theorem spec_take_far (s : ByteArray) (a : Nat) (w : World) (ha : (s.size : Int) < (a : Int)) :
    Calls Tryd.prog 25 #[.string s, .int .i64 (a : Int)] w fun e w' => e = .returned (.tuple #[.string ⟨#[]⟩, .int .i64 (-1)]) ∧ Below w.heap.size w w' := by
  have kV := spec_vars_far s a w ha
  go_enter Tryd.func25, Tryd.ntmps25
  go_wp2_with fail
  refine kV.mono ?_
  rintro e w1 ⟨v1, rfl, b1⟩
  go_wp2
  go_ret2
  exact ⟨rfl, b1⟩
theorem spec_take_at (s : ByteArray) (a : Nat) (w : World) (hs : s.size ≤ 1099511627776) :
    Calls Tryd.prog 25 #[.string s, .int .i64 (a : Int)] w fun e w' => e = .returned (.tuple #[.string (tk s (a : Int)).1, .int .i64 (tk s (a : Int)).2]) ∧ Below w.heap.size w w' := by
  by_cases h : a ≤ s.size
  · exact spec_take s a w hs (.inr ⟨by omega, by omega⟩)
  · rw [tk_far s a (by omega)]
    exact spec_take_far s a w (by omega)
end Go.Proofs.YtdpjlfgfacjfeaaDoor
