/- The walks of the exact laws of VoteOk and Digest: they answer true, old memory stays. Conditions: a text that a machine can hold. -/
import Derived.Test.YtphoafjjilpfdaaVz
import Derived.Test.YtphoafjjilpfdaaVg
namespace Go.Proofs.Ytphoafjjilpfdaa
open Go.RowKit
open Num
set_option linter.unusedVariables false
set_option maxHeartbeats 800000 in
theorem w_vok (x : Vt) (w : World) (hx : x.i.size ≤ maxLen) :
    Calls Try.prog 3 #[tV x] w fun e w' => e = .returned (.bool true) ∧ Below w.heap.size w w' := by
  have kS := fun W => sz_vote x W hx
  have kT := fun W => to_vote x W
  have kA := fun W => spec_vok x W
  have kB := fun W => impl_vok x W
  have HS : Hid (Five (w.alloc (.cells (tcs x) 23)) w.heap.size x) := five_new w x 23
  have HB : Hid (Below w.heap.size w (w.alloc (.cells (tcs x) 23))) := (Below.refl _ _).alloc (Nat.le_refl _) _
  have hz : w.heap.size < (w.alloc (.cells (tcs x) 23)).heap.size := by simp
  generalize voB x = q at *
  obtain ⟨z, hs⟩ : ∃ z, szT x = z := ⟨_, rfl⟩
  rw [hs] at kS
  clear hs
  obtain ⟨h, r, s, i, v⟩ := x
  unfold tV at *
  unfold tcs at *
  simp only at kS kT kA kB hx ⊢
  by_cases g : z < 0
  · obtain ⟨x0, x1, x2, x3, x4⟩ := HS.out
    simp only at x0 x1 x2 x3 x4
    go_enter Try.func3, Try.ntmps3
    go_wp2_with fail
    generalize w.alloc (Obj.cells #[Value.int .i64 h, Value.int .i64 r, Value.int .i64 s, Value.string i, Value.int .i64 v] 23) = w1 at *
    refine (kS _).mono ?_
    rintro e w2 ⟨rfl, b2⟩
    go_wp2
    go_ret
    exact ⟨rfl, HB.out.trans (b2.mono HB.out.size)⟩
  obtain ⟨x0, x1, x2, x3, x4⟩ := HS.out
  simp only at x0 x1 x2 x3 x4
  go_enter Try.func3, Try.ntmps3
  go_wp2_with fail
  generalize w.alloc (Obj.cells #[Value.int .i64 h, Value.int .i64 r, Value.int .i64 s, Value.string i, Value.int .i64 v] 23) = w1 at *
  refine (kS _).mono ?_
  rintro e w2 ⟨rfl, b2⟩
  have HB2 : Hid (Below w1.heap.size w1 w2) := b2
  clear b2 x0 x1 x2 x3 x4
  obtain ⟨x0, x1, x2, x3, x4⟩ := HS.out.below HB2.out hz
  simp only at x0 x1 x2 x3 x4
  go_wp2_with fail
  refine (kT _).mono ?_
  rintro e w3 ⟨rfl, b3⟩
  go_wp2_with fail
  refine (kA _).mono ?_
  rintro e w4 ⟨rfl, b4⟩
  have HB4 : Hid (Below w1.heap.size w1 w4) := (HB2.out.trans (b3.mono HB2.out.size)).trans (b4.mono (Nat.le_trans HB2.out.size b3.size))
  clear b3 b4 HB2 x0 x1 x2 x3 x4
  obtain ⟨x0, x1, x2, x3, x4⟩ := HS.out.below HB4.out hz
  simp only at x0 x1 x2 x3 x4
  go_wp2_with fail
  refine (kT _).mono ?_
  rintro e w5 ⟨rfl, b5⟩
  go_wp2_with fail
  refine (kB _).mono ?_
  rintro e w6 ⟨rfl, b6⟩
  have HB6 : Hid (Below w1.heap.size w1 w6) := (HB4.out.trans (b5.mono HB4.out.size)).trans (b6.mono (Nat.le_trans HB4.out.size b5.size))
  clear b5 b6 HB4 x0 x1 x2 x3 x4
  go_wp2
  go_ret
  exact ⟨rfl, HB.out.trans (HB6.out.mono HB.out.size)⟩
set_option maxHeartbeats 800000 in
theorem w_dig (x : Vt) (w : World) (hx : x.i.size ≤ maxLen) :
    Calls Try.prog 4 #[tV x] w fun e w' => e = .returned (.bool true) ∧ Below w.heap.size w w' := by
  have kS := fun W => sz_vote x W hx
  have kT := fun W => to_vote x W
  have kA := fun W => spec_dig x W
  have kB := fun W => impl_dig x W
  have HS : Hid (Five (w.alloc (.cells (tcs x) 23)) w.heap.size x) := five_new w x 23
  have HB : Hid (Below w.heap.size w (w.alloc (.cells (tcs x) 23))) := (Below.refl _ _).alloc (Nat.le_refl _) _
  have hz : w.heap.size < (w.alloc (.cells (tcs x) 23)).heap.size := by simp
  generalize dig x = q at *
  obtain ⟨z, hs⟩ : ∃ z, szT x = z := ⟨_, rfl⟩
  rw [hs] at kS
  clear hs
  obtain ⟨h, r, s, i, v⟩ := x
  unfold tV at *
  unfold tcs at *
  simp only at kS kT kA kB hx ⊢
  by_cases g : z < 0
  · obtain ⟨x0, x1, x2, x3, x4⟩ := HS.out
    simp only at x0 x1 x2 x3 x4
    go_enter Try.func4, Try.ntmps4
    go_wp2_with fail
    generalize w.alloc (Obj.cells #[Value.int .i64 h, Value.int .i64 r, Value.int .i64 s, Value.string i, Value.int .i64 v] 23) = w1 at *
    refine (kS _).mono ?_
    rintro e w2 ⟨rfl, b2⟩
    go_wp2
    go_ret
    exact ⟨rfl, HB.out.trans (b2.mono HB.out.size)⟩
  obtain ⟨x0, x1, x2, x3, x4⟩ := HS.out
  simp only at x0 x1 x2 x3 x4
  go_enter Try.func4, Try.ntmps4
  go_wp2_with fail
  generalize w.alloc (Obj.cells #[Value.int .i64 h, Value.int .i64 r, Value.int .i64 s, Value.string i, Value.int .i64 v] 23) = w1 at *
  refine (kS _).mono ?_
  rintro e w2 ⟨rfl, b2⟩
  have HB2 : Hid (Below w1.heap.size w1 w2) := b2
  clear b2 x0 x1 x2 x3 x4
  obtain ⟨x0, x1, x2, x3, x4⟩ := HS.out.below HB2.out hz
  simp only at x0 x1 x2 x3 x4
  go_wp2_with fail
  refine (kT _).mono ?_
  rintro e w3 ⟨rfl, b3⟩
  go_wp2_with fail
  refine (kA _).mono ?_
  rintro e w4 ⟨rfl, b4⟩
  have HB4 : Hid (Below w1.heap.size w1 w4) := (HB2.out.trans (b3.mono HB2.out.size)).trans (b4.mono (Nat.le_trans HB2.out.size b3.size))
  clear b3 b4 HB2 x0 x1 x2 x3 x4
  obtain ⟨x0, x1, x2, x3, x4⟩ := HS.out.below HB4.out hz
  simp only at x0 x1 x2 x3 x4
  go_wp2_with fail
  refine (kT _).mono ?_
  rintro e w5 ⟨rfl, b5⟩
  go_wp2_with fail
  refine (kB _).mono ?_
  rintro e w6 ⟨rfl, b6⟩
  have HB6 : Hid (Below w1.heap.size w1 w6) := (HB4.out.trans (b5.mono HB4.out.size)).trans (b6.mono (Nat.le_trans HB4.out.size b5.size))
  clear b5 b6 HB4 x0 x1 x2 x3 x4
  go_wp2
  go_ret
  exact ⟨rfl, HB.out.trans (HB6.out.mono HB.out.size)⟩
end Go.Proofs.Ytphoafjjilpfdaa
