/- The walk of the exact law of Signed: it answers true, old memory stays. Conditions: texts that a machine can hold; the table. -/
import Derived.Test.YtphoafjjilpfdaaDoorSi
import Derived.Test.YtphoafjjilpfdaaDoorVz
namespace Go.Proofs.YtphoafjjilpfdaaDoor
open Go.RowKit
open Num
set_option linter.unusedVariables false
set_option maxHeartbeats 800000 in
theorem w_sd (x : Vt) (t : ByteArray) (w : World) (hx : x.i.size ≤ maxLen) (ht : t.size ≤ maxLen) (hT : Tab w) :
    Calls Tryd.prog 5 #[tV x, .string t] w fun e w' => e = .returned (.bool true) ∧ Below w.heap.size w w' := by
  have HT : Hid (Tab w) := hT
  clear hT
  have kS := fun W => sz_vote x W hx
  have kT := fun W => to_vote x W
  have kA := fun W => spec_sd x t W
  have kB := fun W (h : Tab W) => impl_sd x t W h
  have HS : Hid (Five (w.alloc (.cells (tcs x) 32)) w.heap.size x) := five_new w x 32
  have HB : Hid (Below w.heap.size w (w.alloc (.cells (tcs x) 32))) := (Below.refl _ _).alloc (Nat.le_refl _) _
  have hz : w.heap.size < (w.alloc (.cells (tcs x) 32)).heap.size := by simp
  generalize sdB x t = q at *
  obtain ⟨z, hs⟩ : ∃ z, szT x = z := ⟨_, rfl⟩
  rw [hs] at kS
  clear hs
  unfold maxLen at ht
  have hb : (t.size : Int) ≤ 9223372036854775807 := by omega
  obtain ⟨h, r, s, i, v⟩ := x
  unfold tV at *
  unfold tcs at *
  simp only at kS kT kA kB hx ⊢
  clear ht hx
  by_cases gt : (1048576 : Int) < (t.size : Int)
  · go_enter Tryd.func5, Tryd.ntmps5
    go_wp2
    go_ret
    exact ⟨rfl, HB.out⟩
  by_cases g : z < 0
  · obtain ⟨x0, x1, x2, x3, x4⟩ := HS.out
    simp only at x0 x1 x2 x3 x4
    go_enter Tryd.func5, Tryd.ntmps5
    go_wp2_with fail
    generalize w.alloc (Obj.cells #[Value.int .i64 h, Value.int .i64 r, Value.int .i64 s, Value.string i, Value.int .i64 v] 32) = w1 at *
    refine (kS _).mono ?_
    rintro e w2 ⟨rfl, b2⟩
    go_wp2
    go_ret
    exact ⟨rfl, HB.out.trans (b2.mono HB.out.size)⟩
  obtain ⟨x0, x1, x2, x3, x4⟩ := HS.out
  simp only at x0 x1 x2 x3 x4
  go_enter Tryd.func5, Tryd.ntmps5
  go_wp2_with fail
  generalize w.alloc (Obj.cells #[Value.int .i64 h, Value.int .i64 r, Value.int .i64 s, Value.string i, Value.int .i64 v] 32) = w1 at *
  refine (kS _).mono ?_
  rintro e w2 ⟨rfl, b2⟩
  have HB2 : Hid (Below w1.heap.size w1 w2) := b2
  clear b2 x0 x1 x2 x3 x4
  obtain ⟨x0, x1, x2, x3, x4⟩ := HS.out.below HB2.out hz
  simp only at x0 x1 x2 x3 x4
  go_wp2_with fail
  refine (kT _).mono ?_
  rintro e w3 ⟨rfl, b3⟩
  go_wp2_with fail
  refine (kA _).mono ?_
  rintro e w4 ⟨rfl, b4⟩
  have HB4 : Hid (Below w1.heap.size w1 w4) := (HB2.out.trans (b3.mono HB2.out.size)).trans (b4.mono (Nat.le_trans HB2.out.size b3.size))
  clear b3 b4 HB2 x0 x1 x2 x3 x4
  obtain ⟨x0, x1, x2, x3, x4⟩ := HS.out.below HB4.out hz
  simp only at x0 x1 x2 x3 x4
  go_wp2_with fail
  refine (kT _).mono ?_
  rintro e w5 ⟨rfl, b5⟩
  have HT5 : Hid (Tab w5) := ((HT.out.below HB.out HT.out.pos).below HB4.out (by omega)).below b5 ((HT.out.below HB.out HT.out.pos).below HB4.out (by omega)).pos
  go_wp2_with fail
  refine (kB _ HT5.out).mono ?_
  rintro e w6 ⟨rfl, b6⟩
  have HB6 : Hid (Below w1.heap.size w1 w6) := (HB4.out.trans (b5.mono HB4.out.size)).trans (b6.mono (Nat.le_trans HB4.out.size b5.size))
  clear b5 b6 HB4 x0 x1 x2 x3 x4
  go_wp2
  go_ret
  exact ⟨rfl, HB.out.trans (HB6.out.mono HB.out.size)⟩
end Go.Proofs.YtphoafjjilpfdaaDoor
