/- The walk of the exact law of SignAs: it answers true, old memory stays. Conditions: a text that a machine can hold; the table. -/
import Derived.Test.YtphoafjjilpfdaaDoorSg
namespace Go.Proofs.YtphoafjjilpfdaaDoor
open Go.RowKit
open Num
set_option linter.unusedVariables false
set_option maxHeartbeats 800000 in
theorem w_sgn (n : Int) (d : ByteArray) (w : World) (hd : d.size ≤ maxLen) (hT : Tab w) :
    Calls Tryd.prog 4 #[.int .i64 n, .string d] w fun e w' => e = .returned (.bool true) ∧ Below w.heap.size w w' := by
  have HT : Hid (Tab w) := hT
  clear hT
  unfold maxLen at hd
  by_cases g : (1048576 : Int) < (d.size : Int)
  · have hb : (d.size : Int) ≤ 9223372036854775807 := by omega
    go_enter Tryd.func4, Tryd.ntmps4
    go_wp2
    go_ret
    exact ⟨rfl, Below.refl _ _⟩
  · have hb : d.size ≤ 1000000000000 := by omega
    have kA := fun W => spec_sgn n d W hb
    have kB := fun W (h : Tab W) => impl_sgn n d W hb h
    generalize sgn n d = R at *
    have hb : (d.size : Int) ≤ 9223372036854775807 := by omega
    go_enter Tryd.func4, Tryd.ntmps4
    go_wp2_with fail
    refine (kA _).mono ?_
    rintro e w1 ⟨rfl, b1⟩
    have HB1 : Hid (Below w.heap.size w w1) := b1
    clear b1
    go_wp2_with fail
    refine (kB _ (HT.out.below HB1.out HT.out.pos)).mono ?_
    rintro e w2 ⟨rfl, b2⟩
    have HB2 : Hid (Below w.heap.size w w2) := HB1.out.trans (b2.mono HB1.out.size)
    clear b2
    go_wp2
    go_ret
    exact ⟨rfl, HB2.out⟩
end Go.Proofs.YtphoafjjilpfdaaDoor
