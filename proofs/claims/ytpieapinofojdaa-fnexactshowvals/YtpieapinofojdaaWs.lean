/- The walks of the exact law of ShowVals: it answers true, old memory stays. Conditions: arguments that a machine can hold. -/
import Derived.Test.YtpieapinofojdaaOk
import Derived.Test.YtpieapinofojdaaLv
import Derived.Test.YtpieapinofojdaaSh
namespace Go.Proofs.Ytpieapinofojdaa
open Go.RowKit
open Num
set_option linter.unusedVariables false
set_option maxHeartbeats 400000 in
theorem w_show (a : Option Addr) (l : List V) (cap : Nat) (w : World) (hl : VO w a l) (hlen : l.length ≤ 9223372036854775807) :
    Calls Try.prog 9 #[.slice a l.length cap] w fun e w' => e = .returned (.bool true) ∧ Below w.heap.size w w' := by
  have HL : Hid (VO w a l) := hl
  clear hl
  by_cases hbig : (1048576 : Int) < (l.length : Int)
  · have kS := sz_any a l.length cap 1048576 w hlen (by omega) (by omega)
    rw [if_pos hbig] at kS
    go_enter Try.func9, Try.ntmps9
    go_wp2_with fail
    refine kS.mono ?_
    rintro e w1 ⟨rfl, rfl⟩
    go_wp2
    go_ret
    exact ⟨rfl, Below.refl _ _⟩
  have kS := sz_any a l.length cap 1048576 w hlen (by omega) (by omega)
  rw [if_neg hbig] at kS
  have hlen' : l.length ≤ 1048576 := by omega
  have hz : ¬ (1048576 : Int) - (l.length : Int) < 0 := by omega
  go_enter Try.func9, Try.ntmps9
  go_wp2_with fail
  refine kS.mono ?_
  rintro e w1 ⟨rfl, rfl⟩
  go_wp2_with fail
  refine (toValS_any a l cap w1 HL.out hlen').mono ?_
  rintro e w2 ⟨rfl, v2, r2, b2⟩
  go_wp2_with fail
  refine (spec_show _ l _ w2 v2.o (by omega)).mono ?_
  rintro e w3 ⟨rfl, b3⟩
  have c3 := b2.trans (b3.mono b2.size)
  clear v2 r2 b2 b3 w2
  go_wp2_with fail
  refine (toValS_any a l cap w3 (HL.out.below c3) hlen').mono ?_
  rintro e w4 ⟨rfl, v4, r4, b4⟩
  go_wp2_with fail
  refine (impl_show _ l _ w4 v4.o (by omega)).mono ?_
  rintro e w5 ⟨rfl, b5⟩
  generalize showV l = r
  have v5 := v4.below b5
  have c5 := c3.trans ((b4.trans (b5.mono b4.size)).mono c3.size)
  clear v4 r4 b4 b5 c3
  have HV5 : Hid (VAt w5 w3.heap.size 0 l) := v5
  clear v5
  go_wp2_with fail
  refine (toValS_any a l cap w5 (HL.out.below c5) hlen').mono ?_
  rintro e w6 ⟨rfl, v6, r6, b6⟩
  go_wp2_with fail
  refine (eqValS_any _ _ l l _ _ w6 (HV5.out.below b6).o v6.o (by omega) (by omega)).mono ?_
  rintro e w7 ⟨rfl, b7⟩
  rw [decide_eq_true rfl]
  have c7 := c5.trans ((b6.trans (b7.mono b6.size)).mono c5.size)
  clear v6 r6 b6 b7 c5
  go_wp2
  go_ret
  exact ⟨rfl, c7⟩
end Go.Proofs.Ytpieapinofojdaa
