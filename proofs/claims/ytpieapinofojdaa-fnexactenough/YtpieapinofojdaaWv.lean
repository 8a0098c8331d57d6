/- The walks of the exact laws of ValsOk, PowerOf, Proposer and Enough: each answers true, old memory stays. Conditions: arguments that a machine can hold. -/
import Derived.Test.YtpieapinofojdaaOk
import Derived.Test.YtpieapinofojdaaLv
import Derived.Test.YtpieapinofojdaaLi
import Derived.Test.YtpieapinofojdaaPr
import Derived.Test.YtpieapinofojdaaEn2
namespace Go.Proofs.Ytpieapinofojdaa
open Go.RowKit
open Num
set_option linter.unusedVariables false
set_option maxHeartbeats 400000 in
theorem w_valsOk (a : Option Addr) (l : List V) (cap : Nat) (w : World) (hl : VO w a l) (hlen : l.length ≤ 9223372036854775807) :
    Calls Try.prog 4 #[.slice a l.length cap] w fun e w' => e = .returned (.bool true) ∧ Below w.heap.size w w' := by
  have HL : Hid (VO w a l) := hl
  clear hl
  by_cases hbig : (1048576 : Int) < (l.length : Int)
  · have kS := sz_any a l.length cap 1048576 w hlen (by omega) (by omega)
    rw [if_pos hbig] at kS
    go_enter Try.func4, Try.ntmps4
    go_wp2_with fail
    refine kS.mono ?_
    rintro e w1 ⟨rfl, rfl⟩
    go_wp2
    go_ret
    exact ⟨rfl, Below.refl _ _⟩
  have kS := sz_any a l.length cap 1048576 w hlen (by omega) (by omega)
  rw [if_neg hbig] at kS
  have hlen' : l.length ≤ 1048576 := by omega
  have hz : ¬ (1048576 : Int) - (l.length : Int) < 0 := by omega
  go_enter Try.func4, Try.ntmps4
  go_wp2_with fail
  refine kS.mono ?_
  rintro e w1 ⟨rfl, rfl⟩
  go_wp2_with fail
  refine (toValS_any a l cap w1 HL.out hlen').mono ?_
  rintro e w2 ⟨rfl, v2, r2, b2⟩
  go_wp2_with fail
  refine (spec_ok _ l _ w2 v2.o (by omega)).mono ?_
  rintro e w3 ⟨rfl, b3⟩
  have c3 := b2.trans (b3.mono b2.size)
  clear v2 r2 b2 b3 w2
  go_wp2_with fail
  refine (toValS_any a l cap w3 (HL.out.below c3) hlen').mono ?_
  rintro e w4 ⟨rfl, v4, r4, b4⟩
  go_wp2_with fail
  refine (impl_ok _ l _ w4 v4.o (by omega)).mono ?_
  rintro e w5 ⟨rfl, b5⟩
  generalize vOk l = r
  have v5 := v4.below b5
  have c5 := c3.trans ((b4.trans (b5.mono b4.size)).mono c3.size)
  clear v4 r4 b4 b5 c3
  have HV5 : Hid (VAt w5 w3.heap.size 0 l) := v5
  clear v5
  go_wp2_with fail
  refine (toValS_any a l cap w5 (HL.out.below c5) hlen').mono ?_
  rintro e w6 ⟨rfl, v6, r6, b6⟩
  go_wp2_with fail
  refine (eqValS_any _ _ l l _ _ w6 (HV5.out.below b6).o v6.o (by omega) (by omega)).mono ?_
  rintro e w7 ⟨rfl, b7⟩
  rw [decide_eq_true rfl]
  have c7 := c5.trans ((b6.trans (b7.mono b6.size)).mono c5.size)
  clear v6 r6 b6 b7 c5
  go_wp2
  go_ret
  exact ⟨rfl, c7⟩
set_option maxHeartbeats 400000 in
theorem w_power (a : Option Addr) (l : List V) (cap : Nat) (w : World) (hl : VO w a l) (hlen : l.length ≤ 9223372036854775807) :
    Calls Try.prog 5 #[.slice a l.length cap] w fun e w' => e = .returned (.bool true) ∧ Below w.heap.size w w' := by
  have HL : Hid (VO w a l) := hl
  clear hl
  by_cases hbig : (1048576 : Int) < (l.length : Int)
  · have kS := sz_any a l.length cap 1048576 w hlen (by omega) (by omega)
    rw [if_pos hbig] at kS
    go_enter Try.func5, Try.ntmps5
    go_wp2_with fail
    refine kS.mono ?_
    rintro e w1 ⟨rfl, rfl⟩
    go_wp2
    go_ret
    exact ⟨rfl, Below.refl _ _⟩
  have kS := sz_any a l.length cap 1048576 w hlen (by omega) (by omega)
  rw [if_neg hbig] at kS
  have hlen' : l.length ≤ 1048576 := by omega
  have hz : ¬ (1048576 : Int) - (l.length : Int) < 0 := by omega
  go_enter Try.func5, Try.ntmps5
  go_wp2_with fail
  refine kS.mono ?_
  rintro e w1 ⟨rfl, rfl⟩
  go_wp2_with fail
  refine (toValS_any a l cap w1 HL.out hlen').mono ?_
  rintro e w2 ⟨rfl, v2, r2, b2⟩
  go_wp2_with fail
  refine (spec_power _ l _ w2 v2.o (by omega)).mono ?_
  rintro e w3 ⟨rfl, b3⟩
  have c3 := b2.trans (b3.mono b2.size)
  clear v2 r2 b2 b3 w2
  go_wp2_with fail
  refine (toValS_any a l cap w3 (HL.out.below c3) hlen').mono ?_
  rintro e w4 ⟨rfl, v4, r4, b4⟩
  go_wp2_with fail
  refine (impl_power _ l _ w4 v4.o (by omega)).mono ?_
  rintro e w5 ⟨rfl, b5⟩
  generalize powerOf l = r
  have v5 := v4.below b5
  have c5 := c3.trans ((b4.trans (b5.mono b4.size)).mono c3.size)
  clear v4 r4 b4 b5 c3
  have HV5 : Hid (VAt w5 w3.heap.size 0 l) := v5
  clear v5
  go_wp2_with fail
  refine (toValS_any a l cap w5 (HL.out.below c5) hlen').mono ?_
  rintro e w6 ⟨rfl, v6, r6, b6⟩
  go_wp2_with fail
  refine (eqValS_any _ _ l l _ _ w6 (HV5.out.below b6).o v6.o (by omega) (by omega)).mono ?_
  rintro e w7 ⟨rfl, b7⟩
  rw [decide_eq_true rfl]
  have c7 := c5.trans ((b6.trans (b7.mono b6.size)).mono c5.size)
  clear v6 r6 b6 b7 c5
  go_wp2
  go_ret
  exact ⟨rfl, c7⟩
set_option maxHeartbeats 400000 in
theorem w_turn (a : Option Addr) (l : List V) (cap : Nat) (h r : Int) (hh : h ≤ 9223372036854775807) (hr : r ≤ 9223372036854775807) (w : World) (hl : VO w a l) (hlen : l.length ≤ 9223372036854775807) :
    Calls Try.prog 7 #[.slice a l.length cap, .int .i64 h, .int .i64 r] w fun e w' => e = .returned (.bool true) ∧ Below w.heap.size w w' := by
  have HL : Hid (VO w a l) := hl
  clear hl
  by_cases hbig : (1048576 : Int) < (l.length : Int)
  · have kS := sz_any a l.length cap 1048576 w hlen (by omega) (by omega)
    rw [if_pos hbig] at kS
    go_enter Try.func7, Try.ntmps7
    go_wp2_with fail
    refine kS.mono ?_
    rintro e w1 ⟨rfl, rfl⟩
    go_wp2
    go_ret
    exact ⟨rfl, Below.refl _ _⟩
  have kS := sz_any a l.length cap 1048576 w hlen (by omega) (by omega)
  rw [if_neg hbig] at kS
  have hlen' : l.length ≤ 1048576 := by omega
  have hz : ¬ (1048576 : Int) - (l.length : Int) < 0 := by omega
  go_enter Try.func7, Try.ntmps7
  go_wp2_with fail
  refine kS.mono ?_
  rintro e w1 ⟨rfl, rfl⟩
  go_wp2_with fail
  refine (toValS_any a l cap w1 HL.out hlen').mono ?_
  rintro e w2 ⟨rfl, v2, r2, b2⟩
  go_wp2_with fail
  refine (spec_turn _ l _ h r w2 v2.o (by omega) hh hr).mono ?_
  rintro e w3 ⟨rfl, b3⟩
  have c3 := b2.trans (b3.mono b2.size)
  clear v2 r2 b2 b3 w2
  go_wp2_with fail
  refine (toValS_any a l cap w3 (HL.out.below c3) hlen').mono ?_
  rintro e w4 ⟨rfl, v4, r4, b4⟩
  go_wp2_with fail
  refine (impl_turn _ l _ h r w4 v4.o (by omega) hh hr).mono ?_
  rintro e w5 ⟨rfl, b5⟩
  generalize turn l h r = r
  have v5 := v4.below b5
  have c5 := c3.trans ((b4.trans (b5.mono b4.size)).mono c3.size)
  clear v4 r4 b4 b5 c3
  have HV5 : Hid (VAt w5 w3.heap.size 0 l) := v5
  clear v5
  go_wp2_with fail
  refine (toValS_any a l cap w5 (HL.out.below c5) hlen').mono ?_
  rintro e w6 ⟨rfl, v6, r6, b6⟩
  go_wp2_with fail
  refine (eqValS_any _ _ l l _ _ w6 (HV5.out.below b6).o v6.o (by omega) (by omega)).mono ?_
  rintro e w7 ⟨rfl, b7⟩
  rw [decide_eq_true rfl]
  have c7 := c5.trans ((b6.trans (b7.mono b6.size)).mono c5.size)
  clear v6 r6 b6 b7 c5
  go_wp2
  go_ret
  exact ⟨rfl, c7⟩
set_option maxHeartbeats 400000 in
theorem w_enough (a : Option Addr) (l : List V) (cap : Nat) (a' : Option Addr) (ids : List Int) (cap' : Nat) (w : World) (hl : VO w a l) (hlen : l.length ≤ 9223372036854775807) (hi : Nums w a' ids) (hleni : ids.length ≤ 9223372036854775807) :
    Calls Try.prog 6 #[.slice a l.length cap, .slice a' ids.length cap'] w fun e w' => e = .returned (.bool true) ∧ Below w.heap.size w w' := by
  have HL : Hid (VO w a l) := hl
  have HI : Hid (Nums w a' ids) := hi
  clear hl hi
  by_cases hbigi : (1048576 : Int) < (ids.length : Int)
  · go_enter Try.func6, Try.ntmps6
    go_wp2
    go_ret
    exact ⟨rfl, Below.refl _ _⟩
  by_cases hbig : (1048576 : Int) < (l.length : Int)
  · have kS := sz_any a l.length cap 1048576 w hlen (by omega) (by omega)
    rw [if_pos hbig] at kS
    go_enter Try.func6, Try.ntmps6
    go_wp2_with fail
    refine kS.mono ?_
    rintro e w1 ⟨rfl, rfl⟩
    go_wp2
    go_ret
    exact ⟨rfl, Below.refl _ _⟩
  have kS := sz_any a l.length cap 1048576 w hlen (by omega) (by omega)
  rw [if_neg hbig] at kS
  have hlen' : l.length ≤ 1048576 := by omega
  have hleni' : ids.length ≤ 1048576 := by omega
  have hz : ¬ (1048576 : Int) - (l.length : Int) < 0 := by omega
  go_enter Try.func6, Try.ntmps6
  go_wp2_with fail
  refine kS.mono ?_
  rintro e w1 ⟨rfl, rfl⟩
  go_wp2_with fail
  refine (toValS_any a l cap w1 HL.out hlen').mono ?_
  rintro e w2 ⟨rfl, v2, r2, b2⟩
  go_wp2_with fail
  refine (toIntS_any a' ids cap' w2 (HI.out.below b2) hleni').mono ?_
  rintro e w2' ⟨rfl, i2, b2'⟩
  go_wp2_with fail
  refine (spec_enough _ l _ _ ids _ w2' (v2.below b2').o i2.o (by omega) (by omega)).mono ?_
  rintro e w3 ⟨rfl, b3⟩
  have c3 := (b2.trans (b2'.mono b2.size)).trans (b3.mono (Nat.le_trans b2.size b2'.size))
  clear v2 r2 i2 b2 b2' b3
  go_wp2_with fail
  refine (toValS_any a l cap w3 (HL.out.below c3) hlen').mono ?_
  rintro e w4 ⟨rfl, v4, r4, b4⟩
  go_wp2_with fail
  refine (toIntS_any a' ids cap' w4 (HI.out.below (c3.trans (b4.mono c3.size))) hleni').mono ?_
  rintro e w4' ⟨rfl, i4, b4'⟩
  have v4' := v4.below b4'
  have c4 := c3.trans ((b4.trans (b4'.mono b4.size)).mono c3.size)
  clear v4 r4 b4 b4' c3
  go_wp2_with fail
  refine (impl_enough _ l _ _ ids _ w4' v4'.o i4.o (by omega) (by omega)).mono ?_
  rintro e w5 ⟨rfl, b5⟩
  generalize enough l ids = r
  have HV5 : Hid (VAt w5 w3.heap.size 0 l) := v4'.below b5
  have HI5 : Hid (IAt w5 w4.heap.size 0 ids) := i4.below b5
  have c5 := c4.trans (b5.mono c4.size)
  clear v4' i4 b5 c4
  go_wp2_with fail
  refine (toValS_any a l cap w5 (HL.out.below c5) hlen').mono ?_
  rintro e w6 ⟨rfl, v6, r6, b6⟩
  go_wp2_with fail
  refine (eqValS_any _ _ l l _ _ w6 (HV5.out.below b6).o v6.o (by omega) (by omega)).mono ?_
  rintro e w7 ⟨rfl, b7⟩
  rw [decide_eq_true rfl]
  have b67 := b6.trans (b7.mono b6.size)
  have HI7 : Hid (IAt w7 w4.heap.size 0 ids) := HI5.out.below b67
  have c7 := c5.trans (b67.mono c5.size)
  clear v6 r6 b6 b7 c5 b67 HV5 HI5
  go_wp2_with fail
  refine (toIntS_any a' ids cap' w7 (HI.out.below c7) hleni').mono ?_
  rintro e w8 ⟨rfl, i8, b8⟩
  go_wp2_with fail
  refine (eqIntS_same _ _ ids _ _ w8 (HI7.out.below b8).o i8.o (by omega)).mono ?_
  rintro e w9 ⟨rfl, b9⟩
  have c9 := c7.trans ((b8.trans (b9.mono b8.size)).mono c7.size)
  clear b8 b9 c7 i8
  go_wp2
  go_ret
  exact ⟨rfl, c9⟩
end Go.Proofs.Ytpieapinofojdaa
