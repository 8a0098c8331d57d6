/- The walk of the exact law of ReadVals: it answers true, old memory stays. Conditions: a text that a machine can hold. -/
import Derived.Test.YtpieapinofojdaaRd2
import Derived.Test.YtpieapinofojdaaMh
import Derived.Test.YtpieapinofojdaaLv
namespace Go.Proofs.Ytpieapinofojdaa
open Go.RowKit
open Num
set_option linter.unusedVariables false
set_option maxHeartbeats 800000 in
theorem w_read (s : ByteArray) (w : World) (hs : s.size ≤ maxLen) :
    Calls Try.prog 10 #[.string s] w fun e w' => e = .returned (.bool true) ∧ Below w.heap.size w w' := by
  unfold maxLen at hs
  by_cases hbig : (1048576 : Int) < (s.size : Int)
  · go_enter Try.func10, Try.ntmps10
    go_wp2
    go_ret
    exact ⟨rfl, Below.refl _ _⟩
  have hs' : s.size ≤ 1099511627776 := by omega
  have h7 := readV_len s
  have kS := spec_read s w hs'
  have kI := fun W => impl_read s W hs'
  generalize (readV s).1 = l at *
  generalize (readV s).2 = t at *
  go_enter Try.func10, Try.ntmps10
  go_wp2_with fail
  refine kS.mono ?_
  rintro e w1 ⟨v1, rfl, o1, b1⟩
  obtain ⟨a1, cap1, rfl, f1, _, _⟩ := OwnV.fr o1
  have HF1 : Hid (VO w1 a1 l) := f1.o
  clear f1 o1
  go_wp2_with fail
  refine (kI _).mono ?_
  rintro e w2 ⟨v2, rfl, o2, b2⟩
  obtain ⟨a2, cap2, rfl, f2, _, _⟩ := OwnV.fr o2
  have HF2 : Hid (FrV w2 w1.heap.size a2 l) := f2
  clear f2 o2
  go_wp2_with fail
  refine (eqValS_any a2 a1 l l cap2 cap1 w2 HF2.out.o (HF1.out.below b2) (by omega) (by omega)).mono ?_
  rintro e w3 ⟨rfl, b3⟩
  rw [decide_eq_true rfl]
  have b23 := b2.trans (b3.mono b2.size)
  have HF3 : Hid (FrV w3 w1.heap.size a2 l) := HF2.out.below b3
  clear HF2 b2 b3
  go_wp2_with fail
  refine (mark_fr a2 cap2 l 1 w1.heap.size w3 HF3.out (by omega) (by omega)).mono ?_
  rintro e w4 ⟨rfl, f4, g, hg, hgr⟩
  have b4 : Below w1.heap.size w1 w4 := b23.grown hgr b23.size (fun k e => by injection e; omega)
  have HF4 : Hid (FrV w4 w1.heap.size a2 (marks 1 l.length)) := f4
  clear f4 hgr HF3 b23
  go_wp2_with fail
  refine (held_any a2 cap2 l.length 1 w4 HF4.out.o (by omega) (by omega)).mono ?_
  rintro e w5 ⟨rfl, rfl⟩
  go_wp2_with fail
  refine (kI _).mono ?_
  rintro e w6 ⟨v6, rfl, o6, b6⟩
  obtain ⟨a6, cap6, rfl, f6, _, _⟩ := OwnV.fr o6
  have HF6 : Hid (VO w6 a6 l) := f6.o
  have HG6 : Hid (FrV w6 w1.heap.size a2 (marks 1 l.length)) := HF4.out.below b6
  have c6 := b4.trans (b6.mono b4.size)
  clear f6 o6 HF4 b4 b6
  go_wp2_with fail
  refine (eqValS_any a6 a1 l l cap6 cap1 w6 HF6.out (HF1.out.below c6) (by omega) (by omega)).mono ?_
  rintro e w7 ⟨rfl, b7⟩
  rw [decide_eq_true rfl]
  have HG7 : Hid (FrV w7 w1.heap.size a2 (marks 1 l.length)) := HG6.out.below b7
  have c7 := b1.trans ((c6.trans (b7.mono c6.size)).mono b1.size)
  clear HG6 c6 b7 b1
  go_wp2_with fail
  refine (held_any a2 cap2 l.length 1 w7 HG7.out.o (by omega) (by omega)).mono ?_
  rintro e w8 ⟨rfl, rfl⟩
  go_wp2
  go_ret
  exact ⟨rfl, c7⟩
end Go.Proofs.Ytpieapinofojdaa
