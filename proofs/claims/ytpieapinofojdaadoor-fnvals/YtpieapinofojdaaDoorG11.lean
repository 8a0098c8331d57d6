/- What impl.Short and spec.Short answer: the first eight bytes of a text's hash; old memory stays. Conditions: texts of at most 2 to the 40 bytes; the table. What the two ValsHash answer, and the walk of the exact law of ValsHash: it answers true; old memory stays. Conditions: rows that a machine can hold; the table. -/
import Derived.Test.YtpieapinofojdaaDoorIsf
import Derived.Test.YtpieapinofojdaaDoorSha3
import Derived.Test.YtpieapinofojdaaDoorSh
import Derived.Test.YtpieapinofojdaaDoorG5
namespace Go.Proofs.YtpieapinofojdaaDoor
open Go.RowKit
open Num
set_option linter.unusedVariables false
/-- The first eight bytes of a text's hash. -/
def shortB (x : ByteArray) : ByteArray := ⟨((shal x.data.toList).take 8).toArray⟩
theorem size_shortB (x : ByteArray) : (shortB x).size = 8 := by
  show ((shal x.data.toList).take 8).toArray.size = 8
  rw [List.size_toArray, List.length_take, length_shal]; rfl
theorem impl_short (s : ByteArray) (w : World) (hs : s.size ≤ 1099511627776) (hT : Tab w) :
    Calls Tryd.prog 39 #[.string s] w fun e w' => e = .returned (.string (shortB s)) ∧ Below w.heap.size w w' := by
  obtain ⟨S, hS⟩ : ∃ S : ByteArray, S = ⟨(shal s.data.toList).toArray⟩ := ⟨_, rfl⟩
  have h32 : S.size = 32 := by rw [hS]; show (shal s.data.toList).toArray.size = 32; rw [List.size_toArray, length_shal]
  have h8 : (8 : Int) ≤ (S.size : Int) := by omega
  have HX : Hid (S.extract 0 8 = shortB s) := by
    show _ = _
    rw [hS]
    apply ByteArray.ext
    apply Array.ext'
    simp [ByteArray.data_extract, List.extract, shortB]
  have HS : Hid (S = ⟨(shal s.data.toList).toArray⟩) := hS
  have H32 : Hid (S.size = 32) := h32
  have HT : Hid (Tab w) := hT
  clear hS h32 hT
  go_enter Tryd.func39, Tryd.ntmps39
  go_wp2_with fail
  refine (impl_sha s w hs HT.out).mono ?_
  rintro e w1 ⟨rfl, hb⟩
  rw [← HS.out]
  go_wp2
  go_ret
  exact ⟨by rw [← HX.out]; rfl, hb⟩
theorem spec_short (s : ByteArray) (w : World) (hs : s.size ≤ 1099511627776) :
    Calls Tryd.prog 40 #[.string s] w fun e w' => e = .returned (.string (shortB s)) ∧ Below w.heap.size w w' := by
  obtain ⟨S, hS⟩ : ∃ S : ByteArray, S = ⟨(shal s.data.toList).toArray⟩ := ⟨_, rfl⟩
  have h32 : S.size = 32 := by rw [hS]; show (shal s.data.toList).toArray.size = 32; rw [List.size_toArray, length_shal]
  have h8 : (8 : Int) ≤ (S.size : Int) := by omega
  have HX : Hid (S.extract 0 8 = shortB s) := by
    show _ = _
    rw [hS]
    apply ByteArray.ext
    apply Array.ext'
    simp [ByteArray.data_extract, List.extract, shortB]
  have HS : Hid (S = ⟨(shal s.data.toList).toArray⟩) := hS
  have H32 : Hid (S.size = 32) := h32
  clear hS h32
  go_enter Tryd.func40, Tryd.ntmps40
  go_wp2_with fail
  refine (spec_sha s w hs).mono ?_
  rintro e w1 ⟨rfl, hb⟩
  rw [← HS.out]
  go_wp2
  go_ret
  exact ⟨by rw [← HX.out]; rfl, hb⟩
end Go.Proofs.YtpieapinofojdaaDoor
namespace Go.Proofs.YtpieapinofojdaaDoor
open Go.RowKit
open Num
set_option linter.unusedVariables false
/-- The hash of validators; nothing where they are not right. -/
def hashV (l : List V) : ByteArray := bif vOk l then shortB (showV l) else ⟨#[]⟩
set_option maxHeartbeats 400000 in
theorem impl_vhash (a : Option Addr) (l : List V) (cap : Nat) (w : World) (hl : VO w a l) (hlen : l.length ≤ 9223372036854775807) (hT : Tab w) :
    Calls Tryd.prog 18 #[.slice a l.length cap] w fun e w' => e = .returned (.string (hashV l)) ∧ Below w.heap.size w w' := by
  have kO := impl_ok a l cap w hl hlen
  have HL : Hid (VO w a l) := hl
  have HT : Hid (Tab w) := hT
  have hsz := showV_size l
  clear hl hT
  rcases hO : vOk l with _ | _
  · have HE : Hid (hashV l = ⟨#[]⟩) := by show _ = _; unfold hashV; rw [hO]; rfl
    rw [hO] at kO
    clear hO
    go_enter Tryd.func18, Tryd.ntmps18
    go_wp2_with fail
    refine kO.mono ?_
    rintro e w1 ⟨rfl, hb1⟩
    go_wp2
    go_ret
    exact ⟨by rw [HE.out]; rfl, hb1⟩
  · have HE : Hid (hashV l = shortB (showV l)) := by show _ = _; unfold hashV; rw [hO]; rfl
    rw [hO] at kO
    clear hO
    go_enter Tryd.func18, Tryd.ntmps18
    go_wp2_with fail
    refine kO.mono ?_
    rintro e w1 ⟨rfl, hb1⟩
    go_wp2_with fail
    refine (impl_show a l cap w1 (HL.out.below hb1) hlen).mono ?_
    rintro e w2 ⟨rfl, hb2⟩
    have hb3 := hb1.trans (hb2.mono hb1.size)
    clear hb1 hb2
    go_wp2_with fail
    refine (impl_short _ w2 (by omega) (HT.out.below hb3 HT.out.pos)).mono ?_
    rintro e w3 ⟨rfl, hb4⟩
    have hb5 := hb3.trans (hb4.mono hb3.size)
    go_wp2
    go_ret
    exact ⟨by rw [HE.out]; rfl, hb5⟩
set_option maxHeartbeats 400000 in
theorem spec_vhash (a : Option Addr) (l : List V) (cap : Nat) (w : World) (hl : VO w a l) (hlen : l.length ≤ 9223372036854775807) :
    Calls Tryd.prog 20 #[.slice a l.length cap] w fun e w' => e = .returned (.string (hashV l)) ∧ Below w.heap.size w w' := by
  have kO := spec_ok a l cap w hl hlen
  have HL : Hid (VO w a l) := hl
  have hsz := showV_size l
  clear hl
  rcases hO : vOk l with _ | _
  · have HE : Hid (hashV l = ⟨#[]⟩) := by show _ = _; unfold hashV; rw [hO]; rfl
    rw [hO] at kO
    clear hO
    go_enter Tryd.func20, Tryd.ntmps20
    go_wp2_with fail
    refine kO.mono ?_
    rintro e w1 ⟨rfl, hb1⟩
    go_wp2
    go_ret
    exact ⟨by rw [HE.out]; rfl, hb1⟩
  · have HE : Hid (hashV l = shortB (showV l)) := by show _ = _; unfold hashV; rw [hO]; rfl
    rw [hO] at kO
    clear hO
    go_enter Tryd.func20, Tryd.ntmps20
    go_wp2_with fail
    refine kO.mono ?_
    rintro e w1 ⟨rfl, hb1⟩
    go_wp2_with fail
    refine (spec_show a l cap w1 (HL.out.below hb1) hlen).mono ?_
    rintro e w2 ⟨rfl, hb2⟩
    have hb3 := hb1.trans (hb2.mono hb1.size)
    clear hb1 hb2
    go_wp2_with fail
    refine (spec_short _ w2 (by omega)).mono ?_
    rintro e w3 ⟨rfl, hb4⟩
    have hb5 := hb3.trans (hb4.mono hb3.size)
    go_wp2
    go_ret
    exact ⟨by rw [HE.out]; rfl, hb5⟩
set_option maxHeartbeats 400000 in
theorem w_vhash (a : Option Addr) (l : List V) (cap : Nat) (w : World) (hl : VO w a l) (hlen : l.length ≤ 9223372036854775807) (hT : Tab w) :
    Calls Tryd.prog 4 #[.slice a l.length cap] w fun e w' => e = .returned (.bool true) ∧ Below w.heap.size w w' := by
  have HL : Hid (VO w a l) := hl
  have HT : Hid (Tab w) := hT
  clear hl hT
  by_cases hbig : (1048576 : Int) < (l.length : Int)
  · have kS := sz_any a l.length cap 1048576 w hlen (by omega) (by omega)
    rw [if_pos hbig] at kS
    go_enter Tryd.func4, Tryd.ntmps4
    go_wp2_with fail
    refine kS.mono ?_
    rintro e w1 ⟨rfl, rfl⟩
    go_wp2
    go_ret
    exact ⟨rfl, Below.refl _ _⟩
  have kS := sz_any a l.length cap 1048576 w hlen (by omega) (by omega)
  rw [if_neg hbig] at kS
  have hlen' : l.length ≤ 1048576 := by omega
  have hz : ¬ (1048576 : Int) - (l.length : Int) < 0 := by omega
  go_enter Tryd.func4, Tryd.ntmps4
  go_wp2_with fail
  refine kS.mono ?_
  rintro e w1 ⟨rfl, rfl⟩
  go_wp2_with fail
  refine (toValS_any a l cap w1 HL.out hlen').mono ?_
  rintro e w2 ⟨rfl, v2, r2, b2⟩
  go_wp2_with fail
  refine (spec_vhash _ l _ w2 v2.o (by omega)).mono ?_
  rintro e w3 ⟨rfl, b3⟩
  have c3 := b2.trans (b3.mono b2.size)
  clear v2 r2 b2 b3 w2
  go_wp2_with fail
  refine (toValS_any a l cap w3 (HL.out.below c3) hlen').mono ?_
  rintro e w4 ⟨rfl, v4, r4, b4⟩
  go_wp2_with fail
  refine (impl_vhash _ l _ w4 v4.o (by omega) (HT.out.below (c3.trans (b4.mono c3.size)) HT.out.pos)).mono ?_
  rintro e w5 ⟨rfl, b5⟩
  generalize hashV l = r
  have v5 := v4.below b5
  have c5 := c3.trans ((b4.trans (b5.mono b4.size)).mono c3.size)
  clear v4 r4 b4 b5 c3
  have HV5 : Hid (VAt w5 w3.heap.size 0 l) := v5
  clear v5
  go_wp2_with fail
  refine (toValS_any a l cap w5 (HL.out.below c5) hlen').mono ?_
  rintro e w6 ⟨rfl, v6, r6, b6⟩
  go_wp2_with fail
  refine (eqValS_any _ _ l l _ _ w6 (HV5.out.below b6).o v6.o (by omega) (by omega)).mono ?_
  rintro e w7 ⟨rfl, b7⟩
  rw [decide_eq_true rfl]
  have c7 := c5.trans ((b6.trans (b7.mono b6.size)).mono c5.size)
  clear v6 r6 b6 b7 c5
  go_wp2
  go_ret
  exact ⟨rfl, c7⟩
end Go.Proofs.YtpieapinofojdaaDoor
