/- What the two ValsHash answer, and the walk of the exact law of ValsHash: it answers true; old memory stays. Conditions: rows that a machine can hold; the table. -/
import Derived.Test.YtajfmjgaaapjeaaGreatDoorSh
import Derived.Test.YtajfmjgaaapjeaaGreatDoorSho
import Derived.Test.YtajfmjgaaapjeaaGreatDoorLv
namespace Go.Proofs.YtajfmjgaaapjeaaGreatDoor
open Go.RowKit
open Num
set_option linter.unusedVariables false
/-- The hash of validators; nothing where they are not right. -/
def hashV (l : List V) : ByteArray := bif vOk l then shortB (showV l) else ⟨#[]⟩
set_option maxHeartbeats 400000 in
set_option maxRecDepth 100000 in
theorem impl_vhash (a : Option Addr) (l : List V) (cap : Nat) (w : World) (hl : VO w a l) (hlen : l.length ≤ 9223372036854775807) (hT : Tab w) :
    Calls Tryz.prog 74 #[.slice a l.length cap] w fun e w' => e = .returned (.string (hashV l)) ∧ Below w.heap.size w w' := by
  have kO := impl_okV a l cap w hl hlen
  have HL : Hid (VO w a l) := hl
  have HT : Hid (Tab w) := hT
  have hsz := showV_size l
  clear hl hT
  rcases hO : vOk l with _ | _
  · have HE : Hid (hashV l = ⟨#[]⟩) := by show _ = _; unfold hashV; rw [hO]; rfl
    rw [hO] at kO
    clear hO
    go_enter Tryz.func74, Tryz.ntmps74
    go_wp2_with fail
    refine kO.mono ?_
    rintro e w1 ⟨rfl, hb1⟩
    go_wp2
    go_ret
    exact ⟨by rw [HE.out]; rfl, hb1⟩
  · have HE : Hid (hashV l = shortB (showV l)) := by show _ = _; unfold hashV; rw [hO]; rfl
    rw [hO] at kO
    clear hO
    go_enter Tryz.func74, Tryz.ntmps74
    go_wp2_with fail
    refine kO.mono ?_
    rintro e w1 ⟨rfl, hb1⟩
    go_wp2_with fail
    refine (impl_showV a l cap w1 (HL.out.below hb1) hlen).mono ?_
    rintro e w2 ⟨rfl, hb2⟩
    have hb3 := hb1.trans (hb2.mono hb1.size)
    clear hb1 hb2
    go_wp2_with fail
    refine (impl_short _ w2 (by omega) (HT.out.below hb3 HT.out.pos)).mono ?_
    rintro e w3 ⟨rfl, hb4⟩
    have hb5 := hb3.trans (hb4.mono hb3.size)
    go_wp2
    go_ret
    exact ⟨by rw [HE.out]; rfl, hb5⟩
set_option maxHeartbeats 400000 in
set_option maxRecDepth 100000 in
theorem spec_vhash (a : Option Addr) (l : List V) (cap : Nat) (w : World) (hl : VO w a l) (hlen : l.length ≤ 9223372036854775807) :
    Calls Tryz.prog 48 #[.slice a l.length cap] w fun e w' => e = .returned (.string (hashV l)) ∧ Below w.heap.size w w' := by
  have kO := spec_okV a l cap w hl hlen
  have HL : Hid (VO w a l) := hl
  have hsz := showV_size l
  clear hl
  rcases hO : vOk l with _ | _
  · have HE : Hid (hashV l = ⟨#[]⟩) := by show _ = _; unfold hashV; rw [hO]; rfl
    rw [hO] at kO
    clear hO
    go_enter Tryz.func48, Tryz.ntmps48
    go_wp2_with fail
    refine kO.mono ?_
    rintro e w1 ⟨rfl, hb1⟩
    go_wp2
    go_ret
    exact ⟨by rw [HE.out]; rfl, hb1⟩
  · have HE : Hid (hashV l = shortB (showV l)) := by show _ = _; unfold hashV; rw [hO]; rfl
    rw [hO] at kO
    clear hO
    go_enter Tryz.func48, Tryz.ntmps48
    go_wp2_with fail
    refine kO.mono ?_
    rintro e w1 ⟨rfl, hb1⟩
    go_wp2_with fail
    refine (spec_showV a l cap w1 (HL.out.below hb1) hlen).mono ?_
    rintro e w2 ⟨rfl, hb2⟩
    have hb3 := hb1.trans (hb2.mono hb1.size)
    clear hb1 hb2
    go_wp2_with fail
    refine (spec_short _ w2 (by omega)).mono ?_
    rintro e w3 ⟨rfl, hb4⟩
    have hb5 := hb3.trans (hb4.mono hb3.size)
    go_wp2
    go_ret
    exact ⟨by rw [HE.out]; rfl, hb5⟩
end Go.Proofs.YtajfmjgaaapjeaaGreatDoor
