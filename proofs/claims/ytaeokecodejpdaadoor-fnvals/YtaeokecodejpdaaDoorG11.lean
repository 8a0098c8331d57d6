/- What impl.Short and spec.Short answer: the first eight bytes of a text's hash; old memory stays. Conditions: texts of at most 2 to the 40 bytes; the table. What the two ValsHash answer, and the walk of the exact law of ValsHash: it answers true; old memory stays. Conditions: rows that a machine can hold; the table. -/
import Derived.Test.YtaeokecodejpdaaDoorIsf
import Derived.Test.YtaeokecodejpdaaDoorSha3
import Derived.Test.YtaeokecodejpdaaDoorSh
import Derived.Test.YtaeokecodejpdaaDoorG5
namespace Go.Proofs.YtaeokecodejpdaaDoor
open Go.RowKit
open Num
set_option linter.unusedVariables false
/-- The first eight bytes of a text's hash. -/
def shortB (x : ByteArray) : ByteArray := ⟨((shal x.data.toList).take 8).toArray⟩
theorem size_shortB (x : ByteArray) : (shortB x).size = 8 := by
  show ((shal x.data.toList).take 8).toArray.size = 8
  rw [List.size_toArray, List.length_take, length_shal]; rfl
theorem impl_short (s : ByteArray) (w : World) (hs : s.size ≤ 1099511627776) (hT : Tab w) :
    Calls Tryd.prog 35 #[.string s] w fun e w' => e = .returned (.string (shortB s)) ∧ Below w.heap.size w w' := by
  obtain ⟨S, hS⟩ : ∃ S : ByteArray, S = ⟨(shal s.data.toList).toArray⟩ := ⟨_, rfl⟩
  have h32 : S.size = 32 := by rw [hS]; show (shal s.data.toList).toArray.size = 32; rw [List.size_toArray, length_shal]
  have h8 : (8 : Int) ≤ (S.size : Int) := by omega
  have HX : Hid (S.extract 0 8 = shortB s) := by
    show _ = _
    rw [hS]
    apply ByteArray.ext
    apply Array.ext'
    simp [ByteArray.data_extract, List.extract, shortB]
  have HS : Hid (S = ⟨(shal s.data.toList).toArray⟩) := hS
  have H32 : Hid (S.size = 32) := h32
  have HT : Hid (Tab w) := hT
  clear hS h32 hT
  go_enter Tryd.func35, Tryd.ntmps35
  go_wp2_with fail
  refine (impl_sha s w hs HT.out).mono ?_
  rintro e w1 ⟨rfl, hb⟩
  rw [← HS.out]
  go_wp2
  go_ret
  exact ⟨by rw [← HX.out]; rfl, hb⟩
end Go.Proofs.YtaeokecodejpdaaDoor
namespace Go.Proofs.YtaeokecodejpdaaDoor
open Go.RowKit
open Num
set_option linter.unusedVariables false
/-- The hash of validators; nothing where they are not right. -/
def hashV (l : List V) : ByteArray := bif vOk l then shortB (showV l) else ⟨#[]⟩
set_option maxHeartbeats 400000 in
theorem impl_vhash (a : Option Addr) (l : List V) (cap : Nat) (w : World) (hl : VO w a l) (hlen : l.length ≤ 9223372036854775807) (hT : Tab w) :
    Calls Tryd.prog 17 #[.slice a l.length cap] w fun e w' => e = .returned (.string (hashV l)) ∧ Below w.heap.size w w' := by
  have kO := impl_ok a l cap w hl hlen
  have HL : Hid (VO w a l) := hl
  have HT : Hid (Tab w) := hT
  have hsz := showV_size l
  clear hl hT
  rcases hO : vOk l with _ | _
  · have HE : Hid (hashV l = ⟨#[]⟩) := by show _ = _; unfold hashV; rw [hO]; rfl
    rw [hO] at kO
    clear hO
    go_enter Tryd.func17, Tryd.ntmps17
    go_wp2_with fail
    refine kO.mono ?_
    rintro e w1 ⟨rfl, hb1⟩
    go_wp2
    go_ret
    exact ⟨by rw [HE.out]; rfl, hb1⟩
  · have HE : Hid (hashV l = shortB (showV l)) := by show _ = _; unfold hashV; rw [hO]; rfl
    rw [hO] at kO
    clear hO
    go_enter Tryd.func17, Tryd.ntmps17
    go_wp2_with fail
    refine kO.mono ?_
    rintro e w1 ⟨rfl, hb1⟩
    go_wp2_with fail
    refine (impl_show a l cap w1 (HL.out.below hb1) hlen).mono ?_
    rintro e w2 ⟨rfl, hb2⟩
    have hb3 := hb1.trans (hb2.mono hb1.size)
    clear hb1 hb2
    go_wp2_with fail
    refine (impl_short _ w2 (by omega) (HT.out.below hb3 HT.out.pos)).mono ?_
    rintro e w3 ⟨rfl, hb4⟩
    have hb5 := hb3.trans (hb4.mono hb3.size)
    go_wp2
    go_ret
    exact ⟨by rw [HE.out]; rfl, hb5⟩
end Go.Proofs.YtaeokecodejpdaaDoor
