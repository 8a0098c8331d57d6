/- What the two HeadId answer, and the walk of their exact law: it answers true, old memory stays. Conditions: texts that a machine can hold; the table of the hash lies where it was laid. -/
import Derived.Test.YtajfmjgaaapjeaaGreatDoorG8
import Derived.Test.YtajfmjgaaapjeaaGreatDoorIs
import Derived.Test.YtajfmjgaaapjeaaGreatDoorSho
namespace Go.Proofs.YtajfmjgaaapjeaaGreatDoor
open Go.RowKit
open Num
set_option linter.unusedVariables false
def headI (x : H) : ByteArray := bif hOk x then shortB (showH x) else ⟨#[]⟩
set_option maxHeartbeats 800000 in
set_option maxRecDepth 100000 in
theorem spec_headid (x : H) (w : World) :
    Calls Tryz.prog 11 #[hV x] w fun e w' => e = .returned (.string (headI x)) ∧ Below w.heap.size w w' := by
  have kO := fun W => spec_ok x W
  have kS := fun W => spec_show x W
  have hsz := showH_size x
  have HS : Hid (Six (w.alloc (.cells (hcs x) 27)) w.heap.size x) := six_new w x 27
  have HB : Hid (Below w.heap.size w (w.alloc (.cells (hcs x) 27))) := (Below.refl _ _).alloc (Nat.le_refl _) _
  have hz : w.heap.size < (w.alloc (.cells (hcs x) 27)).heap.size := by simp
  rcases hO : hOk x with _ | _
  · have HE : Hid (headI x = ⟨#[]⟩) := by show _ = _; unfold headI; rw [hO]; rfl
    generalize headI x = R at *
    rw [hO] at kO
    clear hO
    obtain ⟨h, t, a, v, n, d⟩ := x
    obtain ⟨x0, x1, x2, x3, x4, x5⟩ := HS.out
    unfold hV at *
    unfold hcs at *
    simp only at kO x0 x1 x2 x3 x4 x5 ⊢
    go_enter Tryz.func11, Tryz.ntmps11
    go_wp2_with fail
    refine (kO _).mono ?_
    rintro e w2 ⟨rfl, b2⟩
    go_wp2
    go_ret
    exact ⟨by rw [HE.out]; rfl, HB.out.trans (b2.mono HB.out.size)⟩
  · have HE : Hid (headI x = shortB (showH x)) := by show _ = _; unfold headI; rw [hO]; rfl
    generalize headI x = R at *
    generalize showH x = q at *
    rw [hO] at kO
    clear hO
    obtain ⟨h, t, a, v, n, d⟩ := x
    obtain ⟨x0, x1, x2, x3, x4, x5⟩ := HS.out
    unfold hV at *
    unfold hcs at *
    simp only at kO kS x0 x1 x2 x3 x4 x5 ⊢
    go_enter Tryz.func11, Tryz.ntmps11
    go_wp2_with fail
    generalize w.alloc (Obj.cells #[Value.int .i64 h, Value.int .i64 t, Value.string a, Value.string v, Value.string n, Value.string d] 27) = w1 at *
    refine (kO _).mono ?_
    rintro e w2 ⟨rfl, b2⟩
    have HB2 : Hid (Below w.heap.size w w2) := HB.out.trans (b2.mono HB.out.size)
    have HS2 : Hid (Six w2 w.heap.size ⟨h, t, a, v, n, d⟩) := HS.out.below b2 hz
    clear b2 x0 x1 x2 x3 x4 x5
    obtain ⟨x0, x1, x2, x3, x4, x5⟩ := HS2.out
    simp only at x0 x1 x2 x3 x4 x5
    go_wp2_with fail
    refine (kS _).mono ?_
    rintro e w4 ⟨rfl, b4⟩
    have HB4 : Hid (Below w.heap.size w w4) := HB2.out.trans (b4.mono HB2.out.size)
    clear b4 x0 x1 x2 x3 x4 x5
    go_wp2_with fail
    refine (spec_short _ w4 (by omega)).mono ?_
    rintro e w5 ⟨rfl, b5⟩
    have HB5 : Hid (Below w.heap.size w w5) := HB4.out.trans (b5.mono HB4.out.size)
    clear b5
    go_wp2
    go_ret
    exact ⟨by rw [HE.out]; rfl, HB5.out⟩
set_option maxHeartbeats 800000 in
set_option maxRecDepth 100000 in
theorem impl_headid (x : H) (w : World) (hT : Tab w) :
    Calls Tryz.prog 73 #[hV x] w fun e w' => e = .returned (.string (headI x)) ∧ Below w.heap.size w w' := by
  have kO := fun W => impl_ok x W
  have kS := fun W => impl_show x W
  have hsz := showH_size x
  have HT : Hid (Tab w) := hT
  clear hT
  have HS : Hid (Six (w.alloc (.cells (hcs x) 27)) w.heap.size x) := six_new w x 27
  have HB : Hid (Below w.heap.size w (w.alloc (.cells (hcs x) 27))) := (Below.refl _ _).alloc (Nat.le_refl _) _
  have hz : w.heap.size < (w.alloc (.cells (hcs x) 27)).heap.size := by simp
  rcases hO : hOk x with _ | _
  · have HE : Hid (headI x = ⟨#[]⟩) := by show _ = _; unfold headI; rw [hO]; rfl
    generalize headI x = R at *
    rw [hO] at kO
    clear hO
    obtain ⟨h, t, a, v, n, d⟩ := x
    obtain ⟨x0, x1, x2, x3, x4, x5⟩ := HS.out
    unfold hV at *
    unfold hcs at *
    simp only at kO x0 x1 x2 x3 x4 x5 ⊢
    go_enter Tryz.func73, Tryz.ntmps73
    go_wp2_with fail
    refine (kO _).mono ?_
    rintro e w2 ⟨rfl, b2⟩
    go_wp2
    go_ret
    exact ⟨by rw [HE.out]; rfl, HB.out.trans (b2.mono HB.out.size)⟩
  · have HE : Hid (headI x = shortB (showH x)) := by show _ = _; unfold headI; rw [hO]; rfl
    generalize headI x = R at *
    generalize showH x = q at *
    rw [hO] at kO
    clear hO
    obtain ⟨h, t, a, v, n, d⟩ := x
    obtain ⟨x0, x1, x2, x3, x4, x5⟩ := HS.out
    unfold hV at *
    unfold hcs at *
    simp only at kO kS x0 x1 x2 x3 x4 x5 ⊢
    go_enter Tryz.func73, Tryz.ntmps73
    go_wp2_with fail
    generalize w.alloc (Obj.cells #[Value.int .i64 h, Value.int .i64 t, Value.string a, Value.string v, Value.string n, Value.string d] 27) = w1 at *
    refine (kO _).mono ?_
    rintro e w2 ⟨rfl, b2⟩
    have HB2 : Hid (Below w.heap.size w w2) := HB.out.trans (b2.mono HB.out.size)
    have HS2 : Hid (Six w2 w.heap.size ⟨h, t, a, v, n, d⟩) := HS.out.below b2 hz
    clear b2 x0 x1 x2 x3 x4 x5
    obtain ⟨x0, x1, x2, x3, x4, x5⟩ := HS2.out
    simp only at x0 x1 x2 x3 x4 x5
    go_wp2_with fail
    refine (kS _).mono ?_
    rintro e w4 ⟨rfl, b4⟩
    have HB4 : Hid (Below w.heap.size w w4) := HB2.out.trans (b4.mono HB2.out.size)
    clear b4 x0 x1 x2 x3 x4 x5
    go_wp2_with fail
    refine (impl_short _ w4 (by omega) (HT.out.below HB4.out HT.out.pos)).mono ?_
    rintro e w5 ⟨rfl, b5⟩
    have HB5 : Hid (Below w.heap.size w w5) := HB4.out.trans (b5.mono HB4.out.size)
    clear b5
    go_wp2
    go_ret
    exact ⟨by rw [HE.out]; rfl, HB5.out⟩
end Go.Proofs.YtajfmjgaaapjeaaGreatDoor
