/- What the two Signed answer; old memory stays. Conditions: the table. -/
import Derived.Test.YtclajbadeclbdaaDoorSg
import Derived.Test.YtclajbadeclbdaaDoorVg
import Derived.Test.YtclajbadeclbdaaDoorBk
import Derived.Deep.RegionHeld3
import Derived.Deep.RegionWith
namespace Go.Proofs.YtclajbadeclbdaaDoor
open Go.RowKit
open Num
set_option linter.unusedVariables false
/-- Is a text a vote's signature? -/
def sdB (x : Vt) (t : ByteArray) : Bool := voB x && decide (t = sgn x.v (dig x))
set_option maxRecDepth 100000 in
theorem sd_no {x : Vt} {t : ByteArray} (h : voB x = false) : sdB x t = false := by unfold sdB; rw [h]; rfl
set_option maxRecDepth 100000 in
theorem sd_yes {x : Vt} {t : ByteArray} (h : voB x = true) : sdB x t = decide (t = sgn x.v (dig x)) := by unfold sdB; rw [h]; rfl
set_option maxRecDepth 100000 in
set_option maxHeartbeats 1600000 in
theorem spec_sd (x : Vt) (t : ByteArray) (w : World) :
    Calls Tryd.prog 38 #[tV x, .string t] w fun e w' => e = .returned (.bool (sdB x t)) ∧ Below w.heap.size w w' := by
  have kO := fun W => spec_vok x W
  have kD := fun W => spec_dig x W
  have kG := fun W => spec_sgn x.v (dig x) W (by have := dig_size x; omega)
  have HS : Hid (Five (w.alloc (.cells (tcs x) 30)) w.heap.size x) := five_new w x 30
  have HB : Hid (Below w.heap.size w (w.alloc (.cells (tcs x) 30))) := (Below.refl _ _).alloc (Nat.le_refl _) _
  have hne := bel_some (w.alloc (.cells (tcs x) 30))
  rcases hO : voB x with _ | _
  · rw [sd_no hO]
    rw [hO] at kO
    clear hO kG kD
    obtain ⟨h, r, s, i, v⟩ := x
    obtain ⟨x0, x1, x2, x3, x4⟩ := HS.out
    unfold tV at *
    unfold tcs at *
    simp only at kO x0 x1 x2 x3 x4 ⊢
    go_enter Tryd.func38, Tryd.ntmps38
    go_wp2_with fail
    generalize w.alloc (Obj.cells #[Value.int .i64 h, Value.int .i64 r, Value.int .i64 s, Value.string i, Value.int .i64 v] 30) = w1 at *
    have c0 := fun p : Bel w1 => p.cell x0
    have c1 := fun p : Bel w1 => p.cell x1
    have c2 := fun p : Bel w1 => p.cell x2
    have c3 := fun p : Bel w1 => p.cell x3
    have c4 := fun p : Bel w1 => p.cell x4
    clear x0 x1 x2 x3 x4
    refine wp_region_below (by kernel_rfl) (by kernel_rfl) ?_
    repeat (go_big_quiet_step ((go_at_call 53; exact bel_of (kO _))))
    refine wpQuiet_nil ?_
    intro _ hw'
    obtain ⟨pq, hw''⟩ := hw'
    subst hw''
    have HB3 : Hid (Below w.heap.size w pq.W) := HB.out.trans (pq.h.mono HB.out.size)
    go_wp2
    go_ret
    exact ⟨rfl, HB3.out⟩
  · have HE : Hid (sdB x t = decide (t = sgn x.v (dig x))) := sd_yes hO
    generalize sdB x t = R at *
    generalize sgn x.v (dig x) = G at *
    generalize dig x = D at *
    rw [hO] at kO
    clear hO
    obtain ⟨h, r, s, i, v⟩ := x
    obtain ⟨x0, x1, x2, x3, x4⟩ := HS.out
    unfold tV at *
    unfold tcs at *
    simp only at kO kD kG x0 x1 x2 x3 x4 ⊢
    go_enter Tryd.func38, Tryd.ntmps38
    go_wp2_with fail
    generalize w.alloc (Obj.cells #[Value.int .i64 h, Value.int .i64 r, Value.int .i64 s, Value.string i, Value.int .i64 v] 30) = w1 at *
    have c0 := fun p : Bel w1 => p.cell x0
    have c1 := fun p : Bel w1 => p.cell x1
    have c2 := fun p : Bel w1 => p.cell x2
    have c3 := fun p : Bel w1 => p.cell x3
    have c4 := fun p : Bel w1 => p.cell x4
    clear x0 x1 x2 x3 x4
    refine wp_region_below (by kernel_rfl) (by kernel_rfl) ?_
    repeat (go_big_quiet_step (first | (go_at_call 53; exact bel_of (kO _)) | (go_at_call 55; exact bel_of (kD _)) | (go_at_call 54; exact bel_of (kG _))))
    refine wpQuiet_nil ?_
    intro _ hw'
    obtain ⟨pq, hw''⟩ := hw'
    subst hw''
    have HB3 : Hid (Below w.heap.size w pq.W) := HB.out.trans (pq.h.mono HB.out.size)
    go_wp2
    go_ret
    exact ⟨by rw [HE.out, ← beq_str]; rfl, HB3.out⟩
end Go.Proofs.YtclajbadeclbdaaDoor
