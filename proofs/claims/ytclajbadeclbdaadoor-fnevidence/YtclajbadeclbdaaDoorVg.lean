/- What the two Digest answer; old memory stays. Conditions: none of ours. -/
import Derived.Test.YtclajbadeclbdaaDoorVo
import Derived.Test.YtclajbadeclbdaaDoorBe
import Derived.Test.YtclajbadeclbdaaDoorVar
namespace Go.Proofs.YtclajbadeclbdaaDoor
open Go.RowKit
open Num
set_option linter.unusedVariables false
set_option maxRecDepth 100000 in
set_option maxHeartbeats 1600000 in
theorem spec_dig (x : Vt) (w : World) :
    Calls Tryd.prog 55 #[tV x] w fun e w' => e = .returned (.string (dig x)) ∧ Below w.heap.size w w' := by
  have kO := fun W => spec_vok x W
  have HS : Hid (Five (w.alloc (.cells (tcs x) 30)) w.heap.size x) := five_new w x 30
  have HB : Hid (Below w.heap.size w (w.alloc (.cells (tcs x) 30))) := (Below.refl _ _).alloc (Nat.le_refl _) _
  have hz : w.heap.size < (w.alloc (.cells (tcs x) 30)).heap.size := by simp
  rcases hO : voB x with _ | _
  · rw [dig_no hO]
    rw [hO] at kO
    clear hO
    obtain ⟨h, r, s, i, v⟩ := x
    obtain ⟨x0, x1, x2, x3, x4⟩ := HS.out
    unfold tV at *
    unfold tcs at *
    simp only at kO x0 x1 x2 x3 x4 ⊢
    go_enter Tryd.func55, Tryd.ntmps55
    go_wp2_with fail
    refine (kO _).mono ?_
    rintro e w2 ⟨rfl, b2⟩
    go_wp2
    go_ret
    exact ⟨rfl, HB.out.trans (b2.mono HB.out.size)⟩
  · rw [dig_yes hO]
    rw [hO] at kO
    have hi := voB_size hO
    clear hO
    obtain ⟨h, r, s, i, v⟩ := x
    simp only at hi
    have HE : Hid (digB ⟨h, r, s, i, v⟩ = var h ++ var r ++ var s ++ i) := rfl
    generalize digB ⟨h, r, s, i, v⟩ = R at *
    have z1 := var_size h
    have z2 := var_size r
    have z3 := var_size s
    have e2 := ByteArray.size_append (a := var h) (b := var r)
    have e3 := ByteArray.size_append (a := var h ++ var r) (b := var s)
    have m2 : ¬ 9223372036854775807 < (var h).size + (var r).size := by omega
    have m3 : ¬ 9223372036854775807 < (var h ++ var r).size + (var s).size := by omega
    have m4 : ¬ 9223372036854775807 < (var h ++ var r ++ var s).size + i.size := by omega
    clear z1 z2 z3 e2 e3 hi
    obtain ⟨x0, x1, x2, x3, x4⟩ := HS.out
    unfold tV at *
    unfold tcs at *
    simp only at kO x0 x1 x2 x3 x4 ⊢
    go_enter Tryd.func55, Tryd.ntmps55
    go_wp2_with fail
    generalize w.alloc (Obj.cells #[Value.int .i64 h, Value.int .i64 r, Value.int .i64 s, Value.string i, Value.int .i64 v] 30) = w1 at *
    refine (kO _).mono ?_
    rintro e w2 ⟨rfl, b2⟩
    have HB2 : Hid (Below w1.heap.size w1 w2) := b2
    clear b2 x0 x1 x2 x3 x4 kO
    obtain ⟨x0, x1, x2, x3, x4⟩ := HS.out.below HB2.out hz
    simp only at x0 x1 x2 x3 x4
    have hne := bel_some w2
    have c0 := fun p : Bel w2 => p.cell x0
    have c1 := fun p : Bel w2 => p.cell x1
    have c2 := fun p : Bel w2 => p.cell x2
    have c3 := fun p : Bel w2 => p.cell x3
    clear x0 x1 x2 x3 x4
    go_wp2_with fail
    refine wp_region_below (by kernel_rfl) (by kernel_rfl) ?_
    repeat (go_big_quiet_step ((go_at_call 81; exact bel_of (spec_var _ _))))
    refine wpQuiet_nil ?_
    intro _ hw'
    obtain ⟨pq, hw''⟩ := hw'
    subst hw''
    have HB3 : Hid (Below w1.heap.size w1 pq.W) := HB2.out.trans (pq.h.mono HB2.out.size)
    go_wp2
    go_ret
    exact ⟨by rw [HE.out]; rfl, HB.out.trans (HB3.out.mono HB.out.size)⟩
set_option maxRecDepth 100000 in
set_option maxHeartbeats 1600000 in
theorem impl_dig (x : Vt) (w : World) :
    Calls Tryd.prog 100 #[tV x] w fun e w' => e = .returned (.string (dig x)) ∧ Below w.heap.size w w' := by
  have kO := fun W => impl_vok x W
  have HS : Hid (Five (w.alloc (.cells (tcs x) 30)) w.heap.size x) := five_new w x 30
  have HB : Hid (Below w.heap.size w (w.alloc (.cells (tcs x) 30))) := (Below.refl _ _).alloc (Nat.le_refl _) _
  have hz : w.heap.size < (w.alloc (.cells (tcs x) 30)).heap.size := by simp
  rcases hO : voB x with _ | _
  · rw [dig_no hO]
    rw [hO] at kO
    clear hO
    obtain ⟨h, r, s, i, v⟩ := x
    obtain ⟨x0, x1, x2, x3, x4⟩ := HS.out
    unfold tV at *
    unfold tcs at *
    simp only at kO x0 x1 x2 x3 x4 ⊢
    go_enter Tryd.func100, Tryd.ntmps100
    go_wp2_with fail
    refine (kO _).mono ?_
    rintro e w2 ⟨rfl, b2⟩
    go_wp2
    go_ret
    exact ⟨rfl, HB.out.trans (b2.mono HB.out.size)⟩
  · rw [dig_yes hO]
    rw [hO] at kO
    have hi := voB_size hO
    clear hO
    obtain ⟨h, r, s, i, v⟩ := x
    simp only at hi
    have HE : Hid (digB ⟨h, r, s, i, v⟩ = var h ++ var r ++ var s ++ i) := rfl
    generalize digB ⟨h, r, s, i, v⟩ = R at *
    have z1 := var_size h
    have z2 := var_size r
    have z3 := var_size s
    have e2 := ByteArray.size_append (a := var h) (b := var r)
    have e3 := ByteArray.size_append (a := var h ++ var r) (b := var s)
    have m2 : ¬ 9223372036854775807 < (var h).size + (var r).size := by omega
    have m3 : ¬ 9223372036854775807 < (var h ++ var r).size + (var s).size := by omega
    have m4 : ¬ 9223372036854775807 < (var h ++ var r ++ var s).size + i.size := by omega
    clear z1 z2 z3 e2 e3 hi
    obtain ⟨x0, x1, x2, x3, x4⟩ := HS.out
    unfold tV at *
    unfold tcs at *
    simp only at kO x0 x1 x2 x3 x4 ⊢
    go_enter Tryd.func100, Tryd.ntmps100
    go_wp2_with fail
    generalize w.alloc (Obj.cells #[Value.int .i64 h, Value.int .i64 r, Value.int .i64 s, Value.string i, Value.int .i64 v] 30) = w1 at *
    refine (kO _).mono ?_
    rintro e w2 ⟨rfl, b2⟩
    have HB2 : Hid (Below w1.heap.size w1 w2) := b2
    clear b2 x0 x1 x2 x3 x4 kO
    obtain ⟨x0, x1, x2, x3, x4⟩ := HS.out.below HB2.out hz
    simp only at x0 x1 x2 x3 x4
    have hne := bel_some w2
    have c0 := fun p : Bel w2 => p.cell x0
    have c1 := fun p : Bel w2 => p.cell x1
    have c2 := fun p : Bel w2 => p.cell x2
    have c3 := fun p : Bel w2 => p.cell x3
    clear x0 x1 x2 x3 x4
    go_wp2_with fail
    refine wp_region_below (by kernel_rfl) (by kernel_rfl) ?_
    repeat (go_big_quiet_step ((go_at_call 106; exact bel_of (impl_var _ _))))
    refine wpQuiet_nil ?_
    intro _ hw'
    obtain ⟨pq, hw''⟩ := hw'
    subst hw''
    have HB3 : Hid (Below w1.heap.size w1 pq.W) := HB2.out.trans (pq.h.mono HB2.out.size)
    go_wp2
    go_ret
    exact ⟨by rw [HE.out]; rfl, HB.out.trans (HB3.out.mono HB.out.size)⟩
end Go.Proofs.YtclajbadeclbdaaDoor
