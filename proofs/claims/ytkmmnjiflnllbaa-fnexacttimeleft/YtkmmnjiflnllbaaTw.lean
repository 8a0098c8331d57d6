/- The walks of the exact laws of TrustOk, Expires, Fresh and TimeLeft: they answer true, old memory stays. Conditions: none of ours. -/
import Derived.Test.YtkmmnjiflnllbaaTi
namespace Go.Proofs.Ytkmmnjiflnllbaa
open Go.RowKit
open Num
set_option linter.unusedVariables false
set_option maxHeartbeats 800000 in
set_option maxRecDepth 100000 in
theorem to_trust (t : T) (w : World) :
    Calls Try.prog 17 #[tV t] w fun e w' => e = .returned (tV t) ∧ Below w.heap.size w w' := by
  obtain ⟨p, s⟩ := t
  unfold tV
  simp only
  go_enter Try.func17, Try.ntmps17
  go_wp2
  refine bodyPost_ret (v := .agg #[.int .i64 p, .int .i64 s]) (by simp [results, Try.results17, go_sem]) rfl ⟨rfl, ?_⟩
  have h1 : Below w.heap.size w (((w.alloc (.cells #[.int .i64 p, .int .i64 s] 31)).alloc (.cells #[.int .i64 p, .int .i64 s] 25)).alloc (.cells #[.int .i64 p, .int .i64 s] 25)) := (((Below.refl _ _).alloc (Nat.le_refl _) _).alloc (by simp) _).alloc (by simp; omega) _
  exact h1
set_option maxHeartbeats 800000 in
set_option maxRecDepth 100000 in
theorem w_ok (t : T) (w : World) :
    Calls Try.prog 4 #[tV t] w fun e w' => e = .returned (.bool true) ∧ Below w.heap.size w w' := by
  have H1 : Hid (St w (w.alloc (.cells (tcs t) 31)) w.heap.size t) := st_new w t 31
  have kT := fun W => to_trust t W
  have kA := fun W => spec_ok t  W
  have kB := fun W => impl_ok t  W
  generalize tOk t = q at *
  obtain ⟨p, s⟩ := t
  unfold tV at *
  unfold tcs at *
  simp only at *
  obtain ⟨_, _, x0, x1⟩ := H1.out
  simp only at x0 x1
  go_enter Try.func4, Try.ntmps4
  go_wp2_with fail
  generalize w.alloc (Obj.cells #[Value.int .i64 p, Value.int .i64 s] 31) = w1 at *
  refine (kT _).mono ?_
  rintro e w2 ⟨rfl, bb⟩
  have H2 : Hid (St w w2 w.heap.size ⟨p, s⟩) := H1.out.step bb
  clear bb H1 x0 x1
  obtain ⟨_, _, x0, x1⟩ := H2.out
  simp only at x0 x1
  go_wp2_with fail
  refine (kA _).mono ?_
  rintro e w3 ⟨rfl, bb⟩
  have H3 : Hid (St w w3 w.heap.size ⟨p, s⟩) := H2.out.step bb
  clear bb H2 x0 x1
  obtain ⟨_, _, x0, x1⟩ := H3.out
  simp only at x0 x1
  go_wp2_with fail
  refine (kT _).mono ?_
  rintro e w4 ⟨rfl, bb⟩
  have H4 : Hid (St w w4 w.heap.size ⟨p, s⟩) := H3.out.step bb
  clear bb H3 x0 x1
  obtain ⟨_, _, x0, x1⟩ := H4.out
  simp only at x0 x1
  go_wp2_with fail
  refine (kB _).mono ?_
  rintro e w5 ⟨rfl, bb⟩
  have H5 : Hid (St w w5 w.heap.size ⟨p, s⟩) := H4.out.step bb
  clear bb H4 x0 x1
  obtain ⟨_, _, x0, x1⟩ := H5.out
  simp only at x0 x1
  go_wp2
  go_ret
  exact ⟨rfl, H5.out.1⟩
set_option maxHeartbeats 800000 in
set_option maxRecDepth 100000 in
theorem w_exp (t : T) (x : Int) (w : World) :
    Calls Try.prog 5 #[tV t, .int .i64 x] w fun e w' => e = .returned (.bool true) ∧ Below w.heap.size w w' := by
  have H1 : Hid (St w (w.alloc (.cells (tcs t) 31)) w.heap.size t) := st_new w t 31
  have kT := fun W => to_trust t W
  have kA := fun W => spec_exp t x W
  have kB := fun W => impl_exp t x W
  generalize expT t x = q at *
  obtain ⟨p, s⟩ := t
  unfold tV at *
  unfold tcs at *
  simp only at *
  obtain ⟨_, _, x0, x1⟩ := H1.out
  simp only at x0 x1
  go_enter Try.func5, Try.ntmps5
  go_wp2_with fail
  generalize w.alloc (Obj.cells #[Value.int .i64 p, Value.int .i64 s] 31) = w1 at *
  refine (kT _).mono ?_
  rintro e w2 ⟨rfl, bb⟩
  have H2 : Hid (St w w2 w.heap.size ⟨p, s⟩) := H1.out.step bb
  clear bb H1 x0 x1
  obtain ⟨_, _, x0, x1⟩ := H2.out
  simp only at x0 x1
  go_wp2_with fail
  refine (kA _).mono ?_
  rintro e w3 ⟨rfl, bb⟩
  have H3 : Hid (St w w3 w.heap.size ⟨p, s⟩) := H2.out.step bb
  clear bb H2 x0 x1
  obtain ⟨_, _, x0, x1⟩ := H3.out
  simp only at x0 x1
  go_wp2_with fail
  refine (kT _).mono ?_
  rintro e w4 ⟨rfl, bb⟩
  have H4 : Hid (St w w4 w.heap.size ⟨p, s⟩) := H3.out.step bb
  clear bb H3 x0 x1
  obtain ⟨_, _, x0, x1⟩ := H4.out
  simp only at x0 x1
  go_wp2_with fail
  refine (kB _).mono ?_
  rintro e w5 ⟨rfl, bb⟩
  have H5 : Hid (St w w5 w.heap.size ⟨p, s⟩) := H4.out.step bb
  clear bb H4 x0 x1
  obtain ⟨_, _, x0, x1⟩ := H5.out
  simp only at x0 x1
  go_wp2
  go_ret
  exact ⟨rfl, H5.out.1⟩
set_option maxHeartbeats 800000 in
set_option maxRecDepth 100000 in
theorem w_fresh (t : T) (x : Int) (n : Int) (w : World) :
    Calls Try.prog 6 #[tV t, .int .i64 x, .int .i64 n] w fun e w' => e = .returned (.bool true) ∧ Below w.heap.size w w' := by
  have H1 : Hid (St w (w.alloc (.cells (tcs t) 31)) w.heap.size t) := st_new w t 31
  have kT := fun W => to_trust t W
  have kA := fun W => spec_fresh t x n W
  have kB := fun W => impl_fresh t x n W
  generalize freshT t x n = q at *
  obtain ⟨p, s⟩ := t
  unfold tV at *
  unfold tcs at *
  simp only at *
  obtain ⟨_, _, x0, x1⟩ := H1.out
  simp only at x0 x1
  go_enter Try.func6, Try.ntmps6
  go_wp2_with fail
  generalize w.alloc (Obj.cells #[Value.int .i64 p, Value.int .i64 s] 31) = w1 at *
  refine (kT _).mono ?_
  rintro e w2 ⟨rfl, bb⟩
  have H2 : Hid (St w w2 w.heap.size ⟨p, s⟩) := H1.out.step bb
  clear bb H1 x0 x1
  obtain ⟨_, _, x0, x1⟩ := H2.out
  simp only at x0 x1
  go_wp2_with fail
  refine (kA _).mono ?_
  rintro e w3 ⟨rfl, bb⟩
  have H3 : Hid (St w w3 w.heap.size ⟨p, s⟩) := H2.out.step bb
  clear bb H2 x0 x1
  obtain ⟨_, _, x0, x1⟩ := H3.out
  simp only at x0 x1
  go_wp2_with fail
  refine (kT _).mono ?_
  rintro e w4 ⟨rfl, bb⟩
  have H4 : Hid (St w w4 w.heap.size ⟨p, s⟩) := H3.out.step bb
  clear bb H3 x0 x1
  obtain ⟨_, _, x0, x1⟩ := H4.out
  simp only at x0 x1
  go_wp2_with fail
  refine (kB _).mono ?_
  rintro e w5 ⟨rfl, bb⟩
  have H5 : Hid (St w w5 w.heap.size ⟨p, s⟩) := H4.out.step bb
  clear bb H4 x0 x1
  obtain ⟨_, _, x0, x1⟩ := H5.out
  simp only at x0 x1
  go_wp2
  go_ret
  exact ⟨rfl, H5.out.1⟩
set_option maxHeartbeats 800000 in
set_option maxRecDepth 100000 in
theorem w_left (t : T) (x : Int) (n : Int) (w : World) :
    Calls Try.prog 7 #[tV t, .int .i64 x, .int .i64 n] w fun e w' => e = .returned (.bool true) ∧ Below w.heap.size w w' := by
  have H1 : Hid (St w (w.alloc (.cells (tcs t) 31)) w.heap.size t) := st_new w t 31
  have kT := fun W => to_trust t W
  have kA := fun W => spec_left t x n W
  have kB := fun W => impl_timeLeft t x n W
  generalize leftT t x n = q at *
  obtain ⟨p, s⟩ := t
  unfold tV at *
  unfold tcs at *
  simp only at *
  obtain ⟨_, _, x0, x1⟩ := H1.out
  simp only at x0 x1
  go_enter Try.func7, Try.ntmps7
  go_wp2_with fail
  generalize w.alloc (Obj.cells #[Value.int .i64 p, Value.int .i64 s] 31) = w1 at *
  refine (kT _).mono ?_
  rintro e w2 ⟨rfl, bb⟩
  have H2 : Hid (St w w2 w.heap.size ⟨p, s⟩) := H1.out.step bb
  clear bb H1 x0 x1
  obtain ⟨_, _, x0, x1⟩ := H2.out
  simp only at x0 x1
  go_wp2_with fail
  refine (kA _).mono ?_
  rintro e w3 ⟨rfl, bb⟩
  have H3 : Hid (St w w3 w.heap.size ⟨p, s⟩) := H2.out.step bb
  clear bb H2 x0 x1
  obtain ⟨_, _, x0, x1⟩ := H3.out
  simp only at x0 x1
  go_wp2_with fail
  refine (kT _).mono ?_
  rintro e w4 ⟨rfl, bb⟩
  have H4 : Hid (St w w4 w.heap.size ⟨p, s⟩) := H3.out.step bb
  clear bb H3 x0 x1
  obtain ⟨_, _, x0, x1⟩ := H4.out
  simp only at x0 x1
  go_wp2_with fail
  refine (kB _).mono ?_
  rintro e w5 ⟨rfl, bb⟩
  have H5 : Hid (St w w5 w.heap.size ⟨p, s⟩) := H4.out.step bb
  clear bb H4 x0 x1
  obtain ⟨_, _, x0, x1⟩ := H5.out
  simp only at x0 x1
  go_wp2
  go_ret
  exact ⟨rfl, H5.out.1⟩
end Go.Proofs.Ytkmmnjiflnllbaa
