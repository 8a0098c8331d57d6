/- FnTrust at every code: true; old memory stays. Conditions: none of ours. -/
import Derived.Test.YtkmmnjiflnllbaaDt
import Derived.Test.YtkmmnjiflnllbaaTi
namespace Go.Proofs.Ytkmmnjiflnllbaa
open Go.RowKit
open Num
set_option linter.unusedVariables false
set_option maxRecDepth 100000 in
theorem big_any (a : Option Addr) (len cap : Nat) (w : World) (hm : len ≤ 9223372036854775807) :
    Calls Try.prog 8 #[.slice a len cap] w fun e w' => e = .returned (.bool (decide ((1048576 : Int) < (len : Int)))) ∧ w' = w := by
  go_enter Try.func8, Try.ntmps8
  go_wp2
  go_ret
  exact ⟨rfl, rfl⟩
set_option maxHeartbeats 3200000 in
set_option maxRecDepth 100000 in
theorem fn_trust (a : Option Addr) (L : List UInt8) (cap : Nat) (w : World) (hl : CodeAt w w.heap.size a L) (hlen : L.length ≤ 1048576) :
    Calls Try.prog 3 #[.slice a L.length cap] w fun e w' => e = .returned (.bool true) ∧ Below w.heap.size w w' := by
  have hbig : decide ((1048576 : Int) < (L.length : Int)) = false := by simp; omega
  have HL : Hid (CodeAt w w.heap.size a L) := hl
  clear hl
  go_enter Try.func3, Try.ntmps3
  go_wp2_with fail
  refine (big_any a L.length cap _ (by omega)).mono ?_
  rintro e w0 ⟨rfl, rfl⟩
  rw [hbig]
  clear hbig
  go_wp2_with fail
  refine (draw_left a L cap w0 HL.out hlen).mono ?_
  rintro e w2 ⟨t, x, n, rfl, hb, HB2⟩
  obtain ⟨hb0, hb1, hb2, hb3⟩ := hb
  clear HL
  have H3 : Hid (St w2 (w2.alloc (.cells (tcs t) 25)) w2.heap.size t) := st_new w2 t 25
  have kL := fun W => impl_timeLeft t x n W
  have kM := fun W => spec_left t x n W
  have kF := fun W => impl_fresh t x n W
  have kG := fun W => spec_fresh t x n W
  have kE := fun W => impl_exp t x W
  have kD := fun W => spec_exp t x W
  have kE2 : leftT t x n ≠ 0 → ∀ W, Calls Try.prog 14 #[tV t, .int .i64 x] W fun e w' => e = .returned (.int .i64 (n + leftT t x n)) ∧ Below W.heap.size W w' := fun h W => by
    have := impl_exp t x W
    rw [← left_exp h] at this; exact this
  have kF2 : leftT t x n ≠ 0 → ∀ W, Calls Try.prog 12 #[tV t, .int .i64 x, .int .i64 (n + leftT t x n + 1)] W fun e w' => e = .returned (.bool false) ∧ Below W.heap.size W w' := fun h W => by
    have := impl_fresh t x (n + leftT t x n + 1) W
    rw [left_end h] at this; exact this
  have kL2 : leftT t x n ≠ 0 → n < 1000000 → ∀ W, Calls Try.prog 10 #[tV t, .int .i64 x, .int .i64 (n + 1)] W fun e w' => e = .returned (.int .i64 (leftT t x n - 1)) ∧ Below W.heap.size W w' := fun h hn W => by
    have := impl_timeLeft t x (n + 1) W
    rw [left_tick h hn] at this; exact this
  have hl := left_bound t x n
  generalize leftT t x n = l at *
  generalize freshT t x n = f at *
  generalize expT t x = z at *
  obtain ⟨p, s⟩ := t
  unfold tV at *
  unfold tcs at *
  simp only at *
  obtain ⟨_, _, x0, x1⟩ := H3.out
  simp only at x0 x1
  go_wp2_with fail
  generalize w2.alloc (Obj.cells #[Value.int .i64 p, Value.int .i64 s] 25) = w3 at *
  refine (kL _).mono ?_
  rintro e w4 ⟨rfl, bb⟩
  have H4 : Hid (St w2 w4 w2.heap.size ⟨p, s⟩) := H3.out.step bb
  clear bb H3 x0 x1
  obtain ⟨_, _, x0, x1⟩ := H4.out
  simp only at x0 x1
  go_wp2_with fail
  have hn := bel_some w4
  have c0 := fun q : Bel w4 => q.cell x0
  have c1 := fun q : Bel w4 => q.cell x1
  clear x0 x1 kL
  refine wp_region_below (by kernel_rfl) (by kernel_rfl) ?_
  repeat (go_big_quiet_step (first | (go_at_call 11; exact bel_of (kM _)) | (go_at_call 12; exact bel_of (kF _)) | (go_at_call 13; exact bel_of (kG _)) | (go_at_call 14; exact bel_of (kE _)) | (go_at_call 15; exact bel_of (kD _))))
  refine wpQuiet_nil ?_
  intro _ hw'
  obtain ⟨pq, hw''⟩ := hw'
  subst hw''
  have H5 : Hid (St w2 pq.W w2.heap.size ⟨p, s⟩) := H4.out.step pq.h
  clear hn c0 c1 H4 kM kF kG kE kD
  generalize pq.W = w5 at *
  clear pq
  obtain ⟨_, _, x0, x1⟩ := H5.out
  simp only at x0 x1
  by_cases h0 : l = 0
  · subst h0
    clear kE2 kF2 kL2 x0 x1
    go_wp2
    go_ret
    exact ⟨rfl, HB2.out.trans (H5.out.1.mono HB2.out.size)⟩
  have kE := kE2 h0
  have kF := kF2 h0
  have kL := kL2 h0
  clear kE2 kF2 kL2
  by_cases g1 : 1000000 < n + l + 1
  · by_cases g2 : 1000000 ≤ n
    · clear kF kL
      go_wp2_with fail
      refine (kE _).mono ?_
      rintro e w6 ⟨rfl, bb⟩
      have H6 : Hid (St w2 w6 w2.heap.size ⟨p, s⟩) := H5.out.step bb
      clear bb H5 x0 x1
      obtain ⟨_, _, x0, x1⟩ := H6.out
      simp only at x0 x1
      go_wp2
      go_ret
      exact ⟨rfl, HB2.out.trans (H6.out.1.mono HB2.out.size)⟩
    · have kQ := kL (by omega)
      clear kF kL
      go_wp2_with fail
      refine (kE _).mono ?_
      rintro e w6 ⟨rfl, bb⟩
      have H6 : Hid (St w2 w6 w2.heap.size ⟨p, s⟩) := H5.out.step bb
      clear bb H5 x0 x1
      obtain ⟨_, _, x0, x1⟩ := H6.out
      simp only at x0 x1
      go_wp2_with fail
      refine (kQ _).mono ?_
      rintro e w8 ⟨rfl, bb⟩
      have H8 : Hid (St w2 w8 w2.heap.size ⟨p, s⟩) := H6.out.step bb
      clear bb H6 x0 x1
      obtain ⟨_, _, x0, x1⟩ := H8.out
      simp only at x0 x1
      go_wp2
      go_ret
      exact ⟨rfl, HB2.out.trans (H8.out.1.mono HB2.out.size)⟩
  · by_cases g2 : 1000000 ≤ n
    · omega
    · have kQ := kL (by omega)
      clear kL
      go_wp2_with fail
      refine (kE _).mono ?_
      rintro e w6 ⟨rfl, bb⟩
      have H6 : Hid (St w2 w6 w2.heap.size ⟨p, s⟩) := H5.out.step bb
      clear bb H5 x0 x1
      obtain ⟨_, _, x0, x1⟩ := H6.out
      simp only at x0 x1
      go_wp2_with fail
      refine (kF _).mono ?_
      rintro e w7 ⟨rfl, bb⟩
      have H7 : Hid (St w2 w7 w2.heap.size ⟨p, s⟩) := H6.out.step bb
      clear bb H6 x0 x1
      obtain ⟨_, _, x0, x1⟩ := H7.out
      simp only at x0 x1
      go_wp2_with fail
      refine (kQ _).mono ?_
      rintro e w8 ⟨rfl, bb⟩
      have H8 : Hid (St w2 w8 w2.heap.size ⟨p, s⟩) := H7.out.step bb
      clear bb H7 x0 x1
      obtain ⟨_, _, x0, x1⟩ := H8.out
      simp only at x0 x1
      go_wp2
      go_ret
      exact ⟨rfl, HB2.out.trans (H8.out.1.mono HB2.out.size)⟩
set_option maxRecDepth 100000 in
theorem fn_trust_all (a : Option Addr) (L : List UInt8) (cap : Nat) (w : World) (hl : CodeAt w w.heap.size a L) (hm : L.length ≤ 9223372036854775807) :
    Calls Try.prog 3 #[.slice a L.length cap] w fun e w' => e = .returned (.bool true) ∧ Below w.heap.size w w' := by
  by_cases h : L.length ≤ 1048576
  · exact fn_trust a L cap w hl h
  · have hbig : decide ((1048576 : Int) < (L.length : Int)) = true := by simp; omega
    go_enter Try.func3, Try.ntmps3
    go_wp2_with fail
    refine (big_any a L.length cap _ hm).mono ?_
    rintro e w0 ⟨rfl, rfl⟩
    rw [hbig]
    go_wp2
    go_ret
    exact ⟨rfl, Below.refl _ _⟩
end Go.Proofs.Ytkmmnjiflnllbaa
