/- The walks of the exact laws of GuardOk and MaySign: they answer true, old memory stays. Conditions: what a machine can hold. -/
import Derived.Test.YtmjlpdmdpagggaaLw
namespace Go.Proofs.Ytmjlpdmdpagggaa
open Go.RowKit
open Num
set_option linter.unusedVariables false
set_option maxHeartbeats 1600000 in
set_option maxRecDepth 100000 in
theorem w_guardok (x : Gt) (w : World) (hx : x.i.size ≤ 9223372036854775807) :
    Calls Try.prog 5 #[gV x] w fun e w' => e = .returned (.bool true) ∧ Below w.heap.size w w' := by
  have kZ := fun W => sz_gd x 1048576 W hx (by decide) (by decide)
  have kT := fun W => to_gd x W
  have kA := fun W => spec_gok x W
  have kB := fun W => impl_gok x W
  generalize gOk x = t at *
  have htt : (t != t) = false := by simp
  clear hx
  obtain ⟨h, r, s, i⟩ := x
  unfold gV at *
  simp only at *
  obtain ⟨W0, hW0⟩ : ∃ W, w.alloc (.cells #[.int .i64 h, .int .i64 r, .int .i64 s, .string i] 43) = W := ⟨_, rfl⟩
  have HX0 : Hid (Blk W0 w.heap.size [.int .i64 h, .int .i64 r, .int .i64 s, .string i] 43) := by
    rw [← hW0]
    have hnew := blk_new (w) [.int .i64 h, .int .i64 r, .int .i64 s, .string i] 43
    exact hnew
  have HB0 : Hid (Below w.heap.size w W0) := by rw [← hW0]; exact (Below.refl w.heap.size w).alloc (Nat.le_refl _) _
  go_enter Try.func5, Try.ntmps5
  have cX_0 := HX0.out.cell 0 rfl
  have cX_1 := HX0.out.cell 1 rfl
  have cX_2 := HX0.out.cell 2 rfl
  have cX_3 := HX0.out.cell 3 rfl
  go_wp2_with fail
  clear hW0 cX_0 cX_1 cX_2 cX_3
  refine (kZ _).mono ?_
  rintro e w1 ⟨q, rfl, hq0, hq1, HQ, bb⟩
  have HX1 : Hid (Blk w1 w.heap.size [.int .i64 h, .int .i64 r, .int .i64 s, .string i] 43) := HX0.out.below bb HX0.out.lt
  have HB1 : Hid (Below w.heap.size w w1) := HB0.out.trans (bb.mono HB0.out.size)
  clear HX0 HB0
  clear bb
  by_cases hq : q < 0
  · go_wp2
    go_ret
    exact ⟨rfl, HB1.out⟩
  have cX_0 := HX1.out.cell 0 rfl
  have cX_1 := HX1.out.cell 1 rfl
  have cX_2 := HX1.out.cell 2 rfl
  have cX_3 := HX1.out.cell 3 rfl
  go_wp2_with fail
  clear cX_0 cX_1 cX_2 cX_3
  refine (kT _).mono ?_
  rintro e w2 ⟨rfl, bb⟩
  have HX2 : Hid (Blk w2 w.heap.size [.int .i64 h, .int .i64 r, .int .i64 s, .string i] 43) := HX1.out.below bb HX1.out.lt
  have HB2 : Hid (Below w.heap.size w w2) := HB1.out.trans (bb.mono HB1.out.size)
  clear HX1 HB1
  clear bb
  go_wp2_with fail
  refine (kA _).mono ?_
  rintro e w3 ⟨rfl, bb⟩
  have HX3 : Hid (Blk w3 w.heap.size [.int .i64 h, .int .i64 r, .int .i64 s, .string i] 43) := HX2.out.below bb HX2.out.lt
  have HB3 : Hid (Below w.heap.size w w3) := HB2.out.trans (bb.mono HB2.out.size)
  clear HX2 HB2
  clear bb
  have cX_0 := HX3.out.cell 0 rfl
  have cX_1 := HX3.out.cell 1 rfl
  have cX_2 := HX3.out.cell 2 rfl
  have cX_3 := HX3.out.cell 3 rfl
  go_wp2_with fail
  clear cX_0 cX_1 cX_2 cX_3
  refine (kT _).mono ?_
  rintro e w4 ⟨rfl, bb⟩
  have HX4 : Hid (Blk w4 w.heap.size [.int .i64 h, .int .i64 r, .int .i64 s, .string i] 43) := HX3.out.below bb HX3.out.lt
  have HB4 : Hid (Below w.heap.size w w4) := HB3.out.trans (bb.mono HB3.out.size)
  clear HX3 HB3
  clear bb
  go_wp2_with fail
  refine (kB _).mono ?_
  rintro e w5 ⟨rfl, bb⟩
  have HX5 : Hid (Blk w5 w.heap.size [.int .i64 h, .int .i64 r, .int .i64 s, .string i] 43) := HX4.out.below bb HX4.out.lt
  have HB5 : Hid (Below w.heap.size w w5) := HB4.out.trans (bb.mono HB4.out.size)
  clear HX4 HB4
  clear bb
  go_wp2
  go_ret
  exact ⟨rfl, HB5.out⟩
set_option maxHeartbeats 1600000 in
set_option maxRecDepth 100000 in
theorem w_maysign (x : Gt) (y : Vt) (w : World) (hx : x.i.size ≤ 9223372036854775807) (hy : y.i.size ≤ 9223372036854775807) :
    Calls Try.prog 7 #[gV x, tV y] w fun e w' => e = .returned (.bool true) ∧ Below w.heap.size w w' := by
  have kZ := fun W => sz_gd x 1048576 W hx (by decide) (by decide)
  have kY := fun left W (h0 : 0 ≤ left) (h1 : left ≤ 1048576) => sz_vt y left W hy h0 h1
  have kT := fun W => to_gd x W
  have kU := fun W => to_vote y W
  have kA := fun W => spec_may x y W
  have kB := fun W => impl_may x y W
  generalize mayS x y = t at *
  clear hx hy
  obtain ⟨h, r, s, i⟩ := x
  obtain ⟨yh, yr, ys, yi, yv⟩ := y
  unfold gV tV at *
  simp only at *
  obtain ⟨W0, hW0⟩ : ∃ W, (w.alloc (.cells #[.int .i64 h, .int .i64 r, .int .i64 s, .string i] 43)).alloc (.cells #[.int .i64 yh, .int .i64 yr, .int .i64 ys, .string yi, .int .i64 yv] 55) = W := ⟨_, rfl⟩
  have HX0 : Hid (Blk W0 w.heap.size [.int .i64 h, .int .i64 r, .int .i64 s, .string i] 43) := by
    rw [← hW0]
    have hnew := blk_new (w) [.int .i64 h, .int .i64 r, .int .i64 s, .string i] 43
    exact (hnew.alloc _)
  have HY0 : Hid (Blk W0 (w.heap.size + 1) [.int .i64 yh, .int .i64 yr, .int .i64 ys, .string yi, .int .i64 yv] 55) := by
    rw [← hW0]
    have hnew := blk_new (w.alloc (.cells #[.int .i64 h, .int .i64 r, .int .i64 s, .string i] 43)) [.int .i64 yh, .int .i64 yr, .int .i64 ys, .string yi, .int .i64 yv] 55
    rw [show (w.alloc (.cells #[.int .i64 h, .int .i64 r, .int .i64 s, .string i] 43)).heap.size = w.heap.size + 1 from by simp] at hnew
    exact hnew
  have HB0 : Hid (Below w.heap.size w W0) := by rw [← hW0]; exact ((Below.refl w.heap.size w).alloc (Nat.le_refl _) _).alloc (by simp; try omega) _
  go_enter Try.func7, Try.ntmps7
  have cX_0 := HX0.out.cell 0 rfl
  have cX_1 := HX0.out.cell 1 rfl
  have cX_2 := HX0.out.cell 2 rfl
  have cX_3 := HX0.out.cell 3 rfl
  have cY_0 := HY0.out.cell 0 rfl
  have cY_1 := HY0.out.cell 1 rfl
  have cY_2 := HY0.out.cell 2 rfl
  have cY_3 := HY0.out.cell 3 rfl
  have cY_4 := HY0.out.cell 4 rfl
  go_wp2_with fail
  clear hW0 cX_0 cX_1 cX_2 cX_3 cY_0 cY_1 cY_2 cY_3 cY_4
  refine (kZ _).mono ?_
  rintro e w1 ⟨q, rfl, hq0, hq1, HQ, bb⟩
  have HX1 : Hid (Blk w1 w.heap.size [.int .i64 h, .int .i64 r, .int .i64 s, .string i] 43) := HX0.out.below bb HX0.out.lt
  have HY1 : Hid (Blk w1 (w.heap.size + 1) [.int .i64 yh, .int .i64 yr, .int .i64 ys, .string yi, .int .i64 yv] 55) := HY0.out.below bb HY0.out.lt
  have HB1 : Hid (Below w.heap.size w w1) := HB0.out.trans (bb.mono HB0.out.size)
  clear HX0 HY0 HB0
  clear bb
  clear HQ
  by_cases hq : q < 0
  · go_wp2
    go_ret
    exact ⟨rfl, HB1.out⟩
  have cY_0 := HY1.out.cell 0 rfl
  have cY_1 := HY1.out.cell 1 rfl
  have cY_2 := HY1.out.cell 2 rfl
  have cY_3 := HY1.out.cell 3 rfl
  have cY_4 := HY1.out.cell 4 rfl
  go_wp2_with fail
  clear cY_0 cY_1 cY_2 cY_3 cY_4
  refine (kY _ _ (by omega) (by omega)).mono ?_
  rintro e w2 ⟨q2, rfl, hr0, hr1, HQ, bb⟩
  have HX2 : Hid (Blk w2 w.heap.size [.int .i64 h, .int .i64 r, .int .i64 s, .string i] 43) := HX1.out.below bb HX1.out.lt
  have HY2 : Hid (Blk w2 (w.heap.size + 1) [.int .i64 yh, .int .i64 yr, .int .i64 ys, .string yi, .int .i64 yv] 55) := HY1.out.below bb HY1.out.lt
  have HB2 : Hid (Below w.heap.size w w2) := HB1.out.trans (bb.mono HB1.out.size)
  clear HX1 HY1 HB1
  clear bb
  clear HQ
  by_cases hq2 : q2 < 0
  · go_wp2
    go_ret
    exact ⟨rfl, HB2.out⟩
  have cX_0 := HX2.out.cell 0 rfl
  have cX_1 := HX2.out.cell 1 rfl
  have cX_2 := HX2.out.cell 2 rfl
  have cX_3 := HX2.out.cell 3 rfl
  have cY_0 := HY2.out.cell 0 rfl
  have cY_1 := HY2.out.cell 1 rfl
  have cY_2 := HY2.out.cell 2 rfl
  have cY_3 := HY2.out.cell 3 rfl
  have cY_4 := HY2.out.cell 4 rfl
  go_wp2_with fail
  clear cX_0 cX_1 cX_2 cX_3 cY_0 cY_1 cY_2 cY_3 cY_4
  have HX3 : Hid (Blk w2.drew w.heap.size [.int .i64 h, .int .i64 r, .int .i64 s, .string i] 43) := HX2.out.below (Below.refl _ _).drew HX2.out.lt
  have HY3 : Hid (Blk w2.drew (w.heap.size + 1) [.int .i64 yh, .int .i64 yr, .int .i64 ys, .string yi, .int .i64 yv] 55) := HY2.out.below (Below.refl _ _).drew HY2.out.lt
  have HB3 : Hid (Below w.heap.size w w2.drew) := HB2.out.trans (((Below.refl _ _).drew).mono HB2.out.size)
  clear HX2 HY2 HB2
  go_region_held3 (fun W : World => W.cell? ⟨w.heap.size, 0, none⟩ = some (.int .i64 h) ∧ W.cell? ⟨w.heap.size, 1, none⟩ = some (.int .i64 r) ∧ W.cell? ⟨w.heap.size, 2, none⟩ = some (.int .i64 s) ∧ W.cell? ⟨w.heap.size, 3, none⟩ = some (.string i) ∧ W.cell? ⟨(w.heap.size + 1), 0, none⟩ = some (.int .i64 yh) ∧ W.cell? ⟨(w.heap.size + 1), 1, none⟩ = some (.int .i64 yr) ∧ W.cell? ⟨(w.heap.size + 1), 2, none⟩ = some (.int .i64 ys) ∧ W.cell? ⟨(w.heap.size + 1), 3, none⟩ = some (.string yi) ∧ W.cell? ⟨(w.heap.size + 1), 4, none⟩ = some (.int .i64 yv)) (first | assumption | exact ⟨HX6.out.cell 0 rfl, HX6.out.cell 1 rfl, HX6.out.cell 2 rfl, HX6.out.cell 3 rfl, HY6.out.cell 0 rfl, HY6.out.cell 1 rfl, HY6.out.cell 2 rfl, HY6.out.cell 3 rfl, HY6.out.cell 4 rfl⟩ | exact ⟨HX5.out.cell 0 rfl, HX5.out.cell 1 rfl, HX5.out.cell 2 rfl, HX5.out.cell 3 rfl, HY5.out.cell 0 rfl, HY5.out.cell 1 rfl, HY5.out.cell 2 rfl, HY5.out.cell 3 rfl, HY5.out.cell 4 rfl⟩ | exact ⟨HX4.out.cell 0 rfl, HX4.out.cell 1 rfl, HX4.out.cell 2 rfl, HX4.out.cell 3 rfl, HY4.out.cell 0 rfl, HY4.out.cell 1 rfl, HY4.out.cell 2 rfl, HY4.out.cell 3 rfl, HY4.out.cell 4 rfl⟩ | exact ⟨HX3.out.cell 0 rfl, HX3.out.cell 1 rfl, HX3.out.cell 2 rfl, HX3.out.cell 3 rfl, HY3.out.cell 0 rfl, HY3.out.cell 1 rfl, HY3.out.cell 2 rfl, HY3.out.cell 3 rfl, HY3.out.cell 4 rfl⟩) (first | (go_at_call 25; refine (kT _).mono ?_; rintro e w3 ⟨rfl, bb3⟩; have HX4 : Hid (Blk w3 w.heap.size [.int .i64 h, .int .i64 r, .int .i64 s, .string i] 43) := HX3.out.below bb3 HX3.out.lt; have HY4 : Hid (Blk w3 (w.heap.size + 1) [.int .i64 yh, .int .i64 yr, .int .i64 ys, .string yi, .int .i64 yv] 55) := HY3.out.below bb3 HY3.out.lt; have HB4 : Hid (Below w.heap.size w w3) := HB3.out.trans (bb3.mono HB3.out.size)) | (go_at_call 32; refine (kU _).mono ?_; rintro e w4 ⟨rfl, bb4⟩; have HX5 : Hid (Blk w4 w.heap.size [.int .i64 h, .int .i64 r, .int .i64 s, .string i] 43) := HX4.out.below bb4 HX4.out.lt; have HY5 : Hid (Blk w4 (w.heap.size + 1) [.int .i64 yh, .int .i64 yr, .int .i64 ys, .string yi, .int .i64 yv] 55) := HY4.out.below bb4 HY4.out.lt; have HB5 : Hid (Below w.heap.size w w4) := HB4.out.trans (bb4.mono HB4.out.size)) | (go_at_call 22; refine (kA _).mono ?_; rintro e w5 ⟨rfl, bb5⟩; have HX6 : Hid (Blk w5 w.heap.size [.int .i64 h, .int .i64 r, .int .i64 s, .string i] 43) := HX5.out.below bb5 HX5.out.lt; have HY6 : Hid (Blk w5 (w.heap.size + 1) [.int .i64 yh, .int .i64 yr, .int .i64 ys, .string yi, .int .i64 yv] 55) := HY5.out.below bb5 HY5.out.lt; have HB6 : Hid (Below w.heap.size w w5) := HB5.out.trans (bb5.mono HB5.out.size)))
  clear HX3 HY3 HB3 bb3 HX4 HY4 HB4 bb4 HX5 HY5 HB5 bb5
  have cX_0 := HX6.out.cell 0 rfl
  have cX_1 := HX6.out.cell 1 rfl
  have cX_2 := HX6.out.cell 2 rfl
  have cX_3 := HX6.out.cell 3 rfl
  have cY_0 := HY6.out.cell 0 rfl
  have cY_1 := HY6.out.cell 1 rfl
  have cY_2 := HY6.out.cell 2 rfl
  have cY_3 := HY6.out.cell 3 rfl
  have cY_4 := HY6.out.cell 4 rfl
  go_wp2_with fail
  clear cX_0 cX_1 cX_2 cX_3 cY_0 cY_1 cY_2 cY_3 cY_4
  have HX7 : Hid (Blk w5.drew w.heap.size [.int .i64 h, .int .i64 r, .int .i64 s, .string i] 43) := HX6.out.below (Below.refl _ _).drew HX6.out.lt
  have HY7 : Hid (Blk w5.drew (w.heap.size + 1) [.int .i64 yh, .int .i64 yr, .int .i64 ys, .string yi, .int .i64 yv] 55) := HY6.out.below (Below.refl _ _).drew HY6.out.lt
  have HB7 : Hid (Below w.heap.size w w5.drew) := HB6.out.trans (((Below.refl _ _).drew).mono HB6.out.size)
  clear HX6 HY6 HB6
  go_region_held3 (fun W : World => W.cell? ⟨w.heap.size, 0, none⟩ = some (.int .i64 h) ∧ W.cell? ⟨w.heap.size, 1, none⟩ = some (.int .i64 r) ∧ W.cell? ⟨w.heap.size, 2, none⟩ = some (.int .i64 s) ∧ W.cell? ⟨w.heap.size, 3, none⟩ = some (.string i) ∧ W.cell? ⟨(w.heap.size + 1), 0, none⟩ = some (.int .i64 yh) ∧ W.cell? ⟨(w.heap.size + 1), 1, none⟩ = some (.int .i64 yr) ∧ W.cell? ⟨(w.heap.size + 1), 2, none⟩ = some (.int .i64 ys) ∧ W.cell? ⟨(w.heap.size + 1), 3, none⟩ = some (.string yi) ∧ W.cell? ⟨(w.heap.size + 1), 4, none⟩ = some (.int .i64 yv)) (first | assumption | exact ⟨HX10.out.cell 0 rfl, HX10.out.cell 1 rfl, HX10.out.cell 2 rfl, HX10.out.cell 3 rfl, HY10.out.cell 0 rfl, HY10.out.cell 1 rfl, HY10.out.cell 2 rfl, HY10.out.cell 3 rfl, HY10.out.cell 4 rfl⟩ | exact ⟨HX9.out.cell 0 rfl, HX9.out.cell 1 rfl, HX9.out.cell 2 rfl, HX9.out.cell 3 rfl, HY9.out.cell 0 rfl, HY9.out.cell 1 rfl, HY9.out.cell 2 rfl, HY9.out.cell 3 rfl, HY9.out.cell 4 rfl⟩ | exact ⟨HX8.out.cell 0 rfl, HX8.out.cell 1 rfl, HX8.out.cell 2 rfl, HX8.out.cell 3 rfl, HY8.out.cell 0 rfl, HY8.out.cell 1 rfl, HY8.out.cell 2 rfl, HY8.out.cell 3 rfl, HY8.out.cell 4 rfl⟩ | exact ⟨HX7.out.cell 0 rfl, HX7.out.cell 1 rfl, HX7.out.cell 2 rfl, HX7.out.cell 3 rfl, HY7.out.cell 0 rfl, HY7.out.cell 1 rfl, HY7.out.cell 2 rfl, HY7.out.cell 3 rfl, HY7.out.cell 4 rfl⟩) (first | (go_at_call 25; refine (kT _).mono ?_; rintro e w6 ⟨rfl, bb6⟩; have HX8 : Hid (Blk w6 w.heap.size [.int .i64 h, .int .i64 r, .int .i64 s, .string i] 43) := HX7.out.below bb6 HX7.out.lt; have HY8 : Hid (Blk w6 (w.heap.size + 1) [.int .i64 yh, .int .i64 yr, .int .i64 ys, .string yi, .int .i64 yv] 55) := HY7.out.below bb6 HY7.out.lt; have HB8 : Hid (Below w.heap.size w w6) := HB7.out.trans (bb6.mono HB7.out.size)) | (go_at_call 32; refine (kU _).mono ?_; rintro e w7 ⟨rfl, bb7⟩; have HX9 : Hid (Blk w7 w.heap.size [.int .i64 h, .int .i64 r, .int .i64 s, .string i] 43) := HX8.out.below bb7 HX8.out.lt; have HY9 : Hid (Blk w7 (w.heap.size + 1) [.int .i64 yh, .int .i64 yr, .int .i64 ys, .string yi, .int .i64 yv] 55) := HY8.out.below bb7 HY8.out.lt; have HB9 : Hid (Below w.heap.size w w7) := HB8.out.trans (bb7.mono HB8.out.size)) | (go_at_call 21; refine (kB _).mono ?_; rintro e w8 ⟨rfl, bb8⟩; have HX10 : Hid (Blk w8 w.heap.size [.int .i64 h, .int .i64 r, .int .i64 s, .string i] 43) := HX9.out.below bb8 HX9.out.lt; have HY10 : Hid (Blk w8 (w.heap.size + 1) [.int .i64 yh, .int .i64 yr, .int .i64 ys, .string yi, .int .i64 yv] 55) := HY9.out.below bb8 HY9.out.lt; have HB10 : Hid (Below w.heap.size w w8) := HB9.out.trans (bb8.mono HB9.out.size)))
  clear HX7 HY7 HB7 bb6 HX8 HY8 HB8 bb7 HX9 HY9 HB9 bb8
  have htt : (t != t) = false := by simp
  go_wp2
  go_ret
  exact ⟨rfl, HB10.out⟩
end Go.Proofs.Ytmjlpdmdpagggaa
