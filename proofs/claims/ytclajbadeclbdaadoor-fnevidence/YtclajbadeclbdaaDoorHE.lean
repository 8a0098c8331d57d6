/- What spec.EvidOk and the two Culprit answer; old memory stays. Conditions: the table of the hash. What spec.FindEvid answers; old memory stays. Conditions: rows that a machine can hold. -/
import Derived.Test.YtclajbadeclbdaaDoorEo
import Derived.Test.YtclajbadeclbdaaDoorYr
namespace Go.Proofs.YtclajbadeclbdaaDoor
open Go.RowKit
open Num
set_option linter.unusedVariables false
set_option maxHeartbeats 1600000 in
set_option maxRecDepth 100000 in
theorem spec_evok0 (a b : Sv) (w : World) (hA : sgB a = false) :
    Calls Tryd.prog 14 #[eV a b] w fun e w' => e = .returned (.bool false) ∧ Below w.heap.size w w' := by
  have kA := fun W => spec_sd a.x a.s W
  have kB := fun W => spec_sd b.x b.s W
  unfold sgB at *
  rw [hA] at kA
  clear hA
  clear kB
  unfold tV at kA
  obtain ⟨⟨h, r, s, i, v⟩, g⟩ := a
  obtain ⟨⟨h', r', s', i', v'⟩, g'⟩ := b
  unfold eV
  simp only at kA ⊢
  have HB0 : Hid (Below w.heap.size w (((w.alloc (.cells #[.int .i64 h, .int .i64 r, .int .i64 s, .string i, .int .i64 v, .string g, .int .i64 h', .int .i64 r', .int .i64 s', .string i', .int .i64 v', .string g'] 34)).alloc (.cells #[.int .i64 h, .int .i64 r, .int .i64 s, .string i, .int .i64 v] 30)).alloc (.cells #[.int .i64 h', .int .i64 r', .int .i64 s', .string i', .int .i64 v'] 30))) := (below_two _ _ _).trans ((below_one _ _).mono (by simp; omega))
  have HE0 : Hid (Blk (((w.alloc (.cells #[.int .i64 h, .int .i64 r, .int .i64 s, .string i, .int .i64 v, .string g, .int .i64 h', .int .i64 r', .int .i64 s', .string i', .int .i64 v', .string g'] 34)).alloc (.cells #[.int .i64 h, .int .i64 r, .int .i64 s, .string i, .int .i64 v] 30)).alloc (.cells #[.int .i64 h', .int .i64 r', .int .i64 s', .string i', .int .i64 v'] 30)) w.heap.size [.int .i64 h, .int .i64 r, .int .i64 s, .string i, .int .i64 v, .string g, .int .i64 h', .int .i64 r', .int .i64 s', .string i', .int .i64 v', .string g'] 34) := ((blk_new w _ _).alloc _).alloc _
  have HX0 : Hid (Blk (((w.alloc (.cells #[.int .i64 h, .int .i64 r, .int .i64 s, .string i, .int .i64 v, .string g, .int .i64 h', .int .i64 r', .int .i64 s', .string i', .int .i64 v', .string g'] 34)).alloc (.cells #[.int .i64 h, .int .i64 r, .int .i64 s, .string i, .int .i64 v] 30)).alloc (.cells #[.int .i64 h', .int .i64 r', .int .i64 s', .string i', .int .i64 v'] 30)) (w.heap.size + 1) [.int .i64 h, .int .i64 r, .int .i64 s, .string i, .int .i64 v] 30) := by
    have h1 := blk_new (w.alloc (.cells #[.int .i64 h, .int .i64 r, .int .i64 s, .string i, .int .i64 v, .string g, .int .i64 h', .int .i64 r', .int .i64 s', .string i', .int .i64 v', .string g'] 34)) [.int .i64 h, .int .i64 r, .int .i64 s, .string i, .int .i64 v] 30
    have e : (w.alloc (.cells #[.int .i64 h, .int .i64 r, .int .i64 s, .string i, .int .i64 v, .string g, .int .i64 h', .int .i64 r', .int .i64 s', .string i', .int .i64 v', .string g'] 34)).heap.size = w.heap.size + 1 := by simp
    rw [e] at h1; exact h1.alloc _
  have HY0 : Hid (Blk (((w.alloc (.cells #[.int .i64 h, .int .i64 r, .int .i64 s, .string i, .int .i64 v, .string g, .int .i64 h', .int .i64 r', .int .i64 s', .string i', .int .i64 v', .string g'] 34)).alloc (.cells #[.int .i64 h, .int .i64 r, .int .i64 s, .string i, .int .i64 v] 30)).alloc (.cells #[.int .i64 h', .int .i64 r', .int .i64 s', .string i', .int .i64 v'] 30)) (w.heap.size + 2) [.int .i64 h', .int .i64 r', .int .i64 s', .string i', .int .i64 v'] 30) := by
    have h1 := blk_new ((w.alloc (.cells #[.int .i64 h, .int .i64 r, .int .i64 s, .string i, .int .i64 v, .string g, .int .i64 h', .int .i64 r', .int .i64 s', .string i', .int .i64 v', .string g'] 34)).alloc (.cells #[.int .i64 h, .int .i64 r, .int .i64 s, .string i, .int .i64 v] 30)) [.int .i64 h', .int .i64 r', .int .i64 s', .string i', .int .i64 v'] 30
    have e : ((w.alloc (.cells #[.int .i64 h, .int .i64 r, .int .i64 s, .string i, .int .i64 v, .string g, .int .i64 h', .int .i64 r', .int .i64 s', .string i', .int .i64 v', .string g'] 34)).alloc (.cells #[.int .i64 h, .int .i64 r, .int .i64 s, .string i, .int .i64 v] 30)).heap.size = w.heap.size + 2 := by simp
    rw [e] at h1; exact h1
  go_enter Tryd.func14, Tryd.ntmps14
  go_wp2_with fail
  generalize ((w.alloc (Obj.cells #[.int .i64 h, .int .i64 r, .int .i64 s, .string i, .int .i64 v, .string g, .int .i64 h', .int .i64 r', .int .i64 s', .string i', .int .i64 v', .string g'] 34)).alloc (Obj.cells #[.int .i64 h, .int .i64 r, .int .i64 s, .string i, .int .i64 v] 30)).alloc (Obj.cells #[.int .i64 h', .int .i64 r', .int .i64 s', .string i', .int .i64 v'] 30) = w0 at *
  refine (kA _).mono ?_
  rintro e w1 ⟨rfl, b1⟩
  have HB1 : Hid (Below w.heap.size w w1) := HB0.out.trans (b1.mono HB0.out.size)
  have HE1 : Hid (Blk w1 w.heap.size [.int .i64 h, .int .i64 r, .int .i64 s, .string i, .int .i64 v, .string g, .int .i64 h', .int .i64 r', .int .i64 s', .string i', .int .i64 v', .string g'] 34) := HE0.out.below b1 HE0.out.lt
  have cE1_0 := HE1.out.cell 0 rfl
  have cE1_1 := HE1.out.cell 1 rfl
  have cE1_2 := HE1.out.cell 2 rfl
  have cE1_3 := HE1.out.cell 3 rfl
  have cE1_4 := HE1.out.cell 4 rfl
  have cE1_5 := HE1.out.cell 5 rfl
  have cE1_6 := HE1.out.cell 6 rfl
  have cE1_7 := HE1.out.cell 7 rfl
  have cE1_8 := HE1.out.cell 8 rfl
  have cE1_9 := HE1.out.cell 9 rfl
  have cE1_10 := HE1.out.cell 10 rfl
  have cE1_11 := HE1.out.cell 11 rfl
  have HX1 : Hid (Blk w1 (w.heap.size + 1) [.int .i64 h, .int .i64 r, .int .i64 s, .string i, .int .i64 v] 30) := HX0.out.below b1 HX0.out.lt
  have cX1_0 := HX1.out.cell 0 rfl
  have cX1_1 := HX1.out.cell 1 rfl
  have cX1_2 := HX1.out.cell 2 rfl
  have cX1_3 := HX1.out.cell 3 rfl
  have cX1_4 := HX1.out.cell 4 rfl
  have HY1 : Hid (Blk w1 (w.heap.size + 2) [.int .i64 h', .int .i64 r', .int .i64 s', .string i', .int .i64 v'] 30) := HY0.out.below b1 HY0.out.lt
  have cY1_0 := HY1.out.cell 0 rfl
  have cY1_1 := HY1.out.cell 1 rfl
  have cY1_2 := HY1.out.cell 2 rfl
  have cY1_3 := HY1.out.cell 3 rfl
  have cY1_4 := HY1.out.cell 4 rfl
  go_wp2
  go_ret
  exact ⟨rfl, HB1.out⟩
set_option maxHeartbeats 1600000 in
set_option maxRecDepth 100000 in
theorem spec_evok1 (a b : Sv) (w : World) (hA : sgB a = true) (hB : sgB b = false) :
    Calls Tryd.prog 14 #[eV a b] w fun e w' => e = .returned (.bool false) ∧ Below w.heap.size w w' := by
  have kA := fun W => spec_sd a.x a.s W
  have kB := fun W => spec_sd b.x b.s W
  unfold sgB at *
  rw [hA] at kA
  clear hA
  rw [hB] at kB
  clear hB
  unfold tV at kA kB
  obtain ⟨⟨h, r, s, i, v⟩, g⟩ := a
  obtain ⟨⟨h', r', s', i', v'⟩, g'⟩ := b
  unfold eV
  simp only at kA kB ⊢
  have HB0 : Hid (Below w.heap.size w (((w.alloc (.cells #[.int .i64 h, .int .i64 r, .int .i64 s, .string i, .int .i64 v, .string g, .int .i64 h', .int .i64 r', .int .i64 s', .string i', .int .i64 v', .string g'] 34)).alloc (.cells #[.int .i64 h, .int .i64 r, .int .i64 s, .string i, .int .i64 v] 30)).alloc (.cells #[.int .i64 h', .int .i64 r', .int .i64 s', .string i', .int .i64 v'] 30))) := (below_two _ _ _).trans ((below_one _ _).mono (by simp; omega))
  have HE0 : Hid (Blk (((w.alloc (.cells #[.int .i64 h, .int .i64 r, .int .i64 s, .string i, .int .i64 v, .string g, .int .i64 h', .int .i64 r', .int .i64 s', .string i', .int .i64 v', .string g'] 34)).alloc (.cells #[.int .i64 h, .int .i64 r, .int .i64 s, .string i, .int .i64 v] 30)).alloc (.cells #[.int .i64 h', .int .i64 r', .int .i64 s', .string i', .int .i64 v'] 30)) w.heap.size [.int .i64 h, .int .i64 r, .int .i64 s, .string i, .int .i64 v, .string g, .int .i64 h', .int .i64 r', .int .i64 s', .string i', .int .i64 v', .string g'] 34) := ((blk_new w _ _).alloc _).alloc _
  have HX0 : Hid (Blk (((w.alloc (.cells #[.int .i64 h, .int .i64 r, .int .i64 s, .string i, .int .i64 v, .string g, .int .i64 h', .int .i64 r', .int .i64 s', .string i', .int .i64 v', .string g'] 34)).alloc (.cells #[.int .i64 h, .int .i64 r, .int .i64 s, .string i, .int .i64 v] 30)).alloc (.cells #[.int .i64 h', .int .i64 r', .int .i64 s', .string i', .int .i64 v'] 30)) (w.heap.size + 1) [.int .i64 h, .int .i64 r, .int .i64 s, .string i, .int .i64 v] 30) := by
    have h1 := blk_new (w.alloc (.cells #[.int .i64 h, .int .i64 r, .int .i64 s, .string i, .int .i64 v, .string g, .int .i64 h', .int .i64 r', .int .i64 s', .string i', .int .i64 v', .string g'] 34)) [.int .i64 h, .int .i64 r, .int .i64 s, .string i, .int .i64 v] 30
    have e : (w.alloc (.cells #[.int .i64 h, .int .i64 r, .int .i64 s, .string i, .int .i64 v, .string g, .int .i64 h', .int .i64 r', .int .i64 s', .string i', .int .i64 v', .string g'] 34)).heap.size = w.heap.size + 1 := by simp
    rw [e] at h1; exact h1.alloc _
  have HY0 : Hid (Blk (((w.alloc (.cells #[.int .i64 h, .int .i64 r, .int .i64 s, .string i, .int .i64 v, .string g, .int .i64 h', .int .i64 r', .int .i64 s', .string i', .int .i64 v', .string g'] 34)).alloc (.cells #[.int .i64 h, .int .i64 r, .int .i64 s, .string i, .int .i64 v] 30)).alloc (.cells #[.int .i64 h', .int .i64 r', .int .i64 s', .string i', .int .i64 v'] 30)) (w.heap.size + 2) [.int .i64 h', .int .i64 r', .int .i64 s', .string i', .int .i64 v'] 30) := by
    have h1 := blk_new ((w.alloc (.cells #[.int .i64 h, .int .i64 r, .int .i64 s, .string i, .int .i64 v, .string g, .int .i64 h', .int .i64 r', .int .i64 s', .string i', .int .i64 v', .string g'] 34)).alloc (.cells #[.int .i64 h, .int .i64 r, .int .i64 s, .string i, .int .i64 v] 30)) [.int .i64 h', .int .i64 r', .int .i64 s', .string i', .int .i64 v'] 30
    have e : ((w.alloc (.cells #[.int .i64 h, .int .i64 r, .int .i64 s, .string i, .int .i64 v, .string g, .int .i64 h', .int .i64 r', .int .i64 s', .string i', .int .i64 v', .string g'] 34)).alloc (.cells #[.int .i64 h, .int .i64 r, .int .i64 s, .string i, .int .i64 v] 30)).heap.size = w.heap.size + 2 := by simp
    rw [e] at h1; exact h1
  go_enter Tryd.func14, Tryd.ntmps14
  go_wp2_with fail
  generalize ((w.alloc (Obj.cells #[.int .i64 h, .int .i64 r, .int .i64 s, .string i, .int .i64 v, .string g, .int .i64 h', .int .i64 r', .int .i64 s', .string i', .int .i64 v', .string g'] 34)).alloc (Obj.cells #[.int .i64 h, .int .i64 r, .int .i64 s, .string i, .int .i64 v] 30)).alloc (Obj.cells #[.int .i64 h', .int .i64 r', .int .i64 s', .string i', .int .i64 v'] 30) = w0 at *
  refine (kA _).mono ?_
  rintro e w1 ⟨rfl, b1⟩
  have HB1 : Hid (Below w.heap.size w w1) := HB0.out.trans (b1.mono HB0.out.size)
  have HE1 : Hid (Blk w1 w.heap.size [.int .i64 h, .int .i64 r, .int .i64 s, .string i, .int .i64 v, .string g, .int .i64 h', .int .i64 r', .int .i64 s', .string i', .int .i64 v', .string g'] 34) := HE0.out.below b1 HE0.out.lt
  have cE1_0 := HE1.out.cell 0 rfl
  have cE1_1 := HE1.out.cell 1 rfl
  have cE1_2 := HE1.out.cell 2 rfl
  have cE1_3 := HE1.out.cell 3 rfl
  have cE1_4 := HE1.out.cell 4 rfl
  have cE1_5 := HE1.out.cell 5 rfl
  have cE1_6 := HE1.out.cell 6 rfl
  have cE1_7 := HE1.out.cell 7 rfl
  have cE1_8 := HE1.out.cell 8 rfl
  have cE1_9 := HE1.out.cell 9 rfl
  have cE1_10 := HE1.out.cell 10 rfl
  have cE1_11 := HE1.out.cell 11 rfl
  have HX1 : Hid (Blk w1 (w.heap.size + 1) [.int .i64 h, .int .i64 r, .int .i64 s, .string i, .int .i64 v] 30) := HX0.out.below b1 HX0.out.lt
  have cX1_0 := HX1.out.cell 0 rfl
  have cX1_1 := HX1.out.cell 1 rfl
  have cX1_2 := HX1.out.cell 2 rfl
  have cX1_3 := HX1.out.cell 3 rfl
  have cX1_4 := HX1.out.cell 4 rfl
  have HY1 : Hid (Blk w1 (w.heap.size + 2) [.int .i64 h', .int .i64 r', .int .i64 s', .string i', .int .i64 v'] 30) := HY0.out.below b1 HY0.out.lt
  have cY1_0 := HY1.out.cell 0 rfl
  have cY1_1 := HY1.out.cell 1 rfl
  have cY1_2 := HY1.out.cell 2 rfl
  have cY1_3 := HY1.out.cell 3 rfl
  have cY1_4 := HY1.out.cell 4 rfl
  go_wp2_with fail
  refine (kB _).mono ?_
  rintro e w2 ⟨rfl, b2⟩
  have HB2 : Hid (Below w.heap.size w w2) := HB1.out.trans (b2.mono HB1.out.size)
  clear cE1_0 cE1_1 cE1_2 cE1_3 cE1_4 cE1_5 cE1_6 cE1_7 cE1_8 cE1_9 cE1_10 cE1_11 cX1_0 cX1_1 cX1_2 cX1_3 cX1_4 cY1_0 cY1_1 cY1_2 cY1_3 cY1_4
  have HE2 : Hid (Blk w2 w.heap.size [.int .i64 h, .int .i64 r, .int .i64 s, .string i, .int .i64 v, .string g, .int .i64 h', .int .i64 r', .int .i64 s', .string i', .int .i64 v', .string g'] 34) := HE1.out.below b2 HE1.out.lt
  have cE2_0 := HE2.out.cell 0 rfl
  have cE2_1 := HE2.out.cell 1 rfl
  have cE2_2 := HE2.out.cell 2 rfl
  have cE2_3 := HE2.out.cell 3 rfl
  have cE2_4 := HE2.out.cell 4 rfl
  have cE2_5 := HE2.out.cell 5 rfl
  have cE2_6 := HE2.out.cell 6 rfl
  have cE2_7 := HE2.out.cell 7 rfl
  have cE2_8 := HE2.out.cell 8 rfl
  have cE2_9 := HE2.out.cell 9 rfl
  have cE2_10 := HE2.out.cell 10 rfl
  have cE2_11 := HE2.out.cell 11 rfl
  have HX2 : Hid (Blk w2 (w.heap.size + 1) [.int .i64 h, .int .i64 r, .int .i64 s, .string i, .int .i64 v] 30) := HX1.out.below b2 HX1.out.lt
  have cX2_0 := HX2.out.cell 0 rfl
  have cX2_1 := HX2.out.cell 1 rfl
  have cX2_2 := HX2.out.cell 2 rfl
  have cX2_3 := HX2.out.cell 3 rfl
  have cX2_4 := HX2.out.cell 4 rfl
  have HY2 : Hid (Blk w2 (w.heap.size + 2) [.int .i64 h', .int .i64 r', .int .i64 s', .string i', .int .i64 v'] 30) := HY1.out.below b2 HY1.out.lt
  have cY2_0 := HY2.out.cell 0 rfl
  have cY2_1 := HY2.out.cell 1 rfl
  have cY2_2 := HY2.out.cell 2 rfl
  have cY2_3 := HY2.out.cell 3 rfl
  have cY2_4 := HY2.out.cell 4 rfl
  go_wp2
  go_ret
  exact ⟨rfl, HB2.out⟩
set_option maxHeartbeats 1600000 in
set_option maxRecDepth 100000 in
theorem spec_evok2 (a b : Sv) (w : World) (hA : sgB a = true) (hB : sgB b = true) (hn : ¬ a.x.v = b.x.v) :
    Calls Tryd.prog 14 #[eV a b] w fun e w' => e = .returned (.bool false) ∧ Below w.heap.size w w' := by
  have kA := fun W => spec_sd a.x a.s W
  have kB := fun W => spec_sd b.x b.s W
  unfold sgB at *
  rw [hA] at kA
  clear hA
  rw [hB] at kB
  clear hB
  unfold tV at kA kB
  obtain ⟨⟨h, r, s, i, v⟩, g⟩ := a
  obtain ⟨⟨h', r', s', i', v'⟩, g'⟩ := b
  unfold eV
  simp only at kA kB hn ⊢
  have HB0 : Hid (Below w.heap.size w (((w.alloc (.cells #[.int .i64 h, .int .i64 r, .int .i64 s, .string i, .int .i64 v, .string g, .int .i64 h', .int .i64 r', .int .i64 s', .string i', .int .i64 v', .string g'] 34)).alloc (.cells #[.int .i64 h, .int .i64 r, .int .i64 s, .string i, .int .i64 v] 30)).alloc (.cells #[.int .i64 h', .int .i64 r', .int .i64 s', .string i', .int .i64 v'] 30))) := (below_two _ _ _).trans ((below_one _ _).mono (by simp; omega))
  have HE0 : Hid (Blk (((w.alloc (.cells #[.int .i64 h, .int .i64 r, .int .i64 s, .string i, .int .i64 v, .string g, .int .i64 h', .int .i64 r', .int .i64 s', .string i', .int .i64 v', .string g'] 34)).alloc (.cells #[.int .i64 h, .int .i64 r, .int .i64 s, .string i, .int .i64 v] 30)).alloc (.cells #[.int .i64 h', .int .i64 r', .int .i64 s', .string i', .int .i64 v'] 30)) w.heap.size [.int .i64 h, .int .i64 r, .int .i64 s, .string i, .int .i64 v, .string g, .int .i64 h', .int .i64 r', .int .i64 s', .string i', .int .i64 v', .string g'] 34) := ((blk_new w _ _).alloc _).alloc _
  have HX0 : Hid (Blk (((w.alloc (.cells #[.int .i64 h, .int .i64 r, .int .i64 s, .string i, .int .i64 v, .string g, .int .i64 h', .int .i64 r', .int .i64 s', .string i', .int .i64 v', .string g'] 34)).alloc (.cells #[.int .i64 h, .int .i64 r, .int .i64 s, .string i, .int .i64 v] 30)).alloc (.cells #[.int .i64 h', .int .i64 r', .int .i64 s', .string i', .int .i64 v'] 30)) (w.heap.size + 1) [.int .i64 h, .int .i64 r, .int .i64 s, .string i, .int .i64 v] 30) := by
    have h1 := blk_new (w.alloc (.cells #[.int .i64 h, .int .i64 r, .int .i64 s, .string i, .int .i64 v, .string g, .int .i64 h', .int .i64 r', .int .i64 s', .string i', .int .i64 v', .string g'] 34)) [.int .i64 h, .int .i64 r, .int .i64 s, .string i, .int .i64 v] 30
    have e : (w.alloc (.cells #[.int .i64 h, .int .i64 r, .int .i64 s, .string i, .int .i64 v, .string g, .int .i64 h', .int .i64 r', .int .i64 s', .string i', .int .i64 v', .string g'] 34)).heap.size = w.heap.size + 1 := by simp
    rw [e] at h1; exact h1.alloc _
  have HY0 : Hid (Blk (((w.alloc (.cells #[.int .i64 h, .int .i64 r, .int .i64 s, .string i, .int .i64 v, .string g, .int .i64 h', .int .i64 r', .int .i64 s', .string i', .int .i64 v', .string g'] 34)).alloc (.cells #[.int .i64 h, .int .i64 r, .int .i64 s, .string i, .int .i64 v] 30)).alloc (.cells #[.int .i64 h', .int .i64 r', .int .i64 s', .string i', .int .i64 v'] 30)) (w.heap.size + 2) [.int .i64 h', .int .i64 r', .int .i64 s', .string i', .int .i64 v'] 30) := by
    have h1 := blk_new ((w.alloc (.cells #[.int .i64 h, .int .i64 r, .int .i64 s, .string i, .int .i64 v, .string g, .int .i64 h', .int .i64 r', .int .i64 s', .string i', .int .i64 v', .string g'] 34)).alloc (.cells #[.int .i64 h, .int .i64 r, .int .i64 s, .string i, .int .i64 v] 30)) [.int .i64 h', .int .i64 r', .int .i64 s', .string i', .int .i64 v'] 30
    have e : ((w.alloc (.cells #[.int .i64 h, .int .i64 r, .int .i64 s, .string i, .int .i64 v, .string g, .int .i64 h', .int .i64 r', .int .i64 s', .string i', .int .i64 v', .string g'] 34)).alloc (.cells #[.int .i64 h, .int .i64 r, .int .i64 s, .string i, .int .i64 v] 30)).heap.size = w.heap.size + 2 := by simp
    rw [e] at h1; exact h1
  go_enter Tryd.func14, Tryd.ntmps14
  go_wp2_with fail
  generalize ((w.alloc (Obj.cells #[.int .i64 h, .int .i64 r, .int .i64 s, .string i, .int .i64 v, .string g, .int .i64 h', .int .i64 r', .int .i64 s', .string i', .int .i64 v', .string g'] 34)).alloc (Obj.cells #[.int .i64 h, .int .i64 r, .int .i64 s, .string i, .int .i64 v] 30)).alloc (Obj.cells #[.int .i64 h', .int .i64 r', .int .i64 s', .string i', .int .i64 v'] 30) = w0 at *
  refine (kA _).mono ?_
  rintro e w1 ⟨rfl, b1⟩
  have HB1 : Hid (Below w.heap.size w w1) := HB0.out.trans (b1.mono HB0.out.size)
  have HE1 : Hid (Blk w1 w.heap.size [.int .i64 h, .int .i64 r, .int .i64 s, .string i, .int .i64 v, .string g, .int .i64 h', .int .i64 r', .int .i64 s', .string i', .int .i64 v', .string g'] 34) := HE0.out.below b1 HE0.out.lt
  have cE1_0 := HE1.out.cell 0 rfl
  have cE1_1 := HE1.out.cell 1 rfl
  have cE1_2 := HE1.out.cell 2 rfl
  have cE1_3 := HE1.out.cell 3 rfl
  have cE1_4 := HE1.out.cell 4 rfl
  have cE1_5 := HE1.out.cell 5 rfl
  have cE1_6 := HE1.out.cell 6 rfl
  have cE1_7 := HE1.out.cell 7 rfl
  have cE1_8 := HE1.out.cell 8 rfl
  have cE1_9 := HE1.out.cell 9 rfl
  have cE1_10 := HE1.out.cell 10 rfl
  have cE1_11 := HE1.out.cell 11 rfl
  have HX1 : Hid (Blk w1 (w.heap.size + 1) [.int .i64 h, .int .i64 r, .int .i64 s, .string i, .int .i64 v] 30) := HX0.out.below b1 HX0.out.lt
  have cX1_0 := HX1.out.cell 0 rfl
  have cX1_1 := HX1.out.cell 1 rfl
  have cX1_2 := HX1.out.cell 2 rfl
  have cX1_3 := HX1.out.cell 3 rfl
  have cX1_4 := HX1.out.cell 4 rfl
  have HY1 : Hid (Blk w1 (w.heap.size + 2) [.int .i64 h', .int .i64 r', .int .i64 s', .string i', .int .i64 v'] 30) := HY0.out.below b1 HY0.out.lt
  have cY1_0 := HY1.out.cell 0 rfl
  have cY1_1 := HY1.out.cell 1 rfl
  have cY1_2 := HY1.out.cell 2 rfl
  have cY1_3 := HY1.out.cell 3 rfl
  have cY1_4 := HY1.out.cell 4 rfl
  go_wp2_with fail
  refine (kB _).mono ?_
  rintro e w2 ⟨rfl, b2⟩
  have HB2 : Hid (Below w.heap.size w w2) := HB1.out.trans (b2.mono HB1.out.size)
  clear cE1_0 cE1_1 cE1_2 cE1_3 cE1_4 cE1_5 cE1_6 cE1_7 cE1_8 cE1_9 cE1_10 cE1_11 cX1_0 cX1_1 cX1_2 cX1_3 cX1_4 cY1_0 cY1_1 cY1_2 cY1_3 cY1_4
  have HE2 : Hid (Blk w2 w.heap.size [.int .i64 h, .int .i64 r, .int .i64 s, .string i, .int .i64 v, .string g, .int .i64 h', .int .i64 r', .int .i64 s', .string i', .int .i64 v', .string g'] 34) := HE1.out.below b2 HE1.out.lt
  have cE2_0 := HE2.out.cell 0 rfl
  have cE2_1 := HE2.out.cell 1 rfl
  have cE2_2 := HE2.out.cell 2 rfl
  have cE2_3 := HE2.out.cell 3 rfl
  have cE2_4 := HE2.out.cell 4 rfl
  have cE2_5 := HE2.out.cell 5 rfl
  have cE2_6 := HE2.out.cell 6 rfl
  have cE2_7 := HE2.out.cell 7 rfl
  have cE2_8 := HE2.out.cell 8 rfl
  have cE2_9 := HE2.out.cell 9 rfl
  have cE2_10 := HE2.out.cell 10 rfl
  have cE2_11 := HE2.out.cell 11 rfl
  have HX2 : Hid (Blk w2 (w.heap.size + 1) [.int .i64 h, .int .i64 r, .int .i64 s, .string i, .int .i64 v] 30) := HX1.out.below b2 HX1.out.lt
  have cX2_0 := HX2.out.cell 0 rfl
  have cX2_1 := HX2.out.cell 1 rfl
  have cX2_2 := HX2.out.cell 2 rfl
  have cX2_3 := HX2.out.cell 3 rfl
  have cX2_4 := HX2.out.cell 4 rfl
  have HY2 : Hid (Blk w2 (w.heap.size + 2) [.int .i64 h', .int .i64 r', .int .i64 s', .string i', .int .i64 v'] 30) := HY1.out.below b2 HY1.out.lt
  have cY2_0 := HY2.out.cell 0 rfl
  have cY2_1 := HY2.out.cell 1 rfl
  have cY2_2 := HY2.out.cell 2 rfl
  have cY2_3 := HY2.out.cell 3 rfl
  have cY2_4 := HY2.out.cell 4 rfl
  go_wp2
  go_ret
  exact ⟨rfl, HB2.out⟩
set_option maxHeartbeats 1600000 in
set_option maxRecDepth 100000 in
theorem spec_evok3 (a b : Sv) (w : World) (hA : sgB a = true) (hB : sgB b = true) (h0 : a.x.v = b.x.v) (hn : ¬ a.x.h = b.x.h) :
    Calls Tryd.prog 14 #[eV a b] w fun e w' => e = .returned (.bool false) ∧ Below w.heap.size w w' := by
  have kA := fun W => spec_sd a.x a.s W
  have kB := fun W => spec_sd b.x b.s W
  unfold sgB at *
  rw [hA] at kA
  clear hA
  rw [hB] at kB
  clear hB
  unfold tV at kA kB
  obtain ⟨⟨h, r, s, i, v⟩, g⟩ := a
  obtain ⟨⟨h', r', s', i', v'⟩, g'⟩ := b
  unfold eV
  simp only at kA kB h0 hn ⊢
  subst h0
  have HB0 : Hid (Below w.heap.size w (((w.alloc (.cells #[.int .i64 h, .int .i64 r, .int .i64 s, .string i, .int .i64 v, .string g, .int .i64 h', .int .i64 r', .int .i64 s', .string i', .int .i64 v, .string g'] 34)).alloc (.cells #[.int .i64 h, .int .i64 r, .int .i64 s, .string i, .int .i64 v] 30)).alloc (.cells #[.int .i64 h', .int .i64 r', .int .i64 s', .string i', .int .i64 v] 30))) := (below_two _ _ _).trans ((below_one _ _).mono (by simp; omega))
  have HE0 : Hid (Blk (((w.alloc (.cells #[.int .i64 h, .int .i64 r, .int .i64 s, .string i, .int .i64 v, .string g, .int .i64 h', .int .i64 r', .int .i64 s', .string i', .int .i64 v, .string g'] 34)).alloc (.cells #[.int .i64 h, .int .i64 r, .int .i64 s, .string i, .int .i64 v] 30)).alloc (.cells #[.int .i64 h', .int .i64 r', .int .i64 s', .string i', .int .i64 v] 30)) w.heap.size [.int .i64 h, .int .i64 r, .int .i64 s, .string i, .int .i64 v, .string g, .int .i64 h', .int .i64 r', .int .i64 s', .string i', .int .i64 v, .string g'] 34) := ((blk_new w _ _).alloc _).alloc _
  have HX0 : Hid (Blk (((w.alloc (.cells #[.int .i64 h, .int .i64 r, .int .i64 s, .string i, .int .i64 v, .string g, .int .i64 h', .int .i64 r', .int .i64 s', .string i', .int .i64 v, .string g'] 34)).alloc (.cells #[.int .i64 h, .int .i64 r, .int .i64 s, .string i, .int .i64 v] 30)).alloc (.cells #[.int .i64 h', .int .i64 r', .int .i64 s', .string i', .int .i64 v] 30)) (w.heap.size + 1) [.int .i64 h, .int .i64 r, .int .i64 s, .string i, .int .i64 v] 30) := by
    have h1 := blk_new (w.alloc (.cells #[.int .i64 h, .int .i64 r, .int .i64 s, .string i, .int .i64 v, .string g, .int .i64 h', .int .i64 r', .int .i64 s', .string i', .int .i64 v, .string g'] 34)) [.int .i64 h, .int .i64 r, .int .i64 s, .string i, .int .i64 v] 30
    have e : (w.alloc (.cells #[.int .i64 h, .int .i64 r, .int .i64 s, .string i, .int .i64 v, .string g, .int .i64 h', .int .i64 r', .int .i64 s', .string i', .int .i64 v, .string g'] 34)).heap.size = w.heap.size + 1 := by simp
    rw [e] at h1; exact h1.alloc _
  have HY0 : Hid (Blk (((w.alloc (.cells #[.int .i64 h, .int .i64 r, .int .i64 s, .string i, .int .i64 v, .string g, .int .i64 h', .int .i64 r', .int .i64 s', .string i', .int .i64 v, .string g'] 34)).alloc (.cells #[.int .i64 h, .int .i64 r, .int .i64 s, .string i, .int .i64 v] 30)).alloc (.cells #[.int .i64 h', .int .i64 r', .int .i64 s', .string i', .int .i64 v] 30)) (w.heap.size + 2) [.int .i64 h', .int .i64 r', .int .i64 s', .string i', .int .i64 v] 30) := by
    have h1 := blk_new ((w.alloc (.cells #[.int .i64 h, .int .i64 r, .int .i64 s, .string i, .int .i64 v, .string g, .int .i64 h', .int .i64 r', .int .i64 s', .string i', .int .i64 v, .string g'] 34)).alloc (.cells #[.int .i64 h, .int .i64 r, .int .i64 s, .string i, .int .i64 v] 30)) [.int .i64 h', .int .i64 r', .int .i64 s', .string i', .int .i64 v] 30
    have e : ((w.alloc (.cells #[.int .i64 h, .int .i64 r, .int .i64 s, .string i, .int .i64 v, .string g, .int .i64 h', .int .i64 r', .int .i64 s', .string i', .int .i64 v, .string g'] 34)).alloc (.cells #[.int .i64 h, .int .i64 r, .int .i64 s, .string i, .int .i64 v] 30)).heap.size = w.heap.size + 2 := by simp
    rw [e] at h1; exact h1
  go_enter Tryd.func14, Tryd.ntmps14
  go_wp2_with fail
  generalize ((w.alloc (Obj.cells #[.int .i64 h, .int .i64 r, .int .i64 s, .string i, .int .i64 v, .string g, .int .i64 h', .int .i64 r', .int .i64 s', .string i', .int .i64 v, .string g'] 34)).alloc (Obj.cells #[.int .i64 h, .int .i64 r, .int .i64 s, .string i, .int .i64 v] 30)).alloc (Obj.cells #[.int .i64 h', .int .i64 r', .int .i64 s', .string i', .int .i64 v] 30) = w0 at *
  refine (kA _).mono ?_
  rintro e w1 ⟨rfl, b1⟩
  have HB1 : Hid (Below w.heap.size w w1) := HB0.out.trans (b1.mono HB0.out.size)
  have HE1 : Hid (Blk w1 w.heap.size [.int .i64 h, .int .i64 r, .int .i64 s, .string i, .int .i64 v, .string g, .int .i64 h', .int .i64 r', .int .i64 s', .string i', .int .i64 v, .string g'] 34) := HE0.out.below b1 HE0.out.lt
  have cE1_0 := HE1.out.cell 0 rfl
  have cE1_1 := HE1.out.cell 1 rfl
  have cE1_2 := HE1.out.cell 2 rfl
  have cE1_3 := HE1.out.cell 3 rfl
  have cE1_4 := HE1.out.cell 4 rfl
  have cE1_5 := HE1.out.cell 5 rfl
  have cE1_6 := HE1.out.cell 6 rfl
  have cE1_7 := HE1.out.cell 7 rfl
  have cE1_8 := HE1.out.cell 8 rfl
  have cE1_9 := HE1.out.cell 9 rfl
  have cE1_10 := HE1.out.cell 10 rfl
  have cE1_11 := HE1.out.cell 11 rfl
  have HX1 : Hid (Blk w1 (w.heap.size + 1) [.int .i64 h, .int .i64 r, .int .i64 s, .string i, .int .i64 v] 30) := HX0.out.below b1 HX0.out.lt
  have cX1_0 := HX1.out.cell 0 rfl
  have cX1_1 := HX1.out.cell 1 rfl
  have cX1_2 := HX1.out.cell 2 rfl
  have cX1_3 := HX1.out.cell 3 rfl
  have cX1_4 := HX1.out.cell 4 rfl
  have HY1 : Hid (Blk w1 (w.heap.size + 2) [.int .i64 h', .int .i64 r', .int .i64 s', .string i', .int .i64 v] 30) := HY0.out.below b1 HY0.out.lt
  have cY1_0 := HY1.out.cell 0 rfl
  have cY1_1 := HY1.out.cell 1 rfl
  have cY1_2 := HY1.out.cell 2 rfl
  have cY1_3 := HY1.out.cell 3 rfl
  have cY1_4 := HY1.out.cell 4 rfl
  go_wp2_with fail
  refine (kB _).mono ?_
  rintro e w2 ⟨rfl, b2⟩
  have HB2 : Hid (Below w.heap.size w w2) := HB1.out.trans (b2.mono HB1.out.size)
  clear cE1_0 cE1_1 cE1_2 cE1_3 cE1_4 cE1_5 cE1_6 cE1_7 cE1_8 cE1_9 cE1_10 cE1_11 cX1_0 cX1_1 cX1_2 cX1_3 cX1_4 cY1_0 cY1_1 cY1_2 cY1_3 cY1_4
  have HE2 : Hid (Blk w2 w.heap.size [.int .i64 h, .int .i64 r, .int .i64 s, .string i, .int .i64 v, .string g, .int .i64 h', .int .i64 r', .int .i64 s', .string i', .int .i64 v, .string g'] 34) := HE1.out.below b2 HE1.out.lt
  have cE2_0 := HE2.out.cell 0 rfl
  have cE2_1 := HE2.out.cell 1 rfl
  have cE2_2 := HE2.out.cell 2 rfl
  have cE2_3 := HE2.out.cell 3 rfl
  have cE2_4 := HE2.out.cell 4 rfl
  have cE2_5 := HE2.out.cell 5 rfl
  have cE2_6 := HE2.out.cell 6 rfl
  have cE2_7 := HE2.out.cell 7 rfl
  have cE2_8 := HE2.out.cell 8 rfl
  have cE2_9 := HE2.out.cell 9 rfl
  have cE2_10 := HE2.out.cell 10 rfl
  have cE2_11 := HE2.out.cell 11 rfl
  have HX2 : Hid (Blk w2 (w.heap.size + 1) [.int .i64 h, .int .i64 r, .int .i64 s, .string i, .int .i64 v] 30) := HX1.out.below b2 HX1.out.lt
  have cX2_0 := HX2.out.cell 0 rfl
  have cX2_1 := HX2.out.cell 1 rfl
  have cX2_2 := HX2.out.cell 2 rfl
  have cX2_3 := HX2.out.cell 3 rfl
  have cX2_4 := HX2.out.cell 4 rfl
  have HY2 : Hid (Blk w2 (w.heap.size + 2) [.int .i64 h', .int .i64 r', .int .i64 s', .string i', .int .i64 v] 30) := HY1.out.below b2 HY1.out.lt
  have cY2_0 := HY2.out.cell 0 rfl
  have cY2_1 := HY2.out.cell 1 rfl
  have cY2_2 := HY2.out.cell 2 rfl
  have cY2_3 := HY2.out.cell 3 rfl
  have cY2_4 := HY2.out.cell 4 rfl
  go_wp2
  go_ret
  exact ⟨rfl, HB2.out⟩
set_option maxHeartbeats 1600000 in
set_option maxRecDepth 100000 in
theorem spec_evok4 (a b : Sv) (w : World) (hA : sgB a = true) (hB : sgB b = true) (h0 : a.x.v = b.x.v) (h1 : a.x.h = b.x.h) (hn : ¬ a.x.r = b.x.r) :
    Calls Tryd.prog 14 #[eV a b] w fun e w' => e = .returned (.bool false) ∧ Below w.heap.size w w' := by
  have kA := fun W => spec_sd a.x a.s W
  have kB := fun W => spec_sd b.x b.s W
  unfold sgB at *
  rw [hA] at kA
  clear hA
  rw [hB] at kB
  clear hB
  unfold tV at kA kB
  obtain ⟨⟨h, r, s, i, v⟩, g⟩ := a
  obtain ⟨⟨h', r', s', i', v'⟩, g'⟩ := b
  unfold eV
  simp only at kA kB h0 h1 hn ⊢
  subst h0
  subst h1
  have HB0 : Hid (Below w.heap.size w (((w.alloc (.cells #[.int .i64 h, .int .i64 r, .int .i64 s, .string i, .int .i64 v, .string g, .int .i64 h, .int .i64 r', .int .i64 s', .string i', .int .i64 v, .string g'] 34)).alloc (.cells #[.int .i64 h, .int .i64 r, .int .i64 s, .string i, .int .i64 v] 30)).alloc (.cells #[.int .i64 h, .int .i64 r', .int .i64 s', .string i', .int .i64 v] 30))) := (below_two _ _ _).trans ((below_one _ _).mono (by simp; omega))
  have HE0 : Hid (Blk (((w.alloc (.cells #[.int .i64 h, .int .i64 r, .int .i64 s, .string i, .int .i64 v, .string g, .int .i64 h, .int .i64 r', .int .i64 s', .string i', .int .i64 v, .string g'] 34)).alloc (.cells #[.int .i64 h, .int .i64 r, .int .i64 s, .string i, .int .i64 v] 30)).alloc (.cells #[.int .i64 h, .int .i64 r', .int .i64 s', .string i', .int .i64 v] 30)) w.heap.size [.int .i64 h, .int .i64 r, .int .i64 s, .string i, .int .i64 v, .string g, .int .i64 h, .int .i64 r', .int .i64 s', .string i', .int .i64 v, .string g'] 34) := ((blk_new w _ _).alloc _).alloc _
  have HX0 : Hid (Blk (((w.alloc (.cells #[.int .i64 h, .int .i64 r, .int .i64 s, .string i, .int .i64 v, .string g, .int .i64 h, .int .i64 r', .int .i64 s', .string i', .int .i64 v, .string g'] 34)).alloc (.cells #[.int .i64 h, .int .i64 r, .int .i64 s, .string i, .int .i64 v] 30)).alloc (.cells #[.int .i64 h, .int .i64 r', .int .i64 s', .string i', .int .i64 v] 30)) (w.heap.size + 1) [.int .i64 h, .int .i64 r, .int .i64 s, .string i, .int .i64 v] 30) := by
    have h1 := blk_new (w.alloc (.cells #[.int .i64 h, .int .i64 r, .int .i64 s, .string i, .int .i64 v, .string g, .int .i64 h, .int .i64 r', .int .i64 s', .string i', .int .i64 v, .string g'] 34)) [.int .i64 h, .int .i64 r, .int .i64 s, .string i, .int .i64 v] 30
    have e : (w.alloc (.cells #[.int .i64 h, .int .i64 r, .int .i64 s, .string i, .int .i64 v, .string g, .int .i64 h, .int .i64 r', .int .i64 s', .string i', .int .i64 v, .string g'] 34)).heap.size = w.heap.size + 1 := by simp
    rw [e] at h1; exact h1.alloc _
  have HY0 : Hid (Blk (((w.alloc (.cells #[.int .i64 h, .int .i64 r, .int .i64 s, .string i, .int .i64 v, .string g, .int .i64 h, .int .i64 r', .int .i64 s', .string i', .int .i64 v, .string g'] 34)).alloc (.cells #[.int .i64 h, .int .i64 r, .int .i64 s, .string i, .int .i64 v] 30)).alloc (.cells #[.int .i64 h, .int .i64 r', .int .i64 s', .string i', .int .i64 v] 30)) (w.heap.size + 2) [.int .i64 h, .int .i64 r', .int .i64 s', .string i', .int .i64 v] 30) := by
    have h1 := blk_new ((w.alloc (.cells #[.int .i64 h, .int .i64 r, .int .i64 s, .string i, .int .i64 v, .string g, .int .i64 h, .int .i64 r', .int .i64 s', .string i', .int .i64 v, .string g'] 34)).alloc (.cells #[.int .i64 h, .int .i64 r, .int .i64 s, .string i, .int .i64 v] 30)) [.int .i64 h, .int .i64 r', .int .i64 s', .string i', .int .i64 v] 30
    have e : ((w.alloc (.cells #[.int .i64 h, .int .i64 r, .int .i64 s, .string i, .int .i64 v, .string g, .int .i64 h, .int .i64 r', .int .i64 s', .string i', .int .i64 v, .string g'] 34)).alloc (.cells #[.int .i64 h, .int .i64 r, .int .i64 s, .string i, .int .i64 v] 30)).heap.size = w.heap.size + 2 := by simp
    rw [e] at h1; exact h1
  go_enter Tryd.func14, Tryd.ntmps14
  go_wp2_with fail
  generalize ((w.alloc (Obj.cells #[.int .i64 h, .int .i64 r, .int .i64 s, .string i, .int .i64 v, .string g, .int .i64 h, .int .i64 r', .int .i64 s', .string i', .int .i64 v, .string g'] 34)).alloc (Obj.cells #[.int .i64 h, .int .i64 r, .int .i64 s, .string i, .int .i64 v] 30)).alloc (Obj.cells #[.int .i64 h, .int .i64 r', .int .i64 s', .string i', .int .i64 v] 30) = w0 at *
  refine (kA _).mono ?_
  rintro e w1 ⟨rfl, b1⟩
  have HB1 : Hid (Below w.heap.size w w1) := HB0.out.trans (b1.mono HB0.out.size)
  have HE1 : Hid (Blk w1 w.heap.size [.int .i64 h, .int .i64 r, .int .i64 s, .string i, .int .i64 v, .string g, .int .i64 h, .int .i64 r', .int .i64 s', .string i', .int .i64 v, .string g'] 34) := HE0.out.below b1 HE0.out.lt
  have cE1_0 := HE1.out.cell 0 rfl
  have cE1_1 := HE1.out.cell 1 rfl
  have cE1_2 := HE1.out.cell 2 rfl
  have cE1_3 := HE1.out.cell 3 rfl
  have cE1_4 := HE1.out.cell 4 rfl
  have cE1_5 := HE1.out.cell 5 rfl
  have cE1_6 := HE1.out.cell 6 rfl
  have cE1_7 := HE1.out.cell 7 rfl
  have cE1_8 := HE1.out.cell 8 rfl
  have cE1_9 := HE1.out.cell 9 rfl
  have cE1_10 := HE1.out.cell 10 rfl
  have cE1_11 := HE1.out.cell 11 rfl
  have HX1 : Hid (Blk w1 (w.heap.size + 1) [.int .i64 h, .int .i64 r, .int .i64 s, .string i, .int .i64 v] 30) := HX0.out.below b1 HX0.out.lt
  have cX1_0 := HX1.out.cell 0 rfl
  have cX1_1 := HX1.out.cell 1 rfl
  have cX1_2 := HX1.out.cell 2 rfl
  have cX1_3 := HX1.out.cell 3 rfl
  have cX1_4 := HX1.out.cell 4 rfl
  have HY1 : Hid (Blk w1 (w.heap.size + 2) [.int .i64 h, .int .i64 r', .int .i64 s', .string i', .int .i64 v] 30) := HY0.out.below b1 HY0.out.lt
  have cY1_0 := HY1.out.cell 0 rfl
  have cY1_1 := HY1.out.cell 1 rfl
  have cY1_2 := HY1.out.cell 2 rfl
  have cY1_3 := HY1.out.cell 3 rfl
  have cY1_4 := HY1.out.cell 4 rfl
  go_wp2_with fail
  refine (kB _).mono ?_
  rintro e w2 ⟨rfl, b2⟩
  have HB2 : Hid (Below w.heap.size w w2) := HB1.out.trans (b2.mono HB1.out.size)
  clear cE1_0 cE1_1 cE1_2 cE1_3 cE1_4 cE1_5 cE1_6 cE1_7 cE1_8 cE1_9 cE1_10 cE1_11 cX1_0 cX1_1 cX1_2 cX1_3 cX1_4 cY1_0 cY1_1 cY1_2 cY1_3 cY1_4
  have HE2 : Hid (Blk w2 w.heap.size [.int .i64 h, .int .i64 r, .int .i64 s, .string i, .int .i64 v, .string g, .int .i64 h, .int .i64 r', .int .i64 s', .string i', .int .i64 v, .string g'] 34) := HE1.out.below b2 HE1.out.lt
  have cE2_0 := HE2.out.cell 0 rfl
  have cE2_1 := HE2.out.cell 1 rfl
  have cE2_2 := HE2.out.cell 2 rfl
  have cE2_3 := HE2.out.cell 3 rfl
  have cE2_4 := HE2.out.cell 4 rfl
  have cE2_5 := HE2.out.cell 5 rfl
  have cE2_6 := HE2.out.cell 6 rfl
  have cE2_7 := HE2.out.cell 7 rfl
  have cE2_8 := HE2.out.cell 8 rfl
  have cE2_9 := HE2.out.cell 9 rfl
  have cE2_10 := HE2.out.cell 10 rfl
  have cE2_11 := HE2.out.cell 11 rfl
  have HX2 : Hid (Blk w2 (w.heap.size + 1) [.int .i64 h, .int .i64 r, .int .i64 s, .string i, .int .i64 v] 30) := HX1.out.below b2 HX1.out.lt
  have cX2_0 := HX2.out.cell 0 rfl
  have cX2_1 := HX2.out.cell 1 rfl
  have cX2_2 := HX2.out.cell 2 rfl
  have cX2_3 := HX2.out.cell 3 rfl
  have cX2_4 := HX2.out.cell 4 rfl
  have HY2 : Hid (Blk w2 (w.heap.size + 2) [.int .i64 h, .int .i64 r', .int .i64 s', .string i', .int .i64 v] 30) := HY1.out.below b2 HY1.out.lt
  have cY2_0 := HY2.out.cell 0 rfl
  have cY2_1 := HY2.out.cell 1 rfl
  have cY2_2 := HY2.out.cell 2 rfl
  have cY2_3 := HY2.out.cell 3 rfl
  have cY2_4 := HY2.out.cell 4 rfl
  go_wp2
  go_ret
  exact ⟨rfl, HB2.out⟩
set_option maxHeartbeats 1600000 in
set_option maxRecDepth 100000 in
theorem spec_evok5 (a b : Sv) (w : World) (hA : sgB a = true) (hB : sgB b = true) (h0 : a.x.v = b.x.v) (h1 : a.x.h = b.x.h) (h2 : a.x.r = b.x.r) (hn : ¬ a.x.s = b.x.s) :
    Calls Tryd.prog 14 #[eV a b] w fun e w' => e = .returned (.bool false) ∧ Below w.heap.size w w' := by
  have kA := fun W => spec_sd a.x a.s W
  have kB := fun W => spec_sd b.x b.s W
  unfold sgB at *
  rw [hA] at kA
  clear hA
  rw [hB] at kB
  clear hB
  unfold tV at kA kB
  obtain ⟨⟨h, r, s, i, v⟩, g⟩ := a
  obtain ⟨⟨h', r', s', i', v'⟩, g'⟩ := b
  unfold eV
  simp only at kA kB h0 h1 h2 hn ⊢
  subst h0
  subst h1
  subst h2
  have HB0 : Hid (Below w.heap.size w (((w.alloc (.cells #[.int .i64 h, .int .i64 r, .int .i64 s, .string i, .int .i64 v, .string g, .int .i64 h, .int .i64 r, .int .i64 s', .string i', .int .i64 v, .string g'] 34)).alloc (.cells #[.int .i64 h, .int .i64 r, .int .i64 s, .string i, .int .i64 v] 30)).alloc (.cells #[.int .i64 h, .int .i64 r, .int .i64 s', .string i', .int .i64 v] 30))) := (below_two _ _ _).trans ((below_one _ _).mono (by simp; omega))
  have HE0 : Hid (Blk (((w.alloc (.cells #[.int .i64 h, .int .i64 r, .int .i64 s, .string i, .int .i64 v, .string g, .int .i64 h, .int .i64 r, .int .i64 s', .string i', .int .i64 v, .string g'] 34)).alloc (.cells #[.int .i64 h, .int .i64 r, .int .i64 s, .string i, .int .i64 v] 30)).alloc (.cells #[.int .i64 h, .int .i64 r, .int .i64 s', .string i', .int .i64 v] 30)) w.heap.size [.int .i64 h, .int .i64 r, .int .i64 s, .string i, .int .i64 v, .string g, .int .i64 h, .int .i64 r, .int .i64 s', .string i', .int .i64 v, .string g'] 34) := ((blk_new w _ _).alloc _).alloc _
  have HX0 : Hid (Blk (((w.alloc (.cells #[.int .i64 h, .int .i64 r, .int .i64 s, .string i, .int .i64 v, .string g, .int .i64 h, .int .i64 r, .int .i64 s', .string i', .int .i64 v, .string g'] 34)).alloc (.cells #[.int .i64 h, .int .i64 r, .int .i64 s, .string i, .int .i64 v] 30)).alloc (.cells #[.int .i64 h, .int .i64 r, .int .i64 s', .string i', .int .i64 v] 30)) (w.heap.size + 1) [.int .i64 h, .int .i64 r, .int .i64 s, .string i, .int .i64 v] 30) := by
    have h1 := blk_new (w.alloc (.cells #[.int .i64 h, .int .i64 r, .int .i64 s, .string i, .int .i64 v, .string g, .int .i64 h, .int .i64 r, .int .i64 s', .string i', .int .i64 v, .string g'] 34)) [.int .i64 h, .int .i64 r, .int .i64 s, .string i, .int .i64 v] 30
    have e : (w.alloc (.cells #[.int .i64 h, .int .i64 r, .int .i64 s, .string i, .int .i64 v, .string g, .int .i64 h, .int .i64 r, .int .i64 s', .string i', .int .i64 v, .string g'] 34)).heap.size = w.heap.size + 1 := by simp
    rw [e] at h1; exact h1.alloc _
  have HY0 : Hid (Blk (((w.alloc (.cells #[.int .i64 h, .int .i64 r, .int .i64 s, .string i, .int .i64 v, .string g, .int .i64 h, .int .i64 r, .int .i64 s', .string i', .int .i64 v, .string g'] 34)).alloc (.cells #[.int .i64 h, .int .i64 r, .int .i64 s, .string i, .int .i64 v] 30)).alloc (.cells #[.int .i64 h, .int .i64 r, .int .i64 s', .string i', .int .i64 v] 30)) (w.heap.size + 2) [.int .i64 h, .int .i64 r, .int .i64 s', .string i', .int .i64 v] 30) := by
    have h1 := blk_new ((w.alloc (.cells #[.int .i64 h, .int .i64 r, .int .i64 s, .string i, .int .i64 v, .string g, .int .i64 h, .int .i64 r, .int .i64 s', .string i', .int .i64 v, .string g'] 34)).alloc (.cells #[.int .i64 h, .int .i64 r, .int .i64 s, .string i, .int .i64 v] 30)) [.int .i64 h, .int .i64 r, .int .i64 s', .string i', .int .i64 v] 30
    have e : ((w.alloc (.cells #[.int .i64 h, .int .i64 r, .int .i64 s, .string i, .int .i64 v, .string g, .int .i64 h, .int .i64 r, .int .i64 s', .string i', .int .i64 v, .string g'] 34)).alloc (.cells #[.int .i64 h, .int .i64 r, .int .i64 s, .string i, .int .i64 v] 30)).heap.size = w.heap.size + 2 := by simp
    rw [e] at h1; exact h1
  go_enter Tryd.func14, Tryd.ntmps14
  go_wp2_with fail
  generalize ((w.alloc (Obj.cells #[.int .i64 h, .int .i64 r, .int .i64 s, .string i, .int .i64 v, .string g, .int .i64 h, .int .i64 r, .int .i64 s', .string i', .int .i64 v, .string g'] 34)).alloc (Obj.cells #[.int .i64 h, .int .i64 r, .int .i64 s, .string i, .int .i64 v] 30)).alloc (Obj.cells #[.int .i64 h, .int .i64 r, .int .i64 s', .string i', .int .i64 v] 30) = w0 at *
  refine (kA _).mono ?_
  rintro e w1 ⟨rfl, b1⟩
  have HB1 : Hid (Below w.heap.size w w1) := HB0.out.trans (b1.mono HB0.out.size)
  have HE1 : Hid (Blk w1 w.heap.size [.int .i64 h, .int .i64 r, .int .i64 s, .string i, .int .i64 v, .string g, .int .i64 h, .int .i64 r, .int .i64 s', .string i', .int .i64 v, .string g'] 34) := HE0.out.below b1 HE0.out.lt
  have cE1_0 := HE1.out.cell 0 rfl
  have cE1_1 := HE1.out.cell 1 rfl
  have cE1_2 := HE1.out.cell 2 rfl
  have cE1_3 := HE1.out.cell 3 rfl
  have cE1_4 := HE1.out.cell 4 rfl
  have cE1_5 := HE1.out.cell 5 rfl
  have cE1_6 := HE1.out.cell 6 rfl
  have cE1_7 := HE1.out.cell 7 rfl
  have cE1_8 := HE1.out.cell 8 rfl
  have cE1_9 := HE1.out.cell 9 rfl
  have cE1_10 := HE1.out.cell 10 rfl
  have cE1_11 := HE1.out.cell 11 rfl
  have HX1 : Hid (Blk w1 (w.heap.size + 1) [.int .i64 h, .int .i64 r, .int .i64 s, .string i, .int .i64 v] 30) := HX0.out.below b1 HX0.out.lt
  have cX1_0 := HX1.out.cell 0 rfl
  have cX1_1 := HX1.out.cell 1 rfl
  have cX1_2 := HX1.out.cell 2 rfl
  have cX1_3 := HX1.out.cell 3 rfl
  have cX1_4 := HX1.out.cell 4 rfl
  have HY1 : Hid (Blk w1 (w.heap.size + 2) [.int .i64 h, .int .i64 r, .int .i64 s', .string i', .int .i64 v] 30) := HY0.out.below b1 HY0.out.lt
  have cY1_0 := HY1.out.cell 0 rfl
  have cY1_1 := HY1.out.cell 1 rfl
  have cY1_2 := HY1.out.cell 2 rfl
  have cY1_3 := HY1.out.cell 3 rfl
  have cY1_4 := HY1.out.cell 4 rfl
  go_wp2_with fail
  refine (kB _).mono ?_
  rintro e w2 ⟨rfl, b2⟩
  have HB2 : Hid (Below w.heap.size w w2) := HB1.out.trans (b2.mono HB1.out.size)
  clear cE1_0 cE1_1 cE1_2 cE1_3 cE1_4 cE1_5 cE1_6 cE1_7 cE1_8 cE1_9 cE1_10 cE1_11 cX1_0 cX1_1 cX1_2 cX1_3 cX1_4 cY1_0 cY1_1 cY1_2 cY1_3 cY1_4
  have HE2 : Hid (Blk w2 w.heap.size [.int .i64 h, .int .i64 r, .int .i64 s, .string i, .int .i64 v, .string g, .int .i64 h, .int .i64 r, .int .i64 s', .string i', .int .i64 v, .string g'] 34) := HE1.out.below b2 HE1.out.lt
  have cE2_0 := HE2.out.cell 0 rfl
  have cE2_1 := HE2.out.cell 1 rfl
  have cE2_2 := HE2.out.cell 2 rfl
  have cE2_3 := HE2.out.cell 3 rfl
  have cE2_4 := HE2.out.cell 4 rfl
  have cE2_5 := HE2.out.cell 5 rfl
  have cE2_6 := HE2.out.cell 6 rfl
  have cE2_7 := HE2.out.cell 7 rfl
  have cE2_8 := HE2.out.cell 8 rfl
  have cE2_9 := HE2.out.cell 9 rfl
  have cE2_10 := HE2.out.cell 10 rfl
  have cE2_11 := HE2.out.cell 11 rfl
  have HX2 : Hid (Blk w2 (w.heap.size + 1) [.int .i64 h, .int .i64 r, .int .i64 s, .string i, .int .i64 v] 30) := HX1.out.below b2 HX1.out.lt
  have cX2_0 := HX2.out.cell 0 rfl
  have cX2_1 := HX2.out.cell 1 rfl
  have cX2_2 := HX2.out.cell 2 rfl
  have cX2_3 := HX2.out.cell 3 rfl
  have cX2_4 := HX2.out.cell 4 rfl
  have HY2 : Hid (Blk w2 (w.heap.size + 2) [.int .i64 h, .int .i64 r, .int .i64 s', .string i', .int .i64 v] 30) := HY1.out.below b2 HY1.out.lt
  have cY2_0 := HY2.out.cell 0 rfl
  have cY2_1 := HY2.out.cell 1 rfl
  have cY2_2 := HY2.out.cell 2 rfl
  have cY2_3 := HY2.out.cell 3 rfl
  have cY2_4 := HY2.out.cell 4 rfl
  go_wp2
  go_ret
  exact ⟨rfl, HB2.out⟩
set_option maxHeartbeats 1600000 in
set_option maxRecDepth 100000 in
theorem spec_evok6 (a b : Sv) (w : World) (hA : sgB a = true) (hB : sgB b = true) (h0 : a.x.v = b.x.v) (h1 : a.x.h = b.x.h) (h2 : a.x.r = b.x.r) (h3 : a.x.s = b.x.s) :
    Calls Tryd.prog 14 #[eV a b] w fun e w' => e = .returned (.bool (!decide (a.x.i = b.x.i))) ∧ Below w.heap.size w w' := by
  have kA := fun W => spec_sd a.x a.s W
  have kB := fun W => spec_sd b.x b.s W
  unfold sgB at *
  rw [hA] at kA
  clear hA
  rw [hB] at kB
  clear hB
  have HI : Hid ((a.x.i.toList == b.x.i.toList) = decide (a.x.i = b.x.i)) := beq_str _ _
  unfold tV at kA kB
  obtain ⟨⟨h, r, s, i, v⟩, g⟩ := a
  obtain ⟨⟨h', r', s', i', v'⟩, g'⟩ := b
  unfold eV
  simp only at kA kB h0 h1 h2 h3 HI ⊢
  subst h0
  subst h1
  subst h2
  subst h3
  have HB0 : Hid (Below w.heap.size w (((w.alloc (.cells #[.int .i64 h, .int .i64 r, .int .i64 s, .string i, .int .i64 v, .string g, .int .i64 h, .int .i64 r, .int .i64 s, .string i', .int .i64 v, .string g'] 34)).alloc (.cells #[.int .i64 h, .int .i64 r, .int .i64 s, .string i, .int .i64 v] 30)).alloc (.cells #[.int .i64 h, .int .i64 r, .int .i64 s, .string i', .int .i64 v] 30))) := (below_two _ _ _).trans ((below_one _ _).mono (by simp; omega))
  have HE0 : Hid (Blk (((w.alloc (.cells #[.int .i64 h, .int .i64 r, .int .i64 s, .string i, .int .i64 v, .string g, .int .i64 h, .int .i64 r, .int .i64 s, .string i', .int .i64 v, .string g'] 34)).alloc (.cells #[.int .i64 h, .int .i64 r, .int .i64 s, .string i, .int .i64 v] 30)).alloc (.cells #[.int .i64 h, .int .i64 r, .int .i64 s, .string i', .int .i64 v] 30)) w.heap.size [.int .i64 h, .int .i64 r, .int .i64 s, .string i, .int .i64 v, .string g, .int .i64 h, .int .i64 r, .int .i64 s, .string i', .int .i64 v, .string g'] 34) := ((blk_new w _ _).alloc _).alloc _
  have HX0 : Hid (Blk (((w.alloc (.cells #[.int .i64 h, .int .i64 r, .int .i64 s, .string i, .int .i64 v, .string g, .int .i64 h, .int .i64 r, .int .i64 s, .string i', .int .i64 v, .string g'] 34)).alloc (.cells #[.int .i64 h, .int .i64 r, .int .i64 s, .string i, .int .i64 v] 30)).alloc (.cells #[.int .i64 h, .int .i64 r, .int .i64 s, .string i', .int .i64 v] 30)) (w.heap.size + 1) [.int .i64 h, .int .i64 r, .int .i64 s, .string i, .int .i64 v] 30) := by
    have h1 := blk_new (w.alloc (.cells #[.int .i64 h, .int .i64 r, .int .i64 s, .string i, .int .i64 v, .string g, .int .i64 h, .int .i64 r, .int .i64 s, .string i', .int .i64 v, .string g'] 34)) [.int .i64 h, .int .i64 r, .int .i64 s, .string i, .int .i64 v] 30
    have e : (w.alloc (.cells #[.int .i64 h, .int .i64 r, .int .i64 s, .string i, .int .i64 v, .string g, .int .i64 h, .int .i64 r, .int .i64 s, .string i', .int .i64 v, .string g'] 34)).heap.size = w.heap.size + 1 := by simp
    rw [e] at h1; exact h1.alloc _
  have HY0 : Hid (Blk (((w.alloc (.cells #[.int .i64 h, .int .i64 r, .int .i64 s, .string i, .int .i64 v, .string g, .int .i64 h, .int .i64 r, .int .i64 s, .string i', .int .i64 v, .string g'] 34)).alloc (.cells #[.int .i64 h, .int .i64 r, .int .i64 s, .string i, .int .i64 v] 30)).alloc (.cells #[.int .i64 h, .int .i64 r, .int .i64 s, .string i', .int .i64 v] 30)) (w.heap.size + 2) [.int .i64 h, .int .i64 r, .int .i64 s, .string i', .int .i64 v] 30) := by
    have h1 := blk_new ((w.alloc (.cells #[.int .i64 h, .int .i64 r, .int .i64 s, .string i, .int .i64 v, .string g, .int .i64 h, .int .i64 r, .int .i64 s, .string i', .int .i64 v, .string g'] 34)).alloc (.cells #[.int .i64 h, .int .i64 r, .int .i64 s, .string i, .int .i64 v] 30)) [.int .i64 h, .int .i64 r, .int .i64 s, .string i', .int .i64 v] 30
    have e : ((w.alloc (.cells #[.int .i64 h, .int .i64 r, .int .i64 s, .string i, .int .i64 v, .string g, .int .i64 h, .int .i64 r, .int .i64 s, .string i', .int .i64 v, .string g'] 34)).alloc (.cells #[.int .i64 h, .int .i64 r, .int .i64 s, .string i, .int .i64 v] 30)).heap.size = w.heap.size + 2 := by simp
    rw [e] at h1; exact h1
  go_enter Tryd.func14, Tryd.ntmps14
  go_wp2_with fail
  generalize ((w.alloc (Obj.cells #[.int .i64 h, .int .i64 r, .int .i64 s, .string i, .int .i64 v, .string g, .int .i64 h, .int .i64 r, .int .i64 s, .string i', .int .i64 v, .string g'] 34)).alloc (Obj.cells #[.int .i64 h, .int .i64 r, .int .i64 s, .string i, .int .i64 v] 30)).alloc (Obj.cells #[.int .i64 h, .int .i64 r, .int .i64 s, .string i', .int .i64 v] 30) = w0 at *
  refine (kA _).mono ?_
  rintro e w1 ⟨rfl, b1⟩
  have HB1 : Hid (Below w.heap.size w w1) := HB0.out.trans (b1.mono HB0.out.size)
  have HE1 : Hid (Blk w1 w.heap.size [.int .i64 h, .int .i64 r, .int .i64 s, .string i, .int .i64 v, .string g, .int .i64 h, .int .i64 r, .int .i64 s, .string i', .int .i64 v, .string g'] 34) := HE0.out.below b1 HE0.out.lt
  have cE1_0 := HE1.out.cell 0 rfl
  have cE1_1 := HE1.out.cell 1 rfl
  have cE1_2 := HE1.out.cell 2 rfl
  have cE1_3 := HE1.out.cell 3 rfl
  have cE1_4 := HE1.out.cell 4 rfl
  have cE1_5 := HE1.out.cell 5 rfl
  have cE1_6 := HE1.out.cell 6 rfl
  have cE1_7 := HE1.out.cell 7 rfl
  have cE1_8 := HE1.out.cell 8 rfl
  have cE1_9 := HE1.out.cell 9 rfl
  have cE1_10 := HE1.out.cell 10 rfl
  have cE1_11 := HE1.out.cell 11 rfl
  have HX1 : Hid (Blk w1 (w.heap.size + 1) [.int .i64 h, .int .i64 r, .int .i64 s, .string i, .int .i64 v] 30) := HX0.out.below b1 HX0.out.lt
  have cX1_0 := HX1.out.cell 0 rfl
  have cX1_1 := HX1.out.cell 1 rfl
  have cX1_2 := HX1.out.cell 2 rfl
  have cX1_3 := HX1.out.cell 3 rfl
  have cX1_4 := HX1.out.cell 4 rfl
  have HY1 : Hid (Blk w1 (w.heap.size + 2) [.int .i64 h, .int .i64 r, .int .i64 s, .string i', .int .i64 v] 30) := HY0.out.below b1 HY0.out.lt
  have cY1_0 := HY1.out.cell 0 rfl
  have cY1_1 := HY1.out.cell 1 rfl
  have cY1_2 := HY1.out.cell 2 rfl
  have cY1_3 := HY1.out.cell 3 rfl
  have cY1_4 := HY1.out.cell 4 rfl
  go_wp2_with fail
  refine (kB _).mono ?_
  rintro e w2 ⟨rfl, b2⟩
  have HB2 : Hid (Below w.heap.size w w2) := HB1.out.trans (b2.mono HB1.out.size)
  clear cE1_0 cE1_1 cE1_2 cE1_3 cE1_4 cE1_5 cE1_6 cE1_7 cE1_8 cE1_9 cE1_10 cE1_11 cX1_0 cX1_1 cX1_2 cX1_3 cX1_4 cY1_0 cY1_1 cY1_2 cY1_3 cY1_4
  have HE2 : Hid (Blk w2 w.heap.size [.int .i64 h, .int .i64 r, .int .i64 s, .string i, .int .i64 v, .string g, .int .i64 h, .int .i64 r, .int .i64 s, .string i', .int .i64 v, .string g'] 34) := HE1.out.below b2 HE1.out.lt
  have cE2_0 := HE2.out.cell 0 rfl
  have cE2_1 := HE2.out.cell 1 rfl
  have cE2_2 := HE2.out.cell 2 rfl
  have cE2_3 := HE2.out.cell 3 rfl
  have cE2_4 := HE2.out.cell 4 rfl
  have cE2_5 := HE2.out.cell 5 rfl
  have cE2_6 := HE2.out.cell 6 rfl
  have cE2_7 := HE2.out.cell 7 rfl
  have cE2_8 := HE2.out.cell 8 rfl
  have cE2_9 := HE2.out.cell 9 rfl
  have cE2_10 := HE2.out.cell 10 rfl
  have cE2_11 := HE2.out.cell 11 rfl
  have HX2 : Hid (Blk w2 (w.heap.size + 1) [.int .i64 h, .int .i64 r, .int .i64 s, .string i, .int .i64 v] 30) := HX1.out.below b2 HX1.out.lt
  have cX2_0 := HX2.out.cell 0 rfl
  have cX2_1 := HX2.out.cell 1 rfl
  have cX2_2 := HX2.out.cell 2 rfl
  have cX2_3 := HX2.out.cell 3 rfl
  have cX2_4 := HX2.out.cell 4 rfl
  have HY2 : Hid (Blk w2 (w.heap.size + 2) [.int .i64 h, .int .i64 r, .int .i64 s, .string i', .int .i64 v] 30) := HY1.out.below b2 HY1.out.lt
  have cY2_0 := HY2.out.cell 0 rfl
  have cY2_1 := HY2.out.cell 1 rfl
  have cY2_2 := HY2.out.cell 2 rfl
  have cY2_3 := HY2.out.cell 3 rfl
  have cY2_4 := HY2.out.cell 4 rfl
  go_wp2
  go_ret
  exact ⟨by simp [HI.out], HB2.out⟩
theorem spec_evok (a b : Sv) (w : World) :
    Calls Tryd.prog 14 #[eV a b] w fun e w' => e = .returned (.bool (evB a b)) ∧ Below w.heap.size w w' := by
  unfold evB plc
  cases hA : sgB a with
  | false => exact spec_evok0 a b w hA
  | true =>
    cases hB : sgB b with
    | false => exact spec_evok1 a b w hA hB
    | true =>
      by_cases h0 : a.x.v = b.x.v
      · by_cases h1 : a.x.h = b.x.h
        · by_cases h2 : a.x.r = b.x.r
          · by_cases h3 : a.x.s = b.x.s
            · simp only [h0, h1, h2, h3, decide_true, Bool.true_and]
              exact spec_evok6 a b w hA hB h0 h1 h2 h3
            · simp only [h3, decide_false, Bool.and_false, Bool.false_and]
              exact spec_evok5 a b w hA hB h0 h1 h2 h3
          · simp only [h2, decide_false, Bool.and_false, Bool.false_and]
            exact spec_evok4 a b w hA hB h0 h1 h2
        · simp only [h1, decide_false, Bool.and_false, Bool.false_and]
          exact spec_evok3 a b w hA hB h0 h1
      · simp only [h0, decide_false, Bool.and_false, Bool.false_and]
        exact spec_evok2 a b w hA hB h0
set_option maxHeartbeats 800000 in
set_option maxRecDepth 100000 in
theorem impl_culprit (a b : Sv) (w : World) (hT : Tab w) :
    Calls Tryd.prog 15 #[eV a b] w fun e w' => e = .returned (.int .i64 (bif evB a b then a.x.v else 0)) ∧ Below w.heap.size w w' := by
  have HTa : Hid (Tab w) := hT
  clear hT
  have kE := fun W (hT : Tab W) => impl_evok a b W hT
  have kC := fun W => impl_culpr a b W
  have HX : Hid (Blk (w.alloc (.cells (eLs a b).toArray 34)) w.heap.size (eLs a b) 34) := blk_new w _ _
  have HB : Hid (Below w.heap.size w (w.alloc (.cells (eLs a b).toArray 34))) := below_one _ _
  generalize evB a b = t at *
  obtain ⟨⟨h, r, s, i, v⟩, g⟩ := a
  obtain ⟨⟨h', r', s', i', v'⟩, g'⟩ := b
  unfold eV at *
  unfold eLs at HX HB
  simp only at HX HB kE kC ⊢
  go_enter Tryd.func15, Tryd.ntmps15
  go_wp2_with fail
  refine (kE _ (HTa.out.below HB.out HTa.out.pos)).mono ?_
  rintro e w1 ⟨rfl, b1⟩
  have HX1 := HX.out.below b1 HX.out.lt
  have HB1 : Hid (Below w.heap.size w w1) := HB.out.trans (b1.mono HB.out.size)
  have c0 := HX1.cell 0 rfl
  have c1 := HX1.cell 1 rfl
  have c2 := HX1.cell 2 rfl
  have c3 := HX1.cell 3 rfl
  have c4 := HX1.cell 4 rfl
  have c5 := HX1.cell 5 rfl
  have c6 := HX1.cell 6 rfl
  have c7 := HX1.cell 7 rfl
  have c8 := HX1.cell 8 rfl
  have c9 := HX1.cell 9 rfl
  have c10 := HX1.cell 10 rfl
  have c11 := HX1.cell 11 rfl
  cases t
  · go_wp2
    go_ret
    exact ⟨rfl, HB1.out⟩
  · go_wp2_with fail
    refine (kC _).mono ?_
    rintro e w2 ⟨rfl, b2⟩
    have HB2 : Hid (Below w.heap.size w w2) := HB1.out.trans (b2.mono HB1.out.size)
    go_wp2
    go_ret
    exact ⟨rfl, HB2.out⟩
set_option maxHeartbeats 800000 in
set_option maxRecDepth 100000 in
theorem spec_culprit (a b : Sv) (w : World) :
    Calls Tryd.prog 21 #[eV a b] w fun e w' => e = .returned (.int .i64 (bif evB a b then a.x.v else 0)) ∧ Below w.heap.size w w' := by
  have kE := fun W => spec_evok a b W
  have HX : Hid (Blk (w.alloc (.cells (eLs a b).toArray 34)) w.heap.size (eLs a b) 34) := blk_new w _ _
  have HB : Hid (Below w.heap.size w (w.alloc (.cells (eLs a b).toArray 34))) := below_one _ _
  generalize evB a b = t at *
  obtain ⟨⟨h, r, s, i, v⟩, g⟩ := a
  obtain ⟨⟨h', r', s', i', v'⟩, g'⟩ := b
  unfold eV at *
  unfold eLs at HX HB
  simp only at HX HB kE ⊢
  go_enter Tryd.func21, Tryd.ntmps21
  go_wp2_with fail
  refine (kE _).mono ?_
  rintro e w1 ⟨rfl, b1⟩
  have HX1 := HX.out.below b1 HX.out.lt
  have HB1 : Hid (Below w.heap.size w w1) := HB.out.trans (b1.mono HB.out.size)
  have c0 := HX1.cell 0 rfl
  have c1 := HX1.cell 1 rfl
  have c2 := HX1.cell 2 rfl
  have c3 := HX1.cell 3 rfl
  have c4 := HX1.cell 4 rfl
  have c5 := HX1.cell 5 rfl
  have c6 := HX1.cell 6 rfl
  have c7 := HX1.cell 7 rfl
  have c8 := HX1.cell 8 rfl
  have c9 := HX1.cell 9 rfl
  have c10 := HX1.cell 10 rfl
  have c11 := HX1.cell 11 rfl
  cases t
  · go_wp2
    go_ret
    exact ⟨rfl, HB1.out⟩
  · go_wp2
    go_ret
    exact ⟨rfl, HB1.out⟩
end Go.Proofs.YtclajbadeclbdaaDoor
namespace Go.Proofs.YtclajbadeclbdaaDoor
open Go.RowKit
open Num
set_option linter.unusedVariables false
def oV : Option (Sv × Sv) → Value
  | some (a, b) => eV a b
  | none => eV zSv zSv
theorem fe_drop {l : List Sv} {k : Nat} (h : k < l.length) (z : Int) : fe (l.drop k) z = fe (l[k] :: l.drop (k + 1)) z := by rw [List.drop_eq_getElem_cons h]
theorem ff_drop {l : List Sv} {m : Nat} (h : m < l.length) (p : Sv → Bool) : (l.drop m).find? p = (bif p l[m] then some l[m] else (l.drop (m + 1)).find? p) := by
  rw [List.drop_eq_getElem_cons h, List.find?_cons]
  cases p l[m] <;> rfl
set_option maxHeartbeats 3200000 in
set_option maxRecDepth 100000 in
theorem spec_find (a : Option Addr) (l : List Sv) (cap : Nat) (z : Int) (w : World) (hl : YO w a l) (hlen : l.length ≤ 9223372036854775807) :
    Calls Tryd.prog 29 #[.slice a l.length cap, .int .i64 z] w fun e w' => e = .returned (.tuple #[oV (fe l z), .bool (fe l z).isSome]) ∧ Below w.heap.size w w' := by
  have HL : Hid (YO w a l) := hl
  clear hl
  have HC0 : Hid (Blk (w.alloc (.cells [.int .i64 0, .int .i64 0, .int .i64 0, .string ⟨#[]⟩, .int .i64 0, .string ⟨#[]⟩, .int .i64 0, .int .i64 0, .int .i64 0, .string ⟨#[]⟩, .int .i64 0, .string ⟨#[]⟩].toArray 34)) w.heap.size [.int .i64 0, .int .i64 0, .int .i64 0, .string ⟨#[]⟩, .int .i64 0, .string ⟨#[]⟩, .int .i64 0, .int .i64 0, .int .i64 0, .string ⟨#[]⟩, .int .i64 0, .string ⟨#[]⟩] 34) := blk_new w _ _
  have HB0 : Hid (Below w.heap.size w (w.alloc (.cells [.int .i64 0, .int .i64 0, .int .i64 0, .string ⟨#[]⟩, .int .i64 0, .string ⟨#[]⟩, .int .i64 0, .int .i64 0, .int .i64 0, .string ⟨#[]⟩, .int .i64 0, .string ⟨#[]⟩].toArray 34))) := below_one _ _
  go_enter Tryd.func29, Tryd.ntmps29
  go_wp2
  go_loopw [6] (fun iv wr => ∃ k : Nat, k ≤ l.length ∧ iv = .int .i64 k ∧ Hid (fe (l.drop k) z = fe l z) ∧ Hid (Blk wr w.heap.size [.int .i64 0, .int .i64 0, .int .i64 0, .string ⟨#[]⟩, .int .i64 0, .string ⟨#[]⟩, .int .i64 0, .int .i64 0, .int .i64 0, .string ⟨#[]⟩, .int .i64 0, .string ⟨#[]⟩] 34) ∧ Hid (Below w.heap.size w wr)) (fun iv _ => l.length - (intOf iv).toNat)
  case atStart => exact ⟨0, Nat.zero_le _, rfl, rfl, HC0, HB0⟩
  case round =>
    obtain ⟨k, hk, rfl, HF, HC, HB⟩ := hrel
    clear HC0 HB0
    by_cases hlt : k < l.length
    · have hltz : (k : Int) < (l.length : Int) := by omega
      rcases HL.out with h0 | ⟨b, o, rfl, hY⟩
      · omega
      have HYA : Hid (YAt w b o l) := hY
      have hbw := hY.lt (by omega)
      have hc := (hY.below HB.out hbw).six k hlt
      clear hY
      have HFk := fe_drop hlt z
      obtain ⟨y, hy⟩ : ∃ y, l[k] = y := ⟨_, rfl⟩
      rw [hy] at HFk hc
      have HK : Hid (fe (l.drop k) z = fe (y :: l.drop (k + 1)) z) := HFk
      have Hy : Hid (l[k] = y) := hy
      clear HFk hy
      by_cases hz : y.x.v = z
      · obtain ⟨c0, c1, c2, c3, c4, c5⟩ := hc
        rw [hz] at c4
        go_wp2
        clear c0 c1 c2 c3 c4 c5
        go_loopw [7] (fun kv wx => ∃ m : Nat, k + 1 ≤ m ∧ m ≤ l.length ∧ kv = .int .i64 m ∧ Hid ((l.drop m).find? (evB y) = (l.drop (k + 1)).find? (evB y)) ∧ Hid (Blk wx w.heap.size [.int .i64 0, .int .i64 0, .int .i64 0, .string ⟨#[]⟩, .int .i64 0, .string ⟨#[]⟩, .int .i64 0, .int .i64 0, .int .i64 0, .string ⟨#[]⟩, .int .i64 0, .string ⟨#[]⟩] 34) ∧ Hid (Below w.heap.size w wx)) (fun kv _ => l.length - (intOf kv).toNat)
        case atStart => exact ⟨k + 1, Nat.le_refl _, by omega, by go_num, rfl, HC, HB⟩
        case round =>
          obtain ⟨m, hm1, hm2, rfl, HM, HC1, HB1⟩ := hrel
          clear HC HB
          by_cases hlm : m < l.length
          · have hlmz : (m : Int) < (l.length : Int) := by omega
            have hc := (HYA.out.below HB1.out hbw).six k hlt
            have hd := (HYA.out.below HB1.out hbw).six m hlm
            have hHy := Hy.out
            rw [hHy] at hc
            have HMm := ff_drop hlm (evB y)
            obtain ⟨u, hu⟩ : ∃ u, l[m] = u := ⟨_, rfl⟩
            rw [hu] at hd HMm
            have HMs : Hid ((l.drop m).find? (evB y) = (bif evB y u then some u else (l.drop (m + 1)).find? (evB y))) := HMm
            clear HMm hu hHy
            have kE := fun W => spec_evok y u W
            have HS : Hid (evB y u = true → fe l z = some (y, u)) := fun ht => by
              rw [← HF.out, HK.out]
              refine fe_some hz ?_
              rw [← HM.out, HMs.out, ht]; rfl
            have HN : Hid (evB y u = false → (l.drop (m + 1)).find? (evB y) = (l.drop (k + 1)).find? (evB y)) := fun ht => by
              rw [← HM.out, HMs.out, ht]; rfl
            clear HMs HM
            generalize evB y u = t at *
            clear HF HK Hy
            obtain ⟨⟨h, r, s, i, v⟩, g⟩ := y
            obtain ⟨⟨h', r', s', i', v'⟩, g'⟩ := u
            unfold eV at kE
            simp only at kE hc hd hz
            subst hz
            have hSd : (fun W : World => (W.cell? ⟨b, o + k * 6, none⟩ = some (Value.int .i64 h) ∧ W.cell? ⟨b, o + k * 6 + 1, none⟩ = some (Value.int .i64 r) ∧ W.cell? ⟨b, o + k * 6 + 2, none⟩ = some (Value.int .i64 s) ∧ W.cell? ⟨b, o + k * 6 + 3, none⟩ = some (Value.string i) ∧ W.cell? ⟨b, o + k * 6 + 4, none⟩ = some (Value.int .i64 v) ∧ W.cell? ⟨b, o + k * 6 + 5, none⟩ = some (Value.string g)) ∧ (W.cell? ⟨b, o + m * 6, none⟩ = some (Value.int .i64 h') ∧ W.cell? ⟨b, o + m * 6 + 1, none⟩ = some (Value.int .i64 r') ∧ W.cell? ⟨b, o + m * 6 + 2, none⟩ = some (Value.int .i64 s') ∧ W.cell? ⟨b, o + m * 6 + 3, none⟩ = some (Value.string i') ∧ W.cell? ⟨b, o + m * 6 + 4, none⟩ = some (Value.int .i64 v') ∧ W.cell? ⟨b, o + m * 6 + 5, none⟩ = some (Value.string g'))) wr.drew := ⟨hc, hd⟩
            have HX0 : Hid (Blk wr.drew w.heap.size [.int .i64 0, .int .i64 0, .int .i64 0, .string ⟨#[]⟩, .int .i64 0, .string ⟨#[]⟩, .int .i64 0, .int .i64 0, .int .i64 0, .string ⟨#[]⟩, .int .i64 0, .string ⟨#[]⟩] 34) := HC1.out
            have HB0 : Hid (Below w.heap.size w wr.drew) := HB1.out.drew
            have hbd : b < wr.drew.heap.size := Nat.lt_of_lt_of_le hbw HB1.out.size
            clear HC1 HB1 hc hd
            go_wp2_with fail
            have HS0 : Hid ((fun W : World => (W.cell? ⟨b, o + k * 6, none⟩ = some (Value.int .i64 h) ∧ W.cell? ⟨b, o + k * 6 + 1, none⟩ = some (Value.int .i64 r) ∧ W.cell? ⟨b, o + k * 6 + 2, none⟩ = some (Value.int .i64 s) ∧ W.cell? ⟨b, o + k * 6 + 3, none⟩ = some (Value.string i) ∧ W.cell? ⟨b, o + k * 6 + 4, none⟩ = some (Value.int .i64 v) ∧ W.cell? ⟨b, o + k * 6 + 5, none⟩ = some (Value.string g)) ∧ (W.cell? ⟨b, o + m * 6, none⟩ = some (Value.int .i64 h') ∧ W.cell? ⟨b, o + m * 6 + 1, none⟩ = some (Value.int .i64 r') ∧ W.cell? ⟨b, o + m * 6 + 2, none⟩ = some (Value.int .i64 s') ∧ W.cell? ⟨b, o + m * 6 + 3, none⟩ = some (Value.string i') ∧ W.cell? ⟨b, o + m * 6 + 4, none⟩ = some (Value.int .i64 v') ∧ W.cell? ⟨b, o + m * 6 + 5, none⟩ = some (Value.string g'))) wr.drew) := hSd
            have HSB : Hid (∀ W, Below wr.drew.heap.size wr.drew W → (fun W : World => (W.cell? ⟨b, o + k * 6, none⟩ = some (Value.int .i64 h) ∧ W.cell? ⟨b, o + k * 6 + 1, none⟩ = some (Value.int .i64 r) ∧ W.cell? ⟨b, o + k * 6 + 2, none⟩ = some (Value.int .i64 s) ∧ W.cell? ⟨b, o + k * 6 + 3, none⟩ = some (Value.string i) ∧ W.cell? ⟨b, o + k * 6 + 4, none⟩ = some (Value.int .i64 v) ∧ W.cell? ⟨b, o + k * 6 + 5, none⟩ = some (Value.string g)) ∧ (W.cell? ⟨b, o + m * 6, none⟩ = some (Value.int .i64 h') ∧ W.cell? ⟨b, o + m * 6 + 1, none⟩ = some (Value.int .i64 r') ∧ W.cell? ⟨b, o + m * 6 + 2, none⟩ = some (Value.int .i64 s') ∧ W.cell? ⟨b, o + m * 6 + 3, none⟩ = some (Value.string i') ∧ W.cell? ⟨b, o + m * 6 + 4, none⟩ = some (Value.int .i64 v') ∧ W.cell? ⟨b, o + m * 6 + 5, none⟩ = some (Value.string g'))) W) := fun W hb => ⟨⟨(hb.cell (p := ⟨b, o + k * 6, none⟩) hbd).trans hSd.1.1, (hb.cell (p := ⟨b, o + k * 6 + 1, none⟩) hbd).trans hSd.1.2.1, (hb.cell (p := ⟨b, o + k * 6 + 2, none⟩) hbd).trans hSd.1.2.2.1, (hb.cell (p := ⟨b, o + k * 6 + 3, none⟩) hbd).trans hSd.1.2.2.2.1, (hb.cell (p := ⟨b, o + k * 6 + 4, none⟩) hbd).trans hSd.1.2.2.2.2.1, (hb.cell (p := ⟨b, o + k * 6 + 5, none⟩) hbd).trans hSd.1.2.2.2.2.2⟩, ⟨(hb.cell (p := ⟨b, o + m * 6, none⟩) hbd).trans hSd.2.1, (hb.cell (p := ⟨b, o + m * 6 + 1, none⟩) hbd).trans hSd.2.2.1, (hb.cell (p := ⟨b, o + m * 6 + 2, none⟩) hbd).trans hSd.2.2.2.1, (hb.cell (p := ⟨b, o + m * 6 + 3, none⟩) hbd).trans hSd.2.2.2.2.1, (hb.cell (p := ⟨b, o + m * 6 + 4, none⟩) hbd).trans hSd.2.2.2.2.2.1, (hb.cell (p := ⟨b, o + m * 6 + 5, none⟩) hbd).trans hSd.2.2.2.2.2.2⟩⟩
            clear hSd
            refine wp_region_held_drew (S := (fun W : World => (W.cell? ⟨b, o + k * 6, none⟩ = some (Value.int .i64 h) ∧ W.cell? ⟨b, o + k * 6 + 1, none⟩ = some (Value.int .i64 r) ∧ W.cell? ⟨b, o + k * 6 + 2, none⟩ = some (Value.int .i64 s) ∧ W.cell? ⟨b, o + k * 6 + 3, none⟩ = some (Value.string i) ∧ W.cell? ⟨b, o + k * 6 + 4, none⟩ = some (Value.int .i64 v) ∧ W.cell? ⟨b, o + k * 6 + 5, none⟩ = some (Value.string g)) ∧ (W.cell? ⟨b, o + m * 6, none⟩ = some (Value.int .i64 h') ∧ W.cell? ⟨b, o + m * 6 + 1, none⟩ = some (Value.int .i64 r') ∧ W.cell? ⟨b, o + m * 6 + 2, none⟩ = some (Value.int .i64 s') ∧ W.cell? ⟨b, o + m * 6 + 3, none⟩ = some (Value.string i') ∧ W.cell? ⟨b, o + m * 6 + 4, none⟩ = some (Value.int .i64 v') ∧ W.cell? ⟨b, o + m * 6 + 5, none⟩ = some (Value.string g')))) (by kernel_rfl) ?_ (fun hHeld => ?_)
            · exact HS0.out
            generalize wr.drew = wd at *
            refine wpAnyH_take (i := 0) (oi := { dst := some 31, op := Go.Op.move (Go.Operand.tmp 0), type := 24, pos := "l12_evid.go:24", after := #[], guard := none }) (v := ?_) rfl (by kernel_rfl) (by kernel_rfl) (by kernel_rfl) (fun _ _ _ h => h) (Or.inl ⟨by rfl, ?_⟩) hHeld ?_
            rotate_left
            · intro w hSw
              try dsimp only at hSw
              go_simp
              try (with_reducible rfl)
            simp only [Act.put, List.setIfInBounds_toArray, List.set_cons_zero, List.set_cons_succ]
            refine wpAnyH_take (i := 1) (oi := { dst := some 32, op := Go.Op.move (Go.Operand.tmp 6), type := 3, pos := "l12_evid.go:24", after := #[], guard := none }) (v := ?_) rfl (by kernel_rfl) (by kernel_rfl) (by kernel_rfl) (fun _ _ _ h => h) (Or.inl ⟨by rfl, ?_⟩) hHeld ?_
            rotate_left
            · intro w hSw
              try dsimp only at hSw
              go_simp
              try (with_reducible rfl)
            simp only [Act.put, List.setIfInBounds_toArray, List.set_cons_zero, List.set_cons_succ]
            refine wpAnyH_take (i := 2) (oi := { dst := some 33, op := Go.Op.indexAddr 24 (Go.Operand.tmp 31) (Go.Operand.tmp 32), type := 0, pos := "l12_evid.go:24", after := #[{ on := 0, ground := Go.Ground.data }, { on := 1, ground := Go.Ground.data }], guard := none }) (v := ?_) rfl (by kernel_rfl) (by kernel_rfl) (by kernel_rfl) (fun _ _ _ h => h) (Or.inl ⟨by rfl, ?_⟩) hHeld ?_
            rotate_left
            · intro w hSw
              try dsimp only at hSw
              go_simp
              try (with_reducible rfl)
            simp only [Act.put, List.setIfInBounds_toArray, List.set_cons_zero, List.set_cons_succ]
            refine wpAnyH_take (i := 3) (oi := { dst := some 34, op := Go.Op.load 32 (Go.Operand.tmp 33), type := 32, pos := "l12_evid.go:24", after := #[{ on := 2, ground := Go.Ground.data }], guard := none }) (v := ?_) rfl (by kernel_rfl) (by kernel_rfl) (by kernel_rfl) (fun _ _ _ h => h) (Or.inl ⟨by rfl, ?_⟩) hHeld ?_
            rotate_left
            · intro w hSw
              try dsimp only at hSw
              go_simp
              try (with_reducible rfl)
            simp only [Act.put, List.setIfInBounds_toArray, List.set_cons_zero, List.set_cons_succ]
            refine wpAnyH_take (i := 4) (oi := { dst := some 35, op := Go.Op.move (Go.Operand.tmp 0), type := 24, pos := "l12_evid.go:24", after := #[], guard := none }) (v := ?_) rfl (by kernel_rfl) (by kernel_rfl) (by kernel_rfl) (fun _ _ _ h => h) (Or.inl ⟨by rfl, ?_⟩) hHeld ?_
            rotate_left
            · intro w hSw
              try dsimp only at hSw
              go_simp
              try (with_reducible rfl)
            simp only [Act.put, List.setIfInBounds_toArray, List.set_cons_zero, List.set_cons_succ]
            refine wpAnyH_take (i := 5) (oi := { dst := some 36, op := Go.Op.move (Go.Operand.tmp 7), type := 3, pos := "l12_evid.go:24", after := #[], guard := none }) (v := ?_) rfl (by kernel_rfl) (by kernel_rfl) (by kernel_rfl) (fun _ _ _ h => h) (Or.inl ⟨by rfl, ?_⟩) hHeld ?_
            rotate_left
            · intro w hSw
              try dsimp only at hSw
              go_simp
              try (with_reducible rfl)
            simp only [Act.put, List.setIfInBounds_toArray, List.set_cons_zero, List.set_cons_succ]
            refine wpAnyH_take (i := 6) (oi := { dst := some 37, op := Go.Op.indexAddr 24 (Go.Operand.tmp 35) (Go.Operand.tmp 36), type := 0, pos := "l12_evid.go:24", after := #[{ on := 4, ground := Go.Ground.data }, { on := 5, ground := Go.Ground.data }], guard := none }) (v := ?_) rfl (by kernel_rfl) (by kernel_rfl) (by kernel_rfl) (fun _ _ _ h => h) (Or.inl ⟨by rfl, ?_⟩) hHeld ?_
            rotate_left
            · intro w hSw
              try dsimp only at hSw
              go_simp
              try (with_reducible rfl)
            simp only [Act.put, List.setIfInBounds_toArray, List.set_cons_zero, List.set_cons_succ]
            refine wpAnyH_take (i := 7) (oi := { dst := some 38, op := Go.Op.load 32 (Go.Operand.tmp 37), type := 32, pos := "l12_evid.go:24", after := #[{ on := 6, ground := Go.Ground.data }], guard := none }) (v := ?_) rfl (by kernel_rfl) (by kernel_rfl) (by kernel_rfl) (fun _ _ _ h => h) (Or.inl ⟨by rfl, ?_⟩) hHeld ?_
            rotate_left
            · intro w hSw
              try dsimp only at hSw
              go_simp
              try (with_reducible rfl)
            simp only [Act.put, List.setIfInBounds_toArray, List.set_cons_zero, List.set_cons_succ]
            refine wpAnyH_take (i := 8) (oi := { dst := some 39, op := Go.Op.build 34 #[(0, Go.Operand.tmp 34), (1, Go.Operand.tmp 38)], type := 34, pos := "l12_evid.go:24", after := #[{ on := 3, ground := Go.Ground.data }, { on := 7, ground := Go.Ground.data }], guard := none }) (v := ?_) rfl (by kernel_rfl) (by kernel_rfl) (by kernel_rfl) (fun _ _ _ h => h) (Or.inl ⟨by rfl, ?_⟩) hHeld ?_
            rotate_left
            · intro w hSw
              try dsimp only at hSw
              go_simp
              try (with_reducible rfl)
            simp only [Act.put, List.setIfInBounds_toArray, List.set_cons_zero, List.set_cons_succ]
            refine wpAnyH_ready (rs := [9]) (by kernel_rfl) (by decide) ?_
            refine AllReadyH.cons (o := { dst := some 8, op := Go.Op.alloc 34, type := 0, pos := "l12_evid.go:24", after := #[], guard := none }) rfl (fun K hK => ?_) AllReadyH.nil
            go_simp
            obtain ⟨w4, hw4⟩ : ∃ W, wd.alloc (.cells [.int .i64 0, .int .i64 0, .int .i64 0, .string ⟨#[]⟩, .int .i64 0, .string ⟨#[]⟩, .int .i64 0, .int .i64 0, .int .i64 0, .string ⟨#[]⟩, .int .i64 0, .string ⟨#[]⟩].toArray 34) = W := ⟨_, rfl⟩
            have HY4 : Hid (Blk w4 wd.heap.size [.int .i64 0, .int .i64 0, .int .i64 0, .string ⟨#[]⟩, .int .i64 0, .string ⟨#[]⟩, .int .i64 0, .int .i64 0, .int .i64 0, .string ⟨#[]⟩, .int .i64 0, .string ⟨#[]⟩] 34) := by rw [← hw4]; exact blk_new wd _ _
            have HX4 : Hid (Blk w4 w.heap.size [.int .i64 0, .int .i64 0, .int .i64 0, .string ⟨#[]⟩, .int .i64 0, .string ⟨#[]⟩, .int .i64 0, .int .i64 0, .int .i64 0, .string ⟨#[]⟩, .int .i64 0, .string ⟨#[]⟩] 34) := by rw [← hw4]; exact HX0.out.alloc _
            have HB4 : Hid (Below w.heap.size w w4) := by rw [← hw4]; exact HB0.out.alloc HB0.out.size _
            have HBr : Hid (Below wd.heap.size wd w4) := by rw [← hw4]; exact (Below.refl _ _).alloc (Nat.le_refl _) _
            have HS4 := HSB.out w4 HBr.out
            have hsz : w.heap.size ≤ wd.heap.size := HB0.out.size
            have hne : w.heap.size ≠ wd.heap.size := by have := HX0.out.lt; omega
            rw [show wd.alloc (Obj.cells #[Value.int .i64 0, Value.int .i64 0, Value.int .i64 0, Value.string ⟨#[]⟩, Value.int .i64 0, Value.string ⟨#[]⟩, Value.int .i64 0, Value.int .i64 0, Value.int .i64 0, Value.string ⟨#[]⟩, Value.int .i64 0, Value.string ⟨#[]⟩] 34) = w4 from hw4]
            clear hw4 HX0 HB0
            refine hK.out _ _ (HS4) (fun hHeld => ?_)
            clear hK K
            try simp only [Act.put, List.setIfInBounds_toArray, List.set_cons_zero, List.set_cons_succ]
            refine wpAnyH_ready (rs := [10]) (by kernel_rfl) (by decide) ?_
            refine AllReadyH.cons (o := { dst := none, op := Go.Op.store 34 (Go.Operand.tmp 8) (Go.Operand.tmp 39), type := 0, pos := "l12_evid.go:24", after := #[{ on := 9, ground := Go.Ground.data }, { on := 8, ground := Go.Ground.data }, { on := 0, ground := Go.Ground.phase }, { on := 1, ground := Go.Ground.phase }, { on := 2, ground := Go.Ground.phase }, { on := 3, ground := Go.Ground.phase }, { on := 4, ground := Go.Ground.phase }, { on := 5, ground := Go.Ground.phase }, { on := 6, ground := Go.Ground.phase }, { on := 7, ground := Go.Ground.phase }, { on := 8, ground := Go.Ground.phase }, { on := 9, ground := Go.Ground.phase }], guard := none }) rfl (fun K hK => ?_) AllReadyH.nil
            have p0 := HY4.out.cell 0 rfl
            have p1 := HY4.out.cell 1 rfl
            have p2 := HY4.out.cell 2 rfl
            have p3 := HY4.out.cell 3 rfl
            have p4 := HY4.out.cell 4 rfl
            have p5 := HY4.out.cell 5 rfl
            have p6 := HY4.out.cell 6 rfl
            have p7 := HY4.out.cell 7 rfl
            have p8 := HY4.out.cell 8 rfl
            have p9 := HY4.out.cell 9 rfl
            have p10 := HY4.out.cell 10 rfl
            have p11 := HY4.out.cell 11 rfl
            have pf := fun j => HY4.out.frozen j
            have HY5 := ((((((((((((HY4.out.set 0 (.int .i64 h)).set 1 (.int .i64 r)).set 2 (.int .i64 s)).set 3 (.string i)).set 4 (.int .i64 v)).set 5 (.string g)).set 6 (.int .i64 h')).set 7 (.int .i64 r')).set 8 (.int .i64 s')).set 9 (.string i')).set 10 (.int .i64 v')).set 11 (.string g'))
            have HX5 := ((((((((((((HX4.out.other 0 (.int .i64 h) hne).other 1 (.int .i64 r) hne).other 2 (.int .i64 s) hne).other 3 (.string i) hne).other 4 (.int .i64 v) hne).other 5 (.string g) hne).other 6 (.int .i64 h') hne).other 7 (.int .i64 r') hne).other 8 (.int .i64 s') hne).other 9 (.string i') hne).other 10 (.int .i64 v') hne).other 11 (.string g') hne)
            have HB5 := ((((((((((((HB4.out.setCell (p := ⟨wd.heap.size, 0, none⟩) hsz (.int .i64 h)).setCell (p := ⟨wd.heap.size, 1, none⟩) hsz (.int .i64 r)).setCell (p := ⟨wd.heap.size, 2, none⟩) hsz (.int .i64 s)).setCell (p := ⟨wd.heap.size, 3, none⟩) hsz (.string i)).setCell (p := ⟨wd.heap.size, 4, none⟩) hsz (.int .i64 v)).setCell (p := ⟨wd.heap.size, 5, none⟩) hsz (.string g)).setCell (p := ⟨wd.heap.size, 6, none⟩) hsz (.int .i64 h')).setCell (p := ⟨wd.heap.size, 7, none⟩) hsz (.int .i64 r')).setCell (p := ⟨wd.heap.size, 8, none⟩) hsz (.int .i64 s')).setCell (p := ⟨wd.heap.size, 9, none⟩) hsz (.string i')).setCell (p := ⟨wd.heap.size, 10, none⟩) hsz (.int .i64 v')).setCell (p := ⟨wd.heap.size, 11, none⟩) hsz (.string g'))
            have HS5 := HSB.out _ ((((((((((((HBr.out.setCell (p := ⟨wd.heap.size, 0, none⟩) (Nat.le_refl _) (.int .i64 h)).setCell (p := ⟨wd.heap.size, 1, none⟩) (Nat.le_refl _) (.int .i64 r)).setCell (p := ⟨wd.heap.size, 2, none⟩) (Nat.le_refl _) (.int .i64 s)).setCell (p := ⟨wd.heap.size, 3, none⟩) (Nat.le_refl _) (.string i)).setCell (p := ⟨wd.heap.size, 4, none⟩) (Nat.le_refl _) (.int .i64 v)).setCell (p := ⟨wd.heap.size, 5, none⟩) (Nat.le_refl _) (.string g)).setCell (p := ⟨wd.heap.size, 6, none⟩) (Nat.le_refl _) (.int .i64 h')).setCell (p := ⟨wd.heap.size, 7, none⟩) (Nat.le_refl _) (.int .i64 r')).setCell (p := ⟨wd.heap.size, 8, none⟩) (Nat.le_refl _) (.int .i64 s')).setCell (p := ⟨wd.heap.size, 9, none⟩) (Nat.le_refl _) (.string i')).setCell (p := ⟨wd.heap.size, 10, none⟩) (Nat.le_refl _) (.int .i64 v')).setCell (p := ⟨wd.heap.size, 11, none⟩) (Nat.le_refl _) (.string g'))
            go_simp
            refine hK.out _ _ (HS5) (fun hHeld => ?_)
            clear hK K
            try simp only [Act.put, List.setIfInBounds_toArray, List.set_cons_zero, List.set_cons_succ]
            refine wpAnyH_done (by kernel_rfl) ?_ _
            skip
            clear p0 p1 p2 p3 p4 p5 p6 p7 p8 p9 p10 p11 pf
            generalize (((((((((((((w4.setCell _ _).setCell _ _).setCell _ _).setCell _ _).setCell _ _).setCell _ _).setCell _ _).setCell _ _).setCell _ _).setCell _ _).setCell _ _).setCell _ _) : World) = w5 at *
            have HY6 : Hid (Blk w5 wd.heap.size [.int .i64 h, .int .i64 r, .int .i64 s, .string i, .int .i64 v, .string g, .int .i64 h', .int .i64 r', .int .i64 s', .string i', .int .i64 v', .string g'] 34) := HY5
            have HX6 : Hid (Blk w5 w.heap.size [.int .i64 0, .int .i64 0, .int .i64 0, .string ⟨#[]⟩, .int .i64 0, .string ⟨#[]⟩, .int .i64 0, .int .i64 0, .int .i64 0, .string ⟨#[]⟩, .int .i64 0, .string ⟨#[]⟩] 34) := HX5
            have HB6 : Hid (Below w.heap.size w w5) := HB5
            clear HY5 HX5 HB5 HS5 HY4 HX4 HB4 HBr HS4 HSB HS0
            have y0 := HY6.out.cell 0 rfl
            have y1 := HY6.out.cell 1 rfl
            have y2 := HY6.out.cell 2 rfl
            have y3 := HY6.out.cell 3 rfl
            have y4 := HY6.out.cell 4 rfl
            have y5 := HY6.out.cell 5 rfl
            have y6 := HY6.out.cell 6 rfl
            have y7 := HY6.out.cell 7 rfl
            have y8 := HY6.out.cell 8 rfl
            have y9 := HY6.out.cell 9 rfl
            have y10 := HY6.out.cell 10 rfl
            have y11 := HY6.out.cell 11 rfl
            go_wp2_with fail
            clear y0 y1 y2 y3 y4 y5 y6 y7 y8 y9 y10 y11
            refine (kE _).mono ?_
            rintro e w6 ⟨rfl, b6⟩
            have HY7 : Hid (Blk w6 wd.heap.size [.int .i64 h, .int .i64 r, .int .i64 s, .string i, .int .i64 v, .string g, .int .i64 h', .int .i64 r', .int .i64 s', .string i', .int .i64 v', .string g'] 34) := HY6.out.below b6 HY6.out.lt
            have HX7 : Hid (Blk w6 w.heap.size [.int .i64 0, .int .i64 0, .int .i64 0, .string ⟨#[]⟩, .int .i64 0, .string ⟨#[]⟩, .int .i64 0, .int .i64 0, .int .i64 0, .string ⟨#[]⟩, .int .i64 0, .string ⟨#[]⟩] 34) := HX6.out.below b6 HX6.out.lt
            have HB7 : Hid (Below w.heap.size w w6) := HB6.out.trans (b6.mono HB6.out.size)
            clear HY6 HX6 HB6 b6 kE
            cases t
            · have HN1 := HN.out rfl
              have HN2 : Hid ((l.drop (m + 1)).find? (evB ⟨⟨h, r, s, i, v⟩, g⟩) = (l.drop (k + 1)).find? (evB ⟨⟨h, r, s, i, v⟩, g⟩)) := HN1
              clear HN1 HN HS
              go_wp2
              go_roundw
              case rel => exact ⟨m + 1, by omega, by omega, by go_num, HN2, HX7, HB7⟩
              case measure => simp [intOf]; omega
            · have HR : Hid (fe l v = some (⟨⟨h, r, s, i, v⟩, g⟩, ⟨⟨h', r', s', i', v'⟩, g'⟩)) := HS.out rfl
              clear HN HS
              have y0 := HY7.out.cell 0 rfl
              have y1 := HY7.out.cell 1 rfl
              have y2 := HY7.out.cell 2 rfl
              have y3 := HY7.out.cell 3 rfl
              have y4 := HY7.out.cell 4 rfl
              have y5 := HY7.out.cell 5 rfl
              have y6 := HY7.out.cell 6 rfl
              have y7 := HY7.out.cell 7 rfl
              have y8 := HY7.out.cell 8 rfl
              have y9 := HY7.out.cell 9 rfl
              have y10 := HY7.out.cell 10 rfl
              have y11 := HY7.out.cell 11 rfl
              have p0 := HX7.out.cell 0 rfl
              have p1 := HX7.out.cell 1 rfl
              have p2 := HX7.out.cell 2 rfl
              have p3 := HX7.out.cell 3 rfl
              have p4 := HX7.out.cell 4 rfl
              have p5 := HX7.out.cell 5 rfl
              have p6 := HX7.out.cell 6 rfl
              have p7 := HX7.out.cell 7 rfl
              have p8 := HX7.out.cell 8 rfl
              have p9 := HX7.out.cell 9 rfl
              have p10 := HX7.out.cell 10 rfl
              have p11 := HX7.out.cell 11 rfl
              have pf := fun j => HX7.out.frozen j
              have HR5 := ((((((((((((HX7.out.set 0 (.int .i64 h)).set 1 (.int .i64 r)).set 2 (.int .i64 s)).set 3 (.string i)).set 4 (.int .i64 v)).set 5 (.string g)).set 6 (.int .i64 h')).set 7 (.int .i64 r')).set 8 (.int .i64 s')).set 9 (.string i')).set 10 (.int .i64 v')).set 11 (.string g'))
              have HB5 := ((((((((((((HB7.out.setCell (p := ⟨w.heap.size, 0, none⟩) (Nat.le_refl _) (.int .i64 h)).setCell (p := ⟨w.heap.size, 1, none⟩) (Nat.le_refl _) (.int .i64 r)).setCell (p := ⟨w.heap.size, 2, none⟩) (Nat.le_refl _) (.int .i64 s)).setCell (p := ⟨w.heap.size, 3, none⟩) (Nat.le_refl _) (.string i)).setCell (p := ⟨w.heap.size, 4, none⟩) (Nat.le_refl _) (.int .i64 v)).setCell (p := ⟨w.heap.size, 5, none⟩) (Nat.le_refl _) (.string g)).setCell (p := ⟨w.heap.size, 6, none⟩) (Nat.le_refl _) (.int .i64 h')).setCell (p := ⟨w.heap.size, 7, none⟩) (Nat.le_refl _) (.int .i64 r')).setCell (p := ⟨w.heap.size, 8, none⟩) (Nat.le_refl _) (.int .i64 s')).setCell (p := ⟨w.heap.size, 9, none⟩) (Nat.le_refl _) (.string i')).setCell (p := ⟨w.heap.size, 10, none⟩) (Nat.le_refl _) (.int .i64 v')).setCell (p := ⟨w.heap.size, 11, none⟩) (Nat.le_refl _) (.string g'))
              go_wp2
              clear y0 y1 y2 y3 y4 y5 y6 y7 y8 y9 y10 y11
              clear p0 p1 p2 p3 p4 p5 p6 p7 p8 p9 p10 p11
              have y0 := HR5.cell 0 rfl
              have y1 := HR5.cell 1 rfl
              have y2 := HR5.cell 2 rfl
              have y3 := HR5.cell 3 rfl
              have y4 := HR5.cell 4 rfl
              have y5 := HR5.cell 5 rfl
              have y6 := HR5.cell 6 rfl
              have y7 := HR5.cell 7 rfl
              have y8 := HR5.cell 8 rfl
              have y9 := HR5.cell 9 rfl
              have y10 := HR5.cell 10 rfl
              have y11 := HR5.cell 11 rfl
              refine bodyPost_ret (v := .tuple #[.agg #[.int .i64 h, .int .i64 r, .int .i64 s, .string i, .int .i64 v, .string g, .int .i64 h', .int .i64 r', .int .i64 s', .string i', .int .i64 v', .string g'], .bool true]) ?_ rfl ⟨by rw [HR.out]; rfl, HB5⟩
              generalize (((((((((((((w6.setCell _ _).setCell _ _).setCell _ _).setCell _ _).setCell _ _).setCell _ _).setCell _ _).setCell _ _).setCell _ _).setCell _ _).setCell _ _).setCell _ _) : World) = W at *
              clear HB5 HR5
              simp [results, Tryd.results29, go_sem, y0, y1, y2, y3, y4, y5, y6, y7, y8, y9, y10, y11]
          · have hlmz : ¬ (m : Int) < (l.length : Int) := by omega
            have HN : Hid (fe (l.drop (k + 1)) z = fe l z) := by
              show _ = _
              rw [← HF.out, HK.out, fe_none]
              rw [← HM.out, List.drop_eq_nil_of_le (by omega)]; rfl
            go_wp2
            go_roundw
            case rel => exact ⟨k + 1, by omega, by go_num, HN, HC1, HB1⟩
            case measure => simp [intOf]; omega
      · obtain ⟨-, -, -, -, c4, -⟩ := hc
        have HN : Hid (fe (l.drop (k + 1)) z = fe l z) := by show _ = _; rw [← HF.out, HK.out, fe_other hz]
        go_wp2
        go_roundw
        case rel => exact ⟨k + 1, by omega, by go_num, HN, HC, HB⟩
        case measure => simp [intOf]; omega
    · have hltz : ¬ (k : Int) < (l.length : Int) := by omega
      have HN : Hid (fe l z = none) := by show _ = _; rw [← HF.out, List.drop_eq_nil_of_le (by omega)]; rfl
      have p0 := HC.out.cell 0 rfl
      have p1 := HC.out.cell 1 rfl
      have p2 := HC.out.cell 2 rfl
      have p3 := HC.out.cell 3 rfl
      have p4 := HC.out.cell 4 rfl
      have p5 := HC.out.cell 5 rfl
      have p6 := HC.out.cell 6 rfl
      have p7 := HC.out.cell 7 rfl
      have p8 := HC.out.cell 8 rfl
      have p9 := HC.out.cell 9 rfl
      have p10 := HC.out.cell 10 rfl
      have p11 := HC.out.cell 11 rfl
      have pf := fun j => HC.out.frozen j
      have HR5 := ((((((((((((HC.out.set 0 (.int .i64 0)).set 1 (.int .i64 0)).set 2 (.int .i64 0)).set 3 (.string ⟨#[]⟩)).set 4 (.int .i64 0)).set 5 (.string ⟨#[]⟩)).set 6 (.int .i64 0)).set 7 (.int .i64 0)).set 8 (.int .i64 0)).set 9 (.string ⟨#[]⟩)).set 10 (.int .i64 0)).set 11 (.string ⟨#[]⟩))
      have HB5 := ((((((((((((HB.out.setCell (p := ⟨w.heap.size, 0, none⟩) (Nat.le_refl _) (.int .i64 0)).setCell (p := ⟨w.heap.size, 1, none⟩) (Nat.le_refl _) (.int .i64 0)).setCell (p := ⟨w.heap.size, 2, none⟩) (Nat.le_refl _) (.int .i64 0)).setCell (p := ⟨w.heap.size, 3, none⟩) (Nat.le_refl _) (.string ⟨#[]⟩)).setCell (p := ⟨w.heap.size, 4, none⟩) (Nat.le_refl _) (.int .i64 0)).setCell (p := ⟨w.heap.size, 5, none⟩) (Nat.le_refl _) (.string ⟨#[]⟩)).setCell (p := ⟨w.heap.size, 6, none⟩) (Nat.le_refl _) (.int .i64 0)).setCell (p := ⟨w.heap.size, 7, none⟩) (Nat.le_refl _) (.int .i64 0)).setCell (p := ⟨w.heap.size, 8, none⟩) (Nat.le_refl _) (.int .i64 0)).setCell (p := ⟨w.heap.size, 9, none⟩) (Nat.le_refl _) (.string ⟨#[]⟩)).setCell (p := ⟨w.heap.size, 10, none⟩) (Nat.le_refl _) (.int .i64 0)).setCell (p := ⟨w.heap.size, 11, none⟩) (Nat.le_refl _) (.string ⟨#[]⟩))
      go_wp2
      clear p0 p1 p2 p3 p4 p5 p6 p7 p8 p9 p10 p11
      have y0 := HR5.cell 0 rfl
      have y1 := HR5.cell 1 rfl
      have y2 := HR5.cell 2 rfl
      have y3 := HR5.cell 3 rfl
      have y4 := HR5.cell 4 rfl
      have y5 := HR5.cell 5 rfl
      have y6 := HR5.cell 6 rfl
      have y7 := HR5.cell 7 rfl
      have y8 := HR5.cell 8 rfl
      have y9 := HR5.cell 9 rfl
      have y10 := HR5.cell 10 rfl
      have y11 := HR5.cell 11 rfl
      refine bodyPost_ret (v := .tuple #[.agg #[.int .i64 0, .int .i64 0, .int .i64 0, .string ⟨#[]⟩, .int .i64 0, .string ⟨#[]⟩, .int .i64 0, .int .i64 0, .int .i64 0, .string ⟨#[]⟩, .int .i64 0, .string ⟨#[]⟩], .bool false]) ?_ rfl ⟨by rw [HN.out]; rfl, HB5⟩
      generalize (((((((((((((wr.setCell _ _).setCell _ _).setCell _ _).setCell _ _).setCell _ _).setCell _ _).setCell _ _).setCell _ _).setCell _ _).setCell _ _).setCell _ _).setCell _ _) : World) = W at *
      clear HB5 HR5
      simp [results, Tryd.results29, go_sem, y0, y1, y2, y3, y4, y5, y6, y7, y8, y9, y10, y11]
end Go.Proofs.YtclajbadeclbdaaDoor
