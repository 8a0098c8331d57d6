/- What spec.EvidOk and the two Culprit answer; old memory stays. Conditions: the table of the hash. -/
import Derived.Test.YtclajbadeclbdaaDoorEo
namespace Go.Proofs.YtclajbadeclbdaaDoor
open Go.RowKit
open Num
set_option linter.unusedVariables false
set_option maxHeartbeats 1600000 in
set_option maxRecDepth 100000 in
theorem spec_evok0 (a b : Sv) (w : World) (hA : sgB a = false) :
    Calls Tryd.prog 14 #[eV a b] w fun e w' => e = .returned (.bool false) ∧ Below w.heap.size w w' := by
  have kA := fun W => spec_sd a.x a.s W
  have kB := fun W => spec_sd b.x b.s W
  unfold sgB at *
  rw [hA] at kA
  clear hA
  clear kB
  unfold tV at kA
  obtain ⟨⟨h, r, s, i, v⟩, g⟩ := a
  obtain ⟨⟨h', r', s', i', v'⟩, g'⟩ := b
  unfold eV
  simp only at kA ⊢
  have HB0 : Hid (Below w.heap.size w (((w.alloc (.cells #[.int .i64 h, .int .i64 r, .int .i64 s, .string i, .int .i64 v, .string g, .int .i64 h', .int .i64 r', .int .i64 s', .string i', .int .i64 v', .string g'] 34)).alloc (.cells #[.int .i64 h, .int .i64 r, .int .i64 s, .string i, .int .i64 v] 30)).alloc (.cells #[.int .i64 h', .int .i64 r', .int .i64 s', .string i', .int .i64 v'] 30))) := (below_two _ _ _).trans ((below_one _ _).mono (by simp; omega))
  have HE0 : Hid (Blk (((w.alloc (.cells #[.int .i64 h, .int .i64 r, .int .i64 s, .string i, .int .i64 v, .string g, .int .i64 h', .int .i64 r', .int .i64 s', .string i', .int .i64 v', .string g'] 34)).alloc (.cells #[.int .i64 h, .int .i64 r, .int .i64 s, .string i, .int .i64 v] 30)).alloc (.cells #[.int .i64 h', .int .i64 r', .int .i64 s', .string i', .int .i64 v'] 30)) w.heap.size [.int .i64 h, .int .i64 r, .int .i64 s, .string i, .int .i64 v, .string g, .int .i64 h', .int .i64 r', .int .i64 s', .string i', .int .i64 v', .string g'] 34) := ((blk_new w _ _).alloc _).alloc _
  have HX0 : Hid (Blk (((w.alloc (.cells #[.int .i64 h, .int .i64 r, .int .i64 s, .string i, .int .i64 v, .string g, .int .i64 h', .int .i64 r', .int .i64 s', .string i', .int .i64 v', .string g'] 34)).alloc (.cells #[.int .i64 h, .int .i64 r, .int .i64 s, .string i, .int .i64 v] 30)).alloc (.cells #[.int .i64 h', .int .i64 r', .int .i64 s', .string i', .int .i64 v'] 30)) (w.heap.size + 1) [.int .i64 h, .int .i64 r, .int .i64 s, .string i, .int .i64 v] 30) := by
    have h1 := blk_new (w.alloc (.cells #[.int .i64 h, .int .i64 r, .int .i64 s, .string i, .int .i64 v, .string g, .int .i64 h', .int .i64 r', .int .i64 s', .string i', .int .i64 v', .string g'] 34)) [.int .i64 h, .int .i64 r, .int .i64 s, .string i, .int .i64 v] 30
    have e : (w.alloc (.cells #[.int .i64 h, .int .i64 r, .int .i64 s, .string i, .int .i64 v, .string g, .int .i64 h', .int .i64 r', .int .i64 s', .string i', .int .i64 v', .string g'] 34)).heap.size = w.heap.size + 1 := by simp
    rw [e] at h1; exact h1.alloc _
  have HY0 : Hid (Blk (((w.alloc (.cells #[.int .i64 h, .int .i64 r, .int .i64 s, .string i, .int .i64 v, .string g, .int .i64 h', .int .i64 r', .int .i64 s', .string i', .int .i64 v', .string g'] 34)).alloc (.cells #[.int .i64 h, .int .i64 r, .int .i64 s, .string i, .int .i64 v] 30)).alloc (.cells #[.int .i64 h', .int .i64 r', .int .i64 s', .string i', .int .i64 v'] 30)) (w.heap.size + 2) [.int .i64 h', .int .i64 r', .int .i64 s', .string i', .int .i64 v'] 30) := by
    have h1 := blk_new ((w.alloc (.cells #[.int .i64 h, .int .i64 r, .int .i64 s, .string i, .int .i64 v, .string g, .int .i64 h', .int .i64 r', .int .i64 s', .string i', .int .i64 v', .string g'] 34)).alloc (.cells #[.int .i64 h, .int .i64 r, .int .i64 s, .string i, .int .i64 v] 30)) [.int .i64 h', .int .i64 r', .int .i64 s', .string i', .int .i64 v'] 30
    have e : ((w.alloc (.cells #[.int .i64 h, .int .i64 r, .int .i64 s, .string i, .int .i64 v, .string g, .int .i64 h', .int .i64 r', .int .i64 s', .string i', .int .i64 v', .string g'] 34)).alloc (.cells #[.int .i64 h, .int .i64 r, .int .i64 s, .string i, .int .i64 v] 30)).heap.size = w.heap.size + 2 := by simp
    rw [e] at h1; exact h1
  go_enter Tryd.func14, Tryd.ntmps14
  go_wp2_with fail
  generalize ((w.alloc (Obj.cells #[.int .i64 h, .int .i64 r, .int .i64 s, .string i, .int .i64 v, .string g, .int .i64 h', .int .i64 r', .int .i64 s', .string i', .int .i64 v', .string g'] 34)).alloc (Obj.cells #[.int .i64 h, .int .i64 r, .int .i64 s, .string i, .int .i64 v] 30)).alloc (Obj.cells #[.int .i64 h', .int .i64 r', .int .i64 s', .string i', .int .i64 v'] 30) = w0 at *
  refine (kA _).mono ?_
  rintro e w1 ⟨rfl, b1⟩
  have HB1 : Hid (Below w.heap.size w w1) := HB0.out.trans (b1.mono HB0.out.size)
  have HE1 : Hid (Blk w1 w.heap.size [.int .i64 h, .int .i64 r, .int .i64 s, .string i, .int .i64 v, .string g, .int .i64 h', .int .i64 r', .int .i64 s', .string i', .int .i64 v', .string g'] 34) := HE0.out.below b1 HE0.out.lt
  have cE1_0 := HE1.out.cell 0 rfl
  have cE1_1 := HE1.out.cell 1 rfl
  have cE1_2 := HE1.out.cell 2 rfl
  have cE1_3 := HE1.out.cell 3 rfl
  have cE1_4 := HE1.out.cell 4 rfl
  have cE1_5 := HE1.out.cell 5 rfl
  have cE1_6 := HE1.out.cell 6 rfl
  have cE1_7 := HE1.out.cell 7 rfl
  have cE1_8 := HE1.out.cell 8 rfl
  have cE1_9 := HE1.out.cell 9 rfl
  have cE1_10 := HE1.out.cell 10 rfl
  have cE1_11 := HE1.out.cell 11 rfl
  have HX1 : Hid (Blk w1 (w.heap.size + 1) [.int .i64 h, .int .i64 r, .int .i64 s, .string i, .int .i64 v] 30) := HX0.out.below b1 HX0.out.lt
  have cX1_0 := HX1.out.cell 0 rfl
  have cX1_1 := HX1.out.cell 1 rfl
  have cX1_2 := HX1.out.cell 2 rfl
  have cX1_3 := HX1.out.cell 3 rfl
  have cX1_4 := HX1.out.cell 4 rfl
  have HY1 : Hid (Blk w1 (w.heap.size + 2) [.int .i64 h', .int .i64 r', .int .i64 s', .string i', .int .i64 v'] 30) := HY0.out.below b1 HY0.out.lt
  have cY1_0 := HY1.out.cell 0 rfl
  have cY1_1 := HY1.out.cell 1 rfl
  have cY1_2 := HY1.out.cell 2 rfl
  have cY1_3 := HY1.out.cell 3 rfl
  have cY1_4 := HY1.out.cell 4 rfl
  go_wp2
  go_ret
  exact ⟨rfl, HB1.out⟩
set_option maxHeartbeats 1600000 in
set_option maxRecDepth 100000 in
theorem spec_evok1 (a b : Sv) (w : World) (hA : sgB a = true) (hB : sgB b = false) :
    Calls Tryd.prog 14 #[eV a b] w fun e w' => e = .returned (.bool false) ∧ Below w.heap.size w w' := by
  have kA := fun W => spec_sd a.x a.s W
  have kB := fun W => spec_sd b.x b.s W
  unfold sgB at *
  rw [hA] at kA
  clear hA
  rw [hB] at kB
  clear hB
  unfold tV at kA kB
  obtain ⟨⟨h, r, s, i, v⟩, g⟩ := a
  obtain ⟨⟨h', r', s', i', v'⟩, g'⟩ := b
  unfold eV
  simp only at kA kB ⊢
  have HB0 : Hid (Below w.heap.size w (((w.alloc (.cells #[.int .i64 h, .int .i64 r, .int .i64 s, .string i, .int .i64 v, .string g, .int .i64 h', .int .i64 r', .int .i64 s', .string i', .int .i64 v', .string g'] 34)).alloc (.cells #[.int .i64 h, .int .i64 r, .int .i64 s, .string i, .int .i64 v] 30)).alloc (.cells #[.int .i64 h', .int .i64 r', .int .i64 s', .string i', .int .i64 v'] 30))) := (below_two _ _ _).trans ((below_one _ _).mono (by simp; omega))
  have HE0 : Hid (Blk (((w.alloc (.cells #[.int .i64 h, .int .i64 r, .int .i64 s, .string i, .int .i64 v, .string g, .int .i64 h', .int .i64 r', .int .i64 s', .string i', .int .i64 v', .string g'] 34)).alloc (.cells #[.int .i64 h, .int .i64 r, .int .i64 s, .string i, .int .i64 v] 30)).alloc (.cells #[.int .i64 h', .int .i64 r', .int .i64 s', .string i', .int .i64 v'] 30)) w.heap.size [.int .i64 h, .int .i64 r, .int .i64 s, .string i, .int .i64 v, .string g, .int .i64 h', .int .i64 r', .int .i64 s', .string i', .int .i64 v', .string g'] 34) := ((blk_new w _ _).alloc _).alloc _
  have HX0 : Hid (Blk (((w.alloc (.cells #[.int .i64 h, .int .i64 r, .int .i64 s, .string i, .int .i64 v, .string g, .int .i64 h', .int .i64 r', .int .i64 s', .string i', .int .i64 v', .string g'] 34)).alloc (.cells #[.int .i64 h, .int .i64 r, .int .i64 s, .string i, .int .i64 v] 30)).alloc (.cells #[.int .i64 h', .int .i64 r', .int .i64 s', .string i', .int .i64 v'] 30)) (w.heap.size + 1) [.int .i64 h, .int .i64 r, .int .i64 s, .string i, .int .i64 v] 30) := by
    have h1 := blk_new (w.alloc (.cells #[.int .i64 h, .int .i64 r, .int .i64 s, .string i, .int .i64 v, .string g, .int .i64 h', .int .i64 r', .int .i64 s', .string i', .int .i64 v', .string g'] 34)) [.int .i64 h, .int .i64 r, .int .i64 s, .string i, .int .i64 v] 30
    have e : (w.alloc (.cells #[.int .i64 h, .int .i64 r, .int .i64 s, .string i, .int .i64 v, .string g, .int .i64 h', .int .i64 r', .int .i64 s', .string i', .int .i64 v', .string g'] 34)).heap.size = w.heap.size + 1 := by simp
    rw [e] at h1; exact h1.alloc _
  have HY0 : Hid (Blk (((w.alloc (.cells #[.int .i64 h, .int .i64 r, .int .i64 s, .string i, .int .i64 v, .string g, .int .i64 h', .int .i64 r', .int .i64 s', .string i', .int .i64 v', .string g'] 34)).alloc (.cells #[.int .i64 h, .int .i64 r, .int .i64 s, .string i, .int .i64 v] 30)).alloc (.cells #[.int .i64 h', .int .i64 r', .int .i64 s', .string i', .int .i64 v'] 30)) (w.heap.size + 2) [.int .i64 h', .int .i64 r', .int .i64 s', .string i', .int .i64 v'] 30) := by
    have h1 := blk_new ((w.alloc (.cells #[.int .i64 h, .int .i64 r, .int .i64 s, .string i, .int .i64 v, .string g, .int .i64 h', .int .i64 r', .int .i64 s', .string i', .int .i64 v', .string g'] 34)).alloc (.cells #[.int .i64 h, .int .i64 r, .int .i64 s, .string i, .int .i64 v] 30)) [.int .i64 h', .int .i64 r', .int .i64 s', .string i', .int .i64 v'] 30
    have e : ((w.alloc (.cells #[.int .i64 h, .int .i64 r, .int .i64 s, .string i, .int .i64 v, .string g, .int .i64 h', .int .i64 r', .int .i64 s', .string i', .int .i64 v', .string g'] 34)).alloc (.cells #[.int .i64 h, .int .i64 r, .int .i64 s, .string i, .int .i64 v] 30)).heap.size = w.heap.size + 2 := by simp
    rw [e] at h1; exact h1
  go_enter Tryd.func14, Tryd.ntmps14
  go_wp2_with fail
  generalize ((w.alloc (Obj.cells #[.int .i64 h, .int .i64 r, .int .i64 s, .string i, .int .i64 v, .string g, .int .i64 h', .int .i64 r', .int .i64 s', .string i', .int .i64 v', .string g'] 34)).alloc (Obj.cells #[.int .i64 h, .int .i64 r, .int .i64 s, .string i, .int .i64 v] 30)).alloc (Obj.cells #[.int .i64 h', .int .i64 r', .int .i64 s', .string i', .int .i64 v'] 30) = w0 at *
  refine (kA _).mono ?_
  rintro e w1 ⟨rfl, b1⟩
  have HB1 : Hid (Below w.heap.size w w1) := HB0.out.trans (b1.mono HB0.out.size)
  have HE1 : Hid (Blk w1 w.heap.size [.int .i64 h, .int .i64 r, .int .i64 s, .string i, .int .i64 v, .string g, .int .i64 h', .int .i64 r', .int .i64 s', .string i', .int .i64 v', .string g'] 34) := HE0.out.below b1 HE0.out.lt
  have cE1_0 := HE1.out.cell 0 rfl
  have cE1_1 := HE1.out.cell 1 rfl
  have cE1_2 := HE1.out.cell 2 rfl
  have cE1_3 := HE1.out.cell 3 rfl
  have cE1_4 := HE1.out.cell 4 rfl
  have cE1_5 := HE1.out.cell 5 rfl
  have cE1_6 := HE1.out.cell 6 rfl
  have cE1_7 := HE1.out.cell 7 rfl
  have cE1_8 := HE1.out.cell 8 rfl
  have cE1_9 := HE1.out.cell 9 rfl
  have cE1_10 := HE1.out.cell 10 rfl
  have cE1_11 := HE1.out.cell 11 rfl
  have HX1 : Hid (Blk w1 (w.heap.size + 1) [.int .i64 h, .int .i64 r, .int .i64 s, .string i, .int .i64 v] 30) := HX0.out.below b1 HX0.out.lt
  have cX1_0 := HX1.out.cell 0 rfl
  have cX1_1 := HX1.out.cell 1 rfl
  have cX1_2 := HX1.out.cell 2 rfl
  have cX1_3 := HX1.out.cell 3 rfl
  have cX1_4 := HX1.out.cell 4 rfl
  have HY1 : Hid (Blk w1 (w.heap.size + 2) [.int .i64 h', .int .i64 r', .int .i64 s', .string i', .int .i64 v'] 30) := HY0.out.below b1 HY0.out.lt
  have cY1_0 := HY1.out.cell 0 rfl
  have cY1_1 := HY1.out.cell 1 rfl
  have cY1_2 := HY1.out.cell 2 rfl
  have cY1_3 := HY1.out.cell 3 rfl
  have cY1_4 := HY1.out.cell 4 rfl
  go_wp2_with fail
  refine (kB _).mono ?_
  rintro e w2 ⟨rfl, b2⟩
  have HB2 : Hid (Below w.heap.size w w2) := HB1.out.trans (b2.mono HB1.out.size)
  clear cE1_0 cE1_1 cE1_2 cE1_3 cE1_4 cE1_5 cE1_6 cE1_7 cE1_8 cE1_9 cE1_10 cE1_11 cX1_0 cX1_1 cX1_2 cX1_3 cX1_4 cY1_0 cY1_1 cY1_2 cY1_3 cY1_4
  have HE2 : Hid (Blk w2 w.heap.size [.int .i64 h, .int .i64 r, .int .i64 s, .string i, .int .i64 v, .string g, .int .i64 h', .int .i64 r', .int .i64 s', .string i', .int .i64 v', .string g'] 34) := HE1.out.below b2 HE1.out.lt
  have cE2_0 := HE2.out.cell 0 rfl
  have cE2_1 := HE2.out.cell 1 rfl
  have cE2_2 := HE2.out.cell 2 rfl
  have cE2_3 := HE2.out.cell 3 rfl
  have cE2_4 := HE2.out.cell 4 rfl
  have cE2_5 := HE2.out.cell 5 rfl
  have cE2_6 := HE2.out.cell 6 rfl
  have cE2_7 := HE2.out.cell 7 rfl
  have cE2_8 := HE2.out.cell 8 rfl
  have cE2_9 := HE2.out.cell 9 rfl
  have cE2_10 := HE2.out.cell 10 rfl
  have cE2_11 := HE2.out.cell 11 rfl
  have HX2 : Hid (Blk w2 (w.heap.size + 1) [.int .i64 h, .int .i64 r, .int .i64 s, .string i, .int .i64 v] 30) := HX1.out.below b2 HX1.out.lt
  have cX2_0 := HX2.out.cell 0 rfl
  have cX2_1 := HX2.out.cell 1 rfl
  have cX2_2 := HX2.out.cell 2 rfl
  have cX2_3 := HX2.out.cell 3 rfl
  have cX2_4 := HX2.out.cell 4 rfl
  have HY2 : Hid (Blk w2 (w.heap.size + 2) [.int .i64 h', .int .i64 r', .int .i64 s', .string i', .int .i64 v'] 30) := HY1.out.below b2 HY1.out.lt
  have cY2_0 := HY2.out.cell 0 rfl
  have cY2_1 := HY2.out.cell 1 rfl
  have cY2_2 := HY2.out.cell 2 rfl
  have cY2_3 := HY2.out.cell 3 rfl
  have cY2_4 := HY2.out.cell 4 rfl
  go_wp2
  go_ret
  exact ⟨rfl, HB2.out⟩
set_option maxHeartbeats 1600000 in
set_option maxRecDepth 100000 in
theorem spec_evok2 (a b : Sv) (w : World) (hA : sgB a = true) (hB : sgB b = true) (hn : ¬ a.x.v = b.x.v) :
    Calls Tryd.prog 14 #[eV a b] w fun e w' => e = .returned (.bool false) ∧ Below w.heap.size w w' := by
  have kA := fun W => spec_sd a.x a.s W
  have kB := fun W => spec_sd b.x b.s W
  unfold sgB at *
  rw [hA] at kA
  clear hA
  rw [hB] at kB
  clear hB
  unfold tV at kA kB
  obtain ⟨⟨h, r, s, i, v⟩, g⟩ := a
  obtain ⟨⟨h', r', s', i', v'⟩, g'⟩ := b
  unfold eV
  simp only at kA kB hn ⊢
  have HB0 : Hid (Below w.heap.size w (((w.alloc (.cells #[.int .i64 h, .int .i64 r, .int .i64 s, .string i, .int .i64 v, .string g, .int .i64 h', .int .i64 r', .int .i64 s', .string i', .int .i64 v', .string g'] 34)).alloc (.cells #[.int .i64 h, .int .i64 r, .int .i64 s, .string i, .int .i64 v] 30)).alloc (.cells #[.int .i64 h', .int .i64 r', .int .i64 s', .string i', .int .i64 v'] 30))) := (below_two _ _ _).trans ((below_one _ _).mono (by simp; omega))
  have HE0 : Hid (Blk (((w.alloc (.cells #[.int .i64 h, .int .i64 r, .int .i64 s, .string i, .int .i64 v, .string g, .int .i64 h', .int .i64 r', .int .i64 s', .string i', .int .i64 v', .string g'] 34)).alloc (.cells #[.int .i64 h, .int .i64 r, .int .i64 s, .string i, .int .i64 v] 30)).alloc (.cells #[.int .i64 h', .int .i64 r', .int .i64 s', .string i', .int .i64 v'] 30)) w.heap.size [.int .i64 h, .int .i64 r, .int .i64 s, .string i, .int .i64 v, .string g, .int .i64 h', .int .i64 r', .int .i64 s', .string i', .int .i64 v', .string g'] 34) := ((blk_new w _ _).alloc _).alloc _
  have HX0 : Hid (Blk (((w.alloc (.cells #[.int .i64 h, .int .i64 r, .int .i64 s, .string i, .int .i64 v, .string g, .int .i64 h', .int .i64 r', .int .i64 s', .string i', .int .i64 v', .string g'] 34)).alloc (.cells #[.int .i64 h, .int .i64 r, .int .i64 s, .string i, .int .i64 v] 30)).alloc (.cells #[.int .i64 h', .int .i64 r', .int .i64 s', .string i', .int .i64 v'] 30)) (w.heap.size + 1) [.int .i64 h, .int .i64 r, .int .i64 s, .string i, .int .i64 v] 30) := by
    have h1 := blk_new (w.alloc (.cells #[.int .i64 h, .int .i64 r, .int .i64 s, .string i, .int .i64 v, .string g, .int .i64 h', .int .i64 r', .int .i64 s', .string i', .int .i64 v', .string g'] 34)) [.int .i64 h, .int .i64 r, .int .i64 s, .string i, .int .i64 v] 30
    have e : (w.alloc (.cells #[.int .i64 h, .int .i64 r, .int .i64 s, .string i, .int .i64 v, .string g, .int .i64 h', .int .i64 r', .int .i64 s', .string i', .int .i64 v', .string g'] 34)).heap.size = w.heap.size + 1 := by simp
    rw [e] at h1; exact h1.alloc _
  have HY0 : Hid (Blk (((w.alloc (.cells #[.int .i64 h, .int .i64 r, .int .i64 s, .string i, .int .i64 v, .string g, .int .i64 h', .int .i64 r', .int .i64 s', .string i', .int .i64 v', .string g'] 34)).alloc (.cells #[.int .i64 h, .int .i64 r, .int .i64 s, .string i, .int .i64 v] 30)).alloc (.cells #[.int .i64 h', .int .i64 r', .int .i64 s', .string i', .int .i64 v'] 30)) (w.heap.size + 2) [.int .i64 h', .int .i64 r', .int .i64 s', .string i', .int .i64 v'] 30) := by
    have h1 := blk_new ((w.alloc (.cells #[.int .i64 h, .int .i64 r, .int .i64 s, .string i, .int .i64 v, .string g, .int .i64 h', .int .i64 r', .int .i64 s', .string i', .int .i64 v', .string g'] 34)).alloc (.cells #[.int .i64 h, .int .i64 r, .int .i64 s, .string i, .int .i64 v] 30)) [.int .i64 h', .int .i64 r', .int .i64 s', .string i', .int .i64 v'] 30
    have e : ((w.alloc (.cells #[.int .i64 h, .int .i64 r, .int .i64 s, .string i, .int .i64 v, .string g, .int .i64 h', .int .i64 r', .int .i64 s', .string i', .int .i64 v', .string g'] 34)).alloc (.cells #[.int .i64 h, .int .i64 r, .int .i64 s, .string i, .int .i64 v] 30)).heap.size = w.heap.size + 2 := by simp
    rw [e] at h1; exact h1
  go_enter Tryd.func14, Tryd.ntmps14
  go_wp2_with fail
  generalize ((w.alloc (Obj.cells #[.int .i64 h, .int .i64 r, .int .i64 s, .string i, .int .i64 v, .string g, .int .i64 h', .int .i64 r', .int .i64 s', .string i', .int .i64 v', .string g'] 34)).alloc (Obj.cells #[.int .i64 h, .int .i64 r, .int .i64 s, .string i, .int .i64 v] 30)).alloc (Obj.cells #[.int .i64 h', .int .i64 r', .int .i64 s', .string i', .int .i64 v'] 30) = w0 at *
  refine (kA _).mono ?_
  rintro e w1 ⟨rfl, b1⟩
  have HB1 : Hid (Below w.heap.size w w1) := HB0.out.trans (b1.mono HB0.out.size)
  have HE1 : Hid (Blk w1 w.heap.size [.int .i64 h, .int .i64 r, .int .i64 s, .string i, .int .i64 v, .string g, .int .i64 h', .int .i64 r', .int .i64 s', .string i', .int .i64 v', .string g'] 34) := HE0.out.below b1 HE0.out.lt
  have cE1_0 := HE1.out.cell 0 rfl
  have cE1_1 := HE1.out.cell 1 rfl
  have cE1_2 := HE1.out.cell 2 rfl
  have cE1_3 := HE1.out.cell 3 rfl
  have cE1_4 := HE1.out.cell 4 rfl
  have cE1_5 := HE1.out.cell 5 rfl
  have cE1_6 := HE1.out.cell 6 rfl
  have cE1_7 := HE1.out.cell 7 rfl
  have cE1_8 := HE1.out.cell 8 rfl
  have cE1_9 := HE1.out.cell 9 rfl
  have cE1_10 := HE1.out.cell 10 rfl
  have cE1_11 := HE1.out.cell 11 rfl
  have HX1 : Hid (Blk w1 (w.heap.size + 1) [.int .i64 h, .int .i64 r, .int .i64 s, .string i, .int .i64 v] 30) := HX0.out.below b1 HX0.out.lt
  have cX1_0 := HX1.out.cell 0 rfl
  have cX1_1 := HX1.out.cell 1 rfl
  have cX1_2 := HX1.out.cell 2 rfl
  have cX1_3 := HX1.out.cell 3 rfl
  have cX1_4 := HX1.out.cell 4 rfl
  have HY1 : Hid (Blk w1 (w.heap.size + 2) [.int .i64 h', .int .i64 r', .int .i64 s', .string i', .int .i64 v'] 30) := HY0.out.below b1 HY0.out.lt
  have cY1_0 := HY1.out.cell 0 rfl
  have cY1_1 := HY1.out.cell 1 rfl
  have cY1_2 := HY1.out.cell 2 rfl
  have cY1_3 := HY1.out.cell 3 rfl
  have cY1_4 := HY1.out.cell 4 rfl
  go_wp2_with fail
  refine (kB _).mono ?_
  rintro e w2 ⟨rfl, b2⟩
  have HB2 : Hid (Below w.heap.size w w2) := HB1.out.trans (b2.mono HB1.out.size)
  clear cE1_0 cE1_1 cE1_2 cE1_3 cE1_4 cE1_5 cE1_6 cE1_7 cE1_8 cE1_9 cE1_10 cE1_11 cX1_0 cX1_1 cX1_2 cX1_3 cX1_4 cY1_0 cY1_1 cY1_2 cY1_3 cY1_4
  have HE2 : Hid (Blk w2 w.heap.size [.int .i64 h, .int .i64 r, .int .i64 s, .string i, .int .i64 v, .string g, .int .i64 h', .int .i64 r', .int .i64 s', .string i', .int .i64 v', .string g'] 34) := HE1.out.below b2 HE1.out.lt
  have cE2_0 := HE2.out.cell 0 rfl
  have cE2_1 := HE2.out.cell 1 rfl
  have cE2_2 := HE2.out.cell 2 rfl
  have cE2_3 := HE2.out.cell 3 rfl
  have cE2_4 := HE2.out.cell 4 rfl
  have cE2_5 := HE2.out.cell 5 rfl
  have cE2_6 := HE2.out.cell 6 rfl
  have cE2_7 := HE2.out.cell 7 rfl
  have cE2_8 := HE2.out.cell 8 rfl
  have cE2_9 := HE2.out.cell 9 rfl
  have cE2_10 := HE2.out.cell 10 rfl
  have cE2_11 := HE2.out.cell 11 rfl
  have HX2 : Hid (Blk w2 (w.heap.size + 1) [.int .i64 h, .int .i64 r, .int .i64 s, .string i, .int .i64 v] 30) := HX1.out.below b2 HX1.out.lt
  have cX2_0 := HX2.out.cell 0 rfl
  have cX2_1 := HX2.out.cell 1 rfl
  have cX2_2 := HX2.out.cell 2 rfl
  have cX2_3 := HX2.out.cell 3 rfl
  have cX2_4 := HX2.out.cell 4 rfl
  have HY2 : Hid (Blk w2 (w.heap.size + 2) [.int .i64 h', .int .i64 r', .int .i64 s', .string i', .int .i64 v'] 30) := HY1.out.below b2 HY1.out.lt
  have cY2_0 := HY2.out.cell 0 rfl
  have cY2_1 := HY2.out.cell 1 rfl
  have cY2_2 := HY2.out.cell 2 rfl
  have cY2_3 := HY2.out.cell 3 rfl
  have cY2_4 := HY2.out.cell 4 rfl
  go_wp2
  go_ret
  exact ⟨rfl, HB2.out⟩
set_option maxHeartbeats 1600000 in
set_option maxRecDepth 100000 in
theorem spec_evok3 (a b : Sv) (w : World) (hA : sgB a = true) (hB : sgB b = true) (h0 : a.x.v = b.x.v) (hn : ¬ a.x.h = b.x.h) :
    Calls Tryd.prog 14 #[eV a b] w fun e w' => e = .returned (.bool false) ∧ Below w.heap.size w w' := by
  have kA := fun W => spec_sd a.x a.s W
  have kB := fun W => spec_sd b.x b.s W
  unfold sgB at *
  rw [hA] at kA
  clear hA
  rw [hB] at kB
  clear hB
  unfold tV at kA kB
  obtain ⟨⟨h, r, s, i, v⟩, g⟩ := a
  obtain ⟨⟨h', r', s', i', v'⟩, g'⟩ := b
  unfold eV
  simp only at kA kB h0 hn ⊢
  subst h0
  have HB0 : Hid (Below w.heap.size w (((w.alloc (.cells #[.int .i64 h, .int .i64 r, .int .i64 s, .string i, .int .i64 v, .string g, .int .i64 h', .int .i64 r', .int .i64 s', .string i', .int .i64 v, .string g'] 34)).alloc (.cells #[.int .i64 h, .int .i64 r, .int .i64 s, .string i, .int .i64 v] 30)).alloc (.cells #[.int .i64 h', .int .i64 r', .int .i64 s', .string i', .int .i64 v] 30))) := (below_two _ _ _).trans ((below_one _ _).mono (by simp; omega))
  have HE0 : Hid (Blk (((w.alloc (.cells #[.int .i64 h, .int .i64 r, .int .i64 s, .string i, .int .i64 v, .string g, .int .i64 h', .int .i64 r', .int .i64 s', .string i', .int .i64 v, .string g'] 34)).alloc (.cells #[.int .i64 h, .int .i64 r, .int .i64 s, .string i, .int .i64 v] 30)).alloc (.cells #[.int .i64 h', .int .i64 r', .int .i64 s', .string i', .int .i64 v] 30)) w.heap.size [.int .i64 h, .int .i64 r, .int .i64 s, .string i, .int .i64 v, .string g, .int .i64 h', .int .i64 r', .int .i64 s', .string i', .int .i64 v, .string g'] 34) := ((blk_new w _ _).alloc _).alloc _
  have HX0 : Hid (Blk (((w.alloc (.cells #[.int .i64 h, .int .i64 r, .int .i64 s, .string i, .int .i64 v, .string g, .int .i64 h', .int .i64 r', .int .i64 s', .string i', .int .i64 v, .string g'] 34)).alloc (.cells #[.int .i64 h, .int .i64 r, .int .i64 s, .string i, .int .i64 v] 30)).alloc (.cells #[.int .i64 h', .int .i64 r', .int .i64 s', .string i', .int .i64 v] 30)) (w.heap.size + 1) [.int .i64 h, .int .i64 r, .int .i64 s, .string i, .int .i64 v] 30) := by
    have h1 := blk_new (w.alloc (.cells #[.int .i64 h, .int .i64 r, .int .i64 s, .string i, .int .i64 v, .string g, .int .i64 h', .int .i64 r', .int .i64 s', .string i', .int .i64 v, .string g'] 34)) [.int .i64 h, .int .i64 r, .int .i64 s, .string i, .int .i64 v] 30
    have e : (w.alloc (.cells #[.int .i64 h, .int .i64 r, .int .i64 s, .string i, .int .i64 v, .string g, .int .i64 h', .int .i64 r', .int .i64 s', .string i', .int .i64 v, .string g'] 34)).heap.size = w.heap.size + 1 := by simp
    rw [e] at h1; exact h1.alloc _
  have HY0 : Hid (Blk (((w.alloc (.cells #[.int .i64 h, .int .i64 r, .int .i64 s, .string i, .int .i64 v, .string g, .int .i64 h', .int .i64 r', .int .i64 s', .string i', .int .i64 v, .string g'] 34)).alloc (.cells #[.int .i64 h, .int .i64 r, .int .i64 s, .string i, .int .i64 v] 30)).alloc (.cells #[.int .i64 h', .int .i64 r', .int .i64 s', .string i', .int .i64 v] 30)) (w.heap.size + 2) [.int .i64 h', .int .i64 r', .int .i64 s', .string i', .int .i64 v] 30) := by
    have h1 := blk_new ((w.alloc (.cells #[.int .i64 h, .int .i64 r, .int .i64 s, .string i, .int .i64 v, .string g, .int .i64 h', .int .i64 r', .int .i64 s', .string i', .int .i64 v, .string g'] 34)).alloc (.cells #[.int .i64 h, .int .i64 r, .int .i64 s, .string i, .int .i64 v] 30)) [.int .i64 h', .int .i64 r', .int .i64 s', .string i', .int .i64 v] 30
    have e : ((w.alloc (.cells #[.int .i64 h, .int .i64 r, .int .i64 s, .string i, .int .i64 v, .string g, .int .i64 h', .int .i64 r', .int .i64 s', .string i', .int .i64 v, .string g'] 34)).alloc (.cells #[.int .i64 h, .int .i64 r, .int .i64 s, .string i, .int .i64 v] 30)).heap.size = w.heap.size + 2 := by simp
    rw [e] at h1; exact h1
  go_enter Tryd.func14, Tryd.ntmps14
  go_wp2_with fail
  generalize ((w.alloc (Obj.cells #[.int .i64 h, .int .i64 r, .int .i64 s, .string i, .int .i64 v, .string g, .int .i64 h', .int .i64 r', .int .i64 s', .string i', .int .i64 v, .string g'] 34)).alloc (Obj.cells #[.int .i64 h, .int .i64 r, .int .i64 s, .string i, .int .i64 v] 30)).alloc (Obj.cells #[.int .i64 h', .int .i64 r', .int .i64 s', .string i', .int .i64 v] 30) = w0 at *
  refine (kA _).mono ?_
  rintro e w1 ⟨rfl, b1⟩
  have HB1 : Hid (Below w.heap.size w w1) := HB0.out.trans (b1.mono HB0.out.size)
  have HE1 : Hid (Blk w1 w.heap.size [.int .i64 h, .int .i64 r, .int .i64 s, .string i, .int .i64 v, .string g, .int .i64 h', .int .i64 r', .int .i64 s', .string i', .int .i64 v, .string g'] 34) := HE0.out.below b1 HE0.out.lt
  have cE1_0 := HE1.out.cell 0 rfl
  have cE1_1 := HE1.out.cell 1 rfl
  have cE1_2 := HE1.out.cell 2 rfl
  have cE1_3 := HE1.out.cell 3 rfl
  have cE1_4 := HE1.out.cell 4 rfl
  have cE1_5 := HE1.out.cell 5 rfl
  have cE1_6 := HE1.out.cell 6 rfl
  have cE1_7 := HE1.out.cell 7 rfl
  have cE1_8 := HE1.out.cell 8 rfl
  have cE1_9 := HE1.out.cell 9 rfl
  have cE1_10 := HE1.out.cell 10 rfl
  have cE1_11 := HE1.out.cell 11 rfl
  have HX1 : Hid (Blk w1 (w.heap.size + 1) [.int .i64 h, .int .i64 r, .int .i64 s, .string i, .int .i64 v] 30) := HX0.out.below b1 HX0.out.lt
  have cX1_0 := HX1.out.cell 0 rfl
  have cX1_1 := HX1.out.cell 1 rfl
  have cX1_2 := HX1.out.cell 2 rfl
  have cX1_3 := HX1.out.cell 3 rfl
  have cX1_4 := HX1.out.cell 4 rfl
  have HY1 : Hid (Blk w1 (w.heap.size + 2) [.int .i64 h', .int .i64 r', .int .i64 s', .string i', .int .i64 v] 30) := HY0.out.below b1 HY0.out.lt
  have cY1_0 := HY1.out.cell 0 rfl
  have cY1_1 := HY1.out.cell 1 rfl
  have cY1_2 := HY1.out.cell 2 rfl
  have cY1_3 := HY1.out.cell 3 rfl
  have cY1_4 := HY1.out.cell 4 rfl
  go_wp2_with fail
  refine (kB _).mono ?_
  rintro e w2 ⟨rfl, b2⟩
  have HB2 : Hid (Below w.heap.size w w2) := HB1.out.trans (b2.mono HB1.out.size)
  clear cE1_0 cE1_1 cE1_2 cE1_3 cE1_4 cE1_5 cE1_6 cE1_7 cE1_8 cE1_9 cE1_10 cE1_11 cX1_0 cX1_1 cX1_2 cX1_3 cX1_4 cY1_0 cY1_1 cY1_2 cY1_3 cY1_4
  have HE2 : Hid (Blk w2 w.heap.size [.int .i64 h, .int .i64 r, .int .i64 s, .string i, .int .i64 v, .string g, .int .i64 h', .int .i64 r', .int .i64 s', .string i', .int .i64 v, .string g'] 34) := HE1.out.below b2 HE1.out.lt
  have cE2_0 := HE2.out.cell 0 rfl
  have cE2_1 := HE2.out.cell 1 rfl
  have cE2_2 := HE2.out.cell 2 rfl
  have cE2_3 := HE2.out.cell 3 rfl
  have cE2_4 := HE2.out.cell 4 rfl
  have cE2_5 := HE2.out.cell 5 rfl
  have cE2_6 := HE2.out.cell 6 rfl
  have cE2_7 := HE2.out.cell 7 rfl
  have cE2_8 := HE2.out.cell 8 rfl
  have cE2_9 := HE2.out.cell 9 rfl
  have cE2_10 := HE2.out.cell 10 rfl
  have cE2_11 := HE2.out.cell 11 rfl
  have HX2 : Hid (Blk w2 (w.heap.size + 1) [.int .i64 h, .int .i64 r, .int .i64 s, .string i, .int .i64 v] 30) := HX1.out.below b2 HX1.out.lt
  have cX2_0 := HX2.out.cell 0 rfl
  have cX2_1 := HX2.out.cell 1 rfl
  have cX2_2 := HX2.out.cell 2 rfl
  have cX2_3 := HX2.out.cell 3 rfl
  have cX2_4 := HX2.out.cell 4 rfl
  have HY2 : Hid (Blk w2 (w.heap.size + 2) [.int .i64 h', .int .i64 r', .int .i64 s', .string i', .int .i64 v] 30) := HY1.out.below b2 HY1.out.lt
  have cY2_0 := HY2.out.cell 0 rfl
  have cY2_1 := HY2.out.cell 1 rfl
  have cY2_2 := HY2.out.cell 2 rfl
  have cY2_3 := HY2.out.cell 3 rfl
  have cY2_4 := HY2.out.cell 4 rfl
  go_wp2
  go_ret
  exact ⟨rfl, HB2.out⟩
set_option maxHeartbeats 1600000 in
set_option maxRecDepth 100000 in
theorem spec_evok4 (a b : Sv) (w : World) (hA : sgB a = true) (hB : sgB b = true) (h0 : a.x.v = b.x.v) (h1 : a.x.h = b.x.h) (hn : ¬ a.x.r = b.x.r) :
    Calls Tryd.prog 14 #[eV a b] w fun e w' => e = .returned (.bool false) ∧ Below w.heap.size w w' := by
  have kA := fun W => spec_sd a.x a.s W
  have kB := fun W => spec_sd b.x b.s W
  unfold sgB at *
  rw [hA] at kA
  clear hA
  rw [hB] at kB
  clear hB
  unfold tV at kA kB
  obtain ⟨⟨h, r, s, i, v⟩, g⟩ := a
  obtain ⟨⟨h', r', s', i', v'⟩, g'⟩ := b
  unfold eV
  simp only at kA kB h0 h1 hn ⊢
  subst h0
  subst h1
  have HB0 : Hid (Below w.heap.size w (((w.alloc (.cells #[.int .i64 h, .int .i64 r, .int .i64 s, .string i, .int .i64 v, .string g, .int .i64 h, .int .i64 r', .int .i64 s', .string i', .int .i64 v, .string g'] 34)).alloc (.cells #[.int .i64 h, .int .i64 r, .int .i64 s, .string i, .int .i64 v] 30)).alloc (.cells #[.int .i64 h, .int .i64 r', .int .i64 s', .string i', .int .i64 v] 30))) := (below_two _ _ _).trans ((below_one _ _).mono (by simp; omega))
  have HE0 : Hid (Blk (((w.alloc (.cells #[.int .i64 h, .int .i64 r, .int .i64 s, .string i, .int .i64 v, .string g, .int .i64 h, .int .i64 r', .int .i64 s', .string i', .int .i64 v, .string g'] 34)).alloc (.cells #[.int .i64 h, .int .i64 r, .int .i64 s, .string i, .int .i64 v] 30)).alloc (.cells #[.int .i64 h, .int .i64 r', .int .i64 s', .string i', .int .i64 v] 30)) w.heap.size [.int .i64 h, .int .i64 r, .int .i64 s, .string i, .int .i64 v, .string g, .int .i64 h, .int .i64 r', .int .i64 s', .string i', .int .i64 v, .string g'] 34) := ((blk_new w _ _).alloc _).alloc _
  have HX0 : Hid (Blk (((w.alloc (.cells #[.int .i64 h, .int .i64 r, .int .i64 s, .string i, .int .i64 v, .string g, .int .i64 h, .int .i64 r', .int .i64 s', .string i', .int .i64 v, .string g'] 34)).alloc (.cells #[.int .i64 h, .int .i64 r, .int .i64 s, .string i, .int .i64 v] 30)).alloc (.cells #[.int .i64 h, .int .i64 r', .int .i64 s', .string i', .int .i64 v] 30)) (w.heap.size + 1) [.int .i64 h, .int .i64 r, .int .i64 s, .string i, .int .i64 v] 30) := by
    have h1 := blk_new (w.alloc (.cells #[.int .i64 h, .int .i64 r, .int .i64 s, .string i, .int .i64 v, .string g, .int .i64 h, .int .i64 r', .int .i64 s', .string i', .int .i64 v, .string g'] 34)) [.int .i64 h, .int .i64 r, .int .i64 s, .string i, .int .i64 v] 30
    have e : (w.alloc (.cells #[.int .i64 h, .int .i64 r, .int .i64 s, .string i, .int .i64 v, .string g, .int .i64 h, .int .i64 r', .int .i64 s', .string i', .int .i64 v, .string g'] 34)).heap.size = w.heap.size + 1 := by simp
    rw [e] at h1; exact h1.alloc _
  have HY0 : Hid (Blk (((w.alloc (.cells #[.int .i64 h, .int .i64 r, .int .i64 s, .string i, .int .i64 v, .string g, .int .i64 h, .int .i64 r', .int .i64 s', .string i', .int .i64 v, .string g'] 34)).alloc (.cells #[.int .i64 h, .int .i64 r, .int .i64 s, .string i, .int .i64 v] 30)).alloc (.cells #[.int .i64 h, .int .i64 r', .int .i64 s', .string i', .int .i64 v] 30)) (w.heap.size + 2) [.int .i64 h, .int .i64 r', .int .i64 s', .string i', .int .i64 v] 30) := by
    have h1 := blk_new ((w.alloc (.cells #[.int .i64 h, .int .i64 r, .int .i64 s, .string i, .int .i64 v, .string g, .int .i64 h, .int .i64 r', .int .i64 s', .string i', .int .i64 v, .string g'] 34)).alloc (.cells #[.int .i64 h, .int .i64 r, .int .i64 s, .string i, .int .i64 v] 30)) [.int .i64 h, .int .i64 r', .int .i64 s', .string i', .int .i64 v] 30
    have e : ((w.alloc (.cells #[.int .i64 h, .int .i64 r, .int .i64 s, .string i, .int .i64 v, .string g, .int .i64 h, .int .i64 r', .int .i64 s', .string i', .int .i64 v, .string g'] 34)).alloc (.cells #[.int .i64 h, .int .i64 r, .int .i64 s, .string i, .int .i64 v] 30)).heap.size = w.heap.size + 2 := by simp
    rw [e] at h1; exact h1
  go_enter Tryd.func14, Tryd.ntmps14
  go_wp2_with fail
  generalize ((w.alloc (Obj.cells #[.int .i64 h, .int .i64 r, .int .i64 s, .string i, .int .i64 v, .string g, .int .i64 h, .int .i64 r', .int .i64 s', .string i', .int .i64 v, .string g'] 34)).alloc (Obj.cells #[.int .i64 h, .int .i64 r, .int .i64 s, .string i, .int .i64 v] 30)).alloc (Obj.cells #[.int .i64 h, .int .i64 r', .int .i64 s', .string i', .int .i64 v] 30) = w0 at *
  refine (kA _).mono ?_
  rintro e w1 ⟨rfl, b1⟩
  have HB1 : Hid (Below w.heap.size w w1) := HB0.out.trans (b1.mono HB0.out.size)
  have HE1 : Hid (Blk w1 w.heap.size [.int .i64 h, .int .i64 r, .int .i64 s, .string i, .int .i64 v, .string g, .int .i64 h, .int .i64 r', .int .i64 s', .string i', .int .i64 v, .string g'] 34) := HE0.out.below b1 HE0.out.lt
  have cE1_0 := HE1.out.cell 0 rfl
  have cE1_1 := HE1.out.cell 1 rfl
  have cE1_2 := HE1.out.cell 2 rfl
  have cE1_3 := HE1.out.cell 3 rfl
  have cE1_4 := HE1.out.cell 4 rfl
  have cE1_5 := HE1.out.cell 5 rfl
  have cE1_6 := HE1.out.cell 6 rfl
  have cE1_7 := HE1.out.cell 7 rfl
  have cE1_8 := HE1.out.cell 8 rfl
  have cE1_9 := HE1.out.cell 9 rfl
  have cE1_10 := HE1.out.cell 10 rfl
  have cE1_11 := HE1.out.cell 11 rfl
  have HX1 : Hid (Blk w1 (w.heap.size + 1) [.int .i64 h, .int .i64 r, .int .i64 s, .string i, .int .i64 v] 30) := HX0.out.below b1 HX0.out.lt
  have cX1_0 := HX1.out.cell 0 rfl
  have cX1_1 := HX1.out.cell 1 rfl
  have cX1_2 := HX1.out.cell 2 rfl
  have cX1_3 := HX1.out.cell 3 rfl
  have cX1_4 := HX1.out.cell 4 rfl
  have HY1 : Hid (Blk w1 (w.heap.size + 2) [.int .i64 h, .int .i64 r', .int .i64 s', .string i', .int .i64 v] 30) := HY0.out.below b1 HY0.out.lt
  have cY1_0 := HY1.out.cell 0 rfl
  have cY1_1 := HY1.out.cell 1 rfl
  have cY1_2 := HY1.out.cell 2 rfl
  have cY1_3 := HY1.out.cell 3 rfl
  have cY1_4 := HY1.out.cell 4 rfl
  go_wp2_with fail
  refine (kB _).mono ?_
  rintro e w2 ⟨rfl, b2⟩
  have HB2 : Hid (Below w.heap.size w w2) := HB1.out.trans (b2.mono HB1.out.size)
  clear cE1_0 cE1_1 cE1_2 cE1_3 cE1_4 cE1_5 cE1_6 cE1_7 cE1_8 cE1_9 cE1_10 cE1_11 cX1_0 cX1_1 cX1_2 cX1_3 cX1_4 cY1_0 cY1_1 cY1_2 cY1_3 cY1_4
  have HE2 : Hid (Blk w2 w.heap.size [.int .i64 h, .int .i64 r, .int .i64 s, .string i, .int .i64 v, .string g, .int .i64 h, .int .i64 r', .int .i64 s', .string i', .int .i64 v, .string g'] 34) := HE1.out.below b2 HE1.out.lt
  have cE2_0 := HE2.out.cell 0 rfl
  have cE2_1 := HE2.out.cell 1 rfl
  have cE2_2 := HE2.out.cell 2 rfl
  have cE2_3 := HE2.out.cell 3 rfl
  have cE2_4 := HE2.out.cell 4 rfl
  have cE2_5 := HE2.out.cell 5 rfl
  have cE2_6 := HE2.out.cell 6 rfl
  have cE2_7 := HE2.out.cell 7 rfl
  have cE2_8 := HE2.out.cell 8 rfl
  have cE2_9 := HE2.out.cell 9 rfl
  have cE2_10 := HE2.out.cell 10 rfl
  have cE2_11 := HE2.out.cell 11 rfl
  have HX2 : Hid (Blk w2 (w.heap.size + 1) [.int .i64 h, .int .i64 r, .int .i64 s, .string i, .int .i64 v] 30) := HX1.out.below b2 HX1.out.lt
  have cX2_0 := HX2.out.cell 0 rfl
  have cX2_1 := HX2.out.cell 1 rfl
  have cX2_2 := HX2.out.cell 2 rfl
  have cX2_3 := HX2.out.cell 3 rfl
  have cX2_4 := HX2.out.cell 4 rfl
  have HY2 : Hid (Blk w2 (w.heap.size + 2) [.int .i64 h, .int .i64 r', .int .i64 s', .string i', .int .i64 v] 30) := HY1.out.below b2 HY1.out.lt
  have cY2_0 := HY2.out.cell 0 rfl
  have cY2_1 := HY2.out.cell 1 rfl
  have cY2_2 := HY2.out.cell 2 rfl
  have cY2_3 := HY2.out.cell 3 rfl
  have cY2_4 := HY2.out.cell 4 rfl
  go_wp2
  go_ret
  exact ⟨rfl, HB2.out⟩
set_option maxHeartbeats 1600000 in
set_option maxRecDepth 100000 in
theorem spec_evok5 (a b : Sv) (w : World) (hA : sgB a = true) (hB : sgB b = true) (h0 : a.x.v = b.x.v) (h1 : a.x.h = b.x.h) (h2 : a.x.r = b.x.r) (hn : ¬ a.x.s = b.x.s) :
    Calls Tryd.prog 14 #[eV a b] w fun e w' => e = .returned (.bool false) ∧ Below w.heap.size w w' := by
  have kA := fun W => spec_sd a.x a.s W
  have kB := fun W => spec_sd b.x b.s W
  unfold sgB at *
  rw [hA] at kA
  clear hA
  rw [hB] at kB
  clear hB
  unfold tV at kA kB
  obtain ⟨⟨h, r, s, i, v⟩, g⟩ := a
  obtain ⟨⟨h', r', s', i', v'⟩, g'⟩ := b
  unfold eV
  simp only at kA kB h0 h1 h2 hn ⊢
  subst h0
  subst h1
  subst h2
  have HB0 : Hid (Below w.heap.size w (((w.alloc (.cells #[.int .i64 h, .int .i64 r, .int .i64 s, .string i, .int .i64 v, .string g, .int .i64 h, .int .i64 r, .int .i64 s', .string i', .int .i64 v, .string g'] 34)).alloc (.cells #[.int .i64 h, .int .i64 r, .int .i64 s, .string i, .int .i64 v] 30)).alloc (.cells #[.int .i64 h, .int .i64 r, .int .i64 s', .string i', .int .i64 v] 30))) := (below_two _ _ _).trans ((below_one _ _).mono (by simp; omega))
  have HE0 : Hid (Blk (((w.alloc (.cells #[.int .i64 h, .int .i64 r, .int .i64 s, .string i, .int .i64 v, .string g, .int .i64 h, .int .i64 r, .int .i64 s', .string i', .int .i64 v, .string g'] 34)).alloc (.cells #[.int .i64 h, .int .i64 r, .int .i64 s, .string i, .int .i64 v] 30)).alloc (.cells #[.int .i64 h, .int .i64 r, .int .i64 s', .string i', .int .i64 v] 30)) w.heap.size [.int .i64 h, .int .i64 r, .int .i64 s, .string i, .int .i64 v, .string g, .int .i64 h, .int .i64 r, .int .i64 s', .string i', .int .i64 v, .string g'] 34) := ((blk_new w _ _).alloc _).alloc _
  have HX0 : Hid (Blk (((w.alloc (.cells #[.int .i64 h, .int .i64 r, .int .i64 s, .string i, .int .i64 v, .string g, .int .i64 h, .int .i64 r, .int .i64 s', .string i', .int .i64 v, .string g'] 34)).alloc (.cells #[.int .i64 h, .int .i64 r, .int .i64 s, .string i, .int .i64 v] 30)).alloc (.cells #[.int .i64 h, .int .i64 r, .int .i64 s', .string i', .int .i64 v] 30)) (w.heap.size + 1) [.int .i64 h, .int .i64 r, .int .i64 s, .string i, .int .i64 v] 30) := by
    have h1 := blk_new (w.alloc (.cells #[.int .i64 h, .int .i64 r, .int .i64 s, .string i, .int .i64 v, .string g, .int .i64 h, .int .i64 r, .int .i64 s', .string i', .int .i64 v, .string g'] 34)) [.int .i64 h, .int .i64 r, .int .i64 s, .string i, .int .i64 v] 30
    have e : (w.alloc (.cells #[.int .i64 h, .int .i64 r, .int .i64 s, .string i, .int .i64 v, .string g, .int .i64 h, .int .i64 r, .int .i64 s', .string i', .int .i64 v, .string g'] 34)).heap.size = w.heap.size + 1 := by simp
    rw [e] at h1; exact h1.alloc _
  have HY0 : Hid (Blk (((w.alloc (.cells #[.int .i64 h, .int .i64 r, .int .i64 s, .string i, .int .i64 v, .string g, .int .i64 h, .int .i64 r, .int .i64 s', .string i', .int .i64 v, .string g'] 34)).alloc (.cells #[.int .i64 h, .int .i64 r, .int .i64 s, .string i, .int .i64 v] 30)).alloc (.cells #[.int .i64 h, .int .i64 r, .int .i64 s', .string i', .int .i64 v] 30)) (w.heap.size + 2) [.int .i64 h, .int .i64 r, .int .i64 s', .string i', .int .i64 v] 30) := by
    have h1 := blk_new ((w.alloc (.cells #[.int .i64 h, .int .i64 r, .int .i64 s, .string i, .int .i64 v, .string g, .int .i64 h, .int .i64 r, .int .i64 s', .string i', .int .i64 v, .string g'] 34)).alloc (.cells #[.int .i64 h, .int .i64 r, .int .i64 s, .string i, .int .i64 v] 30)) [.int .i64 h, .int .i64 r, .int .i64 s', .string i', .int .i64 v] 30
    have e : ((w.alloc (.cells #[.int .i64 h, .int .i64 r, .int .i64 s, .string i, .int .i64 v, .string g, .int .i64 h, .int .i64 r, .int .i64 s', .string i', .int .i64 v, .string g'] 34)).alloc (.cells #[.int .i64 h, .int .i64 r, .int .i64 s, .string i, .int .i64 v] 30)).heap.size = w.heap.size + 2 := by simp
    rw [e] at h1; exact h1
  go_enter Tryd.func14, Tryd.ntmps14
  go_wp2_with fail
  generalize ((w.alloc (Obj.cells #[.int .i64 h, .int .i64 r, .int .i64 s, .string i, .int .i64 v, .string g, .int .i64 h, .int .i64 r, .int .i64 s', .string i', .int .i64 v, .string g'] 34)).alloc (Obj.cells #[.int .i64 h, .int .i64 r, .int .i64 s, .string i, .int .i64 v] 30)).alloc (Obj.cells #[.int .i64 h, .int .i64 r, .int .i64 s', .string i', .int .i64 v] 30) = w0 at *
  refine (kA _).mono ?_
  rintro e w1 ⟨rfl, b1⟩
  have HB1 : Hid (Below w.heap.size w w1) := HB0.out.trans (b1.mono HB0.out.size)
  have HE1 : Hid (Blk w1 w.heap.size [.int .i64 h, .int .i64 r, .int .i64 s, .string i, .int .i64 v, .string g, .int .i64 h, .int .i64 r, .int .i64 s', .string i', .int .i64 v, .string g'] 34) := HE0.out.below b1 HE0.out.lt
  have cE1_0 := HE1.out.cell 0 rfl
  have cE1_1 := HE1.out.cell 1 rfl
  have cE1_2 := HE1.out.cell 2 rfl
  have cE1_3 := HE1.out.cell 3 rfl
  have cE1_4 := HE1.out.cell 4 rfl
  have cE1_5 := HE1.out.cell 5 rfl
  have cE1_6 := HE1.out.cell 6 rfl
  have cE1_7 := HE1.out.cell 7 rfl
  have cE1_8 := HE1.out.cell 8 rfl
  have cE1_9 := HE1.out.cell 9 rfl
  have cE1_10 := HE1.out.cell 10 rfl
  have cE1_11 := HE1.out.cell 11 rfl
  have HX1 : Hid (Blk w1 (w.heap.size + 1) [.int .i64 h, .int .i64 r, .int .i64 s, .string i, .int .i64 v] 30) := HX0.out.below b1 HX0.out.lt
  have cX1_0 := HX1.out.cell 0 rfl
  have cX1_1 := HX1.out.cell 1 rfl
  have cX1_2 := HX1.out.cell 2 rfl
  have cX1_3 := HX1.out.cell 3 rfl
  have cX1_4 := HX1.out.cell 4 rfl
  have HY1 : Hid (Blk w1 (w.heap.size + 2) [.int .i64 h, .int .i64 r, .int .i64 s', .string i', .int .i64 v] 30) := HY0.out.below b1 HY0.out.lt
  have cY1_0 := HY1.out.cell 0 rfl
  have cY1_1 := HY1.out.cell 1 rfl
  have cY1_2 := HY1.out.cell 2 rfl
  have cY1_3 := HY1.out.cell 3 rfl
  have cY1_4 := HY1.out.cell 4 rfl
  go_wp2_with fail
  refine (kB _).mono ?_
  rintro e w2 ⟨rfl, b2⟩
  have HB2 : Hid (Below w.heap.size w w2) := HB1.out.trans (b2.mono HB1.out.size)
  clear cE1_0 cE1_1 cE1_2 cE1_3 cE1_4 cE1_5 cE1_6 cE1_7 cE1_8 cE1_9 cE1_10 cE1_11 cX1_0 cX1_1 cX1_2 cX1_3 cX1_4 cY1_0 cY1_1 cY1_2 cY1_3 cY1_4
  have HE2 : Hid (Blk w2 w.heap.size [.int .i64 h, .int .i64 r, .int .i64 s, .string i, .int .i64 v, .string g, .int .i64 h, .int .i64 r, .int .i64 s', .string i', .int .i64 v, .string g'] 34) := HE1.out.below b2 HE1.out.lt
  have cE2_0 := HE2.out.cell 0 rfl
  have cE2_1 := HE2.out.cell 1 rfl
  have cE2_2 := HE2.out.cell 2 rfl
  have cE2_3 := HE2.out.cell 3 rfl
  have cE2_4 := HE2.out.cell 4 rfl
  have cE2_5 := HE2.out.cell 5 rfl
  have cE2_6 := HE2.out.cell 6 rfl
  have cE2_7 := HE2.out.cell 7 rfl
  have cE2_8 := HE2.out.cell 8 rfl
  have cE2_9 := HE2.out.cell 9 rfl
  have cE2_10 := HE2.out.cell 10 rfl
  have cE2_11 := HE2.out.cell 11 rfl
  have HX2 : Hid (Blk w2 (w.heap.size + 1) [.int .i64 h, .int .i64 r, .int .i64 s, .string i, .int .i64 v] 30) := HX1.out.below b2 HX1.out.lt
  have cX2_0 := HX2.out.cell 0 rfl
  have cX2_1 := HX2.out.cell 1 rfl
  have cX2_2 := HX2.out.cell 2 rfl
  have cX2_3 := HX2.out.cell 3 rfl
  have cX2_4 := HX2.out.cell 4 rfl
  have HY2 : Hid (Blk w2 (w.heap.size + 2) [.int .i64 h, .int .i64 r, .int .i64 s', .string i', .int .i64 v] 30) := HY1.out.below b2 HY1.out.lt
  have cY2_0 := HY2.out.cell 0 rfl
  have cY2_1 := HY2.out.cell 1 rfl
  have cY2_2 := HY2.out.cell 2 rfl
  have cY2_3 := HY2.out.cell 3 rfl
  have cY2_4 := HY2.out.cell 4 rfl
  go_wp2
  go_ret
  exact ⟨rfl, HB2.out⟩
set_option maxHeartbeats 1600000 in
set_option maxRecDepth 100000 in
theorem spec_evok6 (a b : Sv) (w : World) (hA : sgB a = true) (hB : sgB b = true) (h0 : a.x.v = b.x.v) (h1 : a.x.h = b.x.h) (h2 : a.x.r = b.x.r) (h3 : a.x.s = b.x.s) :
    Calls Tryd.prog 14 #[eV a b] w fun e w' => e = .returned (.bool (!decide (a.x.i = b.x.i))) ∧ Below w.heap.size w w' := by
  have kA := fun W => spec_sd a.x a.s W
  have kB := fun W => spec_sd b.x b.s W
  unfold sgB at *
  rw [hA] at kA
  clear hA
  rw [hB] at kB
  clear hB
  have HI : Hid ((a.x.i.toList == b.x.i.toList) = decide (a.x.i = b.x.i)) := beq_str _ _
  unfold tV at kA kB
  obtain ⟨⟨h, r, s, i, v⟩, g⟩ := a
  obtain ⟨⟨h', r', s', i', v'⟩, g'⟩ := b
  unfold eV
  simp only at kA kB h0 h1 h2 h3 HI ⊢
  subst h0
  subst h1
  subst h2
  subst h3
  have HB0 : Hid (Below w.heap.size w (((w.alloc (.cells #[.int .i64 h, .int .i64 r, .int .i64 s, .string i, .int .i64 v, .string g, .int .i64 h, .int .i64 r, .int .i64 s, .string i', .int .i64 v, .string g'] 34)).alloc (.cells #[.int .i64 h, .int .i64 r, .int .i64 s, .string i, .int .i64 v] 30)).alloc (.cells #[.int .i64 h, .int .i64 r, .int .i64 s, .string i', .int .i64 v] 30))) := (below_two _ _ _).trans ((below_one _ _).mono (by simp; omega))
  have HE0 : Hid (Blk (((w.alloc (.cells #[.int .i64 h, .int .i64 r, .int .i64 s, .string i, .int .i64 v, .string g, .int .i64 h, .int .i64 r, .int .i64 s, .string i', .int .i64 v, .string g'] 34)).alloc (.cells #[.int .i64 h, .int .i64 r, .int .i64 s, .string i, .int .i64 v] 30)).alloc (.cells #[.int .i64 h, .int .i64 r, .int .i64 s, .string i', .int .i64 v] 30)) w.heap.size [.int .i64 h, .int .i64 r, .int .i64 s, .string i, .int .i64 v, .string g, .int .i64 h, .int .i64 r, .int .i64 s, .string i', .int .i64 v, .string g'] 34) := ((blk_new w _ _).alloc _).alloc _
  have HX0 : Hid (Blk (((w.alloc (.cells #[.int .i64 h, .int .i64 r, .int .i64 s, .string i, .int .i64 v, .string g, .int .i64 h, .int .i64 r, .int .i64 s, .string i', .int .i64 v, .string g'] 34)).alloc (.cells #[.int .i64 h, .int .i64 r, .int .i64 s, .string i, .int .i64 v] 30)).alloc (.cells #[.int .i64 h, .int .i64 r, .int .i64 s, .string i', .int .i64 v] 30)) (w.heap.size + 1) [.int .i64 h, .int .i64 r, .int .i64 s, .string i, .int .i64 v] 30) := by
    have h1 := blk_new (w.alloc (.cells #[.int .i64 h, .int .i64 r, .int .i64 s, .string i, .int .i64 v, .string g, .int .i64 h, .int .i64 r, .int .i64 s, .string i', .int .i64 v, .string g'] 34)) [.int .i64 h, .int .i64 r, .int .i64 s, .string i, .int .i64 v] 30
    have e : (w.alloc (.cells #[.int .i64 h, .int .i64 r, .int .i64 s, .string i, .int .i64 v, .string g, .int .i64 h, .int .i64 r, .int .i64 s, .string i', .int .i64 v, .string g'] 34)).heap.size = w.heap.size + 1 := by simp
    rw [e] at h1; exact h1.alloc _
  have HY0 : Hid (Blk (((w.alloc (.cells #[.int .i64 h, .int .i64 r, .int .i64 s, .string i, .int .i64 v, .string g, .int .i64 h, .int .i64 r, .int .i64 s, .string i', .int .i64 v, .string g'] 34)).alloc (.cells #[.int .i64 h, .int .i64 r, .int .i64 s, .string i, .int .i64 v] 30)).alloc (.cells #[.int .i64 h, .int .i64 r, .int .i64 s, .string i', .int .i64 v] 30)) (w.heap.size + 2) [.int .i64 h, .int .i64 r, .int .i64 s, .string i', .int .i64 v] 30) := by
    have h1 := blk_new ((w.alloc (.cells #[.int .i64 h, .int .i64 r, .int .i64 s, .string i, .int .i64 v, .string g, .int .i64 h, .int .i64 r, .int .i64 s, .string i', .int .i64 v, .string g'] 34)).alloc (.cells #[.int .i64 h, .int .i64 r, .int .i64 s, .string i, .int .i64 v] 30)) [.int .i64 h, .int .i64 r, .int .i64 s, .string i', .int .i64 v] 30
    have e : ((w.alloc (.cells #[.int .i64 h, .int .i64 r, .int .i64 s, .string i, .int .i64 v, .string g, .int .i64 h, .int .i64 r, .int .i64 s, .string i', .int .i64 v, .string g'] 34)).alloc (.cells #[.int .i64 h, .int .i64 r, .int .i64 s, .string i, .int .i64 v] 30)).heap.size = w.heap.size + 2 := by simp
    rw [e] at h1; exact h1
  go_enter Tryd.func14, Tryd.ntmps14
  go_wp2_with fail
  generalize ((w.alloc (Obj.cells #[.int .i64 h, .int .i64 r, .int .i64 s, .string i, .int .i64 v, .string g, .int .i64 h, .int .i64 r, .int .i64 s, .string i', .int .i64 v, .string g'] 34)).alloc (Obj.cells #[.int .i64 h, .int .i64 r, .int .i64 s, .string i, .int .i64 v] 30)).alloc (Obj.cells #[.int .i64 h, .int .i64 r, .int .i64 s, .string i', .int .i64 v] 30) = w0 at *
  refine (kA _).mono ?_
  rintro e w1 ⟨rfl, b1⟩
  have HB1 : Hid (Below w.heap.size w w1) := HB0.out.trans (b1.mono HB0.out.size)
  have HE1 : Hid (Blk w1 w.heap.size [.int .i64 h, .int .i64 r, .int .i64 s, .string i, .int .i64 v, .string g, .int .i64 h, .int .i64 r, .int .i64 s, .string i', .int .i64 v, .string g'] 34) := HE0.out.below b1 HE0.out.lt
  have cE1_0 := HE1.out.cell 0 rfl
  have cE1_1 := HE1.out.cell 1 rfl
  have cE1_2 := HE1.out.cell 2 rfl
  have cE1_3 := HE1.out.cell 3 rfl
  have cE1_4 := HE1.out.cell 4 rfl
  have cE1_5 := HE1.out.cell 5 rfl
  have cE1_6 := HE1.out.cell 6 rfl
  have cE1_7 := HE1.out.cell 7 rfl
  have cE1_8 := HE1.out.cell 8 rfl
  have cE1_9 := HE1.out.cell 9 rfl
  have cE1_10 := HE1.out.cell 10 rfl
  have cE1_11 := HE1.out.cell 11 rfl
  have HX1 : Hid (Blk w1 (w.heap.size + 1) [.int .i64 h, .int .i64 r, .int .i64 s, .string i, .int .i64 v] 30) := HX0.out.below b1 HX0.out.lt
  have cX1_0 := HX1.out.cell 0 rfl
  have cX1_1 := HX1.out.cell 1 rfl
  have cX1_2 := HX1.out.cell 2 rfl
  have cX1_3 := HX1.out.cell 3 rfl
  have cX1_4 := HX1.out.cell 4 rfl
  have HY1 : Hid (Blk w1 (w.heap.size + 2) [.int .i64 h, .int .i64 r, .int .i64 s, .string i', .int .i64 v] 30) := HY0.out.below b1 HY0.out.lt
  have cY1_0 := HY1.out.cell 0 rfl
  have cY1_1 := HY1.out.cell 1 rfl
  have cY1_2 := HY1.out.cell 2 rfl
  have cY1_3 := HY1.out.cell 3 rfl
  have cY1_4 := HY1.out.cell 4 rfl
  go_wp2_with fail
  refine (kB _).mono ?_
  rintro e w2 ⟨rfl, b2⟩
  have HB2 : Hid (Below w.heap.size w w2) := HB1.out.trans (b2.mono HB1.out.size)
  clear cE1_0 cE1_1 cE1_2 cE1_3 cE1_4 cE1_5 cE1_6 cE1_7 cE1_8 cE1_9 cE1_10 cE1_11 cX1_0 cX1_1 cX1_2 cX1_3 cX1_4 cY1_0 cY1_1 cY1_2 cY1_3 cY1_4
  have HE2 : Hid (Blk w2 w.heap.size [.int .i64 h, .int .i64 r, .int .i64 s, .string i, .int .i64 v, .string g, .int .i64 h, .int .i64 r, .int .i64 s, .string i', .int .i64 v, .string g'] 34) := HE1.out.below b2 HE1.out.lt
  have cE2_0 := HE2.out.cell 0 rfl
  have cE2_1 := HE2.out.cell 1 rfl
  have cE2_2 := HE2.out.cell 2 rfl
  have cE2_3 := HE2.out.cell 3 rfl
  have cE2_4 := HE2.out.cell 4 rfl
  have cE2_5 := HE2.out.cell 5 rfl
  have cE2_6 := HE2.out.cell 6 rfl
  have cE2_7 := HE2.out.cell 7 rfl
  have cE2_8 := HE2.out.cell 8 rfl
  have cE2_9 := HE2.out.cell 9 rfl
  have cE2_10 := HE2.out.cell 10 rfl
  have cE2_11 := HE2.out.cell 11 rfl
  have HX2 : Hid (Blk w2 (w.heap.size + 1) [.int .i64 h, .int .i64 r, .int .i64 s, .string i, .int .i64 v] 30) := HX1.out.below b2 HX1.out.lt
  have cX2_0 := HX2.out.cell 0 rfl
  have cX2_1 := HX2.out.cell 1 rfl
  have cX2_2 := HX2.out.cell 2 rfl
  have cX2_3 := HX2.out.cell 3 rfl
  have cX2_4 := HX2.out.cell 4 rfl
  have HY2 : Hid (Blk w2 (w.heap.size + 2) [.int .i64 h, .int .i64 r, .int .i64 s, .string i', .int .i64 v] 30) := HY1.out.below b2 HY1.out.lt
  have cY2_0 := HY2.out.cell 0 rfl
  have cY2_1 := HY2.out.cell 1 rfl
  have cY2_2 := HY2.out.cell 2 rfl
  have cY2_3 := HY2.out.cell 3 rfl
  have cY2_4 := HY2.out.cell 4 rfl
  go_wp2
  go_ret
  exact ⟨by simp [HI.out], HB2.out⟩
theorem spec_evok (a b : Sv) (w : World) :
    Calls Tryd.prog 14 #[eV a b] w fun e w' => e = .returned (.bool (evB a b)) ∧ Below w.heap.size w w' := by
  unfold evB plc
  cases hA : sgB a with
  | false => exact spec_evok0 a b w hA
  | true =>
    cases hB : sgB b with
    | false => exact spec_evok1 a b w hA hB
    | true =>
      by_cases h0 : a.x.v = b.x.v
      · by_cases h1 : a.x.h = b.x.h
        · by_cases h2 : a.x.r = b.x.r
          · by_cases h3 : a.x.s = b.x.s
            · simp only [h0, h1, h2, h3, decide_true, Bool.true_and]
              exact spec_evok6 a b w hA hB h0 h1 h2 h3
            · simp only [h3, decide_false, Bool.and_false, Bool.false_and]
              exact spec_evok5 a b w hA hB h0 h1 h2 h3
          · simp only [h2, decide_false, Bool.and_false, Bool.false_and]
            exact spec_evok4 a b w hA hB h0 h1 h2
        · simp only [h1, decide_false, Bool.and_false, Bool.false_and]
          exact spec_evok3 a b w hA hB h0 h1
      · simp only [h0, decide_false, Bool.and_false, Bool.false_and]
        exact spec_evok2 a b w hA hB h0
set_option maxHeartbeats 800000 in
set_option maxRecDepth 100000 in
theorem impl_culprit (a b : Sv) (w : World) (hT : Tab w) :
    Calls Tryd.prog 15 #[eV a b] w fun e w' => e = .returned (.int .i64 (bif evB a b then a.x.v else 0)) ∧ Below w.heap.size w w' := by
  have HTa : Hid (Tab w) := hT
  clear hT
  have kE := fun W (hT : Tab W) => impl_evok a b W hT
  have kC := fun W => impl_culpr a b W
  have HX : Hid (Blk (w.alloc (.cells (eLs a b).toArray 34)) w.heap.size (eLs a b) 34) := blk_new w _ _
  have HB : Hid (Below w.heap.size w (w.alloc (.cells (eLs a b).toArray 34))) := below_one _ _
  generalize evB a b = t at *
  obtain ⟨⟨h, r, s, i, v⟩, g⟩ := a
  obtain ⟨⟨h', r', s', i', v'⟩, g'⟩ := b
  unfold eV at *
  unfold eLs at HX HB
  simp only at HX HB kE kC ⊢
  go_enter Tryd.func15, Tryd.ntmps15
  go_wp2_with fail
  refine (kE _ (HTa.out.below HB.out HTa.out.pos)).mono ?_
  rintro e w1 ⟨rfl, b1⟩
  have HX1 := HX.out.below b1 HX.out.lt
  have HB1 : Hid (Below w.heap.size w w1) := HB.out.trans (b1.mono HB.out.size)
  have c0 := HX1.cell 0 rfl
  have c1 := HX1.cell 1 rfl
  have c2 := HX1.cell 2 rfl
  have c3 := HX1.cell 3 rfl
  have c4 := HX1.cell 4 rfl
  have c5 := HX1.cell 5 rfl
  have c6 := HX1.cell 6 rfl
  have c7 := HX1.cell 7 rfl
  have c8 := HX1.cell 8 rfl
  have c9 := HX1.cell 9 rfl
  have c10 := HX1.cell 10 rfl
  have c11 := HX1.cell 11 rfl
  cases t
  · go_wp2
    go_ret
    exact ⟨rfl, HB1.out⟩
  · go_wp2_with fail
    refine (kC _).mono ?_
    rintro e w2 ⟨rfl, b2⟩
    have HB2 : Hid (Below w.heap.size w w2) := HB1.out.trans (b2.mono HB1.out.size)
    go_wp2
    go_ret
    exact ⟨rfl, HB2.out⟩
set_option maxHeartbeats 800000 in
set_option maxRecDepth 100000 in
theorem spec_culprit (a b : Sv) (w : World) :
    Calls Tryd.prog 21 #[eV a b] w fun e w' => e = .returned (.int .i64 (bif evB a b then a.x.v else 0)) ∧ Below w.heap.size w w' := by
  have kE := fun W => spec_evok a b W
  have HX : Hid (Blk (w.alloc (.cells (eLs a b).toArray 34)) w.heap.size (eLs a b) 34) := blk_new w _ _
  have HB : Hid (Below w.heap.size w (w.alloc (.cells (eLs a b).toArray 34))) := below_one _ _
  generalize evB a b = t at *
  obtain ⟨⟨h, r, s, i, v⟩, g⟩ := a
  obtain ⟨⟨h', r', s', i', v'⟩, g'⟩ := b
  unfold eV at *
  unfold eLs at HX HB
  simp only at HX HB kE ⊢
  go_enter Tryd.func21, Tryd.ntmps21
  go_wp2_with fail
  refine (kE _).mono ?_
  rintro e w1 ⟨rfl, b1⟩
  have HX1 := HX.out.below b1 HX.out.lt
  have HB1 : Hid (Below w.heap.size w w1) := HB.out.trans (b1.mono HB.out.size)
  have c0 := HX1.cell 0 rfl
  have c1 := HX1.cell 1 rfl
  have c2 := HX1.cell 2 rfl
  have c3 := HX1.cell 3 rfl
  have c4 := HX1.cell 4 rfl
  have c5 := HX1.cell 5 rfl
  have c6 := HX1.cell 6 rfl
  have c7 := HX1.cell 7 rfl
  have c8 := HX1.cell 8 rfl
  have c9 := HX1.cell 9 rfl
  have c10 := HX1.cell 10 rfl
  have c11 := HX1.cell 11 rfl
  cases t
  · go_wp2
    go_ret
    exact ⟨rfl, HB1.out⟩
  · go_wp2
    go_ret
    exact ⟨rfl, HB1.out⟩
end Go.Proofs.YtclajbadeclbdaaDoor
