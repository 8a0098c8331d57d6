/- What spec.SignAsk answers, in a row of its own; old memory stays. Conditions: a row that a machine can hold. -/
import Derived.Test.YtmjlpdmdpagggaaAn14
import Derived.Test.YtmjlpdmdpagggaaSs14
namespace Go.Proofs.Ytmjlpdmdpagggaa
open Go.RowKit
open Num
set_option linter.unusedVariables false
set_option maxHeartbeats 6400000 in
set_option maxRecDepth 100000 in
theorem sask_no (x : Sg) (y : Vt) (a : Option Addr) (cap : Nat) (w : World) (hl : YO w a x.o) (hz : a = none → cap = 0) (hlen : x.o.length ≤ 9223372036854775807) (hs : sOk x = false) :
    Calls Try.prog 15 #[sV x a cap, tV y] w fun e w' => ∃ qa qc, e = .returned (.tuple #[sQ zSg (.slice qa 0 qc), .int .i64 2]) ∧ Hid (OwnY w' w.heap.size (.slice qa ([] : List Vt).length qc) ([] : List Vt)) ∧ Below w.heap.size w w' := by
  have HY : Hid (YO w a x.o) := hl
  have kS := fun W (h : YO W a x.o) => spec_sok x a cap W h (by omega)
  simp only [hs] at kS
  obtain ⟨v, ⟨dh, dr, ds, di⟩, ⟨mh, mr, ms, mi⟩, p, o⟩ := x
  obtain ⟨yh, yr, ys, yi, yv⟩ := y
  unfold sV sQ tV at *
  simp only at *
  clear hl hs
  obtain ⟨W0, hW0⟩ : ∃ W, ((w.alloc (.cells #[.int .i64 v, .int .i64 dh, .int .i64 dr, .int .i64 ds, .string di, .int .i64 mh, .int .i64 mr, .int .i64 ms, .string mi, .bool p, .slice a o.length cap] 29)).alloc (.cells #[.int .i64 yh, .int .i64 yr, .int .i64 ys, .string yi, .int .i64 yv] 31)).alloc (.cells #[.int .i64 0, .int .i64 0, .int .i64 0, .int .i64 0, .string ⟨#[]⟩, .int .i64 0, .int .i64 0, .int .i64 0, .string ⟨#[]⟩, .bool false, .slice none 0 0] 29) = W := ⟨_, rfl⟩
  have HX0 : Hid (Blk W0 w.heap.size [.int .i64 v, .int .i64 dh, .int .i64 dr, .int .i64 ds, .string di, .int .i64 mh, .int .i64 mr, .int .i64 ms, .string mi, .bool p, .slice a o.length cap] 29) := by
    rw [← hW0]
    have hnew := blk_new (w) [.int .i64 v, .int .i64 dh, .int .i64 dr, .int .i64 ds, .string di, .int .i64 mh, .int .i64 mr, .int .i64 ms, .string mi, .bool p, .slice a o.length cap] 29
    exact ((hnew.alloc _).alloc _)
  have HV0 : Hid (Blk W0 (w.heap.size + 1) [.int .i64 yh, .int .i64 yr, .int .i64 ys, .string yi, .int .i64 yv] 31) := by
    rw [← hW0]
    have hnew := blk_new (w.alloc (.cells #[.int .i64 v, .int .i64 dh, .int .i64 dr, .int .i64 ds, .string di, .int .i64 mh, .int .i64 mr, .int .i64 ms, .string mi, .bool p, .slice a o.length cap] 29)) [.int .i64 yh, .int .i64 yr, .int .i64 ys, .string yi, .int .i64 yv] 31
    rw [show (w.alloc (.cells #[.int .i64 v, .int .i64 dh, .int .i64 dr, .int .i64 ds, .string di, .int .i64 mh, .int .i64 mr, .int .i64 ms, .string mi, .bool p, .slice a o.length cap] 29)).heap.size = w.heap.size + 1 from by simp] at hnew
    exact (hnew.alloc _)
  have HR0 : Hid (Blk W0 (w.heap.size + 2) [.int .i64 0, .int .i64 0, .int .i64 0, .int .i64 0, .string ⟨#[]⟩, .int .i64 0, .int .i64 0, .int .i64 0, .string ⟨#[]⟩, .bool false, .slice none 0 0] 29) := by
    rw [← hW0]
    have hnew := blk_new ((w.alloc (.cells #[.int .i64 v, .int .i64 dh, .int .i64 dr, .int .i64 ds, .string di, .int .i64 mh, .int .i64 mr, .int .i64 ms, .string mi, .bool p, .slice a o.length cap] 29)).alloc (.cells #[.int .i64 yh, .int .i64 yr, .int .i64 ys, .string yi, .int .i64 yv] 31)) [.int .i64 0, .int .i64 0, .int .i64 0, .int .i64 0, .string ⟨#[]⟩, .int .i64 0, .int .i64 0, .int .i64 0, .string ⟨#[]⟩, .bool false, .slice none 0 0] 29
    rw [show ((w.alloc (.cells #[.int .i64 v, .int .i64 dh, .int .i64 dr, .int .i64 ds, .string di, .int .i64 mh, .int .i64 mr, .int .i64 ms, .string mi, .bool p, .slice a o.length cap] 29)).alloc (.cells #[.int .i64 yh, .int .i64 yr, .int .i64 ys, .string yi, .int .i64 yv] 31)).heap.size = w.heap.size + 2 from by simp] at hnew
    exact hnew
  have HB0 : Hid (Below w.heap.size w W0) := by rw [← hW0]; exact (((Below.refl w.heap.size w).alloc (Nat.le_refl _) _).alloc (by simp; try omega) _).alloc (by simp; try omega) _
  go_enter Try.func15, Try.ntmps15
  have cX_0_0 := HX0.out.cell 0 rfl
  have cX_1_0 := HX0.out.cell 1 rfl
  have cX_2_0 := HX0.out.cell 2 rfl
  have cX_3_0 := HX0.out.cell 3 rfl
  have cX_4_0 := HX0.out.cell 4 rfl
  have cX_5_0 := HX0.out.cell 5 rfl
  have cX_6_0 := HX0.out.cell 6 rfl
  have cX_7_0 := HX0.out.cell 7 rfl
  have cX_8_0 := HX0.out.cell 8 rfl
  have cX_9_0 := HX0.out.cell 9 rfl
  have cX_10_0 := HX0.out.cell 10 rfl
  go_wp2_with fail
  clear hW0 cX_0_0 cX_1_0 cX_2_0 cX_3_0 cX_4_0 cX_5_0 cX_6_0 cX_7_0 cX_8_0 cX_9_0 cX_10_0
  refine (kS _ (HY.out.below HB0.out)).mono ?_
  rintro e w1 ⟨rfl, bb⟩
  have HX1 : Hid (Blk w1 w.heap.size [.int .i64 v, .int .i64 dh, .int .i64 dr, .int .i64 ds, .string di, .int .i64 mh, .int .i64 mr, .int .i64 ms, .string mi, .bool p, .slice a o.length cap] 29) := HX0.out.below bb HX0.out.lt
  have HV1 : Hid (Blk w1 (w.heap.size + 1) [.int .i64 yh, .int .i64 yr, .int .i64 ys, .string yi, .int .i64 yv] 31) := HV0.out.below bb HV0.out.lt
  have HR1 : Hid (Blk w1 (w.heap.size + 2) [.int .i64 0, .int .i64 0, .int .i64 0, .int .i64 0, .string ⟨#[]⟩, .int .i64 0, .int .i64 0, .int .i64 0, .string ⟨#[]⟩, .bool false, .slice none 0 0] 29) := HR0.out.below bb HR0.out.lt
  have HB1 : Hid (Below w.heap.size w w1) := HB0.out.trans (bb.mono HB0.out.size)
  clear HX0 HV0 HR0 HB0
  clear bb
  clear kS
  have cR_0_1 := HR1.out.cell 0 rfl
  have cR_1_1 := HR1.out.cell 1 rfl
  have cR_2_1 := HR1.out.cell 2 rfl
  have cR_3_1 := HR1.out.cell 3 rfl
  have cR_4_1 := HR1.out.cell 4 rfl
  have cR_5_1 := HR1.out.cell 5 rfl
  have cR_6_1 := HR1.out.cell 6 rfl
  have cR_7_1 := HR1.out.cell 7 rfl
  have cR_8_1 := HR1.out.cell 8 rfl
  have cR_9_1 := HR1.out.cell 9 rfl
  have cR_10_1 := HR1.out.cell 10 rfl
  have zR_1 := fun j => HR1.out.frozen j
  have KX := (((((((((((HX1.out.other 0 (.int .i64 0) (show w.heap.size ≠ (w.heap.size + 2) by omega)).other 1 (.int .i64 0) (show w.heap.size ≠ (w.heap.size + 2) by omega)).other 2 (.int .i64 0) (show w.heap.size ≠ (w.heap.size + 2) by omega)).other 3 (.int .i64 0) (show w.heap.size ≠ (w.heap.size + 2) by omega)).other 4 (.string ⟨#[]⟩) (show w.heap.size ≠ (w.heap.size + 2) by omega)).other 5 (.int .i64 0) (show w.heap.size ≠ (w.heap.size + 2) by omega)).other 6 (.int .i64 0) (show w.heap.size ≠ (w.heap.size + 2) by omega)).other 7 (.int .i64 0) (show w.heap.size ≠ (w.heap.size + 2) by omega)).other 8 (.string ⟨#[]⟩) (show w.heap.size ≠ (w.heap.size + 2) by omega)).other 9 (.bool false) (show w.heap.size ≠ (w.heap.size + 2) by omega)).other 10 (.slice none 0 0) (show w.heap.size ≠ (w.heap.size + 2) by omega))
  have KV := (((((((((((HV1.out.other 0 (.int .i64 0) (show (w.heap.size + 1) ≠ (w.heap.size + 2) by omega)).other 1 (.int .i64 0) (show (w.heap.size + 1) ≠ (w.heap.size + 2) by omega)).other 2 (.int .i64 0) (show (w.heap.size + 1) ≠ (w.heap.size + 2) by omega)).other 3 (.int .i64 0) (show (w.heap.size + 1) ≠ (w.heap.size + 2) by omega)).other 4 (.string ⟨#[]⟩) (show (w.heap.size + 1) ≠ (w.heap.size + 2) by omega)).other 5 (.int .i64 0) (show (w.heap.size + 1) ≠ (w.heap.size + 2) by omega)).other 6 (.int .i64 0) (show (w.heap.size + 1) ≠ (w.heap.size + 2) by omega)).other 7 (.int .i64 0) (show (w.heap.size + 1) ≠ (w.heap.size + 2) by omega)).other 8 (.string ⟨#[]⟩) (show (w.heap.size + 1) ≠ (w.heap.size + 2) by omega)).other 9 (.bool false) (show (w.heap.size + 1) ≠ (w.heap.size + 2) by omega)).other 10 (.slice none 0 0) (show (w.heap.size + 1) ≠ (w.heap.size + 2) by omega))
  have KR := (((((((((((HR1.out.set 0 (.int .i64 0)).set 1 (.int .i64 0)).set 2 (.int .i64 0)).set 3 (.int .i64 0)).set 4 (.string ⟨#[]⟩)).set 5 (.int .i64 0)).set 6 (.int .i64 0)).set 7 (.int .i64 0)).set 8 (.string ⟨#[]⟩)).set 9 (.bool false)).set 10 (.slice none 0 0))
  have KB := (((((((((((HB1.out.setCell (p := ⟨(w.heap.size + 2), 0, none⟩) (show w.heap.size ≤ (w.heap.size + 2) by omega) (.int .i64 0)).setCell (p := ⟨(w.heap.size + 2), 1, none⟩) (show w.heap.size ≤ (w.heap.size + 2) by omega) (.int .i64 0)).setCell (p := ⟨(w.heap.size + 2), 2, none⟩) (show w.heap.size ≤ (w.heap.size + 2) by omega) (.int .i64 0)).setCell (p := ⟨(w.heap.size + 2), 3, none⟩) (show w.heap.size ≤ (w.heap.size + 2) by omega) (.int .i64 0)).setCell (p := ⟨(w.heap.size + 2), 4, none⟩) (show w.heap.size ≤ (w.heap.size + 2) by omega) (.string ⟨#[]⟩)).setCell (p := ⟨(w.heap.size + 2), 5, none⟩) (show w.heap.size ≤ (w.heap.size + 2) by omega) (.int .i64 0)).setCell (p := ⟨(w.heap.size + 2), 6, none⟩) (show w.heap.size ≤ (w.heap.size + 2) by omega) (.int .i64 0)).setCell (p := ⟨(w.heap.size + 2), 7, none⟩) (show w.heap.size ≤ (w.heap.size + 2) by omega) (.int .i64 0)).setCell (p := ⟨(w.heap.size + 2), 8, none⟩) (show w.heap.size ≤ (w.heap.size + 2) by omega) (.string ⟨#[]⟩)).setCell (p := ⟨(w.heap.size + 2), 9, none⟩) (show w.heap.size ≤ (w.heap.size + 2) by omega) (.bool false)).setCell (p := ⟨(w.heap.size + 2), 10, none⟩) (show w.heap.size ≤ (w.heap.size + 2) by omega) (.slice none 0 0))
  go_wp2_with fail
  clear cR_0_1 cR_1_1 cR_2_1 cR_3_1 cR_4_1 cR_5_1 cR_6_1 cR_7_1 cR_8_1 cR_9_1 cR_10_1 zR_1
  generalize ((((((((((((w1.setCell _ _).setCell _ _).setCell _ _).setCell _ _).setCell _ _).setCell _ _).setCell _ _).setCell _ _).setCell _ _).setCell _ _).setCell _ _) : World) = w2 at *
  have HX2 : Hid (Blk w2 w.heap.size [.int .i64 v, .int .i64 dh, .int .i64 dr, .int .i64 ds, .string di, .int .i64 mh, .int .i64 mr, .int .i64 ms, .string mi, .bool p, .slice a o.length cap] 29) := KX
  have HV2 : Hid (Blk w2 (w.heap.size + 1) [.int .i64 yh, .int .i64 yr, .int .i64 ys, .string yi, .int .i64 yv] 31) := KV
  have HR2 : Hid (Blk w2 (w.heap.size + 2) [.int .i64 0, .int .i64 0, .int .i64 0, .int .i64 0, .string ⟨#[]⟩, .int .i64 0, .int .i64 0, .int .i64 0, .string ⟨#[]⟩, .bool false, .slice none 0 0] 29) := KR
  have HB2 : Hid (Below w.heap.size w w2) := KB
  clear KX KV KR KB HX1 HV1 HR1 HB1
  have y0 := HR2.out.cell 0 rfl
  have y1 := HR2.out.cell 1 rfl
  have y2 := HR2.out.cell 2 rfl
  have y3 := HR2.out.cell 3 rfl
  have y4 := HR2.out.cell 4 rfl
  have y5 := HR2.out.cell 5 rfl
  have y6 := HR2.out.cell 6 rfl
  have y7 := HR2.out.cell 7 rfl
  have y8 := HR2.out.cell 8 rfl
  have y9 := HR2.out.cell 9 rfl
  have y10 := HR2.out.cell 10 rfl
  refine bodyPost_ret (v := .tuple #[.agg #[.int .i64 0, .int .i64 0, .int .i64 0, .int .i64 0, .string ⟨#[]⟩, .int .i64 0, .int .i64 0, .int .i64 0, .string ⟨#[]⟩, .bool false, .slice none 0 0], .int .i64 2]) (by simp [results, Try.results15, go_sem, y0, y1, y2, y3, y4, y5, y6, y7, y8, y9, y10]) rfl ⟨none, 0, rfl, OwnY.nil _ _, HB2.out⟩
set_option maxHeartbeats 6400000 in
set_option maxRecDepth 100000 in
theorem sask_pend (x : Sg) (y : Vt) (a : Option Addr) (cap : Nat) (w : World) (hl : YO w a x.o) (hz : a = none → cap = 0) (hlen : x.o.length ≤ 9223372036854775807) (hs : sOk x = true) (hp : x.p = true) :
    Calls Try.prog 15 #[sV x a cap, tV y] w fun e w' => ∃ qa qc, e = .returned (.tuple #[sQ x (.slice qa x.o.length qc), .int .i64 2]) ∧ Hid (OwnY w' w.heap.size (.slice qa x.o.length qc) x.o) ∧ Below w.heap.size w w' := by
  have HY : Hid (YO w a x.o) := hl
  have kS := fun W (h : YO W a x.o) => spec_sok x a cap W h (by omega)
  simp only [hs] at kS
  have hlo : x.o.length ≤ 60 := sOk_len hs
  have kC := fun W (h : YO W a x.o) => spec_copy x a cap W h hz (by omega)
  obtain ⟨v, ⟨dh, dr, ds, di⟩, ⟨mh, mr, ms, mi⟩, p, o⟩ := x
  obtain ⟨yh, yr, ys, yi, yv⟩ := y
  unfold sV sQ tV at *
  simp only at *
  subst hp
  clear hl hs
  obtain ⟨W0, hW0⟩ : ∃ W, ((w.alloc (.cells #[.int .i64 v, .int .i64 dh, .int .i64 dr, .int .i64 ds, .string di, .int .i64 mh, .int .i64 mr, .int .i64 ms, .string mi, .bool true, .slice a o.length cap] 29)).alloc (.cells #[.int .i64 yh, .int .i64 yr, .int .i64 ys, .string yi, .int .i64 yv] 31)).alloc (.cells #[.int .i64 0, .int .i64 0, .int .i64 0, .int .i64 0, .string ⟨#[]⟩, .int .i64 0, .int .i64 0, .int .i64 0, .string ⟨#[]⟩, .bool false, .slice none 0 0] 29) = W := ⟨_, rfl⟩
  have HX0 : Hid (Blk W0 w.heap.size [.int .i64 v, .int .i64 dh, .int .i64 dr, .int .i64 ds, .string di, .int .i64 mh, .int .i64 mr, .int .i64 ms, .string mi, .bool true, .slice a o.length cap] 29) := by
    rw [← hW0]
    have hnew := blk_new (w) [.int .i64 v, .int .i64 dh, .int .i64 dr, .int .i64 ds, .string di, .int .i64 mh, .int .i64 mr, .int .i64 ms, .string mi, .bool true, .slice a o.length cap] 29
    exact ((hnew.alloc _).alloc _)
  have HV0 : Hid (Blk W0 (w.heap.size + 1) [.int .i64 yh, .int .i64 yr, .int .i64 ys, .string yi, .int .i64 yv] 31) := by
    rw [← hW0]
    have hnew := blk_new (w.alloc (.cells #[.int .i64 v, .int .i64 dh, .int .i64 dr, .int .i64 ds, .string di, .int .i64 mh, .int .i64 mr, .int .i64 ms, .string mi, .bool true, .slice a o.length cap] 29)) [.int .i64 yh, .int .i64 yr, .int .i64 ys, .string yi, .int .i64 yv] 31
    rw [show (w.alloc (.cells #[.int .i64 v, .int .i64 dh, .int .i64 dr, .int .i64 ds, .string di, .int .i64 mh, .int .i64 mr, .int .i64 ms, .string mi, .bool true, .slice a o.length cap] 29)).heap.size = w.heap.size + 1 from by simp] at hnew
    exact (hnew.alloc _)
  have HR0 : Hid (Blk W0 (w.heap.size + 2) [.int .i64 0, .int .i64 0, .int .i64 0, .int .i64 0, .string ⟨#[]⟩, .int .i64 0, .int .i64 0, .int .i64 0, .string ⟨#[]⟩, .bool false, .slice none 0 0] 29) := by
    rw [← hW0]
    have hnew := blk_new ((w.alloc (.cells #[.int .i64 v, .int .i64 dh, .int .i64 dr, .int .i64 ds, .string di, .int .i64 mh, .int .i64 mr, .int .i64 ms, .string mi, .bool true, .slice a o.length cap] 29)).alloc (.cells #[.int .i64 yh, .int .i64 yr, .int .i64 ys, .string yi, .int .i64 yv] 31)) [.int .i64 0, .int .i64 0, .int .i64 0, .int .i64 0, .string ⟨#[]⟩, .int .i64 0, .int .i64 0, .int .i64 0, .string ⟨#[]⟩, .bool false, .slice none 0 0] 29
    rw [show ((w.alloc (.cells #[.int .i64 v, .int .i64 dh, .int .i64 dr, .int .i64 ds, .string di, .int .i64 mh, .int .i64 mr, .int .i64 ms, .string mi, .bool true, .slice a o.length cap] 29)).alloc (.cells #[.int .i64 yh, .int .i64 yr, .int .i64 ys, .string yi, .int .i64 yv] 31)).heap.size = w.heap.size + 2 from by simp] at hnew
    exact hnew
  have HB0 : Hid (Below w.heap.size w W0) := by rw [← hW0]; exact (((Below.refl w.heap.size w).alloc (Nat.le_refl _) _).alloc (by simp; try omega) _).alloc (by simp; try omega) _
  go_enter Try.func15, Try.ntmps15
  have cX_0_0 := HX0.out.cell 0 rfl
  have cX_1_0 := HX0.out.cell 1 rfl
  have cX_2_0 := HX0.out.cell 2 rfl
  have cX_3_0 := HX0.out.cell 3 rfl
  have cX_4_0 := HX0.out.cell 4 rfl
  have cX_5_0 := HX0.out.cell 5 rfl
  have cX_6_0 := HX0.out.cell 6 rfl
  have cX_7_0 := HX0.out.cell 7 rfl
  have cX_8_0 := HX0.out.cell 8 rfl
  have cX_9_0 := HX0.out.cell 9 rfl
  have cX_10_0 := HX0.out.cell 10 rfl
  go_wp2_with fail
  clear hW0 cX_0_0 cX_1_0 cX_2_0 cX_3_0 cX_4_0 cX_5_0 cX_6_0 cX_7_0 cX_8_0 cX_9_0 cX_10_0
  refine (kS _ (HY.out.below HB0.out)).mono ?_
  rintro e w1 ⟨rfl, bb⟩
  have HX1 : Hid (Blk w1 w.heap.size [.int .i64 v, .int .i64 dh, .int .i64 dr, .int .i64 ds, .string di, .int .i64 mh, .int .i64 mr, .int .i64 ms, .string mi, .bool true, .slice a o.length cap] 29) := HX0.out.below bb HX0.out.lt
  have HV1 : Hid (Blk w1 (w.heap.size + 1) [.int .i64 yh, .int .i64 yr, .int .i64 ys, .string yi, .int .i64 yv] 31) := HV0.out.below bb HV0.out.lt
  have HR1 : Hid (Blk w1 (w.heap.size + 2) [.int .i64 0, .int .i64 0, .int .i64 0, .int .i64 0, .string ⟨#[]⟩, .int .i64 0, .int .i64 0, .int .i64 0, .string ⟨#[]⟩, .bool false, .slice none 0 0] 29) := HR0.out.below bb HR0.out.lt
  have HB1 : Hid (Below w.heap.size w w1) := HB0.out.trans (bb.mono HB0.out.size)
  clear HX0 HV0 HR0 HB0
  clear bb
  clear kS
  have cX_0_1 := HX1.out.cell 0 rfl
  have cX_1_1 := HX1.out.cell 1 rfl
  have cX_2_1 := HX1.out.cell 2 rfl
  have cX_3_1 := HX1.out.cell 3 rfl
  have cX_4_1 := HX1.out.cell 4 rfl
  have cX_5_1 := HX1.out.cell 5 rfl
  have cX_6_1 := HX1.out.cell 6 rfl
  have cX_7_1 := HX1.out.cell 7 rfl
  have cX_8_1 := HX1.out.cell 8 rfl
  have cX_9_1 := HX1.out.cell 9 rfl
  have cX_10_1 := HX1.out.cell 10 rfl
  go_wp2_with fail
  clear cX_0_1 cX_1_1 cX_2_1 cX_3_1 cX_4_1 cX_5_1 cX_6_1 cX_7_1 cX_8_1 cX_9_1 cX_10_1
  refine (kC _ (HY.out.below HB1.out)).mono ?_
  rintro e w2 ⟨q, rfl, HQ, bb⟩
  obtain ⟨qa, qc, rfl⟩ := own_shape HQ.out
  have HQ0 : Hid (OwnY w2 w.heap.size (.slice qa o.length qc) o) := own_less HQ.out HB1.out.size
  have HX2 : Hid (Blk w2 w.heap.size [.int .i64 v, .int .i64 dh, .int .i64 dr, .int .i64 ds, .string di, .int .i64 mh, .int .i64 mr, .int .i64 ms, .string mi, .bool true, .slice a o.length cap] 29) := HX1.out.below bb HX1.out.lt
  have HV2 : Hid (Blk w2 (w.heap.size + 1) [.int .i64 yh, .int .i64 yr, .int .i64 ys, .string yi, .int .i64 yv] 31) := HV1.out.below bb HV1.out.lt
  have HR2 : Hid (Blk w2 (w.heap.size + 2) [.int .i64 0, .int .i64 0, .int .i64 0, .int .i64 0, .string ⟨#[]⟩, .int .i64 0, .int .i64 0, .int .i64 0, .string ⟨#[]⟩, .bool false, .slice none 0 0] 29) := HR1.out.below bb HR1.out.lt
  have HB2 : Hid (Below w.heap.size w w2) := HB1.out.trans (bb.mono HB1.out.size)
  clear HX1 HV1 HR1 HB1
  clear bb kC HQ HY
  obtain ⟨wa3, hwa3⟩ : ∃ W, w2.alloc (.cells #[.int .i64 0, .int .i64 0, .int .i64 0, .int .i64 0, .string ⟨#[]⟩, .int .i64 0, .int .i64 0, .int .i64 0, .string ⟨#[]⟩, .bool false, .slice none 0 0] 29) = W := ⟨_, rfl⟩
  obtain ⟨nY, hnY⟩ : ∃ n, w2.heap.size = n := ⟨_, rfl⟩
  have hnYX : w.heap.size < nY := by rw [← hnY]; exact HX2.out.lt
  have hnYV : (w.heap.size + 1) < nY := by rw [← hnY]; exact HV2.out.lt
  have hnYR : (w.heap.size + 2) < nY := by rw [← hnY]; exact HR2.out.lt
  have HAnY : Hid (Below w2.heap.size w2 wa3) := by rw [← hwa3]; exact below_one _ _
  have HX3 : Hid (Blk wa3 w.heap.size [.int .i64 v, .int .i64 dh, .int .i64 dr, .int .i64 ds, .string di, .int .i64 mh, .int .i64 mr, .int .i64 ms, .string mi, .bool true, .slice a o.length cap] 29) := HX2.out.below HAnY.out HX2.out.lt
  have HV3 : Hid (Blk wa3 (w.heap.size + 1) [.int .i64 yh, .int .i64 yr, .int .i64 ys, .string yi, .int .i64 yv] 31) := HV2.out.below HAnY.out HV2.out.lt
  have HR3 : Hid (Blk wa3 (w.heap.size + 2) [.int .i64 0, .int .i64 0, .int .i64 0, .int .i64 0, .string ⟨#[]⟩, .int .i64 0, .int .i64 0, .int .i64 0, .string ⟨#[]⟩, .bool false, .slice none 0 0] 29) := HR2.out.below HAnY.out HR2.out.lt
  have HQ3 : Hid (OwnY wa3 w.heap.size (.slice qa o.length qc) o) := own_keep HQ0.out HAnY.out
  have HB3 : Hid (Below w.heap.size w wa3) := HB2.out.trans (HAnY.out.mono HB2.out.size)
  have HY3 : Hid (Blk wa3 nY [.int .i64 0, .int .i64 0, .int .i64 0, .int .i64 0, .string ⟨#[]⟩, .int .i64 0, .int .i64 0, .int .i64 0, .string ⟨#[]⟩, .bool false, .slice none 0 0] 29) := by rw [← hwa3, ← hnY]; exact blk_new _ _ _
  clear HAnY HX2 HV2 HR2 HB2 HQ0
  have cX_0_3 := HX3.out.cell 0 rfl
  have cX_1_3 := HX3.out.cell 1 rfl
  have cX_2_3 := HX3.out.cell 2 rfl
  have cX_3_3 := HX3.out.cell 3 rfl
  have cX_4_3 := HX3.out.cell 4 rfl
  have cX_5_3 := HX3.out.cell 5 rfl
  have cX_6_3 := HX3.out.cell 6 rfl
  have cX_7_3 := HX3.out.cell 7 rfl
  have cX_8_3 := HX3.out.cell 8 rfl
  have cX_9_3 := HX3.out.cell 9 rfl
  have cX_10_3 := HX3.out.cell 10 rfl
  have cY_0_3 := HY3.out.cell 0 rfl
  have cY_1_3 := HY3.out.cell 1 rfl
  have cY_2_3 := HY3.out.cell 2 rfl
  have cY_3_3 := HY3.out.cell 3 rfl
  have cY_4_3 := HY3.out.cell 4 rfl
  have cY_5_3 := HY3.out.cell 5 rfl
  have cY_6_3 := HY3.out.cell 6 rfl
  have cY_7_3 := HY3.out.cell 7 rfl
  have cY_8_3 := HY3.out.cell 8 rfl
  have cY_9_3 := HY3.out.cell 9 rfl
  have cY_10_3 := HY3.out.cell 10 rfl
  have zY_3 := fun j => HY3.out.frozen j
  have KX := (((((((((((HX3.out.other 0 (.int .i64 v) (show w.heap.size ≠ nY by omega)).other 1 (.int .i64 dh) (show w.heap.size ≠ nY by omega)).other 2 (.int .i64 dr) (show w.heap.size ≠ nY by omega)).other 3 (.int .i64 ds) (show w.heap.size ≠ nY by omega)).other 4 (.string di) (show w.heap.size ≠ nY by omega)).other 5 (.int .i64 mh) (show w.heap.size ≠ nY by omega)).other 6 (.int .i64 mr) (show w.heap.size ≠ nY by omega)).other 7 (.int .i64 ms) (show w.heap.size ≠ nY by omega)).other 8 (.string mi) (show w.heap.size ≠ nY by omega)).other 9 (.bool true) (show w.heap.size ≠ nY by omega)).other 10 (.slice qa o.length qc) (show w.heap.size ≠ nY by omega))
  have KV := (((((((((((HV3.out.other 0 (.int .i64 v) (show (w.heap.size + 1) ≠ nY by omega)).other 1 (.int .i64 dh) (show (w.heap.size + 1) ≠ nY by omega)).other 2 (.int .i64 dr) (show (w.heap.size + 1) ≠ nY by omega)).other 3 (.int .i64 ds) (show (w.heap.size + 1) ≠ nY by omega)).other 4 (.string di) (show (w.heap.size + 1) ≠ nY by omega)).other 5 (.int .i64 mh) (show (w.heap.size + 1) ≠ nY by omega)).other 6 (.int .i64 mr) (show (w.heap.size + 1) ≠ nY by omega)).other 7 (.int .i64 ms) (show (w.heap.size + 1) ≠ nY by omega)).other 8 (.string mi) (show (w.heap.size + 1) ≠ nY by omega)).other 9 (.bool true) (show (w.heap.size + 1) ≠ nY by omega)).other 10 (.slice qa o.length qc) (show (w.heap.size + 1) ≠ nY by omega))
  have KR := (((((((((((HR3.out.other 0 (.int .i64 v) (show (w.heap.size + 2) ≠ nY by omega)).other 1 (.int .i64 dh) (show (w.heap.size + 2) ≠ nY by omega)).other 2 (.int .i64 dr) (show (w.heap.size + 2) ≠ nY by omega)).other 3 (.int .i64 ds) (show (w.heap.size + 2) ≠ nY by omega)).other 4 (.string di) (show (w.heap.size + 2) ≠ nY by omega)).other 5 (.int .i64 mh) (show (w.heap.size + 2) ≠ nY by omega)).other 6 (.int .i64 mr) (show (w.heap.size + 2) ≠ nY by omega)).other 7 (.int .i64 ms) (show (w.heap.size + 2) ≠ nY by omega)).other 8 (.string mi) (show (w.heap.size + 2) ≠ nY by omega)).other 9 (.bool true) (show (w.heap.size + 2) ≠ nY by omega)).other 10 (.slice qa o.length qc) (show (w.heap.size + 2) ≠ nY by omega))
  have KY := (((((((((((HY3.out.set 0 (.int .i64 v)).set 1 (.int .i64 dh)).set 2 (.int .i64 dr)).set 3 (.int .i64 ds)).set 4 (.string di)).set 5 (.int .i64 mh)).set 6 (.int .i64 mr)).set 7 (.int .i64 ms)).set 8 (.string mi)).set 9 (.bool true)).set 10 (.slice qa o.length qc))
  have KB := (((((((((((HB3.out.setCell (p := ⟨nY, 0, none⟩) (show w.heap.size ≤ nY by omega) (.int .i64 v)).setCell (p := ⟨nY, 1, none⟩) (show w.heap.size ≤ nY by omega) (.int .i64 dh)).setCell (p := ⟨nY, 2, none⟩) (show w.heap.size ≤ nY by omega) (.int .i64 dr)).setCell (p := ⟨nY, 3, none⟩) (show w.heap.size ≤ nY by omega) (.int .i64 ds)).setCell (p := ⟨nY, 4, none⟩) (show w.heap.size ≤ nY by omega) (.string di)).setCell (p := ⟨nY, 5, none⟩) (show w.heap.size ≤ nY by omega) (.int .i64 mh)).setCell (p := ⟨nY, 6, none⟩) (show w.heap.size ≤ nY by omega) (.int .i64 mr)).setCell (p := ⟨nY, 7, none⟩) (show w.heap.size ≤ nY by omega) (.int .i64 ms)).setCell (p := ⟨nY, 8, none⟩) (show w.heap.size ≤ nY by omega) (.string mi)).setCell (p := ⟨nY, 9, none⟩) (show w.heap.size ≤ nY by omega) (.bool true)).setCell (p := ⟨nY, 10, none⟩) (show w.heap.size ≤ nY by omega) (.slice qa o.length qc))
  have KG : Hid (wa3.grownBy (((((((((((wa3.setCell ⟨nY, 0, none⟩ (.int .i64 v)).setCell ⟨nY, 1, none⟩ (.int .i64 dh)).setCell ⟨nY, 2, none⟩ (.int .i64 dr)).setCell ⟨nY, 3, none⟩ (.int .i64 ds)).setCell ⟨nY, 4, none⟩ (.string di)).setCell ⟨nY, 5, none⟩ (.int .i64 mh)).setCell ⟨nY, 6, none⟩ (.int .i64 mr)).setCell ⟨nY, 7, none⟩ (.int .i64 ms)).setCell ⟨nY, 8, none⟩ (.string mi)).setCell ⟨nY, 9, none⟩ (.bool true)).setCell ⟨nY, 10, none⟩ (.slice qa o.length qc)) (some nY)) := grown_set (grown_set (grown_set (grown_set (grown_set (grown_set (grown_set (grown_set (grown_set (grown_set (grown_set (grown_refl _ _) _) _) _) _) _) _) _) _) _) _) _
  have KQ : Hid (OwnY (((((((((((wa3.setCell ⟨nY, 0, none⟩ (.int .i64 v)).setCell ⟨nY, 1, none⟩ (.int .i64 dh)).setCell ⟨nY, 2, none⟩ (.int .i64 dr)).setCell ⟨nY, 3, none⟩ (.int .i64 ds)).setCell ⟨nY, 4, none⟩ (.string di)).setCell ⟨nY, 5, none⟩ (.int .i64 mh)).setCell ⟨nY, 6, none⟩ (.int .i64 mr)).setCell ⟨nY, 7, none⟩ (.int .i64 ms)).setCell ⟨nY, 8, none⟩ (.string mi)).setCell ⟨nY, 9, none⟩ (.bool true)).setCell ⟨nY, 10, none⟩ (.slice qa o.length qc)) w.heap.size (.slice qa o.length qc) o) := own_aside HQ3.out KG.out HY3.out
  go_upto_region 4 with fail
  clear hwa3 hnY cX_0_3 cX_1_3 cX_2_3 cX_3_3 cX_4_3 cX_5_3 cX_6_3 cX_7_3 cX_8_3 cX_9_3 cX_10_3 cY_0_3 cY_1_3 cY_2_3 cY_3_3 cY_4_3 cY_5_3 cY_6_3 cY_7_3 cY_8_3 cY_9_3 cY_10_3 zY_3
  generalize ((((((((((((wa3.setCell _ _).setCell _ _).setCell _ _).setCell _ _).setCell _ _).setCell _ _).setCell _ _).setCell _ _).setCell _ _).setCell _ _).setCell _ _) : World) = w4 at *
  have HX4 : Hid (Blk w4 w.heap.size [.int .i64 v, .int .i64 dh, .int .i64 dr, .int .i64 ds, .string di, .int .i64 mh, .int .i64 mr, .int .i64 ms, .string mi, .bool true, .slice a o.length cap] 29) := KX
  have HV4 : Hid (Blk w4 (w.heap.size + 1) [.int .i64 yh, .int .i64 yr, .int .i64 ys, .string yi, .int .i64 yv] 31) := KV
  have HR4 : Hid (Blk w4 (w.heap.size + 2) [.int .i64 0, .int .i64 0, .int .i64 0, .int .i64 0, .string ⟨#[]⟩, .int .i64 0, .int .i64 0, .int .i64 0, .string ⟨#[]⟩, .bool false, .slice none 0 0] 29) := KR
  have HY4 : Hid (Blk w4 nY [.int .i64 v, .int .i64 dh, .int .i64 dr, .int .i64 ds, .string di, .int .i64 mh, .int .i64 mr, .int .i64 ms, .string mi, .bool true, .slice qa o.length qc] 29) := KY
  have HQ4 : Hid (OwnY w4 w.heap.size (.slice qa o.length qc) o) := KQ
  have HB4 : Hid (Below w.heap.size w w4) := KB
  clear KX KV KR KY KB KG KQ HX3 HV3 HR3 HY3 HB3 HQ3
  have cX_0_4 := HX4.out.cell 0 rfl
  have cX_1_4 := HX4.out.cell 1 rfl
  have cX_2_4 := HX4.out.cell 2 rfl
  have cX_3_4 := HX4.out.cell 3 rfl
  have cX_4_4 := HX4.out.cell 4 rfl
  have cX_5_4 := HX4.out.cell 5 rfl
  have cX_6_4 := HX4.out.cell 6 rfl
  have cX_7_4 := HX4.out.cell 7 rfl
  have cX_8_4 := HX4.out.cell 8 rfl
  have cX_9_4 := HX4.out.cell 9 rfl
  have cX_10_4 := HX4.out.cell 10 rfl
  have cV_0_4 := HV4.out.cell 0 rfl
  have cV_1_4 := HV4.out.cell 1 rfl
  have cV_2_4 := HV4.out.cell 2 rfl
  have cV_3_4 := HV4.out.cell 3 rfl
  have cV_4_4 := HV4.out.cell 4 rfl
  have cY_0_4 := HY4.out.cell 0 rfl
  have cY_1_4 := HY4.out.cell 1 rfl
  have cY_2_4 := HY4.out.cell 2 rfl
  have cY_3_4 := HY4.out.cell 3 rfl
  have cY_4_4 := HY4.out.cell 4 rfl
  have cY_5_4 := HY4.out.cell 5 rfl
  have cY_6_4 := HY4.out.cell 6 rfl
  have cY_7_4 := HY4.out.cell 7 rfl
  have cY_8_4 := HY4.out.cell 8 rfl
  have cY_9_4 := HY4.out.cell 9 rfl
  have cY_10_4 := HY4.out.cell 10 rfl
  go_upto_region 5 with fail
  clear cX_0_4 cX_1_4 cX_2_4 cX_3_4 cX_4_4 cX_5_4 cX_6_4 cX_7_4 cX_8_4 cX_9_4 cX_10_4 cV_0_4 cV_1_4 cV_2_4 cV_3_4 cV_4_4 cY_0_4 cY_1_4 cY_2_4 cY_3_4 cY_4_4 cY_5_4 cY_6_4 cY_7_4 cY_8_4 cY_9_4 cY_10_4
  have cX_0_4 := HX4.out.cell 0 rfl
  have cX_1_4 := HX4.out.cell 1 rfl
  have cX_2_4 := HX4.out.cell 2 rfl
  have cX_3_4 := HX4.out.cell 3 rfl
  have cX_4_4 := HX4.out.cell 4 rfl
  have cX_5_4 := HX4.out.cell 5 rfl
  have cX_6_4 := HX4.out.cell 6 rfl
  have cX_7_4 := HX4.out.cell 7 rfl
  have cX_8_4 := HX4.out.cell 8 rfl
  have cX_9_4 := HX4.out.cell 9 rfl
  have cX_10_4 := HX4.out.cell 10 rfl
  have cR_0_4 := HR4.out.cell 0 rfl
  have cR_1_4 := HR4.out.cell 1 rfl
  have cR_2_4 := HR4.out.cell 2 rfl
  have cR_3_4 := HR4.out.cell 3 rfl
  have cR_4_4 := HR4.out.cell 4 rfl
  have cR_5_4 := HR4.out.cell 5 rfl
  have cR_6_4 := HR4.out.cell 6 rfl
  have cR_7_4 := HR4.out.cell 7 rfl
  have cR_8_4 := HR4.out.cell 8 rfl
  have cR_9_4 := HR4.out.cell 9 rfl
  have cR_10_4 := HR4.out.cell 10 rfl
  have cY_0_4 := HY4.out.cell 0 rfl
  have cY_1_4 := HY4.out.cell 1 rfl
  have cY_2_4 := HY4.out.cell 2 rfl
  have cY_3_4 := HY4.out.cell 3 rfl
  have cY_4_4 := HY4.out.cell 4 rfl
  have cY_5_4 := HY4.out.cell 5 rfl
  have cY_6_4 := HY4.out.cell 6 rfl
  have cY_7_4 := HY4.out.cell 7 rfl
  have cY_8_4 := HY4.out.cell 8 rfl
  have cY_9_4 := HY4.out.cell 9 rfl
  have cY_10_4 := HY4.out.cell 10 rfl
  have zR_4 := fun j => HR4.out.frozen j
  have KX := (((((((((((HX4.out.other 0 (.int .i64 v) (show w.heap.size ≠ (w.heap.size + 2) by omega)).other 1 (.int .i64 dh) (show w.heap.size ≠ (w.heap.size + 2) by omega)).other 2 (.int .i64 dr) (show w.heap.size ≠ (w.heap.size + 2) by omega)).other 3 (.int .i64 ds) (show w.heap.size ≠ (w.heap.size + 2) by omega)).other 4 (.string di) (show w.heap.size ≠ (w.heap.size + 2) by omega)).other 5 (.int .i64 mh) (show w.heap.size ≠ (w.heap.size + 2) by omega)).other 6 (.int .i64 mr) (show w.heap.size ≠ (w.heap.size + 2) by omega)).other 7 (.int .i64 ms) (show w.heap.size ≠ (w.heap.size + 2) by omega)).other 8 (.string mi) (show w.heap.size ≠ (w.heap.size + 2) by omega)).other 9 (.bool true) (show w.heap.size ≠ (w.heap.size + 2) by omega)).other 10 (.slice qa o.length qc) (show w.heap.size ≠ (w.heap.size + 2) by omega))
  have KV := (((((((((((HV4.out.other 0 (.int .i64 v) (show (w.heap.size + 1) ≠ (w.heap.size + 2) by omega)).other 1 (.int .i64 dh) (show (w.heap.size + 1) ≠ (w.heap.size + 2) by omega)).other 2 (.int .i64 dr) (show (w.heap.size + 1) ≠ (w.heap.size + 2) by omega)).other 3 (.int .i64 ds) (show (w.heap.size + 1) ≠ (w.heap.size + 2) by omega)).other 4 (.string di) (show (w.heap.size + 1) ≠ (w.heap.size + 2) by omega)).other 5 (.int .i64 mh) (show (w.heap.size + 1) ≠ (w.heap.size + 2) by omega)).other 6 (.int .i64 mr) (show (w.heap.size + 1) ≠ (w.heap.size + 2) by omega)).other 7 (.int .i64 ms) (show (w.heap.size + 1) ≠ (w.heap.size + 2) by omega)).other 8 (.string mi) (show (w.heap.size + 1) ≠ (w.heap.size + 2) by omega)).other 9 (.bool true) (show (w.heap.size + 1) ≠ (w.heap.size + 2) by omega)).other 10 (.slice qa o.length qc) (show (w.heap.size + 1) ≠ (w.heap.size + 2) by omega))
  have KR := (((((((((((HR4.out.set 0 (.int .i64 v)).set 1 (.int .i64 dh)).set 2 (.int .i64 dr)).set 3 (.int .i64 ds)).set 4 (.string di)).set 5 (.int .i64 mh)).set 6 (.int .i64 mr)).set 7 (.int .i64 ms)).set 8 (.string mi)).set 9 (.bool true)).set 10 (.slice qa o.length qc))
  have KY := (((((((((((HY4.out.other 0 (.int .i64 v) (show nY ≠ (w.heap.size + 2) by omega)).other 1 (.int .i64 dh) (show nY ≠ (w.heap.size + 2) by omega)).other 2 (.int .i64 dr) (show nY ≠ (w.heap.size + 2) by omega)).other 3 (.int .i64 ds) (show nY ≠ (w.heap.size + 2) by omega)).other 4 (.string di) (show nY ≠ (w.heap.size + 2) by omega)).other 5 (.int .i64 mh) (show nY ≠ (w.heap.size + 2) by omega)).other 6 (.int .i64 mr) (show nY ≠ (w.heap.size + 2) by omega)).other 7 (.int .i64 ms) (show nY ≠ (w.heap.size + 2) by omega)).other 8 (.string mi) (show nY ≠ (w.heap.size + 2) by omega)).other 9 (.bool true) (show nY ≠ (w.heap.size + 2) by omega)).other 10 (.slice qa o.length qc) (show nY ≠ (w.heap.size + 2) by omega))
  have KB := (((((((((((HB4.out.setCell (p := ⟨(w.heap.size + 2), 0, none⟩) (show w.heap.size ≤ (w.heap.size + 2) by omega) (.int .i64 v)).setCell (p := ⟨(w.heap.size + 2), 1, none⟩) (show w.heap.size ≤ (w.heap.size + 2) by omega) (.int .i64 dh)).setCell (p := ⟨(w.heap.size + 2), 2, none⟩) (show w.heap.size ≤ (w.heap.size + 2) by omega) (.int .i64 dr)).setCell (p := ⟨(w.heap.size + 2), 3, none⟩) (show w.heap.size ≤ (w.heap.size + 2) by omega) (.int .i64 ds)).setCell (p := ⟨(w.heap.size + 2), 4, none⟩) (show w.heap.size ≤ (w.heap.size + 2) by omega) (.string di)).setCell (p := ⟨(w.heap.size + 2), 5, none⟩) (show w.heap.size ≤ (w.heap.size + 2) by omega) (.int .i64 mh)).setCell (p := ⟨(w.heap.size + 2), 6, none⟩) (show w.heap.size ≤ (w.heap.size + 2) by omega) (.int .i64 mr)).setCell (p := ⟨(w.heap.size + 2), 7, none⟩) (show w.heap.size ≤ (w.heap.size + 2) by omega) (.int .i64 ms)).setCell (p := ⟨(w.heap.size + 2), 8, none⟩) (show w.heap.size ≤ (w.heap.size + 2) by omega) (.string mi)).setCell (p := ⟨(w.heap.size + 2), 9, none⟩) (show w.heap.size ≤ (w.heap.size + 2) by omega) (.bool true)).setCell (p := ⟨(w.heap.size + 2), 10, none⟩) (show w.heap.size ≤ (w.heap.size + 2) by omega) (.slice qa o.length qc))
  have KG : Hid (w4.grownBy (((((((((((w4.setCell ⟨(w.heap.size + 2), 0, none⟩ (.int .i64 v)).setCell ⟨(w.heap.size + 2), 1, none⟩ (.int .i64 dh)).setCell ⟨(w.heap.size + 2), 2, none⟩ (.int .i64 dr)).setCell ⟨(w.heap.size + 2), 3, none⟩ (.int .i64 ds)).setCell ⟨(w.heap.size + 2), 4, none⟩ (.string di)).setCell ⟨(w.heap.size + 2), 5, none⟩ (.int .i64 mh)).setCell ⟨(w.heap.size + 2), 6, none⟩ (.int .i64 mr)).setCell ⟨(w.heap.size + 2), 7, none⟩ (.int .i64 ms)).setCell ⟨(w.heap.size + 2), 8, none⟩ (.string mi)).setCell ⟨(w.heap.size + 2), 9, none⟩ (.bool true)).setCell ⟨(w.heap.size + 2), 10, none⟩ (.slice qa o.length qc)) (some (w.heap.size + 2))) := grown_set (grown_set (grown_set (grown_set (grown_set (grown_set (grown_set (grown_set (grown_set (grown_set (grown_set (grown_refl _ _) _) _) _) _) _) _) _) _) _) _) _
  have KQ : Hid (OwnY (((((((((((w4.setCell ⟨(w.heap.size + 2), 0, none⟩ (.int .i64 v)).setCell ⟨(w.heap.size + 2), 1, none⟩ (.int .i64 dh)).setCell ⟨(w.heap.size + 2), 2, none⟩ (.int .i64 dr)).setCell ⟨(w.heap.size + 2), 3, none⟩ (.int .i64 ds)).setCell ⟨(w.heap.size + 2), 4, none⟩ (.string di)).setCell ⟨(w.heap.size + 2), 5, none⟩ (.int .i64 mh)).setCell ⟨(w.heap.size + 2), 6, none⟩ (.int .i64 mr)).setCell ⟨(w.heap.size + 2), 7, none⟩ (.int .i64 ms)).setCell ⟨(w.heap.size + 2), 8, none⟩ (.string mi)).setCell ⟨(w.heap.size + 2), 9, none⟩ (.bool true)).setCell ⟨(w.heap.size + 2), 10, none⟩ (.slice qa o.length qc)) w.heap.size (.slice qa o.length qc) o) := own_aside HQ4.out KG.out HR4.out
  go_wp2_with fail
  clear cX_0_4 cX_1_4 cX_2_4 cX_3_4 cX_4_4 cX_5_4 cX_6_4 cX_7_4 cX_8_4 cX_9_4 cX_10_4 cR_0_4 cR_1_4 cR_2_4 cR_3_4 cR_4_4 cR_5_4 cR_6_4 cR_7_4 cR_8_4 cR_9_4 cR_10_4 cY_0_4 cY_1_4 cY_2_4 cY_3_4 cY_4_4 cY_5_4 cY_6_4 cY_7_4 cY_8_4 cY_9_4 cY_10_4 zR_4
  generalize ((((((((((((w4.setCell _ _).setCell _ _).setCell _ _).setCell _ _).setCell _ _).setCell _ _).setCell _ _).setCell _ _).setCell _ _).setCell _ _).setCell _ _) : World) = w5 at *
  have HX5 : Hid (Blk w5 w.heap.size [.int .i64 v, .int .i64 dh, .int .i64 dr, .int .i64 ds, .string di, .int .i64 mh, .int .i64 mr, .int .i64 ms, .string mi, .bool true, .slice a o.length cap] 29) := KX
  have HV5 : Hid (Blk w5 (w.heap.size + 1) [.int .i64 yh, .int .i64 yr, .int .i64 ys, .string yi, .int .i64 yv] 31) := KV
  have HR5 : Hid (Blk w5 (w.heap.size + 2) [.int .i64 v, .int .i64 dh, .int .i64 dr, .int .i64 ds, .string di, .int .i64 mh, .int .i64 mr, .int .i64 ms, .string mi, .bool true, .slice qa o.length qc] 29) := KR
  have HY5 : Hid (Blk w5 nY [.int .i64 v, .int .i64 dh, .int .i64 dr, .int .i64 ds, .string di, .int .i64 mh, .int .i64 mr, .int .i64 ms, .string mi, .bool true, .slice qa o.length qc] 29) := KY
  have HQ5 : Hid (OwnY w5 w.heap.size (.slice qa o.length qc) o) := KQ
  have HB5 : Hid (Below w.heap.size w w5) := KB
  clear KX KV KR KY KB KG KQ HX4 HV4 HR4 HY4 HB4 HQ4
  have y0 := HR5.out.cell 0 rfl
  have y1 := HR5.out.cell 1 rfl
  have y2 := HR5.out.cell 2 rfl
  have y3 := HR5.out.cell 3 rfl
  have y4 := HR5.out.cell 4 rfl
  have y5 := HR5.out.cell 5 rfl
  have y6 := HR5.out.cell 6 rfl
  have y7 := HR5.out.cell 7 rfl
  have y8 := HR5.out.cell 8 rfl
  have y9 := HR5.out.cell 9 rfl
  have y10 := HR5.out.cell 10 rfl
  refine bodyPost_ret (v := .tuple #[.agg #[.int .i64 v, .int .i64 dh, .int .i64 dr, .int .i64 ds, .string di, .int .i64 mh, .int .i64 mr, .int .i64 ms, .string mi, .bool true, .slice qa o.length qc], .int .i64 2]) (by simp [results, Try.results15, go_sem, y0, y1, y2, y3, y4, y5, y6, y7, y8, y9, y10]) rfl ⟨_, _, rfl, HQ5.out, HB5.out⟩
set_option maxHeartbeats 6400000 in
set_option maxRecDepth 100000 in
theorem sask_other (x : Sg) (y : Vt) (a : Option Addr) (cap : Nat) (w : World) (hl : YO w a x.o) (hz : a = none → cap = 0) (hlen : x.o.length ≤ 9223372036854775807) (hs : sOk x = true) (hp : x.p = false) (hv : y.v ≠ x.v) :
    Calls Try.prog 15 #[sV x a cap, tV y] w fun e w' => ∃ qa qc, e = .returned (.tuple #[sQ x (.slice qa x.o.length qc), .int .i64 2]) ∧ Hid (OwnY w' w.heap.size (.slice qa x.o.length qc) x.o) ∧ Below w.heap.size w w' := by
  have HY : Hid (YO w a x.o) := hl
  have kS := fun W (h : YO W a x.o) => spec_sok x a cap W h (by omega)
  simp only [hs] at kS
  have hlo : x.o.length ≤ 60 := sOk_len hs
  have kC := fun W (h : YO W a x.o) => spec_copy x a cap W h hz (by omega)
  obtain ⟨v, ⟨dh, dr, ds, di⟩, ⟨mh, mr, ms, mi⟩, p, o⟩ := x
  obtain ⟨yh, yr, ys, yi, yv⟩ := y
  unfold sV sQ tV at *
  simp only at *
  subst hp
  have hne : ¬ yv = v := hv
  clear hl hs
  obtain ⟨W0, hW0⟩ : ∃ W, ((w.alloc (.cells #[.int .i64 v, .int .i64 dh, .int .i64 dr, .int .i64 ds, .string di, .int .i64 mh, .int .i64 mr, .int .i64 ms, .string mi, .bool false, .slice a o.length cap] 29)).alloc (.cells #[.int .i64 yh, .int .i64 yr, .int .i64 ys, .string yi, .int .i64 yv] 31)).alloc (.cells #[.int .i64 0, .int .i64 0, .int .i64 0, .int .i64 0, .string ⟨#[]⟩, .int .i64 0, .int .i64 0, .int .i64 0, .string ⟨#[]⟩, .bool false, .slice none 0 0] 29) = W := ⟨_, rfl⟩
  have HX0 : Hid (Blk W0 w.heap.size [.int .i64 v, .int .i64 dh, .int .i64 dr, .int .i64 ds, .string di, .int .i64 mh, .int .i64 mr, .int .i64 ms, .string mi, .bool false, .slice a o.length cap] 29) := by
    rw [← hW0]
    have hnew := blk_new (w) [.int .i64 v, .int .i64 dh, .int .i64 dr, .int .i64 ds, .string di, .int .i64 mh, .int .i64 mr, .int .i64 ms, .string mi, .bool false, .slice a o.length cap] 29
    exact ((hnew.alloc _).alloc _)
  have HV0 : Hid (Blk W0 (w.heap.size + 1) [.int .i64 yh, .int .i64 yr, .int .i64 ys, .string yi, .int .i64 yv] 31) := by
    rw [← hW0]
    have hnew := blk_new (w.alloc (.cells #[.int .i64 v, .int .i64 dh, .int .i64 dr, .int .i64 ds, .string di, .int .i64 mh, .int .i64 mr, .int .i64 ms, .string mi, .bool false, .slice a o.length cap] 29)) [.int .i64 yh, .int .i64 yr, .int .i64 ys, .string yi, .int .i64 yv] 31
    rw [show (w.alloc (.cells #[.int .i64 v, .int .i64 dh, .int .i64 dr, .int .i64 ds, .string di, .int .i64 mh, .int .i64 mr, .int .i64 ms, .string mi, .bool false, .slice a o.length cap] 29)).heap.size = w.heap.size + 1 from by simp] at hnew
    exact (hnew.alloc _)
  have HR0 : Hid (Blk W0 (w.heap.size + 2) [.int .i64 0, .int .i64 0, .int .i64 0, .int .i64 0, .string ⟨#[]⟩, .int .i64 0, .int .i64 0, .int .i64 0, .string ⟨#[]⟩, .bool false, .slice none 0 0] 29) := by
    rw [← hW0]
    have hnew := blk_new ((w.alloc (.cells #[.int .i64 v, .int .i64 dh, .int .i64 dr, .int .i64 ds, .string di, .int .i64 mh, .int .i64 mr, .int .i64 ms, .string mi, .bool false, .slice a o.length cap] 29)).alloc (.cells #[.int .i64 yh, .int .i64 yr, .int .i64 ys, .string yi, .int .i64 yv] 31)) [.int .i64 0, .int .i64 0, .int .i64 0, .int .i64 0, .string ⟨#[]⟩, .int .i64 0, .int .i64 0, .int .i64 0, .string ⟨#[]⟩, .bool false, .slice none 0 0] 29
    rw [show ((w.alloc (.cells #[.int .i64 v, .int .i64 dh, .int .i64 dr, .int .i64 ds, .string di, .int .i64 mh, .int .i64 mr, .int .i64 ms, .string mi, .bool false, .slice a o.length cap] 29)).alloc (.cells #[.int .i64 yh, .int .i64 yr, .int .i64 ys, .string yi, .int .i64 yv] 31)).heap.size = w.heap.size + 2 from by simp] at hnew
    exact hnew
  have HB0 : Hid (Below w.heap.size w W0) := by rw [← hW0]; exact (((Below.refl w.heap.size w).alloc (Nat.le_refl _) _).alloc (by simp; try omega) _).alloc (by simp; try omega) _
  go_enter Try.func15, Try.ntmps15
  have cX_0_0 := HX0.out.cell 0 rfl
  have cX_1_0 := HX0.out.cell 1 rfl
  have cX_2_0 := HX0.out.cell 2 rfl
  have cX_3_0 := HX0.out.cell 3 rfl
  have cX_4_0 := HX0.out.cell 4 rfl
  have cX_5_0 := HX0.out.cell 5 rfl
  have cX_6_0 := HX0.out.cell 6 rfl
  have cX_7_0 := HX0.out.cell 7 rfl
  have cX_8_0 := HX0.out.cell 8 rfl
  have cX_9_0 := HX0.out.cell 9 rfl
  have cX_10_0 := HX0.out.cell 10 rfl
  go_wp2_with fail
  clear hW0 cX_0_0 cX_1_0 cX_2_0 cX_3_0 cX_4_0 cX_5_0 cX_6_0 cX_7_0 cX_8_0 cX_9_0 cX_10_0
  refine (kS _ (HY.out.below HB0.out)).mono ?_
  rintro e w1 ⟨rfl, bb⟩
  have HX1 : Hid (Blk w1 w.heap.size [.int .i64 v, .int .i64 dh, .int .i64 dr, .int .i64 ds, .string di, .int .i64 mh, .int .i64 mr, .int .i64 ms, .string mi, .bool false, .slice a o.length cap] 29) := HX0.out.below bb HX0.out.lt
  have HV1 : Hid (Blk w1 (w.heap.size + 1) [.int .i64 yh, .int .i64 yr, .int .i64 ys, .string yi, .int .i64 yv] 31) := HV0.out.below bb HV0.out.lt
  have HR1 : Hid (Blk w1 (w.heap.size + 2) [.int .i64 0, .int .i64 0, .int .i64 0, .int .i64 0, .string ⟨#[]⟩, .int .i64 0, .int .i64 0, .int .i64 0, .string ⟨#[]⟩, .bool false, .slice none 0 0] 29) := HR0.out.below bb HR0.out.lt
  have HB1 : Hid (Below w.heap.size w w1) := HB0.out.trans (bb.mono HB0.out.size)
  clear HX0 HV0 HR0 HB0
  clear bb
  clear kS
  have cX_0_1 := HX1.out.cell 0 rfl
  have cX_1_1 := HX1.out.cell 1 rfl
  have cX_2_1 := HX1.out.cell 2 rfl
  have cX_3_1 := HX1.out.cell 3 rfl
  have cX_4_1 := HX1.out.cell 4 rfl
  have cX_5_1 := HX1.out.cell 5 rfl
  have cX_6_1 := HX1.out.cell 6 rfl
  have cX_7_1 := HX1.out.cell 7 rfl
  have cX_8_1 := HX1.out.cell 8 rfl
  have cX_9_1 := HX1.out.cell 9 rfl
  have cX_10_1 := HX1.out.cell 10 rfl
  go_wp2_with fail
  clear cX_0_1 cX_1_1 cX_2_1 cX_3_1 cX_4_1 cX_5_1 cX_6_1 cX_7_1 cX_8_1 cX_9_1 cX_10_1
  refine (kC _ (HY.out.below HB1.out)).mono ?_
  rintro e w2 ⟨q, rfl, HQ, bb⟩
  obtain ⟨qa, qc, rfl⟩ := own_shape HQ.out
  have HQ0 : Hid (OwnY w2 w.heap.size (.slice qa o.length qc) o) := own_less HQ.out HB1.out.size
  have HX2 : Hid (Blk w2 w.heap.size [.int .i64 v, .int .i64 dh, .int .i64 dr, .int .i64 ds, .string di, .int .i64 mh, .int .i64 mr, .int .i64 ms, .string mi, .bool false, .slice a o.length cap] 29) := HX1.out.below bb HX1.out.lt
  have HV2 : Hid (Blk w2 (w.heap.size + 1) [.int .i64 yh, .int .i64 yr, .int .i64 ys, .string yi, .int .i64 yv] 31) := HV1.out.below bb HV1.out.lt
  have HR2 : Hid (Blk w2 (w.heap.size + 2) [.int .i64 0, .int .i64 0, .int .i64 0, .int .i64 0, .string ⟨#[]⟩, .int .i64 0, .int .i64 0, .int .i64 0, .string ⟨#[]⟩, .bool false, .slice none 0 0] 29) := HR1.out.below bb HR1.out.lt
  have HB2 : Hid (Below w.heap.size w w2) := HB1.out.trans (bb.mono HB1.out.size)
  clear HX1 HV1 HR1 HB1
  clear bb kC HQ HY
  obtain ⟨wa3, hwa3⟩ : ∃ W, w2.alloc (.cells #[.int .i64 0, .int .i64 0, .int .i64 0, .int .i64 0, .string ⟨#[]⟩, .int .i64 0, .int .i64 0, .int .i64 0, .string ⟨#[]⟩, .bool false, .slice none 0 0] 29) = W := ⟨_, rfl⟩
  obtain ⟨nY, hnY⟩ : ∃ n, w2.heap.size = n := ⟨_, rfl⟩
  have hnYX : w.heap.size < nY := by rw [← hnY]; exact HX2.out.lt
  have hnYV : (w.heap.size + 1) < nY := by rw [← hnY]; exact HV2.out.lt
  have hnYR : (w.heap.size + 2) < nY := by rw [← hnY]; exact HR2.out.lt
  have HAnY : Hid (Below w2.heap.size w2 wa3) := by rw [← hwa3]; exact below_one _ _
  have HX3 : Hid (Blk wa3 w.heap.size [.int .i64 v, .int .i64 dh, .int .i64 dr, .int .i64 ds, .string di, .int .i64 mh, .int .i64 mr, .int .i64 ms, .string mi, .bool false, .slice a o.length cap] 29) := HX2.out.below HAnY.out HX2.out.lt
  have HV3 : Hid (Blk wa3 (w.heap.size + 1) [.int .i64 yh, .int .i64 yr, .int .i64 ys, .string yi, .int .i64 yv] 31) := HV2.out.below HAnY.out HV2.out.lt
  have HR3 : Hid (Blk wa3 (w.heap.size + 2) [.int .i64 0, .int .i64 0, .int .i64 0, .int .i64 0, .string ⟨#[]⟩, .int .i64 0, .int .i64 0, .int .i64 0, .string ⟨#[]⟩, .bool false, .slice none 0 0] 29) := HR2.out.below HAnY.out HR2.out.lt
  have HQ3 : Hid (OwnY wa3 w.heap.size (.slice qa o.length qc) o) := own_keep HQ0.out HAnY.out
  have HB3 : Hid (Below w.heap.size w wa3) := HB2.out.trans (HAnY.out.mono HB2.out.size)
  have HY3 : Hid (Blk wa3 nY [.int .i64 0, .int .i64 0, .int .i64 0, .int .i64 0, .string ⟨#[]⟩, .int .i64 0, .int .i64 0, .int .i64 0, .string ⟨#[]⟩, .bool false, .slice none 0 0] 29) := by rw [← hwa3, ← hnY]; exact blk_new _ _ _
  clear HAnY HX2 HV2 HR2 HB2 HQ0
  have cX_0_3 := HX3.out.cell 0 rfl
  have cX_1_3 := HX3.out.cell 1 rfl
  have cX_2_3 := HX3.out.cell 2 rfl
  have cX_3_3 := HX3.out.cell 3 rfl
  have cX_4_3 := HX3.out.cell 4 rfl
  have cX_5_3 := HX3.out.cell 5 rfl
  have cX_6_3 := HX3.out.cell 6 rfl
  have cX_7_3 := HX3.out.cell 7 rfl
  have cX_8_3 := HX3.out.cell 8 rfl
  have cX_9_3 := HX3.out.cell 9 rfl
  have cX_10_3 := HX3.out.cell 10 rfl
  have cY_0_3 := HY3.out.cell 0 rfl
  have cY_1_3 := HY3.out.cell 1 rfl
  have cY_2_3 := HY3.out.cell 2 rfl
  have cY_3_3 := HY3.out.cell 3 rfl
  have cY_4_3 := HY3.out.cell 4 rfl
  have cY_5_3 := HY3.out.cell 5 rfl
  have cY_6_3 := HY3.out.cell 6 rfl
  have cY_7_3 := HY3.out.cell 7 rfl
  have cY_8_3 := HY3.out.cell 8 rfl
  have cY_9_3 := HY3.out.cell 9 rfl
  have cY_10_3 := HY3.out.cell 10 rfl
  have zY_3 := fun j => HY3.out.frozen j
  have KX := (((((((((((HX3.out.other 0 (.int .i64 v) (show w.heap.size ≠ nY by omega)).other 1 (.int .i64 dh) (show w.heap.size ≠ nY by omega)).other 2 (.int .i64 dr) (show w.heap.size ≠ nY by omega)).other 3 (.int .i64 ds) (show w.heap.size ≠ nY by omega)).other 4 (.string di) (show w.heap.size ≠ nY by omega)).other 5 (.int .i64 mh) (show w.heap.size ≠ nY by omega)).other 6 (.int .i64 mr) (show w.heap.size ≠ nY by omega)).other 7 (.int .i64 ms) (show w.heap.size ≠ nY by omega)).other 8 (.string mi) (show w.heap.size ≠ nY by omega)).other 9 (.bool false) (show w.heap.size ≠ nY by omega)).other 10 (.slice qa o.length qc) (show w.heap.size ≠ nY by omega))
  have KV := (((((((((((HV3.out.other 0 (.int .i64 v) (show (w.heap.size + 1) ≠ nY by omega)).other 1 (.int .i64 dh) (show (w.heap.size + 1) ≠ nY by omega)).other 2 (.int .i64 dr) (show (w.heap.size + 1) ≠ nY by omega)).other 3 (.int .i64 ds) (show (w.heap.size + 1) ≠ nY by omega)).other 4 (.string di) (show (w.heap.size + 1) ≠ nY by omega)).other 5 (.int .i64 mh) (show (w.heap.size + 1) ≠ nY by omega)).other 6 (.int .i64 mr) (show (w.heap.size + 1) ≠ nY by omega)).other 7 (.int .i64 ms) (show (w.heap.size + 1) ≠ nY by omega)).other 8 (.string mi) (show (w.heap.size + 1) ≠ nY by omega)).other 9 (.bool false) (show (w.heap.size + 1) ≠ nY by omega)).other 10 (.slice qa o.length qc) (show (w.heap.size + 1) ≠ nY by omega))
  have KR := (((((((((((HR3.out.other 0 (.int .i64 v) (show (w.heap.size + 2) ≠ nY by omega)).other 1 (.int .i64 dh) (show (w.heap.size + 2) ≠ nY by omega)).other 2 (.int .i64 dr) (show (w.heap.size + 2) ≠ nY by omega)).other 3 (.int .i64 ds) (show (w.heap.size + 2) ≠ nY by omega)).other 4 (.string di) (show (w.heap.size + 2) ≠ nY by omega)).other 5 (.int .i64 mh) (show (w.heap.size + 2) ≠ nY by omega)).other 6 (.int .i64 mr) (show (w.heap.size + 2) ≠ nY by omega)).other 7 (.int .i64 ms) (show (w.heap.size + 2) ≠ nY by omega)).other 8 (.string mi) (show (w.heap.size + 2) ≠ nY by omega)).other 9 (.bool false) (show (w.heap.size + 2) ≠ nY by omega)).other 10 (.slice qa o.length qc) (show (w.heap.size + 2) ≠ nY by omega))
  have KY := (((((((((((HY3.out.set 0 (.int .i64 v)).set 1 (.int .i64 dh)).set 2 (.int .i64 dr)).set 3 (.int .i64 ds)).set 4 (.string di)).set 5 (.int .i64 mh)).set 6 (.int .i64 mr)).set 7 (.int .i64 ms)).set 8 (.string mi)).set 9 (.bool false)).set 10 (.slice qa o.length qc))
  have KB := (((((((((((HB3.out.setCell (p := ⟨nY, 0, none⟩) (show w.heap.size ≤ nY by omega) (.int .i64 v)).setCell (p := ⟨nY, 1, none⟩) (show w.heap.size ≤ nY by omega) (.int .i64 dh)).setCell (p := ⟨nY, 2, none⟩) (show w.heap.size ≤ nY by omega) (.int .i64 dr)).setCell (p := ⟨nY, 3, none⟩) (show w.heap.size ≤ nY by omega) (.int .i64 ds)).setCell (p := ⟨nY, 4, none⟩) (show w.heap.size ≤ nY by omega) (.string di)).setCell (p := ⟨nY, 5, none⟩) (show w.heap.size ≤ nY by omega) (.int .i64 mh)).setCell (p := ⟨nY, 6, none⟩) (show w.heap.size ≤ nY by omega) (.int .i64 mr)).setCell (p := ⟨nY, 7, none⟩) (show w.heap.size ≤ nY by omega) (.int .i64 ms)).setCell (p := ⟨nY, 8, none⟩) (show w.heap.size ≤ nY by omega) (.string mi)).setCell (p := ⟨nY, 9, none⟩) (show w.heap.size ≤ nY by omega) (.bool false)).setCell (p := ⟨nY, 10, none⟩) (show w.heap.size ≤ nY by omega) (.slice qa o.length qc))
  have KG : Hid (wa3.grownBy (((((((((((wa3.setCell ⟨nY, 0, none⟩ (.int .i64 v)).setCell ⟨nY, 1, none⟩ (.int .i64 dh)).setCell ⟨nY, 2, none⟩ (.int .i64 dr)).setCell ⟨nY, 3, none⟩ (.int .i64 ds)).setCell ⟨nY, 4, none⟩ (.string di)).setCell ⟨nY, 5, none⟩ (.int .i64 mh)).setCell ⟨nY, 6, none⟩ (.int .i64 mr)).setCell ⟨nY, 7, none⟩ (.int .i64 ms)).setCell ⟨nY, 8, none⟩ (.string mi)).setCell ⟨nY, 9, none⟩ (.bool false)).setCell ⟨nY, 10, none⟩ (.slice qa o.length qc)) (some nY)) := grown_set (grown_set (grown_set (grown_set (grown_set (grown_set (grown_set (grown_set (grown_set (grown_set (grown_set (grown_refl _ _) _) _) _) _) _) _) _) _) _) _) _
  have KQ : Hid (OwnY (((((((((((wa3.setCell ⟨nY, 0, none⟩ (.int .i64 v)).setCell ⟨nY, 1, none⟩ (.int .i64 dh)).setCell ⟨nY, 2, none⟩ (.int .i64 dr)).setCell ⟨nY, 3, none⟩ (.int .i64 ds)).setCell ⟨nY, 4, none⟩ (.string di)).setCell ⟨nY, 5, none⟩ (.int .i64 mh)).setCell ⟨nY, 6, none⟩ (.int .i64 mr)).setCell ⟨nY, 7, none⟩ (.int .i64 ms)).setCell ⟨nY, 8, none⟩ (.string mi)).setCell ⟨nY, 9, none⟩ (.bool false)).setCell ⟨nY, 10, none⟩ (.slice qa o.length qc)) w.heap.size (.slice qa o.length qc) o) := own_aside HQ3.out KG.out HY3.out
  go_upto_region 4 with fail
  clear hwa3 hnY cX_0_3 cX_1_3 cX_2_3 cX_3_3 cX_4_3 cX_5_3 cX_6_3 cX_7_3 cX_8_3 cX_9_3 cX_10_3 cY_0_3 cY_1_3 cY_2_3 cY_3_3 cY_4_3 cY_5_3 cY_6_3 cY_7_3 cY_8_3 cY_9_3 cY_10_3 zY_3
  generalize ((((((((((((wa3.setCell _ _).setCell _ _).setCell _ _).setCell _ _).setCell _ _).setCell _ _).setCell _ _).setCell _ _).setCell _ _).setCell _ _).setCell _ _) : World) = w4 at *
  have HX4 : Hid (Blk w4 w.heap.size [.int .i64 v, .int .i64 dh, .int .i64 dr, .int .i64 ds, .string di, .int .i64 mh, .int .i64 mr, .int .i64 ms, .string mi, .bool false, .slice a o.length cap] 29) := KX
  have HV4 : Hid (Blk w4 (w.heap.size + 1) [.int .i64 yh, .int .i64 yr, .int .i64 ys, .string yi, .int .i64 yv] 31) := KV
  have HR4 : Hid (Blk w4 (w.heap.size + 2) [.int .i64 0, .int .i64 0, .int .i64 0, .int .i64 0, .string ⟨#[]⟩, .int .i64 0, .int .i64 0, .int .i64 0, .string ⟨#[]⟩, .bool false, .slice none 0 0] 29) := KR
  have HY4 : Hid (Blk w4 nY [.int .i64 v, .int .i64 dh, .int .i64 dr, .int .i64 ds, .string di, .int .i64 mh, .int .i64 mr, .int .i64 ms, .string mi, .bool false, .slice qa o.length qc] 29) := KY
  have HQ4 : Hid (OwnY w4 w.heap.size (.slice qa o.length qc) o) := KQ
  have HB4 : Hid (Below w.heap.size w w4) := KB
  clear KX KV KR KY KB KG KQ HX3 HV3 HR3 HY3 HB3 HQ3
  have cX_0_4 := HX4.out.cell 0 rfl
  have cX_1_4 := HX4.out.cell 1 rfl
  have cX_2_4 := HX4.out.cell 2 rfl
  have cX_3_4 := HX4.out.cell 3 rfl
  have cX_4_4 := HX4.out.cell 4 rfl
  have cX_5_4 := HX4.out.cell 5 rfl
  have cX_6_4 := HX4.out.cell 6 rfl
  have cX_7_4 := HX4.out.cell 7 rfl
  have cX_8_4 := HX4.out.cell 8 rfl
  have cX_9_4 := HX4.out.cell 9 rfl
  have cX_10_4 := HX4.out.cell 10 rfl
  have cV_0_4 := HV4.out.cell 0 rfl
  have cV_1_4 := HV4.out.cell 1 rfl
  have cV_2_4 := HV4.out.cell 2 rfl
  have cV_3_4 := HV4.out.cell 3 rfl
  have cV_4_4 := HV4.out.cell 4 rfl
  have cY_0_4 := HY4.out.cell 0 rfl
  have cY_1_4 := HY4.out.cell 1 rfl
  have cY_2_4 := HY4.out.cell 2 rfl
  have cY_3_4 := HY4.out.cell 3 rfl
  have cY_4_4 := HY4.out.cell 4 rfl
  have cY_5_4 := HY4.out.cell 5 rfl
  have cY_6_4 := HY4.out.cell 6 rfl
  have cY_7_4 := HY4.out.cell 7 rfl
  have cY_8_4 := HY4.out.cell 8 rfl
  have cY_9_4 := HY4.out.cell 9 rfl
  have cY_10_4 := HY4.out.cell 10 rfl
  go_upto_region 5 with fail
  clear cX_0_4 cX_1_4 cX_2_4 cX_3_4 cX_4_4 cX_5_4 cX_6_4 cX_7_4 cX_8_4 cX_9_4 cX_10_4 cV_0_4 cV_1_4 cV_2_4 cV_3_4 cV_4_4 cY_0_4 cY_1_4 cY_2_4 cY_3_4 cY_4_4 cY_5_4 cY_6_4 cY_7_4 cY_8_4 cY_9_4 cY_10_4
  have cX_0_4 := HX4.out.cell 0 rfl
  have cX_1_4 := HX4.out.cell 1 rfl
  have cX_2_4 := HX4.out.cell 2 rfl
  have cX_3_4 := HX4.out.cell 3 rfl
  have cX_4_4 := HX4.out.cell 4 rfl
  have cX_5_4 := HX4.out.cell 5 rfl
  have cX_6_4 := HX4.out.cell 6 rfl
  have cX_7_4 := HX4.out.cell 7 rfl
  have cX_8_4 := HX4.out.cell 8 rfl
  have cX_9_4 := HX4.out.cell 9 rfl
  have cX_10_4 := HX4.out.cell 10 rfl
  have cR_0_4 := HR4.out.cell 0 rfl
  have cR_1_4 := HR4.out.cell 1 rfl
  have cR_2_4 := HR4.out.cell 2 rfl
  have cR_3_4 := HR4.out.cell 3 rfl
  have cR_4_4 := HR4.out.cell 4 rfl
  have cR_5_4 := HR4.out.cell 5 rfl
  have cR_6_4 := HR4.out.cell 6 rfl
  have cR_7_4 := HR4.out.cell 7 rfl
  have cR_8_4 := HR4.out.cell 8 rfl
  have cR_9_4 := HR4.out.cell 9 rfl
  have cR_10_4 := HR4.out.cell 10 rfl
  have cY_0_4 := HY4.out.cell 0 rfl
  have cY_1_4 := HY4.out.cell 1 rfl
  have cY_2_4 := HY4.out.cell 2 rfl
  have cY_3_4 := HY4.out.cell 3 rfl
  have cY_4_4 := HY4.out.cell 4 rfl
  have cY_5_4 := HY4.out.cell 5 rfl
  have cY_6_4 := HY4.out.cell 6 rfl
  have cY_7_4 := HY4.out.cell 7 rfl
  have cY_8_4 := HY4.out.cell 8 rfl
  have cY_9_4 := HY4.out.cell 9 rfl
  have cY_10_4 := HY4.out.cell 10 rfl
  have zR_4 := fun j => HR4.out.frozen j
  have KX := (((((((((((HX4.out.other 0 (.int .i64 v) (show w.heap.size ≠ (w.heap.size + 2) by omega)).other 1 (.int .i64 dh) (show w.heap.size ≠ (w.heap.size + 2) by omega)).other 2 (.int .i64 dr) (show w.heap.size ≠ (w.heap.size + 2) by omega)).other 3 (.int .i64 ds) (show w.heap.size ≠ (w.heap.size + 2) by omega)).other 4 (.string di) (show w.heap.size ≠ (w.heap.size + 2) by omega)).other 5 (.int .i64 mh) (show w.heap.size ≠ (w.heap.size + 2) by omega)).other 6 (.int .i64 mr) (show w.heap.size ≠ (w.heap.size + 2) by omega)).other 7 (.int .i64 ms) (show w.heap.size ≠ (w.heap.size + 2) by omega)).other 8 (.string mi) (show w.heap.size ≠ (w.heap.size + 2) by omega)).other 9 (.bool false) (show w.heap.size ≠ (w.heap.size + 2) by omega)).other 10 (.slice qa o.length qc) (show w.heap.size ≠ (w.heap.size + 2) by omega))
  have KV := (((((((((((HV4.out.other 0 (.int .i64 v) (show (w.heap.size + 1) ≠ (w.heap.size + 2) by omega)).other 1 (.int .i64 dh) (show (w.heap.size + 1) ≠ (w.heap.size + 2) by omega)).other 2 (.int .i64 dr) (show (w.heap.size + 1) ≠ (w.heap.size + 2) by omega)).other 3 (.int .i64 ds) (show (w.heap.size + 1) ≠ (w.heap.size + 2) by omega)).other 4 (.string di) (show (w.heap.size + 1) ≠ (w.heap.size + 2) by omega)).other 5 (.int .i64 mh) (show (w.heap.size + 1) ≠ (w.heap.size + 2) by omega)).other 6 (.int .i64 mr) (show (w.heap.size + 1) ≠ (w.heap.size + 2) by omega)).other 7 (.int .i64 ms) (show (w.heap.size + 1) ≠ (w.heap.size + 2) by omega)).other 8 (.string mi) (show (w.heap.size + 1) ≠ (w.heap.size + 2) by omega)).other 9 (.bool false) (show (w.heap.size + 1) ≠ (w.heap.size + 2) by omega)).other 10 (.slice qa o.length qc) (show (w.heap.size + 1) ≠ (w.heap.size + 2) by omega))
  have KR := (((((((((((HR4.out.set 0 (.int .i64 v)).set 1 (.int .i64 dh)).set 2 (.int .i64 dr)).set 3 (.int .i64 ds)).set 4 (.string di)).set 5 (.int .i64 mh)).set 6 (.int .i64 mr)).set 7 (.int .i64 ms)).set 8 (.string mi)).set 9 (.bool false)).set 10 (.slice qa o.length qc))
  have KY := (((((((((((HY4.out.other 0 (.int .i64 v) (show nY ≠ (w.heap.size + 2) by omega)).other 1 (.int .i64 dh) (show nY ≠ (w.heap.size + 2) by omega)).other 2 (.int .i64 dr) (show nY ≠ (w.heap.size + 2) by omega)).other 3 (.int .i64 ds) (show nY ≠ (w.heap.size + 2) by omega)).other 4 (.string di) (show nY ≠ (w.heap.size + 2) by omega)).other 5 (.int .i64 mh) (show nY ≠ (w.heap.size + 2) by omega)).other 6 (.int .i64 mr) (show nY ≠ (w.heap.size + 2) by omega)).other 7 (.int .i64 ms) (show nY ≠ (w.heap.size + 2) by omega)).other 8 (.string mi) (show nY ≠ (w.heap.size + 2) by omega)).other 9 (.bool false) (show nY ≠ (w.heap.size + 2) by omega)).other 10 (.slice qa o.length qc) (show nY ≠ (w.heap.size + 2) by omega))
  have KB := (((((((((((HB4.out.setCell (p := ⟨(w.heap.size + 2), 0, none⟩) (show w.heap.size ≤ (w.heap.size + 2) by omega) (.int .i64 v)).setCell (p := ⟨(w.heap.size + 2), 1, none⟩) (show w.heap.size ≤ (w.heap.size + 2) by omega) (.int .i64 dh)).setCell (p := ⟨(w.heap.size + 2), 2, none⟩) (show w.heap.size ≤ (w.heap.size + 2) by omega) (.int .i64 dr)).setCell (p := ⟨(w.heap.size + 2), 3, none⟩) (show w.heap.size ≤ (w.heap.size + 2) by omega) (.int .i64 ds)).setCell (p := ⟨(w.heap.size + 2), 4, none⟩) (show w.heap.size ≤ (w.heap.size + 2) by omega) (.string di)).setCell (p := ⟨(w.heap.size + 2), 5, none⟩) (show w.heap.size ≤ (w.heap.size + 2) by omega) (.int .i64 mh)).setCell (p := ⟨(w.heap.size + 2), 6, none⟩) (show w.heap.size ≤ (w.heap.size + 2) by omega) (.int .i64 mr)).setCell (p := ⟨(w.heap.size + 2), 7, none⟩) (show w.heap.size ≤ (w.heap.size + 2) by omega) (.int .i64 ms)).setCell (p := ⟨(w.heap.size + 2), 8, none⟩) (show w.heap.size ≤ (w.heap.size + 2) by omega) (.string mi)).setCell (p := ⟨(w.heap.size + 2), 9, none⟩) (show w.heap.size ≤ (w.heap.size + 2) by omega) (.bool false)).setCell (p := ⟨(w.heap.size + 2), 10, none⟩) (show w.heap.size ≤ (w.heap.size + 2) by omega) (.slice qa o.length qc))
  have KG : Hid (w4.grownBy (((((((((((w4.setCell ⟨(w.heap.size + 2), 0, none⟩ (.int .i64 v)).setCell ⟨(w.heap.size + 2), 1, none⟩ (.int .i64 dh)).setCell ⟨(w.heap.size + 2), 2, none⟩ (.int .i64 dr)).setCell ⟨(w.heap.size + 2), 3, none⟩ (.int .i64 ds)).setCell ⟨(w.heap.size + 2), 4, none⟩ (.string di)).setCell ⟨(w.heap.size + 2), 5, none⟩ (.int .i64 mh)).setCell ⟨(w.heap.size + 2), 6, none⟩ (.int .i64 mr)).setCell ⟨(w.heap.size + 2), 7, none⟩ (.int .i64 ms)).setCell ⟨(w.heap.size + 2), 8, none⟩ (.string mi)).setCell ⟨(w.heap.size + 2), 9, none⟩ (.bool false)).setCell ⟨(w.heap.size + 2), 10, none⟩ (.slice qa o.length qc)) (some (w.heap.size + 2))) := grown_set (grown_set (grown_set (grown_set (grown_set (grown_set (grown_set (grown_set (grown_set (grown_set (grown_set (grown_refl _ _) _) _) _) _) _) _) _) _) _) _) _
  have KQ : Hid (OwnY (((((((((((w4.setCell ⟨(w.heap.size + 2), 0, none⟩ (.int .i64 v)).setCell ⟨(w.heap.size + 2), 1, none⟩ (.int .i64 dh)).setCell ⟨(w.heap.size + 2), 2, none⟩ (.int .i64 dr)).setCell ⟨(w.heap.size + 2), 3, none⟩ (.int .i64 ds)).setCell ⟨(w.heap.size + 2), 4, none⟩ (.string di)).setCell ⟨(w.heap.size + 2), 5, none⟩ (.int .i64 mh)).setCell ⟨(w.heap.size + 2), 6, none⟩ (.int .i64 mr)).setCell ⟨(w.heap.size + 2), 7, none⟩ (.int .i64 ms)).setCell ⟨(w.heap.size + 2), 8, none⟩ (.string mi)).setCell ⟨(w.heap.size + 2), 9, none⟩ (.bool false)).setCell ⟨(w.heap.size + 2), 10, none⟩ (.slice qa o.length qc)) w.heap.size (.slice qa o.length qc) o) := own_aside HQ4.out KG.out HR4.out
  go_wp2_with fail
  clear cX_0_4 cX_1_4 cX_2_4 cX_3_4 cX_4_4 cX_5_4 cX_6_4 cX_7_4 cX_8_4 cX_9_4 cX_10_4 cR_0_4 cR_1_4 cR_2_4 cR_3_4 cR_4_4 cR_5_4 cR_6_4 cR_7_4 cR_8_4 cR_9_4 cR_10_4 cY_0_4 cY_1_4 cY_2_4 cY_3_4 cY_4_4 cY_5_4 cY_6_4 cY_7_4 cY_8_4 cY_9_4 cY_10_4 zR_4
  generalize ((((((((((((w4.setCell _ _).setCell _ _).setCell _ _).setCell _ _).setCell _ _).setCell _ _).setCell _ _).setCell _ _).setCell _ _).setCell _ _).setCell _ _) : World) = w5 at *
  have HX5 : Hid (Blk w5 w.heap.size [.int .i64 v, .int .i64 dh, .int .i64 dr, .int .i64 ds, .string di, .int .i64 mh, .int .i64 mr, .int .i64 ms, .string mi, .bool false, .slice a o.length cap] 29) := KX
  have HV5 : Hid (Blk w5 (w.heap.size + 1) [.int .i64 yh, .int .i64 yr, .int .i64 ys, .string yi, .int .i64 yv] 31) := KV
  have HR5 : Hid (Blk w5 (w.heap.size + 2) [.int .i64 v, .int .i64 dh, .int .i64 dr, .int .i64 ds, .string di, .int .i64 mh, .int .i64 mr, .int .i64 ms, .string mi, .bool false, .slice qa o.length qc] 29) := KR
  have HY5 : Hid (Blk w5 nY [.int .i64 v, .int .i64 dh, .int .i64 dr, .int .i64 ds, .string di, .int .i64 mh, .int .i64 mr, .int .i64 ms, .string mi, .bool false, .slice qa o.length qc] 29) := KY
  have HQ5 : Hid (OwnY w5 w.heap.size (.slice qa o.length qc) o) := KQ
  have HB5 : Hid (Below w.heap.size w w5) := KB
  clear KX KV KR KY KB KG KQ HX4 HV4 HR4 HY4 HB4 HQ4
  have y0 := HR5.out.cell 0 rfl
  have y1 := HR5.out.cell 1 rfl
  have y2 := HR5.out.cell 2 rfl
  have y3 := HR5.out.cell 3 rfl
  have y4 := HR5.out.cell 4 rfl
  have y5 := HR5.out.cell 5 rfl
  have y6 := HR5.out.cell 6 rfl
  have y7 := HR5.out.cell 7 rfl
  have y8 := HR5.out.cell 8 rfl
  have y9 := HR5.out.cell 9 rfl
  have y10 := HR5.out.cell 10 rfl
  refine bodyPost_ret (v := .tuple #[.agg #[.int .i64 v, .int .i64 dh, .int .i64 dr, .int .i64 ds, .string di, .int .i64 mh, .int .i64 mr, .int .i64 ms, .string mi, .bool false, .slice qa o.length qc], .int .i64 2]) (by simp [results, Try.results15, go_sem, y0, y1, y2, y3, y4, y5, y6, y7, y8, y9, y10]) rfl ⟨_, _, rfl, HQ5.out, HB5.out⟩
set_option maxHeartbeats 6400000 in
set_option maxRecDepth 100000 in
theorem sask_full (x : Sg) (y : Vt) (a : Option Addr) (cap : Nat) (w : World) (hl : YO w a x.o) (hz : a = none → cap = 0) (hlen : x.o.length ≤ 9223372036854775807) (hs : sOk x = true) (hp : x.p = false) (hv : y.v = x.v) (h60 : ¬ x.o.length < 60) :
    Calls Try.prog 15 #[sV x a cap, tV y] w fun e w' => ∃ qa qc, e = .returned (.tuple #[sQ x (.slice qa x.o.length qc), .int .i64 2]) ∧ Hid (OwnY w' w.heap.size (.slice qa x.o.length qc) x.o) ∧ Below w.heap.size w w' := by
  have HY : Hid (YO w a x.o) := hl
  have kS := fun W (h : YO W a x.o) => spec_sok x a cap W h (by omega)
  simp only [hs] at kS
  have hlo : x.o.length ≤ 60 := sOk_len hs
  have kC := fun W (h : YO W a x.o) => spec_copy x a cap W h hz (by omega)
  obtain ⟨v, ⟨dh, dr, ds, di⟩, ⟨mh, mr, ms, mi⟩, p, o⟩ := x
  obtain ⟨yh, yr, ys, yi, yv⟩ := y
  unfold sV sQ tV at *
  simp only at *
  subst hp
  subst hv
  have hge : (60 : Int) ≤ (o.length : Int) := by omega
  clear hl hs
  obtain ⟨W0, hW0⟩ : ∃ W, ((w.alloc (.cells #[.int .i64 yv, .int .i64 dh, .int .i64 dr, .int .i64 ds, .string di, .int .i64 mh, .int .i64 mr, .int .i64 ms, .string mi, .bool false, .slice a o.length cap] 29)).alloc (.cells #[.int .i64 yh, .int .i64 yr, .int .i64 ys, .string yi, .int .i64 yv] 31)).alloc (.cells #[.int .i64 0, .int .i64 0, .int .i64 0, .int .i64 0, .string ⟨#[]⟩, .int .i64 0, .int .i64 0, .int .i64 0, .string ⟨#[]⟩, .bool false, .slice none 0 0] 29) = W := ⟨_, rfl⟩
  have HX0 : Hid (Blk W0 w.heap.size [.int .i64 yv, .int .i64 dh, .int .i64 dr, .int .i64 ds, .string di, .int .i64 mh, .int .i64 mr, .int .i64 ms, .string mi, .bool false, .slice a o.length cap] 29) := by
    rw [← hW0]
    have hnew := blk_new (w) [.int .i64 yv, .int .i64 dh, .int .i64 dr, .int .i64 ds, .string di, .int .i64 mh, .int .i64 mr, .int .i64 ms, .string mi, .bool false, .slice a o.length cap] 29
    exact ((hnew.alloc _).alloc _)
  have HV0 : Hid (Blk W0 (w.heap.size + 1) [.int .i64 yh, .int .i64 yr, .int .i64 ys, .string yi, .int .i64 yv] 31) := by
    rw [← hW0]
    have hnew := blk_new (w.alloc (.cells #[.int .i64 yv, .int .i64 dh, .int .i64 dr, .int .i64 ds, .string di, .int .i64 mh, .int .i64 mr, .int .i64 ms, .string mi, .bool false, .slice a o.length cap] 29)) [.int .i64 yh, .int .i64 yr, .int .i64 ys, .string yi, .int .i64 yv] 31
    rw [show (w.alloc (.cells #[.int .i64 yv, .int .i64 dh, .int .i64 dr, .int .i64 ds, .string di, .int .i64 mh, .int .i64 mr, .int .i64 ms, .string mi, .bool false, .slice a o.length cap] 29)).heap.size = w.heap.size + 1 from by simp] at hnew
    exact (hnew.alloc _)
  have HR0 : Hid (Blk W0 (w.heap.size + 2) [.int .i64 0, .int .i64 0, .int .i64 0, .int .i64 0, .string ⟨#[]⟩, .int .i64 0, .int .i64 0, .int .i64 0, .string ⟨#[]⟩, .bool false, .slice none 0 0] 29) := by
    rw [← hW0]
    have hnew := blk_new ((w.alloc (.cells #[.int .i64 yv, .int .i64 dh, .int .i64 dr, .int .i64 ds, .string di, .int .i64 mh, .int .i64 mr, .int .i64 ms, .string mi, .bool false, .slice a o.length cap] 29)).alloc (.cells #[.int .i64 yh, .int .i64 yr, .int .i64 ys, .string yi, .int .i64 yv] 31)) [.int .i64 0, .int .i64 0, .int .i64 0, .int .i64 0, .string ⟨#[]⟩, .int .i64 0, .int .i64 0, .int .i64 0, .string ⟨#[]⟩, .bool false, .slice none 0 0] 29
    rw [show ((w.alloc (.cells #[.int .i64 yv, .int .i64 dh, .int .i64 dr, .int .i64 ds, .string di, .int .i64 mh, .int .i64 mr, .int .i64 ms, .string mi, .bool false, .slice a o.length cap] 29)).alloc (.cells #[.int .i64 yh, .int .i64 yr, .int .i64 ys, .string yi, .int .i64 yv] 31)).heap.size = w.heap.size + 2 from by simp] at hnew
    exact hnew
  have HB0 : Hid (Below w.heap.size w W0) := by rw [← hW0]; exact (((Below.refl w.heap.size w).alloc (Nat.le_refl _) _).alloc (by simp; try omega) _).alloc (by simp; try omega) _
  go_enter Try.func15, Try.ntmps15
  have cX_0_0 := HX0.out.cell 0 rfl
  have cX_1_0 := HX0.out.cell 1 rfl
  have cX_2_0 := HX0.out.cell 2 rfl
  have cX_3_0 := HX0.out.cell 3 rfl
  have cX_4_0 := HX0.out.cell 4 rfl
  have cX_5_0 := HX0.out.cell 5 rfl
  have cX_6_0 := HX0.out.cell 6 rfl
  have cX_7_0 := HX0.out.cell 7 rfl
  have cX_8_0 := HX0.out.cell 8 rfl
  have cX_9_0 := HX0.out.cell 9 rfl
  have cX_10_0 := HX0.out.cell 10 rfl
  go_wp2_with fail
  clear hW0 cX_0_0 cX_1_0 cX_2_0 cX_3_0 cX_4_0 cX_5_0 cX_6_0 cX_7_0 cX_8_0 cX_9_0 cX_10_0
  refine (kS _ (HY.out.below HB0.out)).mono ?_
  rintro e w1 ⟨rfl, bb⟩
  have HX1 : Hid (Blk w1 w.heap.size [.int .i64 yv, .int .i64 dh, .int .i64 dr, .int .i64 ds, .string di, .int .i64 mh, .int .i64 mr, .int .i64 ms, .string mi, .bool false, .slice a o.length cap] 29) := HX0.out.below bb HX0.out.lt
  have HV1 : Hid (Blk w1 (w.heap.size + 1) [.int .i64 yh, .int .i64 yr, .int .i64 ys, .string yi, .int .i64 yv] 31) := HV0.out.below bb HV0.out.lt
  have HR1 : Hid (Blk w1 (w.heap.size + 2) [.int .i64 0, .int .i64 0, .int .i64 0, .int .i64 0, .string ⟨#[]⟩, .int .i64 0, .int .i64 0, .int .i64 0, .string ⟨#[]⟩, .bool false, .slice none 0 0] 29) := HR0.out.below bb HR0.out.lt
  have HB1 : Hid (Below w.heap.size w w1) := HB0.out.trans (bb.mono HB0.out.size)
  clear HX0 HV0 HR0 HB0
  clear bb
  clear kS
  have cX_0_1 := HX1.out.cell 0 rfl
  have cX_1_1 := HX1.out.cell 1 rfl
  have cX_2_1 := HX1.out.cell 2 rfl
  have cX_3_1 := HX1.out.cell 3 rfl
  have cX_4_1 := HX1.out.cell 4 rfl
  have cX_5_1 := HX1.out.cell 5 rfl
  have cX_6_1 := HX1.out.cell 6 rfl
  have cX_7_1 := HX1.out.cell 7 rfl
  have cX_8_1 := HX1.out.cell 8 rfl
  have cX_9_1 := HX1.out.cell 9 rfl
  have cX_10_1 := HX1.out.cell 10 rfl
  go_wp2_with fail
  clear cX_0_1 cX_1_1 cX_2_1 cX_3_1 cX_4_1 cX_5_1 cX_6_1 cX_7_1 cX_8_1 cX_9_1 cX_10_1
  refine (kC _ (HY.out.below HB1.out)).mono ?_
  rintro e w2 ⟨q, rfl, HQ, bb⟩
  obtain ⟨qa, qc, rfl⟩ := own_shape HQ.out
  have HQ0 : Hid (OwnY w2 w.heap.size (.slice qa o.length qc) o) := own_less HQ.out HB1.out.size
  have HX2 : Hid (Blk w2 w.heap.size [.int .i64 yv, .int .i64 dh, .int .i64 dr, .int .i64 ds, .string di, .int .i64 mh, .int .i64 mr, .int .i64 ms, .string mi, .bool false, .slice a o.length cap] 29) := HX1.out.below bb HX1.out.lt
  have HV2 : Hid (Blk w2 (w.heap.size + 1) [.int .i64 yh, .int .i64 yr, .int .i64 ys, .string yi, .int .i64 yv] 31) := HV1.out.below bb HV1.out.lt
  have HR2 : Hid (Blk w2 (w.heap.size + 2) [.int .i64 0, .int .i64 0, .int .i64 0, .int .i64 0, .string ⟨#[]⟩, .int .i64 0, .int .i64 0, .int .i64 0, .string ⟨#[]⟩, .bool false, .slice none 0 0] 29) := HR1.out.below bb HR1.out.lt
  have HB2 : Hid (Below w.heap.size w w2) := HB1.out.trans (bb.mono HB1.out.size)
  clear HX1 HV1 HR1 HB1
  clear bb kC HQ HY
  obtain ⟨wa3, hwa3⟩ : ∃ W, w2.alloc (.cells #[.int .i64 0, .int .i64 0, .int .i64 0, .int .i64 0, .string ⟨#[]⟩, .int .i64 0, .int .i64 0, .int .i64 0, .string ⟨#[]⟩, .bool false, .slice none 0 0] 29) = W := ⟨_, rfl⟩
  obtain ⟨nY, hnY⟩ : ∃ n, w2.heap.size = n := ⟨_, rfl⟩
  have hnYX : w.heap.size < nY := by rw [← hnY]; exact HX2.out.lt
  have hnYV : (w.heap.size + 1) < nY := by rw [← hnY]; exact HV2.out.lt
  have hnYR : (w.heap.size + 2) < nY := by rw [← hnY]; exact HR2.out.lt
  have HAnY : Hid (Below w2.heap.size w2 wa3) := by rw [← hwa3]; exact below_one _ _
  have HX3 : Hid (Blk wa3 w.heap.size [.int .i64 yv, .int .i64 dh, .int .i64 dr, .int .i64 ds, .string di, .int .i64 mh, .int .i64 mr, .int .i64 ms, .string mi, .bool false, .slice a o.length cap] 29) := HX2.out.below HAnY.out HX2.out.lt
  have HV3 : Hid (Blk wa3 (w.heap.size + 1) [.int .i64 yh, .int .i64 yr, .int .i64 ys, .string yi, .int .i64 yv] 31) := HV2.out.below HAnY.out HV2.out.lt
  have HR3 : Hid (Blk wa3 (w.heap.size + 2) [.int .i64 0, .int .i64 0, .int .i64 0, .int .i64 0, .string ⟨#[]⟩, .int .i64 0, .int .i64 0, .int .i64 0, .string ⟨#[]⟩, .bool false, .slice none 0 0] 29) := HR2.out.below HAnY.out HR2.out.lt
  have HQ3 : Hid (OwnY wa3 w.heap.size (.slice qa o.length qc) o) := own_keep HQ0.out HAnY.out
  have HB3 : Hid (Below w.heap.size w wa3) := HB2.out.trans (HAnY.out.mono HB2.out.size)
  have HY3 : Hid (Blk wa3 nY [.int .i64 0, .int .i64 0, .int .i64 0, .int .i64 0, .string ⟨#[]⟩, .int .i64 0, .int .i64 0, .int .i64 0, .string ⟨#[]⟩, .bool false, .slice none 0 0] 29) := by rw [← hwa3, ← hnY]; exact blk_new _ _ _
  clear HAnY HX2 HV2 HR2 HB2 HQ0
  have cX_0_3 := HX3.out.cell 0 rfl
  have cX_1_3 := HX3.out.cell 1 rfl
  have cX_2_3 := HX3.out.cell 2 rfl
  have cX_3_3 := HX3.out.cell 3 rfl
  have cX_4_3 := HX3.out.cell 4 rfl
  have cX_5_3 := HX3.out.cell 5 rfl
  have cX_6_3 := HX3.out.cell 6 rfl
  have cX_7_3 := HX3.out.cell 7 rfl
  have cX_8_3 := HX3.out.cell 8 rfl
  have cX_9_3 := HX3.out.cell 9 rfl
  have cX_10_3 := HX3.out.cell 10 rfl
  have cY_0_3 := HY3.out.cell 0 rfl
  have cY_1_3 := HY3.out.cell 1 rfl
  have cY_2_3 := HY3.out.cell 2 rfl
  have cY_3_3 := HY3.out.cell 3 rfl
  have cY_4_3 := HY3.out.cell 4 rfl
  have cY_5_3 := HY3.out.cell 5 rfl
  have cY_6_3 := HY3.out.cell 6 rfl
  have cY_7_3 := HY3.out.cell 7 rfl
  have cY_8_3 := HY3.out.cell 8 rfl
  have cY_9_3 := HY3.out.cell 9 rfl
  have cY_10_3 := HY3.out.cell 10 rfl
  have zY_3 := fun j => HY3.out.frozen j
  have KX := (((((((((((HX3.out.other 0 (.int .i64 yv) (show w.heap.size ≠ nY by omega)).other 1 (.int .i64 dh) (show w.heap.size ≠ nY by omega)).other 2 (.int .i64 dr) (show w.heap.size ≠ nY by omega)).other 3 (.int .i64 ds) (show w.heap.size ≠ nY by omega)).other 4 (.string di) (show w.heap.size ≠ nY by omega)).other 5 (.int .i64 mh) (show w.heap.size ≠ nY by omega)).other 6 (.int .i64 mr) (show w.heap.size ≠ nY by omega)).other 7 (.int .i64 ms) (show w.heap.size ≠ nY by omega)).other 8 (.string mi) (show w.heap.size ≠ nY by omega)).other 9 (.bool false) (show w.heap.size ≠ nY by omega)).other 10 (.slice qa o.length qc) (show w.heap.size ≠ nY by omega))
  have KV := (((((((((((HV3.out.other 0 (.int .i64 yv) (show (w.heap.size + 1) ≠ nY by omega)).other 1 (.int .i64 dh) (show (w.heap.size + 1) ≠ nY by omega)).other 2 (.int .i64 dr) (show (w.heap.size + 1) ≠ nY by omega)).other 3 (.int .i64 ds) (show (w.heap.size + 1) ≠ nY by omega)).other 4 (.string di) (show (w.heap.size + 1) ≠ nY by omega)).other 5 (.int .i64 mh) (show (w.heap.size + 1) ≠ nY by omega)).other 6 (.int .i64 mr) (show (w.heap.size + 1) ≠ nY by omega)).other 7 (.int .i64 ms) (show (w.heap.size + 1) ≠ nY by omega)).other 8 (.string mi) (show (w.heap.size + 1) ≠ nY by omega)).other 9 (.bool false) (show (w.heap.size + 1) ≠ nY by omega)).other 10 (.slice qa o.length qc) (show (w.heap.size + 1) ≠ nY by omega))
  have KR := (((((((((((HR3.out.other 0 (.int .i64 yv) (show (w.heap.size + 2) ≠ nY by omega)).other 1 (.int .i64 dh) (show (w.heap.size + 2) ≠ nY by omega)).other 2 (.int .i64 dr) (show (w.heap.size + 2) ≠ nY by omega)).other 3 (.int .i64 ds) (show (w.heap.size + 2) ≠ nY by omega)).other 4 (.string di) (show (w.heap.size + 2) ≠ nY by omega)).other 5 (.int .i64 mh) (show (w.heap.size + 2) ≠ nY by omega)).other 6 (.int .i64 mr) (show (w.heap.size + 2) ≠ nY by omega)).other 7 (.int .i64 ms) (show (w.heap.size + 2) ≠ nY by omega)).other 8 (.string mi) (show (w.heap.size + 2) ≠ nY by omega)).other 9 (.bool false) (show (w.heap.size + 2) ≠ nY by omega)).other 10 (.slice qa o.length qc) (show (w.heap.size + 2) ≠ nY by omega))
  have KY := (((((((((((HY3.out.set 0 (.int .i64 yv)).set 1 (.int .i64 dh)).set 2 (.int .i64 dr)).set 3 (.int .i64 ds)).set 4 (.string di)).set 5 (.int .i64 mh)).set 6 (.int .i64 mr)).set 7 (.int .i64 ms)).set 8 (.string mi)).set 9 (.bool false)).set 10 (.slice qa o.length qc))
  have KB := (((((((((((HB3.out.setCell (p := ⟨nY, 0, none⟩) (show w.heap.size ≤ nY by omega) (.int .i64 yv)).setCell (p := ⟨nY, 1, none⟩) (show w.heap.size ≤ nY by omega) (.int .i64 dh)).setCell (p := ⟨nY, 2, none⟩) (show w.heap.size ≤ nY by omega) (.int .i64 dr)).setCell (p := ⟨nY, 3, none⟩) (show w.heap.size ≤ nY by omega) (.int .i64 ds)).setCell (p := ⟨nY, 4, none⟩) (show w.heap.size ≤ nY by omega) (.string di)).setCell (p := ⟨nY, 5, none⟩) (show w.heap.size ≤ nY by omega) (.int .i64 mh)).setCell (p := ⟨nY, 6, none⟩) (show w.heap.size ≤ nY by omega) (.int .i64 mr)).setCell (p := ⟨nY, 7, none⟩) (show w.heap.size ≤ nY by omega) (.int .i64 ms)).setCell (p := ⟨nY, 8, none⟩) (show w.heap.size ≤ nY by omega) (.string mi)).setCell (p := ⟨nY, 9, none⟩) (show w.heap.size ≤ nY by omega) (.bool false)).setCell (p := ⟨nY, 10, none⟩) (show w.heap.size ≤ nY by omega) (.slice qa o.length qc))
  have KG : Hid (wa3.grownBy (((((((((((wa3.setCell ⟨nY, 0, none⟩ (.int .i64 yv)).setCell ⟨nY, 1, none⟩ (.int .i64 dh)).setCell ⟨nY, 2, none⟩ (.int .i64 dr)).setCell ⟨nY, 3, none⟩ (.int .i64 ds)).setCell ⟨nY, 4, none⟩ (.string di)).setCell ⟨nY, 5, none⟩ (.int .i64 mh)).setCell ⟨nY, 6, none⟩ (.int .i64 mr)).setCell ⟨nY, 7, none⟩ (.int .i64 ms)).setCell ⟨nY, 8, none⟩ (.string mi)).setCell ⟨nY, 9, none⟩ (.bool false)).setCell ⟨nY, 10, none⟩ (.slice qa o.length qc)) (some nY)) := grown_set (grown_set (grown_set (grown_set (grown_set (grown_set (grown_set (grown_set (grown_set (grown_set (grown_set (grown_refl _ _) _) _) _) _) _) _) _) _) _) _) _
  have KQ : Hid (OwnY (((((((((((wa3.setCell ⟨nY, 0, none⟩ (.int .i64 yv)).setCell ⟨nY, 1, none⟩ (.int .i64 dh)).setCell ⟨nY, 2, none⟩ (.int .i64 dr)).setCell ⟨nY, 3, none⟩ (.int .i64 ds)).setCell ⟨nY, 4, none⟩ (.string di)).setCell ⟨nY, 5, none⟩ (.int .i64 mh)).setCell ⟨nY, 6, none⟩ (.int .i64 mr)).setCell ⟨nY, 7, none⟩ (.int .i64 ms)).setCell ⟨nY, 8, none⟩ (.string mi)).setCell ⟨nY, 9, none⟩ (.bool false)).setCell ⟨nY, 10, none⟩ (.slice qa o.length qc)) w.heap.size (.slice qa o.length qc) o) := own_aside HQ3.out KG.out HY3.out
  go_upto_region 4 with fail
  clear hwa3 hnY cX_0_3 cX_1_3 cX_2_3 cX_3_3 cX_4_3 cX_5_3 cX_6_3 cX_7_3 cX_8_3 cX_9_3 cX_10_3 cY_0_3 cY_1_3 cY_2_3 cY_3_3 cY_4_3 cY_5_3 cY_6_3 cY_7_3 cY_8_3 cY_9_3 cY_10_3 zY_3
  generalize ((((((((((((wa3.setCell _ _).setCell _ _).setCell _ _).setCell _ _).setCell _ _).setCell _ _).setCell _ _).setCell _ _).setCell _ _).setCell _ _).setCell _ _) : World) = w4 at *
  have HX4 : Hid (Blk w4 w.heap.size [.int .i64 yv, .int .i64 dh, .int .i64 dr, .int .i64 ds, .string di, .int .i64 mh, .int .i64 mr, .int .i64 ms, .string mi, .bool false, .slice a o.length cap] 29) := KX
  have HV4 : Hid (Blk w4 (w.heap.size + 1) [.int .i64 yh, .int .i64 yr, .int .i64 ys, .string yi, .int .i64 yv] 31) := KV
  have HR4 : Hid (Blk w4 (w.heap.size + 2) [.int .i64 0, .int .i64 0, .int .i64 0, .int .i64 0, .string ⟨#[]⟩, .int .i64 0, .int .i64 0, .int .i64 0, .string ⟨#[]⟩, .bool false, .slice none 0 0] 29) := KR
  have HY4 : Hid (Blk w4 nY [.int .i64 yv, .int .i64 dh, .int .i64 dr, .int .i64 ds, .string di, .int .i64 mh, .int .i64 mr, .int .i64 ms, .string mi, .bool false, .slice qa o.length qc] 29) := KY
  have HQ4 : Hid (OwnY w4 w.heap.size (.slice qa o.length qc) o) := KQ
  have HB4 : Hid (Below w.heap.size w w4) := KB
  clear KX KV KR KY KB KG KQ HX3 HV3 HR3 HY3 HB3 HQ3
  have cX_0_4 := HX4.out.cell 0 rfl
  have cX_1_4 := HX4.out.cell 1 rfl
  have cX_2_4 := HX4.out.cell 2 rfl
  have cX_3_4 := HX4.out.cell 3 rfl
  have cX_4_4 := HX4.out.cell 4 rfl
  have cX_5_4 := HX4.out.cell 5 rfl
  have cX_6_4 := HX4.out.cell 6 rfl
  have cX_7_4 := HX4.out.cell 7 rfl
  have cX_8_4 := HX4.out.cell 8 rfl
  have cX_9_4 := HX4.out.cell 9 rfl
  have cX_10_4 := HX4.out.cell 10 rfl
  have cV_0_4 := HV4.out.cell 0 rfl
  have cV_1_4 := HV4.out.cell 1 rfl
  have cV_2_4 := HV4.out.cell 2 rfl
  have cV_3_4 := HV4.out.cell 3 rfl
  have cV_4_4 := HV4.out.cell 4 rfl
  have cY_0_4 := HY4.out.cell 0 rfl
  have cY_1_4 := HY4.out.cell 1 rfl
  have cY_2_4 := HY4.out.cell 2 rfl
  have cY_3_4 := HY4.out.cell 3 rfl
  have cY_4_4 := HY4.out.cell 4 rfl
  have cY_5_4 := HY4.out.cell 5 rfl
  have cY_6_4 := HY4.out.cell 6 rfl
  have cY_7_4 := HY4.out.cell 7 rfl
  have cY_8_4 := HY4.out.cell 8 rfl
  have cY_9_4 := HY4.out.cell 9 rfl
  have cY_10_4 := HY4.out.cell 10 rfl
  go_upto_region 5 with fail
  clear cX_0_4 cX_1_4 cX_2_4 cX_3_4 cX_4_4 cX_5_4 cX_6_4 cX_7_4 cX_8_4 cX_9_4 cX_10_4 cV_0_4 cV_1_4 cV_2_4 cV_3_4 cV_4_4 cY_0_4 cY_1_4 cY_2_4 cY_3_4 cY_4_4 cY_5_4 cY_6_4 cY_7_4 cY_8_4 cY_9_4 cY_10_4
  have cX_0_4 := HX4.out.cell 0 rfl
  have cX_1_4 := HX4.out.cell 1 rfl
  have cX_2_4 := HX4.out.cell 2 rfl
  have cX_3_4 := HX4.out.cell 3 rfl
  have cX_4_4 := HX4.out.cell 4 rfl
  have cX_5_4 := HX4.out.cell 5 rfl
  have cX_6_4 := HX4.out.cell 6 rfl
  have cX_7_4 := HX4.out.cell 7 rfl
  have cX_8_4 := HX4.out.cell 8 rfl
  have cX_9_4 := HX4.out.cell 9 rfl
  have cX_10_4 := HX4.out.cell 10 rfl
  have cR_0_4 := HR4.out.cell 0 rfl
  have cR_1_4 := HR4.out.cell 1 rfl
  have cR_2_4 := HR4.out.cell 2 rfl
  have cR_3_4 := HR4.out.cell 3 rfl
  have cR_4_4 := HR4.out.cell 4 rfl
  have cR_5_4 := HR4.out.cell 5 rfl
  have cR_6_4 := HR4.out.cell 6 rfl
  have cR_7_4 := HR4.out.cell 7 rfl
  have cR_8_4 := HR4.out.cell 8 rfl
  have cR_9_4 := HR4.out.cell 9 rfl
  have cR_10_4 := HR4.out.cell 10 rfl
  have cY_0_4 := HY4.out.cell 0 rfl
  have cY_1_4 := HY4.out.cell 1 rfl
  have cY_2_4 := HY4.out.cell 2 rfl
  have cY_3_4 := HY4.out.cell 3 rfl
  have cY_4_4 := HY4.out.cell 4 rfl
  have cY_5_4 := HY4.out.cell 5 rfl
  have cY_6_4 := HY4.out.cell 6 rfl
  have cY_7_4 := HY4.out.cell 7 rfl
  have cY_8_4 := HY4.out.cell 8 rfl
  have cY_9_4 := HY4.out.cell 9 rfl
  have cY_10_4 := HY4.out.cell 10 rfl
  have zR_4 := fun j => HR4.out.frozen j
  have KX := (((((((((((HX4.out.other 0 (.int .i64 yv) (show w.heap.size ≠ (w.heap.size + 2) by omega)).other 1 (.int .i64 dh) (show w.heap.size ≠ (w.heap.size + 2) by omega)).other 2 (.int .i64 dr) (show w.heap.size ≠ (w.heap.size + 2) by omega)).other 3 (.int .i64 ds) (show w.heap.size ≠ (w.heap.size + 2) by omega)).other 4 (.string di) (show w.heap.size ≠ (w.heap.size + 2) by omega)).other 5 (.int .i64 mh) (show w.heap.size ≠ (w.heap.size + 2) by omega)).other 6 (.int .i64 mr) (show w.heap.size ≠ (w.heap.size + 2) by omega)).other 7 (.int .i64 ms) (show w.heap.size ≠ (w.heap.size + 2) by omega)).other 8 (.string mi) (show w.heap.size ≠ (w.heap.size + 2) by omega)).other 9 (.bool false) (show w.heap.size ≠ (w.heap.size + 2) by omega)).other 10 (.slice qa o.length qc) (show w.heap.size ≠ (w.heap.size + 2) by omega))
  have KV := (((((((((((HV4.out.other 0 (.int .i64 yv) (show (w.heap.size + 1) ≠ (w.heap.size + 2) by omega)).other 1 (.int .i64 dh) (show (w.heap.size + 1) ≠ (w.heap.size + 2) by omega)).other 2 (.int .i64 dr) (show (w.heap.size + 1) ≠ (w.heap.size + 2) by omega)).other 3 (.int .i64 ds) (show (w.heap.size + 1) ≠ (w.heap.size + 2) by omega)).other 4 (.string di) (show (w.heap.size + 1) ≠ (w.heap.size + 2) by omega)).other 5 (.int .i64 mh) (show (w.heap.size + 1) ≠ (w.heap.size + 2) by omega)).other 6 (.int .i64 mr) (show (w.heap.size + 1) ≠ (w.heap.size + 2) by omega)).other 7 (.int .i64 ms) (show (w.heap.size + 1) ≠ (w.heap.size + 2) by omega)).other 8 (.string mi) (show (w.heap.size + 1) ≠ (w.heap.size + 2) by omega)).other 9 (.bool false) (show (w.heap.size + 1) ≠ (w.heap.size + 2) by omega)).other 10 (.slice qa o.length qc) (show (w.heap.size + 1) ≠ (w.heap.size + 2) by omega))
  have KR := (((((((((((HR4.out.set 0 (.int .i64 yv)).set 1 (.int .i64 dh)).set 2 (.int .i64 dr)).set 3 (.int .i64 ds)).set 4 (.string di)).set 5 (.int .i64 mh)).set 6 (.int .i64 mr)).set 7 (.int .i64 ms)).set 8 (.string mi)).set 9 (.bool false)).set 10 (.slice qa o.length qc))
  have KY := (((((((((((HY4.out.other 0 (.int .i64 yv) (show nY ≠ (w.heap.size + 2) by omega)).other 1 (.int .i64 dh) (show nY ≠ (w.heap.size + 2) by omega)).other 2 (.int .i64 dr) (show nY ≠ (w.heap.size + 2) by omega)).other 3 (.int .i64 ds) (show nY ≠ (w.heap.size + 2) by omega)).other 4 (.string di) (show nY ≠ (w.heap.size + 2) by omega)).other 5 (.int .i64 mh) (show nY ≠ (w.heap.size + 2) by omega)).other 6 (.int .i64 mr) (show nY ≠ (w.heap.size + 2) by omega)).other 7 (.int .i64 ms) (show nY ≠ (w.heap.size + 2) by omega)).other 8 (.string mi) (show nY ≠ (w.heap.size + 2) by omega)).other 9 (.bool false) (show nY ≠ (w.heap.size + 2) by omega)).other 10 (.slice qa o.length qc) (show nY ≠ (w.heap.size + 2) by omega))
  have KB := (((((((((((HB4.out.setCell (p := ⟨(w.heap.size + 2), 0, none⟩) (show w.heap.size ≤ (w.heap.size + 2) by omega) (.int .i64 yv)).setCell (p := ⟨(w.heap.size + 2), 1, none⟩) (show w.heap.size ≤ (w.heap.size + 2) by omega) (.int .i64 dh)).setCell (p := ⟨(w.heap.size + 2), 2, none⟩) (show w.heap.size ≤ (w.heap.size + 2) by omega) (.int .i64 dr)).setCell (p := ⟨(w.heap.size + 2), 3, none⟩) (show w.heap.size ≤ (w.heap.size + 2) by omega) (.int .i64 ds)).setCell (p := ⟨(w.heap.size + 2), 4, none⟩) (show w.heap.size ≤ (w.heap.size + 2) by omega) (.string di)).setCell (p := ⟨(w.heap.size + 2), 5, none⟩) (show w.heap.size ≤ (w.heap.size + 2) by omega) (.int .i64 mh)).setCell (p := ⟨(w.heap.size + 2), 6, none⟩) (show w.heap.size ≤ (w.heap.size + 2) by omega) (.int .i64 mr)).setCell (p := ⟨(w.heap.size + 2), 7, none⟩) (show w.heap.size ≤ (w.heap.size + 2) by omega) (.int .i64 ms)).setCell (p := ⟨(w.heap.size + 2), 8, none⟩) (show w.heap.size ≤ (w.heap.size + 2) by omega) (.string mi)).setCell (p := ⟨(w.heap.size + 2), 9, none⟩) (show w.heap.size ≤ (w.heap.size + 2) by omega) (.bool false)).setCell (p := ⟨(w.heap.size + 2), 10, none⟩) (show w.heap.size ≤ (w.heap.size + 2) by omega) (.slice qa o.length qc))
  have KG : Hid (w4.grownBy (((((((((((w4.setCell ⟨(w.heap.size + 2), 0, none⟩ (.int .i64 yv)).setCell ⟨(w.heap.size + 2), 1, none⟩ (.int .i64 dh)).setCell ⟨(w.heap.size + 2), 2, none⟩ (.int .i64 dr)).setCell ⟨(w.heap.size + 2), 3, none⟩ (.int .i64 ds)).setCell ⟨(w.heap.size + 2), 4, none⟩ (.string di)).setCell ⟨(w.heap.size + 2), 5, none⟩ (.int .i64 mh)).setCell ⟨(w.heap.size + 2), 6, none⟩ (.int .i64 mr)).setCell ⟨(w.heap.size + 2), 7, none⟩ (.int .i64 ms)).setCell ⟨(w.heap.size + 2), 8, none⟩ (.string mi)).setCell ⟨(w.heap.size + 2), 9, none⟩ (.bool false)).setCell ⟨(w.heap.size + 2), 10, none⟩ (.slice qa o.length qc)) (some (w.heap.size + 2))) := grown_set (grown_set (grown_set (grown_set (grown_set (grown_set (grown_set (grown_set (grown_set (grown_set (grown_set (grown_refl _ _) _) _) _) _) _) _) _) _) _) _) _
  have KQ : Hid (OwnY (((((((((((w4.setCell ⟨(w.heap.size + 2), 0, none⟩ (.int .i64 yv)).setCell ⟨(w.heap.size + 2), 1, none⟩ (.int .i64 dh)).setCell ⟨(w.heap.size + 2), 2, none⟩ (.int .i64 dr)).setCell ⟨(w.heap.size + 2), 3, none⟩ (.int .i64 ds)).setCell ⟨(w.heap.size + 2), 4, none⟩ (.string di)).setCell ⟨(w.heap.size + 2), 5, none⟩ (.int .i64 mh)).setCell ⟨(w.heap.size + 2), 6, none⟩ (.int .i64 mr)).setCell ⟨(w.heap.size + 2), 7, none⟩ (.int .i64 ms)).setCell ⟨(w.heap.size + 2), 8, none⟩ (.string mi)).setCell ⟨(w.heap.size + 2), 9, none⟩ (.bool false)).setCell ⟨(w.heap.size + 2), 10, none⟩ (.slice qa o.length qc)) w.heap.size (.slice qa o.length qc) o) := own_aside HQ4.out KG.out HR4.out
  go_wp2_with fail
  clear cX_0_4 cX_1_4 cX_2_4 cX_3_4 cX_4_4 cX_5_4 cX_6_4 cX_7_4 cX_8_4 cX_9_4 cX_10_4 cR_0_4 cR_1_4 cR_2_4 cR_3_4 cR_4_4 cR_5_4 cR_6_4 cR_7_4 cR_8_4 cR_9_4 cR_10_4 cY_0_4 cY_1_4 cY_2_4 cY_3_4 cY_4_4 cY_5_4 cY_6_4 cY_7_4 cY_8_4 cY_9_4 cY_10_4 zR_4
  generalize ((((((((((((w4.setCell _ _).setCell _ _).setCell _ _).setCell _ _).setCell _ _).setCell _ _).setCell _ _).setCell _ _).setCell _ _).setCell _ _).setCell _ _) : World) = w5 at *
  have HX5 : Hid (Blk w5 w.heap.size [.int .i64 yv, .int .i64 dh, .int .i64 dr, .int .i64 ds, .string di, .int .i64 mh, .int .i64 mr, .int .i64 ms, .string mi, .bool false, .slice a o.length cap] 29) := KX
  have HV5 : Hid (Blk w5 (w.heap.size + 1) [.int .i64 yh, .int .i64 yr, .int .i64 ys, .string yi, .int .i64 yv] 31) := KV
  have HR5 : Hid (Blk w5 (w.heap.size + 2) [.int .i64 yv, .int .i64 dh, .int .i64 dr, .int .i64 ds, .string di, .int .i64 mh, .int .i64 mr, .int .i64 ms, .string mi, .bool false, .slice qa o.length qc] 29) := KR
  have HY5 : Hid (Blk w5 nY [.int .i64 yv, .int .i64 dh, .int .i64 dr, .int .i64 ds, .string di, .int .i64 mh, .int .i64 mr, .int .i64 ms, .string mi, .bool false, .slice qa o.length qc] 29) := KY
  have HQ5 : Hid (OwnY w5 w.heap.size (.slice qa o.length qc) o) := KQ
  have HB5 : Hid (Below w.heap.size w w5) := KB
  clear KX KV KR KY KB KG KQ HX4 HV4 HR4 HY4 HB4 HQ4
  have y0 := HR5.out.cell 0 rfl
  have y1 := HR5.out.cell 1 rfl
  have y2 := HR5.out.cell 2 rfl
  have y3 := HR5.out.cell 3 rfl
  have y4 := HR5.out.cell 4 rfl
  have y5 := HR5.out.cell 5 rfl
  have y6 := HR5.out.cell 6 rfl
  have y7 := HR5.out.cell 7 rfl
  have y8 := HR5.out.cell 8 rfl
  have y9 := HR5.out.cell 9 rfl
  have y10 := HR5.out.cell 10 rfl
  refine bodyPost_ret (v := .tuple #[.agg #[.int .i64 yv, .int .i64 dh, .int .i64 dr, .int .i64 ds, .string di, .int .i64 mh, .int .i64 mr, .int .i64 ms, .string mi, .bool false, .slice qa o.length qc], .int .i64 2]) (by simp [results, Try.results15, go_sem, y0, y1, y2, y3, y4, y5, y6, y7, y8, y9, y10]) rfl ⟨_, _, rfl, HQ5.out, HB5.out⟩
set_option maxHeartbeats 6400000 in
set_option maxRecDepth 100000 in
theorem sask_ok (x : Sg) (y : Vt) (a : Option Addr) (cap : Nat) (w : World) (hl : YO w a x.o) (hz : a = none → cap = 0) (hlen : x.o.length ≤ 9223372036854775807) (hs : sOk x = true) (hp : x.p = false) (hv : y.v = x.v) (h60 : x.o.length < 60) (hm : mayS x.m y = 0) :
    Calls Try.prog 15 #[sV x a cap, tV y] w fun e w' => ∃ qa qc, e = .returned (.tuple #[sQ (⟨x.v, x.d, ofV y, true, x.o⟩ : Sg) (.slice qa x.o.length qc), .int .i64 0]) ∧ Hid (OwnY w' w.heap.size (.slice qa x.o.length qc) x.o) ∧ Below w.heap.size w w' := by
  have HY : Hid (YO w a x.o) := hl
  have kS := fun W (h : YO W a x.o) => spec_sok x a cap W h (by omega)
  simp only [hs] at kS
  have hlo : x.o.length ≤ 60 := sOk_len hs
  have kC := fun W (h : YO W a x.o) => spec_copy x a cap W h hz (by omega)
  have kM := fun W => spec_may x.m y W
  have HSY : Hid (SmV y) := vo_sm (may_ne (g := x.m) (by rw [hm]; decide)).2
  simp only [hm] at kM
  obtain ⟨v, ⟨dh, dr, ds, di⟩, ⟨mh, mr, ms, mi⟩, p, o⟩ := x
  obtain ⟨yh, yr, ys, yi, yv⟩ := y
  unfold sV sQ tV at *
  unfold gV at *
  unfold ofV at *
  simp only at *
  subst hp
  subst hv
  have hge : ¬ (60 : Int) ≤ (o.length : Int) := by omega
  have kO : ∀ W, Calls Try.prog 41 #[.agg #[.int .i64 yh, .int .i64 yr, .int .i64 ys, .string yi, .int .i64 yv]] W fun e w' => e = .returned (.agg #[.int .i64 yh, .int .i64 yr, .int .i64 ys, .string yi]) ∧ Below W.heap.size W w' := fun W => spec_ofv (⟨yh, yr, ys, yi, yv⟩ : Vt) W
  clear HSY
  clear hl hs
  obtain ⟨W0, hW0⟩ : ∃ W, ((w.alloc (.cells #[.int .i64 yv, .int .i64 dh, .int .i64 dr, .int .i64 ds, .string di, .int .i64 mh, .int .i64 mr, .int .i64 ms, .string mi, .bool false, .slice a o.length cap] 29)).alloc (.cells #[.int .i64 yh, .int .i64 yr, .int .i64 ys, .string yi, .int .i64 yv] 31)).alloc (.cells #[.int .i64 0, .int .i64 0, .int .i64 0, .int .i64 0, .string ⟨#[]⟩, .int .i64 0, .int .i64 0, .int .i64 0, .string ⟨#[]⟩, .bool false, .slice none 0 0] 29) = W := ⟨_, rfl⟩
  have HX0 : Hid (Blk W0 w.heap.size [.int .i64 yv, .int .i64 dh, .int .i64 dr, .int .i64 ds, .string di, .int .i64 mh, .int .i64 mr, .int .i64 ms, .string mi, .bool false, .slice a o.length cap] 29) := by
    rw [← hW0]
    have hnew := blk_new (w) [.int .i64 yv, .int .i64 dh, .int .i64 dr, .int .i64 ds, .string di, .int .i64 mh, .int .i64 mr, .int .i64 ms, .string mi, .bool false, .slice a o.length cap] 29
    exact ((hnew.alloc _).alloc _)
  have HV0 : Hid (Blk W0 (w.heap.size + 1) [.int .i64 yh, .int .i64 yr, .int .i64 ys, .string yi, .int .i64 yv] 31) := by
    rw [← hW0]
    have hnew := blk_new (w.alloc (.cells #[.int .i64 yv, .int .i64 dh, .int .i64 dr, .int .i64 ds, .string di, .int .i64 mh, .int .i64 mr, .int .i64 ms, .string mi, .bool false, .slice a o.length cap] 29)) [.int .i64 yh, .int .i64 yr, .int .i64 ys, .string yi, .int .i64 yv] 31
    rw [show (w.alloc (.cells #[.int .i64 yv, .int .i64 dh, .int .i64 dr, .int .i64 ds, .string di, .int .i64 mh, .int .i64 mr, .int .i64 ms, .string mi, .bool false, .slice a o.length cap] 29)).heap.size = w.heap.size + 1 from by simp] at hnew
    exact (hnew.alloc _)
  have HR0 : Hid (Blk W0 (w.heap.size + 2) [.int .i64 0, .int .i64 0, .int .i64 0, .int .i64 0, .string ⟨#[]⟩, .int .i64 0, .int .i64 0, .int .i64 0, .string ⟨#[]⟩, .bool false, .slice none 0 0] 29) := by
    rw [← hW0]
    have hnew := blk_new ((w.alloc (.cells #[.int .i64 yv, .int .i64 dh, .int .i64 dr, .int .i64 ds, .string di, .int .i64 mh, .int .i64 mr, .int .i64 ms, .string mi, .bool false, .slice a o.length cap] 29)).alloc (.cells #[.int .i64 yh, .int .i64 yr, .int .i64 ys, .string yi, .int .i64 yv] 31)) [.int .i64 0, .int .i64 0, .int .i64 0, .int .i64 0, .string ⟨#[]⟩, .int .i64 0, .int .i64 0, .int .i64 0, .string ⟨#[]⟩, .bool false, .slice none 0 0] 29
    rw [show ((w.alloc (.cells #[.int .i64 yv, .int .i64 dh, .int .i64 dr, .int .i64 ds, .string di, .int .i64 mh, .int .i64 mr, .int .i64 ms, .string mi, .bool false, .slice a o.length cap] 29)).alloc (.cells #[.int .i64 yh, .int .i64 yr, .int .i64 ys, .string yi, .int .i64 yv] 31)).heap.size = w.heap.size + 2 from by simp] at hnew
    exact hnew
  have HB0 : Hid (Below w.heap.size w W0) := by rw [← hW0]; exact (((Below.refl w.heap.size w).alloc (Nat.le_refl _) _).alloc (by simp; try omega) _).alloc (by simp; try omega) _
  go_enter Try.func15, Try.ntmps15
  have cX_0_0 := HX0.out.cell 0 rfl
  have cX_1_0 := HX0.out.cell 1 rfl
  have cX_2_0 := HX0.out.cell 2 rfl
  have cX_3_0 := HX0.out.cell 3 rfl
  have cX_4_0 := HX0.out.cell 4 rfl
  have cX_5_0 := HX0.out.cell 5 rfl
  have cX_6_0 := HX0.out.cell 6 rfl
  have cX_7_0 := HX0.out.cell 7 rfl
  have cX_8_0 := HX0.out.cell 8 rfl
  have cX_9_0 := HX0.out.cell 9 rfl
  have cX_10_0 := HX0.out.cell 10 rfl
  go_wp2_with fail
  clear hW0 cX_0_0 cX_1_0 cX_2_0 cX_3_0 cX_4_0 cX_5_0 cX_6_0 cX_7_0 cX_8_0 cX_9_0 cX_10_0
  refine (kS _ (HY.out.below HB0.out)).mono ?_
  rintro e w1 ⟨rfl, bb⟩
  have HX1 : Hid (Blk w1 w.heap.size [.int .i64 yv, .int .i64 dh, .int .i64 dr, .int .i64 ds, .string di, .int .i64 mh, .int .i64 mr, .int .i64 ms, .string mi, .bool false, .slice a o.length cap] 29) := HX0.out.below bb HX0.out.lt
  have HV1 : Hid (Blk w1 (w.heap.size + 1) [.int .i64 yh, .int .i64 yr, .int .i64 ys, .string yi, .int .i64 yv] 31) := HV0.out.below bb HV0.out.lt
  have HR1 : Hid (Blk w1 (w.heap.size + 2) [.int .i64 0, .int .i64 0, .int .i64 0, .int .i64 0, .string ⟨#[]⟩, .int .i64 0, .int .i64 0, .int .i64 0, .string ⟨#[]⟩, .bool false, .slice none 0 0] 29) := HR0.out.below bb HR0.out.lt
  have HB1 : Hid (Below w.heap.size w w1) := HB0.out.trans (bb.mono HB0.out.size)
  clear HX0 HV0 HR0 HB0
  clear bb
  clear kS
  have cX_0_1 := HX1.out.cell 0 rfl
  have cX_1_1 := HX1.out.cell 1 rfl
  have cX_2_1 := HX1.out.cell 2 rfl
  have cX_3_1 := HX1.out.cell 3 rfl
  have cX_4_1 := HX1.out.cell 4 rfl
  have cX_5_1 := HX1.out.cell 5 rfl
  have cX_6_1 := HX1.out.cell 6 rfl
  have cX_7_1 := HX1.out.cell 7 rfl
  have cX_8_1 := HX1.out.cell 8 rfl
  have cX_9_1 := HX1.out.cell 9 rfl
  have cX_10_1 := HX1.out.cell 10 rfl
  go_wp2_with fail
  clear cX_0_1 cX_1_1 cX_2_1 cX_3_1 cX_4_1 cX_5_1 cX_6_1 cX_7_1 cX_8_1 cX_9_1 cX_10_1
  refine (kC _ (HY.out.below HB1.out)).mono ?_
  rintro e w2 ⟨q, rfl, HQ, bb⟩
  obtain ⟨qa, qc, rfl⟩ := own_shape HQ.out
  have HQ0 : Hid (OwnY w2 w.heap.size (.slice qa o.length qc) o) := own_less HQ.out HB1.out.size
  have HX2 : Hid (Blk w2 w.heap.size [.int .i64 yv, .int .i64 dh, .int .i64 dr, .int .i64 ds, .string di, .int .i64 mh, .int .i64 mr, .int .i64 ms, .string mi, .bool false, .slice a o.length cap] 29) := HX1.out.below bb HX1.out.lt
  have HV2 : Hid (Blk w2 (w.heap.size + 1) [.int .i64 yh, .int .i64 yr, .int .i64 ys, .string yi, .int .i64 yv] 31) := HV1.out.below bb HV1.out.lt
  have HR2 : Hid (Blk w2 (w.heap.size + 2) [.int .i64 0, .int .i64 0, .int .i64 0, .int .i64 0, .string ⟨#[]⟩, .int .i64 0, .int .i64 0, .int .i64 0, .string ⟨#[]⟩, .bool false, .slice none 0 0] 29) := HR1.out.below bb HR1.out.lt
  have HB2 : Hid (Below w.heap.size w w2) := HB1.out.trans (bb.mono HB1.out.size)
  clear HX1 HV1 HR1 HB1
  clear bb kC HQ HY
  obtain ⟨wa3, hwa3⟩ : ∃ W, w2.alloc (.cells #[.int .i64 0, .int .i64 0, .int .i64 0, .int .i64 0, .string ⟨#[]⟩, .int .i64 0, .int .i64 0, .int .i64 0, .string ⟨#[]⟩, .bool false, .slice none 0 0] 29) = W := ⟨_, rfl⟩
  obtain ⟨nY, hnY⟩ : ∃ n, w2.heap.size = n := ⟨_, rfl⟩
  have hnYX : w.heap.size < nY := by rw [← hnY]; exact HX2.out.lt
  have hnYV : (w.heap.size + 1) < nY := by rw [← hnY]; exact HV2.out.lt
  have hnYR : (w.heap.size + 2) < nY := by rw [← hnY]; exact HR2.out.lt
  have HAnY : Hid (Below w2.heap.size w2 wa3) := by rw [← hwa3]; exact below_one _ _
  have HX3 : Hid (Blk wa3 w.heap.size [.int .i64 yv, .int .i64 dh, .int .i64 dr, .int .i64 ds, .string di, .int .i64 mh, .int .i64 mr, .int .i64 ms, .string mi, .bool false, .slice a o.length cap] 29) := HX2.out.below HAnY.out HX2.out.lt
  have HV3 : Hid (Blk wa3 (w.heap.size + 1) [.int .i64 yh, .int .i64 yr, .int .i64 ys, .string yi, .int .i64 yv] 31) := HV2.out.below HAnY.out HV2.out.lt
  have HR3 : Hid (Blk wa3 (w.heap.size + 2) [.int .i64 0, .int .i64 0, .int .i64 0, .int .i64 0, .string ⟨#[]⟩, .int .i64 0, .int .i64 0, .int .i64 0, .string ⟨#[]⟩, .bool false, .slice none 0 0] 29) := HR2.out.below HAnY.out HR2.out.lt
  have HQ3 : Hid (OwnY wa3 w.heap.size (.slice qa o.length qc) o) := own_keep HQ0.out HAnY.out
  have HB3 : Hid (Below w.heap.size w wa3) := HB2.out.trans (HAnY.out.mono HB2.out.size)
  have HY3 : Hid (Blk wa3 nY [.int .i64 0, .int .i64 0, .int .i64 0, .int .i64 0, .string ⟨#[]⟩, .int .i64 0, .int .i64 0, .int .i64 0, .string ⟨#[]⟩, .bool false, .slice none 0 0] 29) := by rw [← hwa3, ← hnY]; exact blk_new _ _ _
  clear HAnY HX2 HV2 HR2 HB2 HQ0
  have cX_0_3 := HX3.out.cell 0 rfl
  have cX_1_3 := HX3.out.cell 1 rfl
  have cX_2_3 := HX3.out.cell 2 rfl
  have cX_3_3 := HX3.out.cell 3 rfl
  have cX_4_3 := HX3.out.cell 4 rfl
  have cX_5_3 := HX3.out.cell 5 rfl
  have cX_6_3 := HX3.out.cell 6 rfl
  have cX_7_3 := HX3.out.cell 7 rfl
  have cX_8_3 := HX3.out.cell 8 rfl
  have cX_9_3 := HX3.out.cell 9 rfl
  have cX_10_3 := HX3.out.cell 10 rfl
  have cY_0_3 := HY3.out.cell 0 rfl
  have cY_1_3 := HY3.out.cell 1 rfl
  have cY_2_3 := HY3.out.cell 2 rfl
  have cY_3_3 := HY3.out.cell 3 rfl
  have cY_4_3 := HY3.out.cell 4 rfl
  have cY_5_3 := HY3.out.cell 5 rfl
  have cY_6_3 := HY3.out.cell 6 rfl
  have cY_7_3 := HY3.out.cell 7 rfl
  have cY_8_3 := HY3.out.cell 8 rfl
  have cY_9_3 := HY3.out.cell 9 rfl
  have cY_10_3 := HY3.out.cell 10 rfl
  have zY_3 := fun j => HY3.out.frozen j
  have KX := (((((((((((HX3.out.other 0 (.int .i64 yv) (show w.heap.size ≠ nY by omega)).other 1 (.int .i64 dh) (show w.heap.size ≠ nY by omega)).other 2 (.int .i64 dr) (show w.heap.size ≠ nY by omega)).other 3 (.int .i64 ds) (show w.heap.size ≠ nY by omega)).other 4 (.string di) (show w.heap.size ≠ nY by omega)).other 5 (.int .i64 mh) (show w.heap.size ≠ nY by omega)).other 6 (.int .i64 mr) (show w.heap.size ≠ nY by omega)).other 7 (.int .i64 ms) (show w.heap.size ≠ nY by omega)).other 8 (.string mi) (show w.heap.size ≠ nY by omega)).other 9 (.bool false) (show w.heap.size ≠ nY by omega)).other 10 (.slice qa o.length qc) (show w.heap.size ≠ nY by omega))
  have KV := (((((((((((HV3.out.other 0 (.int .i64 yv) (show (w.heap.size + 1) ≠ nY by omega)).other 1 (.int .i64 dh) (show (w.heap.size + 1) ≠ nY by omega)).other 2 (.int .i64 dr) (show (w.heap.size + 1) ≠ nY by omega)).other 3 (.int .i64 ds) (show (w.heap.size + 1) ≠ nY by omega)).other 4 (.string di) (show (w.heap.size + 1) ≠ nY by omega)).other 5 (.int .i64 mh) (show (w.heap.size + 1) ≠ nY by omega)).other 6 (.int .i64 mr) (show (w.heap.size + 1) ≠ nY by omega)).other 7 (.int .i64 ms) (show (w.heap.size + 1) ≠ nY by omega)).other 8 (.string mi) (show (w.heap.size + 1) ≠ nY by omega)).other 9 (.bool false) (show (w.heap.size + 1) ≠ nY by omega)).other 10 (.slice qa o.length qc) (show (w.heap.size + 1) ≠ nY by omega))
  have KR := (((((((((((HR3.out.other 0 (.int .i64 yv) (show (w.heap.size + 2) ≠ nY by omega)).other 1 (.int .i64 dh) (show (w.heap.size + 2) ≠ nY by omega)).other 2 (.int .i64 dr) (show (w.heap.size + 2) ≠ nY by omega)).other 3 (.int .i64 ds) (show (w.heap.size + 2) ≠ nY by omega)).other 4 (.string di) (show (w.heap.size + 2) ≠ nY by omega)).other 5 (.int .i64 mh) (show (w.heap.size + 2) ≠ nY by omega)).other 6 (.int .i64 mr) (show (w.heap.size + 2) ≠ nY by omega)).other 7 (.int .i64 ms) (show (w.heap.size + 2) ≠ nY by omega)).other 8 (.string mi) (show (w.heap.size + 2) ≠ nY by omega)).other 9 (.bool false) (show (w.heap.size + 2) ≠ nY by omega)).other 10 (.slice qa o.length qc) (show (w.heap.size + 2) ≠ nY by omega))
  have KY := (((((((((((HY3.out.set 0 (.int .i64 yv)).set 1 (.int .i64 dh)).set 2 (.int .i64 dr)).set 3 (.int .i64 ds)).set 4 (.string di)).set 5 (.int .i64 mh)).set 6 (.int .i64 mr)).set 7 (.int .i64 ms)).set 8 (.string mi)).set 9 (.bool false)).set 10 (.slice qa o.length qc))
  have KB := (((((((((((HB3.out.setCell (p := ⟨nY, 0, none⟩) (show w.heap.size ≤ nY by omega) (.int .i64 yv)).setCell (p := ⟨nY, 1, none⟩) (show w.heap.size ≤ nY by omega) (.int .i64 dh)).setCell (p := ⟨nY, 2, none⟩) (show w.heap.size ≤ nY by omega) (.int .i64 dr)).setCell (p := ⟨nY, 3, none⟩) (show w.heap.size ≤ nY by omega) (.int .i64 ds)).setCell (p := ⟨nY, 4, none⟩) (show w.heap.size ≤ nY by omega) (.string di)).setCell (p := ⟨nY, 5, none⟩) (show w.heap.size ≤ nY by omega) (.int .i64 mh)).setCell (p := ⟨nY, 6, none⟩) (show w.heap.size ≤ nY by omega) (.int .i64 mr)).setCell (p := ⟨nY, 7, none⟩) (show w.heap.size ≤ nY by omega) (.int .i64 ms)).setCell (p := ⟨nY, 8, none⟩) (show w.heap.size ≤ nY by omega) (.string mi)).setCell (p := ⟨nY, 9, none⟩) (show w.heap.size ≤ nY by omega) (.bool false)).setCell (p := ⟨nY, 10, none⟩) (show w.heap.size ≤ nY by omega) (.slice qa o.length qc))
  have KG : Hid (wa3.grownBy (((((((((((wa3.setCell ⟨nY, 0, none⟩ (.int .i64 yv)).setCell ⟨nY, 1, none⟩ (.int .i64 dh)).setCell ⟨nY, 2, none⟩ (.int .i64 dr)).setCell ⟨nY, 3, none⟩ (.int .i64 ds)).setCell ⟨nY, 4, none⟩ (.string di)).setCell ⟨nY, 5, none⟩ (.int .i64 mh)).setCell ⟨nY, 6, none⟩ (.int .i64 mr)).setCell ⟨nY, 7, none⟩ (.int .i64 ms)).setCell ⟨nY, 8, none⟩ (.string mi)).setCell ⟨nY, 9, none⟩ (.bool false)).setCell ⟨nY, 10, none⟩ (.slice qa o.length qc)) (some nY)) := grown_set (grown_set (grown_set (grown_set (grown_set (grown_set (grown_set (grown_set (grown_set (grown_set (grown_set (grown_refl _ _) _) _) _) _) _) _) _) _) _) _) _
  have KQ : Hid (OwnY (((((((((((wa3.setCell ⟨nY, 0, none⟩ (.int .i64 yv)).setCell ⟨nY, 1, none⟩ (.int .i64 dh)).setCell ⟨nY, 2, none⟩ (.int .i64 dr)).setCell ⟨nY, 3, none⟩ (.int .i64 ds)).setCell ⟨nY, 4, none⟩ (.string di)).setCell ⟨nY, 5, none⟩ (.int .i64 mh)).setCell ⟨nY, 6, none⟩ (.int .i64 mr)).setCell ⟨nY, 7, none⟩ (.int .i64 ms)).setCell ⟨nY, 8, none⟩ (.string mi)).setCell ⟨nY, 9, none⟩ (.bool false)).setCell ⟨nY, 10, none⟩ (.slice qa o.length qc)) w.heap.size (.slice qa o.length qc) o) := own_aside HQ3.out KG.out HY3.out
  go_upto_region 4 with fail
  clear hwa3 hnY cX_0_3 cX_1_3 cX_2_3 cX_3_3 cX_4_3 cX_5_3 cX_6_3 cX_7_3 cX_8_3 cX_9_3 cX_10_3 cY_0_3 cY_1_3 cY_2_3 cY_3_3 cY_4_3 cY_5_3 cY_6_3 cY_7_3 cY_8_3 cY_9_3 cY_10_3 zY_3
  generalize ((((((((((((wa3.setCell _ _).setCell _ _).setCell _ _).setCell _ _).setCell _ _).setCell _ _).setCell _ _).setCell _ _).setCell _ _).setCell _ _).setCell _ _) : World) = w4 at *
  have HX4 : Hid (Blk w4 w.heap.size [.int .i64 yv, .int .i64 dh, .int .i64 dr, .int .i64 ds, .string di, .int .i64 mh, .int .i64 mr, .int .i64 ms, .string mi, .bool false, .slice a o.length cap] 29) := KX
  have HV4 : Hid (Blk w4 (w.heap.size + 1) [.int .i64 yh, .int .i64 yr, .int .i64 ys, .string yi, .int .i64 yv] 31) := KV
  have HR4 : Hid (Blk w4 (w.heap.size + 2) [.int .i64 0, .int .i64 0, .int .i64 0, .int .i64 0, .string ⟨#[]⟩, .int .i64 0, .int .i64 0, .int .i64 0, .string ⟨#[]⟩, .bool false, .slice none 0 0] 29) := KR
  have HY4 : Hid (Blk w4 nY [.int .i64 yv, .int .i64 dh, .int .i64 dr, .int .i64 ds, .string di, .int .i64 mh, .int .i64 mr, .int .i64 ms, .string mi, .bool false, .slice qa o.length qc] 29) := KY
  have HQ4 : Hid (OwnY w4 w.heap.size (.slice qa o.length qc) o) := KQ
  have HB4 : Hid (Below w.heap.size w w4) := KB
  clear KX KV KR KY KB KG KQ HX3 HV3 HR3 HY3 HB3 HQ3
  have cX_0_4 := HX4.out.cell 0 rfl
  have cX_1_4 := HX4.out.cell 1 rfl
  have cX_2_4 := HX4.out.cell 2 rfl
  have cX_3_4 := HX4.out.cell 3 rfl
  have cX_4_4 := HX4.out.cell 4 rfl
  have cX_5_4 := HX4.out.cell 5 rfl
  have cX_6_4 := HX4.out.cell 6 rfl
  have cX_7_4 := HX4.out.cell 7 rfl
  have cX_8_4 := HX4.out.cell 8 rfl
  have cX_9_4 := HX4.out.cell 9 rfl
  have cX_10_4 := HX4.out.cell 10 rfl
  have cV_0_4 := HV4.out.cell 0 rfl
  have cV_1_4 := HV4.out.cell 1 rfl
  have cV_2_4 := HV4.out.cell 2 rfl
  have cV_3_4 := HV4.out.cell 3 rfl
  have cV_4_4 := HV4.out.cell 4 rfl
  have cY_0_4 := HY4.out.cell 0 rfl
  have cY_1_4 := HY4.out.cell 1 rfl
  have cY_2_4 := HY4.out.cell 2 rfl
  have cY_3_4 := HY4.out.cell 3 rfl
  have cY_4_4 := HY4.out.cell 4 rfl
  have cY_5_4 := HY4.out.cell 5 rfl
  have cY_6_4 := HY4.out.cell 6 rfl
  have cY_7_4 := HY4.out.cell 7 rfl
  have cY_8_4 := HY4.out.cell 8 rfl
  have cY_9_4 := HY4.out.cell 9 rfl
  have cY_10_4 := HY4.out.cell 10 rfl
  go_wp2_with fail
  clear cX_0_4 cX_1_4 cX_2_4 cX_3_4 cX_4_4 cX_5_4 cX_6_4 cX_7_4 cX_8_4 cX_9_4 cX_10_4 cV_0_4 cV_1_4 cV_2_4 cV_3_4 cV_4_4 cY_0_4 cY_1_4 cY_2_4 cY_3_4 cY_4_4 cY_5_4 cY_6_4 cY_7_4 cY_8_4 cY_9_4 cY_10_4
  refine (kM _).mono ?_
  rintro e w5 ⟨rfl, bb⟩
  have HX5 : Hid (Blk w5 w.heap.size [.int .i64 yv, .int .i64 dh, .int .i64 dr, .int .i64 ds, .string di, .int .i64 mh, .int .i64 mr, .int .i64 ms, .string mi, .bool false, .slice a o.length cap] 29) := HX4.out.below bb HX4.out.lt
  have HV5 : Hid (Blk w5 (w.heap.size + 1) [.int .i64 yh, .int .i64 yr, .int .i64 ys, .string yi, .int .i64 yv] 31) := HV4.out.below bb HV4.out.lt
  have HR5 : Hid (Blk w5 (w.heap.size + 2) [.int .i64 0, .int .i64 0, .int .i64 0, .int .i64 0, .string ⟨#[]⟩, .int .i64 0, .int .i64 0, .int .i64 0, .string ⟨#[]⟩, .bool false, .slice none 0 0] 29) := HR4.out.below bb HR4.out.lt
  have HY5 : Hid (Blk w5 nY [.int .i64 yv, .int .i64 dh, .int .i64 dr, .int .i64 ds, .string di, .int .i64 mh, .int .i64 mr, .int .i64 ms, .string mi, .bool false, .slice qa o.length qc] 29) := HY4.out.below bb HY4.out.lt
  have HQ5 : Hid (OwnY w5 w.heap.size (.slice qa o.length qc) o) := own_keep HQ4.out bb
  have HB5 : Hid (Below w.heap.size w w5) := HB4.out.trans (bb.mono HB4.out.size)
  clear HX4 HV4 HR4 HY4 HB4 HQ4
  clear bb
  clear kM
  have cX_0_5 := HX5.out.cell 0 rfl
  have cX_1_5 := HX5.out.cell 1 rfl
  have cX_2_5 := HX5.out.cell 2 rfl
  have cX_3_5 := HX5.out.cell 3 rfl
  have cX_4_5 := HX5.out.cell 4 rfl
  have cX_5_5 := HX5.out.cell 5 rfl
  have cX_6_5 := HX5.out.cell 6 rfl
  have cX_7_5 := HX5.out.cell 7 rfl
  have cX_8_5 := HX5.out.cell 8 rfl
  have cX_9_5 := HX5.out.cell 9 rfl
  have cX_10_5 := HX5.out.cell 10 rfl
  have cV_0_5 := HV5.out.cell 0 rfl
  have cV_1_5 := HV5.out.cell 1 rfl
  have cV_2_5 := HV5.out.cell 2 rfl
  have cV_3_5 := HV5.out.cell 3 rfl
  have cV_4_5 := HV5.out.cell 4 rfl
  have cY_0_5 := HY5.out.cell 0 rfl
  have cY_1_5 := HY5.out.cell 1 rfl
  have cY_2_5 := HY5.out.cell 2 rfl
  have cY_3_5 := HY5.out.cell 3 rfl
  have cY_4_5 := HY5.out.cell 4 rfl
  have cY_5_5 := HY5.out.cell 5 rfl
  have cY_6_5 := HY5.out.cell 6 rfl
  have cY_7_5 := HY5.out.cell 7 rfl
  have cY_8_5 := HY5.out.cell 8 rfl
  have cY_9_5 := HY5.out.cell 9 rfl
  have cY_10_5 := HY5.out.cell 10 rfl
  go_wp2_with fail
  clear cX_0_5 cX_1_5 cX_2_5 cX_3_5 cX_4_5 cX_5_5 cX_6_5 cX_7_5 cX_8_5 cX_9_5 cX_10_5 cV_0_5 cV_1_5 cV_2_5 cV_3_5 cV_4_5 cY_0_5 cY_1_5 cY_2_5 cY_3_5 cY_4_5 cY_5_5 cY_6_5 cY_7_5 cY_8_5 cY_9_5 cY_10_5
  refine (kO _).mono ?_
  rintro e w6 ⟨rfl, bb⟩
  have HX6 : Hid (Blk w6 w.heap.size [.int .i64 yv, .int .i64 dh, .int .i64 dr, .int .i64 ds, .string di, .int .i64 mh, .int .i64 mr, .int .i64 ms, .string mi, .bool false, .slice a o.length cap] 29) := HX5.out.below bb HX5.out.lt
  have HV6 : Hid (Blk w6 (w.heap.size + 1) [.int .i64 yh, .int .i64 yr, .int .i64 ys, .string yi, .int .i64 yv] 31) := HV5.out.below bb HV5.out.lt
  have HR6 : Hid (Blk w6 (w.heap.size + 2) [.int .i64 0, .int .i64 0, .int .i64 0, .int .i64 0, .string ⟨#[]⟩, .int .i64 0, .int .i64 0, .int .i64 0, .string ⟨#[]⟩, .bool false, .slice none 0 0] 29) := HR5.out.below bb HR5.out.lt
  have HY6 : Hid (Blk w6 nY [.int .i64 yv, .int .i64 dh, .int .i64 dr, .int .i64 ds, .string di, .int .i64 mh, .int .i64 mr, .int .i64 ms, .string mi, .bool false, .slice qa o.length qc] 29) := HY5.out.below bb HY5.out.lt
  have HQ6 : Hid (OwnY w6 w.heap.size (.slice qa o.length qc) o) := own_keep HQ5.out bb
  have HB6 : Hid (Below w.heap.size w w6) := HB5.out.trans (bb.mono HB5.out.size)
  clear HX5 HV5 HR5 HY5 HB5 HQ5
  clear bb
  clear kO
  have cY_0_6 := HY6.out.cell 0 rfl
  have cY_1_6 := HY6.out.cell 1 rfl
  have cY_2_6 := HY6.out.cell 2 rfl
  have cY_3_6 := HY6.out.cell 3 rfl
  have cY_4_6 := HY6.out.cell 4 rfl
  have cY_5_6 := HY6.out.cell 5 rfl
  have cY_6_6 := HY6.out.cell 6 rfl
  have cY_7_6 := HY6.out.cell 7 rfl
  have cY_8_6 := HY6.out.cell 8 rfl
  have cY_9_6 := HY6.out.cell 9 rfl
  have cY_10_6 := HY6.out.cell 10 rfl
  have zY_6 := fun j => HY6.out.frozen j
  have KX := ((((HX6.out.other 5 (.int .i64 yh) (show w.heap.size ≠ nY by omega)).other 6 (.int .i64 yr) (show w.heap.size ≠ nY by omega)).other 7 (.int .i64 ys) (show w.heap.size ≠ nY by omega)).other 8 (.string yi) (show w.heap.size ≠ nY by omega))
  have KV := ((((HV6.out.other 5 (.int .i64 yh) (show (w.heap.size + 1) ≠ nY by omega)).other 6 (.int .i64 yr) (show (w.heap.size + 1) ≠ nY by omega)).other 7 (.int .i64 ys) (show (w.heap.size + 1) ≠ nY by omega)).other 8 (.string yi) (show (w.heap.size + 1) ≠ nY by omega))
  have KR := ((((HR6.out.other 5 (.int .i64 yh) (show (w.heap.size + 2) ≠ nY by omega)).other 6 (.int .i64 yr) (show (w.heap.size + 2) ≠ nY by omega)).other 7 (.int .i64 ys) (show (w.heap.size + 2) ≠ nY by omega)).other 8 (.string yi) (show (w.heap.size + 2) ≠ nY by omega))
  have KY := ((((HY6.out.set 5 (.int .i64 yh)).set 6 (.int .i64 yr)).set 7 (.int .i64 ys)).set 8 (.string yi))
  have KB := ((((HB6.out.setCell (p := ⟨nY, 5, none⟩) (show w.heap.size ≤ nY by omega) (.int .i64 yh)).setCell (p := ⟨nY, 6, none⟩) (show w.heap.size ≤ nY by omega) (.int .i64 yr)).setCell (p := ⟨nY, 7, none⟩) (show w.heap.size ≤ nY by omega) (.int .i64 ys)).setCell (p := ⟨nY, 8, none⟩) (show w.heap.size ≤ nY by omega) (.string yi))
  have KG : Hid (w6.grownBy ((((w6.setCell ⟨nY, 5, none⟩ (.int .i64 yh)).setCell ⟨nY, 6, none⟩ (.int .i64 yr)).setCell ⟨nY, 7, none⟩ (.int .i64 ys)).setCell ⟨nY, 8, none⟩ (.string yi)) (some nY)) := grown_set (grown_set (grown_set (grown_set (grown_refl _ _) _) _) _) _
  have KQ : Hid (OwnY ((((w6.setCell ⟨nY, 5, none⟩ (.int .i64 yh)).setCell ⟨nY, 6, none⟩ (.int .i64 yr)).setCell ⟨nY, 7, none⟩ (.int .i64 ys)).setCell ⟨nY, 8, none⟩ (.string yi)) w.heap.size (.slice qa o.length qc) o) := own_aside HQ6.out KG.out HY6.out
  go_upto_region 10 with fail
  clear cY_0_6 cY_1_6 cY_2_6 cY_3_6 cY_4_6 cY_5_6 cY_6_6 cY_7_6 cY_8_6 cY_9_6 cY_10_6 zY_6
  generalize (((((w6.setCell _ _).setCell _ _).setCell _ _).setCell _ _) : World) = w7 at *
  have HX7 : Hid (Blk w7 w.heap.size [.int .i64 yv, .int .i64 dh, .int .i64 dr, .int .i64 ds, .string di, .int .i64 mh, .int .i64 mr, .int .i64 ms, .string mi, .bool false, .slice a o.length cap] 29) := KX
  have HV7 : Hid (Blk w7 (w.heap.size + 1) [.int .i64 yh, .int .i64 yr, .int .i64 ys, .string yi, .int .i64 yv] 31) := KV
  have HR7 : Hid (Blk w7 (w.heap.size + 2) [.int .i64 0, .int .i64 0, .int .i64 0, .int .i64 0, .string ⟨#[]⟩, .int .i64 0, .int .i64 0, .int .i64 0, .string ⟨#[]⟩, .bool false, .slice none 0 0] 29) := KR
  have HY7 : Hid (Blk w7 nY [.int .i64 yv, .int .i64 dh, .int .i64 dr, .int .i64 ds, .string di, .int .i64 yh, .int .i64 yr, .int .i64 ys, .string yi, .bool false, .slice qa o.length qc] 29) := KY
  have HQ7 : Hid (OwnY w7 w.heap.size (.slice qa o.length qc) o) := KQ
  have HB7 : Hid (Below w.heap.size w w7) := KB
  clear KX KV KR KY KB KG KQ HX6 HV6 HR6 HY6 HB6 HQ6
  have cY_0_7 := HY7.out.cell 0 rfl
  have cY_1_7 := HY7.out.cell 1 rfl
  have cY_2_7 := HY7.out.cell 2 rfl
  have cY_3_7 := HY7.out.cell 3 rfl
  have cY_4_7 := HY7.out.cell 4 rfl
  have cY_5_7 := HY7.out.cell 5 rfl
  have cY_6_7 := HY7.out.cell 6 rfl
  have cY_7_7 := HY7.out.cell 7 rfl
  have cY_8_7 := HY7.out.cell 8 rfl
  have cY_9_7 := HY7.out.cell 9 rfl
  have cY_10_7 := HY7.out.cell 10 rfl
  have zY_7 := fun j => HY7.out.frozen j
  have KX := (HX7.out.other 9 (.bool true) (show w.heap.size ≠ nY by omega))
  have KV := (HV7.out.other 9 (.bool true) (show (w.heap.size + 1) ≠ nY by omega))
  have KR := (HR7.out.other 9 (.bool true) (show (w.heap.size + 2) ≠ nY by omega))
  have KY := (HY7.out.set 9 (.bool true))
  have KB := (HB7.out.setCell (p := ⟨nY, 9, none⟩) (show w.heap.size ≤ nY by omega) (.bool true))
  have KG : Hid (w7.grownBy (w7.setCell ⟨nY, 9, none⟩ (.bool true)) (some nY)) := grown_set (grown_refl _ _) _
  have KQ : Hid (OwnY (w7.setCell ⟨nY, 9, none⟩ (.bool true)) w.heap.size (.slice qa o.length qc) o) := own_aside HQ7.out KG.out HY7.out
  go_upto_region 13 with fail
  clear cY_0_7 cY_1_7 cY_2_7 cY_3_7 cY_4_7 cY_5_7 cY_6_7 cY_7_7 cY_8_7 cY_9_7 cY_10_7 zY_7
  generalize ((w7.setCell _ _) : World) = w8 at *
  have HX8 : Hid (Blk w8 w.heap.size [.int .i64 yv, .int .i64 dh, .int .i64 dr, .int .i64 ds, .string di, .int .i64 mh, .int .i64 mr, .int .i64 ms, .string mi, .bool false, .slice a o.length cap] 29) := KX
  have HV8 : Hid (Blk w8 (w.heap.size + 1) [.int .i64 yh, .int .i64 yr, .int .i64 ys, .string yi, .int .i64 yv] 31) := KV
  have HR8 : Hid (Blk w8 (w.heap.size + 2) [.int .i64 0, .int .i64 0, .int .i64 0, .int .i64 0, .string ⟨#[]⟩, .int .i64 0, .int .i64 0, .int .i64 0, .string ⟨#[]⟩, .bool false, .slice none 0 0] 29) := KR
  have HY8 : Hid (Blk w8 nY [.int .i64 yv, .int .i64 dh, .int .i64 dr, .int .i64 ds, .string di, .int .i64 yh, .int .i64 yr, .int .i64 ys, .string yi, .bool true, .slice qa o.length qc] 29) := KY
  have HQ8 : Hid (OwnY w8 w.heap.size (.slice qa o.length qc) o) := KQ
  have HB8 : Hid (Below w.heap.size w w8) := KB
  clear KX KV KR KY KB KG KQ HX7 HV7 HR7 HY7 HB7 HQ7
  have cX_0_8 := HX8.out.cell 0 rfl
  have cX_1_8 := HX8.out.cell 1 rfl
  have cX_2_8 := HX8.out.cell 2 rfl
  have cX_3_8 := HX8.out.cell 3 rfl
  have cX_4_8 := HX8.out.cell 4 rfl
  have cX_5_8 := HX8.out.cell 5 rfl
  have cX_6_8 := HX8.out.cell 6 rfl
  have cX_7_8 := HX8.out.cell 7 rfl
  have cX_8_8 := HX8.out.cell 8 rfl
  have cX_9_8 := HX8.out.cell 9 rfl
  have cX_10_8 := HX8.out.cell 10 rfl
  have cR_0_8 := HR8.out.cell 0 rfl
  have cR_1_8 := HR8.out.cell 1 rfl
  have cR_2_8 := HR8.out.cell 2 rfl
  have cR_3_8 := HR8.out.cell 3 rfl
  have cR_4_8 := HR8.out.cell 4 rfl
  have cR_5_8 := HR8.out.cell 5 rfl
  have cR_6_8 := HR8.out.cell 6 rfl
  have cR_7_8 := HR8.out.cell 7 rfl
  have cR_8_8 := HR8.out.cell 8 rfl
  have cR_9_8 := HR8.out.cell 9 rfl
  have cR_10_8 := HR8.out.cell 10 rfl
  have cY_0_8 := HY8.out.cell 0 rfl
  have cY_1_8 := HY8.out.cell 1 rfl
  have cY_2_8 := HY8.out.cell 2 rfl
  have cY_3_8 := HY8.out.cell 3 rfl
  have cY_4_8 := HY8.out.cell 4 rfl
  have cY_5_8 := HY8.out.cell 5 rfl
  have cY_6_8 := HY8.out.cell 6 rfl
  have cY_7_8 := HY8.out.cell 7 rfl
  have cY_8_8 := HY8.out.cell 8 rfl
  have cY_9_8 := HY8.out.cell 9 rfl
  have cY_10_8 := HY8.out.cell 10 rfl
  have zR_8 := fun j => HR8.out.frozen j
  have KX := (((((((((((HX8.out.other 0 (.int .i64 yv) (show w.heap.size ≠ (w.heap.size + 2) by omega)).other 1 (.int .i64 dh) (show w.heap.size ≠ (w.heap.size + 2) by omega)).other 2 (.int .i64 dr) (show w.heap.size ≠ (w.heap.size + 2) by omega)).other 3 (.int .i64 ds) (show w.heap.size ≠ (w.heap.size + 2) by omega)).other 4 (.string di) (show w.heap.size ≠ (w.heap.size + 2) by omega)).other 5 (.int .i64 yh) (show w.heap.size ≠ (w.heap.size + 2) by omega)).other 6 (.int .i64 yr) (show w.heap.size ≠ (w.heap.size + 2) by omega)).other 7 (.int .i64 ys) (show w.heap.size ≠ (w.heap.size + 2) by omega)).other 8 (.string yi) (show w.heap.size ≠ (w.heap.size + 2) by omega)).other 9 (.bool true) (show w.heap.size ≠ (w.heap.size + 2) by omega)).other 10 (.slice qa o.length qc) (show w.heap.size ≠ (w.heap.size + 2) by omega))
  have KV := (((((((((((HV8.out.other 0 (.int .i64 yv) (show (w.heap.size + 1) ≠ (w.heap.size + 2) by omega)).other 1 (.int .i64 dh) (show (w.heap.size + 1) ≠ (w.heap.size + 2) by omega)).other 2 (.int .i64 dr) (show (w.heap.size + 1) ≠ (w.heap.size + 2) by omega)).other 3 (.int .i64 ds) (show (w.heap.size + 1) ≠ (w.heap.size + 2) by omega)).other 4 (.string di) (show (w.heap.size + 1) ≠ (w.heap.size + 2) by omega)).other 5 (.int .i64 yh) (show (w.heap.size + 1) ≠ (w.heap.size + 2) by omega)).other 6 (.int .i64 yr) (show (w.heap.size + 1) ≠ (w.heap.size + 2) by omega)).other 7 (.int .i64 ys) (show (w.heap.size + 1) ≠ (w.heap.size + 2) by omega)).other 8 (.string yi) (show (w.heap.size + 1) ≠ (w.heap.size + 2) by omega)).other 9 (.bool true) (show (w.heap.size + 1) ≠ (w.heap.size + 2) by omega)).other 10 (.slice qa o.length qc) (show (w.heap.size + 1) ≠ (w.heap.size + 2) by omega))
  have KR := (((((((((((HR8.out.set 0 (.int .i64 yv)).set 1 (.int .i64 dh)).set 2 (.int .i64 dr)).set 3 (.int .i64 ds)).set 4 (.string di)).set 5 (.int .i64 yh)).set 6 (.int .i64 yr)).set 7 (.int .i64 ys)).set 8 (.string yi)).set 9 (.bool true)).set 10 (.slice qa o.length qc))
  have KY := (((((((((((HY8.out.other 0 (.int .i64 yv) (show nY ≠ (w.heap.size + 2) by omega)).other 1 (.int .i64 dh) (show nY ≠ (w.heap.size + 2) by omega)).other 2 (.int .i64 dr) (show nY ≠ (w.heap.size + 2) by omega)).other 3 (.int .i64 ds) (show nY ≠ (w.heap.size + 2) by omega)).other 4 (.string di) (show nY ≠ (w.heap.size + 2) by omega)).other 5 (.int .i64 yh) (show nY ≠ (w.heap.size + 2) by omega)).other 6 (.int .i64 yr) (show nY ≠ (w.heap.size + 2) by omega)).other 7 (.int .i64 ys) (show nY ≠ (w.heap.size + 2) by omega)).other 8 (.string yi) (show nY ≠ (w.heap.size + 2) by omega)).other 9 (.bool true) (show nY ≠ (w.heap.size + 2) by omega)).other 10 (.slice qa o.length qc) (show nY ≠ (w.heap.size + 2) by omega))
  have KB := (((((((((((HB8.out.setCell (p := ⟨(w.heap.size + 2), 0, none⟩) (show w.heap.size ≤ (w.heap.size + 2) by omega) (.int .i64 yv)).setCell (p := ⟨(w.heap.size + 2), 1, none⟩) (show w.heap.size ≤ (w.heap.size + 2) by omega) (.int .i64 dh)).setCell (p := ⟨(w.heap.size + 2), 2, none⟩) (show w.heap.size ≤ (w.heap.size + 2) by omega) (.int .i64 dr)).setCell (p := ⟨(w.heap.size + 2), 3, none⟩) (show w.heap.size ≤ (w.heap.size + 2) by omega) (.int .i64 ds)).setCell (p := ⟨(w.heap.size + 2), 4, none⟩) (show w.heap.size ≤ (w.heap.size + 2) by omega) (.string di)).setCell (p := ⟨(w.heap.size + 2), 5, none⟩) (show w.heap.size ≤ (w.heap.size + 2) by omega) (.int .i64 yh)).setCell (p := ⟨(w.heap.size + 2), 6, none⟩) (show w.heap.size ≤ (w.heap.size + 2) by omega) (.int .i64 yr)).setCell (p := ⟨(w.heap.size + 2), 7, none⟩) (show w.heap.size ≤ (w.heap.size + 2) by omega) (.int .i64 ys)).setCell (p := ⟨(w.heap.size + 2), 8, none⟩) (show w.heap.size ≤ (w.heap.size + 2) by omega) (.string yi)).setCell (p := ⟨(w.heap.size + 2), 9, none⟩) (show w.heap.size ≤ (w.heap.size + 2) by omega) (.bool true)).setCell (p := ⟨(w.heap.size + 2), 10, none⟩) (show w.heap.size ≤ (w.heap.size + 2) by omega) (.slice qa o.length qc))
  have KG : Hid (w8.grownBy (((((((((((w8.setCell ⟨(w.heap.size + 2), 0, none⟩ (.int .i64 yv)).setCell ⟨(w.heap.size + 2), 1, none⟩ (.int .i64 dh)).setCell ⟨(w.heap.size + 2), 2, none⟩ (.int .i64 dr)).setCell ⟨(w.heap.size + 2), 3, none⟩ (.int .i64 ds)).setCell ⟨(w.heap.size + 2), 4, none⟩ (.string di)).setCell ⟨(w.heap.size + 2), 5, none⟩ (.int .i64 yh)).setCell ⟨(w.heap.size + 2), 6, none⟩ (.int .i64 yr)).setCell ⟨(w.heap.size + 2), 7, none⟩ (.int .i64 ys)).setCell ⟨(w.heap.size + 2), 8, none⟩ (.string yi)).setCell ⟨(w.heap.size + 2), 9, none⟩ (.bool true)).setCell ⟨(w.heap.size + 2), 10, none⟩ (.slice qa o.length qc)) (some (w.heap.size + 2))) := grown_set (grown_set (grown_set (grown_set (grown_set (grown_set (grown_set (grown_set (grown_set (grown_set (grown_set (grown_refl _ _) _) _) _) _) _) _) _) _) _) _) _
  have KQ : Hid (OwnY (((((((((((w8.setCell ⟨(w.heap.size + 2), 0, none⟩ (.int .i64 yv)).setCell ⟨(w.heap.size + 2), 1, none⟩ (.int .i64 dh)).setCell ⟨(w.heap.size + 2), 2, none⟩ (.int .i64 dr)).setCell ⟨(w.heap.size + 2), 3, none⟩ (.int .i64 ds)).setCell ⟨(w.heap.size + 2), 4, none⟩ (.string di)).setCell ⟨(w.heap.size + 2), 5, none⟩ (.int .i64 yh)).setCell ⟨(w.heap.size + 2), 6, none⟩ (.int .i64 yr)).setCell ⟨(w.heap.size + 2), 7, none⟩ (.int .i64 ys)).setCell ⟨(w.heap.size + 2), 8, none⟩ (.string yi)).setCell ⟨(w.heap.size + 2), 9, none⟩ (.bool true)).setCell ⟨(w.heap.size + 2), 10, none⟩ (.slice qa o.length qc)) w.heap.size (.slice qa o.length qc) o) := own_aside HQ8.out KG.out HR8.out
  go_wp2_with fail
  clear cX_0_8 cX_1_8 cX_2_8 cX_3_8 cX_4_8 cX_5_8 cX_6_8 cX_7_8 cX_8_8 cX_9_8 cX_10_8 cR_0_8 cR_1_8 cR_2_8 cR_3_8 cR_4_8 cR_5_8 cR_6_8 cR_7_8 cR_8_8 cR_9_8 cR_10_8 cY_0_8 cY_1_8 cY_2_8 cY_3_8 cY_4_8 cY_5_8 cY_6_8 cY_7_8 cY_8_8 cY_9_8 cY_10_8 zR_8
  generalize ((((((((((((w8.setCell _ _).setCell _ _).setCell _ _).setCell _ _).setCell _ _).setCell _ _).setCell _ _).setCell _ _).setCell _ _).setCell _ _).setCell _ _) : World) = w9 at *
  have HX9 : Hid (Blk w9 w.heap.size [.int .i64 yv, .int .i64 dh, .int .i64 dr, .int .i64 ds, .string di, .int .i64 mh, .int .i64 mr, .int .i64 ms, .string mi, .bool false, .slice a o.length cap] 29) := KX
  have HV9 : Hid (Blk w9 (w.heap.size + 1) [.int .i64 yh, .int .i64 yr, .int .i64 ys, .string yi, .int .i64 yv] 31) := KV
  have HR9 : Hid (Blk w9 (w.heap.size + 2) [.int .i64 yv, .int .i64 dh, .int .i64 dr, .int .i64 ds, .string di, .int .i64 yh, .int .i64 yr, .int .i64 ys, .string yi, .bool true, .slice qa o.length qc] 29) := KR
  have HY9 : Hid (Blk w9 nY [.int .i64 yv, .int .i64 dh, .int .i64 dr, .int .i64 ds, .string di, .int .i64 yh, .int .i64 yr, .int .i64 ys, .string yi, .bool true, .slice qa o.length qc] 29) := KY
  have HQ9 : Hid (OwnY w9 w.heap.size (.slice qa o.length qc) o) := KQ
  have HB9 : Hid (Below w.heap.size w w9) := KB
  clear KX KV KR KY KB KG KQ HX8 HV8 HR8 HY8 HB8 HQ8
  have y0 := HR9.out.cell 0 rfl
  have y1 := HR9.out.cell 1 rfl
  have y2 := HR9.out.cell 2 rfl
  have y3 := HR9.out.cell 3 rfl
  have y4 := HR9.out.cell 4 rfl
  have y5 := HR9.out.cell 5 rfl
  have y6 := HR9.out.cell 6 rfl
  have y7 := HR9.out.cell 7 rfl
  have y8 := HR9.out.cell 8 rfl
  have y9 := HR9.out.cell 9 rfl
  have y10 := HR9.out.cell 10 rfl
  refine bodyPost_ret (v := .tuple #[.agg #[.int .i64 yv, .int .i64 dh, .int .i64 dr, .int .i64 ds, .string di, .int .i64 yh, .int .i64 yr, .int .i64 ys, .string yi, .bool true, .slice qa o.length qc], .int .i64 0]) (by simp [results, Try.results15, go_sem, y0, y1, y2, y3, y4, y5, y6, y7, y8, y9, y10]) rfl ⟨_, _, rfl, HQ9.out, HB9.out⟩
set_option maxHeartbeats 6400000 in
set_option maxRecDepth 100000 in
theorem sask_same (x : Sg) (y : Vt) (a : Option Addr) (cap : Nat) (w : World) (hl : YO w a x.o) (hz : a = none → cap = 0) (hlen : x.o.length ≤ 9223372036854775807) (hs : sOk x = true) (hp : x.p = false) (hv : y.v = x.v) (h60 : x.o.length < 60) (hm : mayS x.m y = 1) :
    Calls Try.prog 15 #[sV x a cap, tV y] w fun e w' => ∃ qa qc, e = .returned (.tuple #[sQ (⟨x.v, x.d, x.m, x.p, x.o ++ [y]⟩ : Sg) (.slice qa (x.o ++ [y]).length qc), .int .i64 1]) ∧ Hid (OwnY w' w.heap.size (.slice qa (x.o ++ [y]).length qc) (x.o ++ [y])) ∧ Below w.heap.size w w' := by
  have HY : Hid (YO w a x.o) := hl
  have kS := fun W (h : YO W a x.o) => spec_sok x a cap W h (by omega)
  simp only [hs] at kS
  have hlo : x.o.length ≤ 60 := sOk_len hs
  have kC := fun W (h : YO W a x.o) => spec_copy x a cap W h hz (by omega)
  have kM := fun W => spec_may x.m y W
  have HSY : Hid (SmV y) := vo_sm (may_ne (g := x.m) (by rw [hm]; decide)).2
  simp only [hm] at kM
  obtain ⟨v, ⟨dh, dr, ds, di⟩, ⟨mh, mr, ms, mi⟩, p, o⟩ := x
  obtain ⟨yh, yr, ys, yi, yv⟩ := y
  unfold sV sQ tV at *
  unfold gV at *
  simp only at *
  subst hp
  subst hv
  have hge : ¬ (60 : Int) ≤ (o.length : Int) := by omega
  obtain ⟨oo, hoo⟩ : ∃ l, o ++ [(⟨yh, yr, ys, yi, yv⟩ : Vt)] = l := ⟨_, rfl⟩
  rw [hoo]
  have HOO : Hid (o ++ [(⟨yh, yr, ys, yi, yv⟩ : Vt)] = oo) := hoo
  clear hoo
  clear HSY
  clear hl hs
  obtain ⟨W0, hW0⟩ : ∃ W, ((w.alloc (.cells #[.int .i64 yv, .int .i64 dh, .int .i64 dr, .int .i64 ds, .string di, .int .i64 mh, .int .i64 mr, .int .i64 ms, .string mi, .bool false, .slice a o.length cap] 29)).alloc (.cells #[.int .i64 yh, .int .i64 yr, .int .i64 ys, .string yi, .int .i64 yv] 31)).alloc (.cells #[.int .i64 0, .int .i64 0, .int .i64 0, .int .i64 0, .string ⟨#[]⟩, .int .i64 0, .int .i64 0, .int .i64 0, .string ⟨#[]⟩, .bool false, .slice none 0 0] 29) = W := ⟨_, rfl⟩
  have HX0 : Hid (Blk W0 w.heap.size [.int .i64 yv, .int .i64 dh, .int .i64 dr, .int .i64 ds, .string di, .int .i64 mh, .int .i64 mr, .int .i64 ms, .string mi, .bool false, .slice a o.length cap] 29) := by
    rw [← hW0]
    have hnew := blk_new (w) [.int .i64 yv, .int .i64 dh, .int .i64 dr, .int .i64 ds, .string di, .int .i64 mh, .int .i64 mr, .int .i64 ms, .string mi, .bool false, .slice a o.length cap] 29
    exact ((hnew.alloc _).alloc _)
  have HV0 : Hid (Blk W0 (w.heap.size + 1) [.int .i64 yh, .int .i64 yr, .int .i64 ys, .string yi, .int .i64 yv] 31) := by
    rw [← hW0]
    have hnew := blk_new (w.alloc (.cells #[.int .i64 yv, .int .i64 dh, .int .i64 dr, .int .i64 ds, .string di, .int .i64 mh, .int .i64 mr, .int .i64 ms, .string mi, .bool false, .slice a o.length cap] 29)) [.int .i64 yh, .int .i64 yr, .int .i64 ys, .string yi, .int .i64 yv] 31
    rw [show (w.alloc (.cells #[.int .i64 yv, .int .i64 dh, .int .i64 dr, .int .i64 ds, .string di, .int .i64 mh, .int .i64 mr, .int .i64 ms, .string mi, .bool false, .slice a o.length cap] 29)).heap.size = w.heap.size + 1 from by simp] at hnew
    exact (hnew.alloc _)
  have HR0 : Hid (Blk W0 (w.heap.size + 2) [.int .i64 0, .int .i64 0, .int .i64 0, .int .i64 0, .string ⟨#[]⟩, .int .i64 0, .int .i64 0, .int .i64 0, .string ⟨#[]⟩, .bool false, .slice none 0 0] 29) := by
    rw [← hW0]
    have hnew := blk_new ((w.alloc (.cells #[.int .i64 yv, .int .i64 dh, .int .i64 dr, .int .i64 ds, .string di, .int .i64 mh, .int .i64 mr, .int .i64 ms, .string mi, .bool false, .slice a o.length cap] 29)).alloc (.cells #[.int .i64 yh, .int .i64 yr, .int .i64 ys, .string yi, .int .i64 yv] 31)) [.int .i64 0, .int .i64 0, .int .i64 0, .int .i64 0, .string ⟨#[]⟩, .int .i64 0, .int .i64 0, .int .i64 0, .string ⟨#[]⟩, .bool false, .slice none 0 0] 29
    rw [show ((w.alloc (.cells #[.int .i64 yv, .int .i64 dh, .int .i64 dr, .int .i64 ds, .string di, .int .i64 mh, .int .i64 mr, .int .i64 ms, .string mi, .bool false, .slice a o.length cap] 29)).alloc (.cells #[.int .i64 yh, .int .i64 yr, .int .i64 ys, .string yi, .int .i64 yv] 31)).heap.size = w.heap.size + 2 from by simp] at hnew
    exact hnew
  have HB0 : Hid (Below w.heap.size w W0) := by rw [← hW0]; exact (((Below.refl w.heap.size w).alloc (Nat.le_refl _) _).alloc (by simp; try omega) _).alloc (by simp; try omega) _
  go_enter Try.func15, Try.ntmps15
  have cX_0_0 := HX0.out.cell 0 rfl
  have cX_1_0 := HX0.out.cell 1 rfl
  have cX_2_0 := HX0.out.cell 2 rfl
  have cX_3_0 := HX0.out.cell 3 rfl
  have cX_4_0 := HX0.out.cell 4 rfl
  have cX_5_0 := HX0.out.cell 5 rfl
  have cX_6_0 := HX0.out.cell 6 rfl
  have cX_7_0 := HX0.out.cell 7 rfl
  have cX_8_0 := HX0.out.cell 8 rfl
  have cX_9_0 := HX0.out.cell 9 rfl
  have cX_10_0 := HX0.out.cell 10 rfl
  go_wp2_with fail
  clear hW0 cX_0_0 cX_1_0 cX_2_0 cX_3_0 cX_4_0 cX_5_0 cX_6_0 cX_7_0 cX_8_0 cX_9_0 cX_10_0
  refine (kS _ (HY.out.below HB0.out)).mono ?_
  rintro e w1 ⟨rfl, bb⟩
  have HX1 : Hid (Blk w1 w.heap.size [.int .i64 yv, .int .i64 dh, .int .i64 dr, .int .i64 ds, .string di, .int .i64 mh, .int .i64 mr, .int .i64 ms, .string mi, .bool false, .slice a o.length cap] 29) := HX0.out.below bb HX0.out.lt
  have HV1 : Hid (Blk w1 (w.heap.size + 1) [.int .i64 yh, .int .i64 yr, .int .i64 ys, .string yi, .int .i64 yv] 31) := HV0.out.below bb HV0.out.lt
  have HR1 : Hid (Blk w1 (w.heap.size + 2) [.int .i64 0, .int .i64 0, .int .i64 0, .int .i64 0, .string ⟨#[]⟩, .int .i64 0, .int .i64 0, .int .i64 0, .string ⟨#[]⟩, .bool false, .slice none 0 0] 29) := HR0.out.below bb HR0.out.lt
  have HB1 : Hid (Below w.heap.size w w1) := HB0.out.trans (bb.mono HB0.out.size)
  clear HX0 HV0 HR0 HB0
  clear bb
  clear kS
  have cX_0_1 := HX1.out.cell 0 rfl
  have cX_1_1 := HX1.out.cell 1 rfl
  have cX_2_1 := HX1.out.cell 2 rfl
  have cX_3_1 := HX1.out.cell 3 rfl
  have cX_4_1 := HX1.out.cell 4 rfl
  have cX_5_1 := HX1.out.cell 5 rfl
  have cX_6_1 := HX1.out.cell 6 rfl
  have cX_7_1 := HX1.out.cell 7 rfl
  have cX_8_1 := HX1.out.cell 8 rfl
  have cX_9_1 := HX1.out.cell 9 rfl
  have cX_10_1 := HX1.out.cell 10 rfl
  go_wp2_with fail
  clear cX_0_1 cX_1_1 cX_2_1 cX_3_1 cX_4_1 cX_5_1 cX_6_1 cX_7_1 cX_8_1 cX_9_1 cX_10_1
  refine (kC _ (HY.out.below HB1.out)).mono ?_
  rintro e w2 ⟨q, rfl, HQ, bb⟩
  obtain ⟨qa, qc, rfl⟩ := own_shape HQ.out
  have HQ0 : Hid (OwnY w2 w.heap.size (.slice qa o.length qc) o) := own_less HQ.out HB1.out.size
  have HX2 : Hid (Blk w2 w.heap.size [.int .i64 yv, .int .i64 dh, .int .i64 dr, .int .i64 ds, .string di, .int .i64 mh, .int .i64 mr, .int .i64 ms, .string mi, .bool false, .slice a o.length cap] 29) := HX1.out.below bb HX1.out.lt
  have HV2 : Hid (Blk w2 (w.heap.size + 1) [.int .i64 yh, .int .i64 yr, .int .i64 ys, .string yi, .int .i64 yv] 31) := HV1.out.below bb HV1.out.lt
  have HR2 : Hid (Blk w2 (w.heap.size + 2) [.int .i64 0, .int .i64 0, .int .i64 0, .int .i64 0, .string ⟨#[]⟩, .int .i64 0, .int .i64 0, .int .i64 0, .string ⟨#[]⟩, .bool false, .slice none 0 0] 29) := HR1.out.below bb HR1.out.lt
  have HB2 : Hid (Below w.heap.size w w2) := HB1.out.trans (bb.mono HB1.out.size)
  clear HX1 HV1 HR1 HB1
  clear bb kC HQ HY
  obtain ⟨wa3, hwa3⟩ : ∃ W, w2.alloc (.cells #[.int .i64 0, .int .i64 0, .int .i64 0, .int .i64 0, .string ⟨#[]⟩, .int .i64 0, .int .i64 0, .int .i64 0, .string ⟨#[]⟩, .bool false, .slice none 0 0] 29) = W := ⟨_, rfl⟩
  obtain ⟨nY, hnY⟩ : ∃ n, w2.heap.size = n := ⟨_, rfl⟩
  have hnYX : w.heap.size < nY := by rw [← hnY]; exact HX2.out.lt
  have hnYV : (w.heap.size + 1) < nY := by rw [← hnY]; exact HV2.out.lt
  have hnYR : (w.heap.size + 2) < nY := by rw [← hnY]; exact HR2.out.lt
  have HAnY : Hid (Below w2.heap.size w2 wa3) := by rw [← hwa3]; exact below_one _ _
  have HX3 : Hid (Blk wa3 w.heap.size [.int .i64 yv, .int .i64 dh, .int .i64 dr, .int .i64 ds, .string di, .int .i64 mh, .int .i64 mr, .int .i64 ms, .string mi, .bool false, .slice a o.length cap] 29) := HX2.out.below HAnY.out HX2.out.lt
  have HV3 : Hid (Blk wa3 (w.heap.size + 1) [.int .i64 yh, .int .i64 yr, .int .i64 ys, .string yi, .int .i64 yv] 31) := HV2.out.below HAnY.out HV2.out.lt
  have HR3 : Hid (Blk wa3 (w.heap.size + 2) [.int .i64 0, .int .i64 0, .int .i64 0, .int .i64 0, .string ⟨#[]⟩, .int .i64 0, .int .i64 0, .int .i64 0, .string ⟨#[]⟩, .bool false, .slice none 0 0] 29) := HR2.out.below HAnY.out HR2.out.lt
  have HQ3 : Hid (OwnY wa3 w.heap.size (.slice qa o.length qc) o) := own_keep HQ0.out HAnY.out
  have HB3 : Hid (Below w.heap.size w wa3) := HB2.out.trans (HAnY.out.mono HB2.out.size)
  have HY3 : Hid (Blk wa3 nY [.int .i64 0, .int .i64 0, .int .i64 0, .int .i64 0, .string ⟨#[]⟩, .int .i64 0, .int .i64 0, .int .i64 0, .string ⟨#[]⟩, .bool false, .slice none 0 0] 29) := by rw [← hwa3, ← hnY]; exact blk_new _ _ _
  clear HAnY HX2 HV2 HR2 HB2 HQ0
  have cX_0_3 := HX3.out.cell 0 rfl
  have cX_1_3 := HX3.out.cell 1 rfl
  have cX_2_3 := HX3.out.cell 2 rfl
  have cX_3_3 := HX3.out.cell 3 rfl
  have cX_4_3 := HX3.out.cell 4 rfl
  have cX_5_3 := HX3.out.cell 5 rfl
  have cX_6_3 := HX3.out.cell 6 rfl
  have cX_7_3 := HX3.out.cell 7 rfl
  have cX_8_3 := HX3.out.cell 8 rfl
  have cX_9_3 := HX3.out.cell 9 rfl
  have cX_10_3 := HX3.out.cell 10 rfl
  have cY_0_3 := HY3.out.cell 0 rfl
  have cY_1_3 := HY3.out.cell 1 rfl
  have cY_2_3 := HY3.out.cell 2 rfl
  have cY_3_3 := HY3.out.cell 3 rfl
  have cY_4_3 := HY3.out.cell 4 rfl
  have cY_5_3 := HY3.out.cell 5 rfl
  have cY_6_3 := HY3.out.cell 6 rfl
  have cY_7_3 := HY3.out.cell 7 rfl
  have cY_8_3 := HY3.out.cell 8 rfl
  have cY_9_3 := HY3.out.cell 9 rfl
  have cY_10_3 := HY3.out.cell 10 rfl
  have zY_3 := fun j => HY3.out.frozen j
  have KX := (((((((((((HX3.out.other 0 (.int .i64 yv) (show w.heap.size ≠ nY by omega)).other 1 (.int .i64 dh) (show w.heap.size ≠ nY by omega)).other 2 (.int .i64 dr) (show w.heap.size ≠ nY by omega)).other 3 (.int .i64 ds) (show w.heap.size ≠ nY by omega)).other 4 (.string di) (show w.heap.size ≠ nY by omega)).other 5 (.int .i64 mh) (show w.heap.size ≠ nY by omega)).other 6 (.int .i64 mr) (show w.heap.size ≠ nY by omega)).other 7 (.int .i64 ms) (show w.heap.size ≠ nY by omega)).other 8 (.string mi) (show w.heap.size ≠ nY by omega)).other 9 (.bool false) (show w.heap.size ≠ nY by omega)).other 10 (.slice qa o.length qc) (show w.heap.size ≠ nY by omega))
  have KV := (((((((((((HV3.out.other 0 (.int .i64 yv) (show (w.heap.size + 1) ≠ nY by omega)).other 1 (.int .i64 dh) (show (w.heap.size + 1) ≠ nY by omega)).other 2 (.int .i64 dr) (show (w.heap.size + 1) ≠ nY by omega)).other 3 (.int .i64 ds) (show (w.heap.size + 1) ≠ nY by omega)).other 4 (.string di) (show (w.heap.size + 1) ≠ nY by omega)).other 5 (.int .i64 mh) (show (w.heap.size + 1) ≠ nY by omega)).other 6 (.int .i64 mr) (show (w.heap.size + 1) ≠ nY by omega)).other 7 (.int .i64 ms) (show (w.heap.size + 1) ≠ nY by omega)).other 8 (.string mi) (show (w.heap.size + 1) ≠ nY by omega)).other 9 (.bool false) (show (w.heap.size + 1) ≠ nY by omega)).other 10 (.slice qa o.length qc) (show (w.heap.size + 1) ≠ nY by omega))
  have KR := (((((((((((HR3.out.other 0 (.int .i64 yv) (show (w.heap.size + 2) ≠ nY by omega)).other 1 (.int .i64 dh) (show (w.heap.size + 2) ≠ nY by omega)).other 2 (.int .i64 dr) (show (w.heap.size + 2) ≠ nY by omega)).other 3 (.int .i64 ds) (show (w.heap.size + 2) ≠ nY by omega)).other 4 (.string di) (show (w.heap.size + 2) ≠ nY by omega)).other 5 (.int .i64 mh) (show (w.heap.size + 2) ≠ nY by omega)).other 6 (.int .i64 mr) (show (w.heap.size + 2) ≠ nY by omega)).other 7 (.int .i64 ms) (show (w.heap.size + 2) ≠ nY by omega)).other 8 (.string mi) (show (w.heap.size + 2) ≠ nY by omega)).other 9 (.bool false) (show (w.heap.size + 2) ≠ nY by omega)).other 10 (.slice qa o.length qc) (show (w.heap.size + 2) ≠ nY by omega))
  have KY := (((((((((((HY3.out.set 0 (.int .i64 yv)).set 1 (.int .i64 dh)).set 2 (.int .i64 dr)).set 3 (.int .i64 ds)).set 4 (.string di)).set 5 (.int .i64 mh)).set 6 (.int .i64 mr)).set 7 (.int .i64 ms)).set 8 (.string mi)).set 9 (.bool false)).set 10 (.slice qa o.length qc))
  have KB := (((((((((((HB3.out.setCell (p := ⟨nY, 0, none⟩) (show w.heap.size ≤ nY by omega) (.int .i64 yv)).setCell (p := ⟨nY, 1, none⟩) (show w.heap.size ≤ nY by omega) (.int .i64 dh)).setCell (p := ⟨nY, 2, none⟩) (show w.heap.size ≤ nY by omega) (.int .i64 dr)).setCell (p := ⟨nY, 3, none⟩) (show w.heap.size ≤ nY by omega) (.int .i64 ds)).setCell (p := ⟨nY, 4, none⟩) (show w.heap.size ≤ nY by omega) (.string di)).setCell (p := ⟨nY, 5, none⟩) (show w.heap.size ≤ nY by omega) (.int .i64 mh)).setCell (p := ⟨nY, 6, none⟩) (show w.heap.size ≤ nY by omega) (.int .i64 mr)).setCell (p := ⟨nY, 7, none⟩) (show w.heap.size ≤ nY by omega) (.int .i64 ms)).setCell (p := ⟨nY, 8, none⟩) (show w.heap.size ≤ nY by omega) (.string mi)).setCell (p := ⟨nY, 9, none⟩) (show w.heap.size ≤ nY by omega) (.bool false)).setCell (p := ⟨nY, 10, none⟩) (show w.heap.size ≤ nY by omega) (.slice qa o.length qc))
  have KG : Hid (wa3.grownBy (((((((((((wa3.setCell ⟨nY, 0, none⟩ (.int .i64 yv)).setCell ⟨nY, 1, none⟩ (.int .i64 dh)).setCell ⟨nY, 2, none⟩ (.int .i64 dr)).setCell ⟨nY, 3, none⟩ (.int .i64 ds)).setCell ⟨nY, 4, none⟩ (.string di)).setCell ⟨nY, 5, none⟩ (.int .i64 mh)).setCell ⟨nY, 6, none⟩ (.int .i64 mr)).setCell ⟨nY, 7, none⟩ (.int .i64 ms)).setCell ⟨nY, 8, none⟩ (.string mi)).setCell ⟨nY, 9, none⟩ (.bool false)).setCell ⟨nY, 10, none⟩ (.slice qa o.length qc)) (some nY)) := grown_set (grown_set (grown_set (grown_set (grown_set (grown_set (grown_set (grown_set (grown_set (grown_set (grown_set (grown_refl _ _) _) _) _) _) _) _) _) _) _) _) _
  have KQ : Hid (OwnY (((((((((((wa3.setCell ⟨nY, 0, none⟩ (.int .i64 yv)).setCell ⟨nY, 1, none⟩ (.int .i64 dh)).setCell ⟨nY, 2, none⟩ (.int .i64 dr)).setCell ⟨nY, 3, none⟩ (.int .i64 ds)).setCell ⟨nY, 4, none⟩ (.string di)).setCell ⟨nY, 5, none⟩ (.int .i64 mh)).setCell ⟨nY, 6, none⟩ (.int .i64 mr)).setCell ⟨nY, 7, none⟩ (.int .i64 ms)).setCell ⟨nY, 8, none⟩ (.string mi)).setCell ⟨nY, 9, none⟩ (.bool false)).setCell ⟨nY, 10, none⟩ (.slice qa o.length qc)) w.heap.size (.slice qa o.length qc) o) := own_aside HQ3.out KG.out HY3.out
  go_upto_region 4 with fail
  clear hwa3 hnY cX_0_3 cX_1_3 cX_2_3 cX_3_3 cX_4_3 cX_5_3 cX_6_3 cX_7_3 cX_8_3 cX_9_3 cX_10_3 cY_0_3 cY_1_3 cY_2_3 cY_3_3 cY_4_3 cY_5_3 cY_6_3 cY_7_3 cY_8_3 cY_9_3 cY_10_3 zY_3
  generalize ((((((((((((wa3.setCell _ _).setCell _ _).setCell _ _).setCell _ _).setCell _ _).setCell _ _).setCell _ _).setCell _ _).setCell _ _).setCell _ _).setCell _ _) : World) = w4 at *
  have HX4 : Hid (Blk w4 w.heap.size [.int .i64 yv, .int .i64 dh, .int .i64 dr, .int .i64 ds, .string di, .int .i64 mh, .int .i64 mr, .int .i64 ms, .string mi, .bool false, .slice a o.length cap] 29) := KX
  have HV4 : Hid (Blk w4 (w.heap.size + 1) [.int .i64 yh, .int .i64 yr, .int .i64 ys, .string yi, .int .i64 yv] 31) := KV
  have HR4 : Hid (Blk w4 (w.heap.size + 2) [.int .i64 0, .int .i64 0, .int .i64 0, .int .i64 0, .string ⟨#[]⟩, .int .i64 0, .int .i64 0, .int .i64 0, .string ⟨#[]⟩, .bool false, .slice none 0 0] 29) := KR
  have HY4 : Hid (Blk w4 nY [.int .i64 yv, .int .i64 dh, .int .i64 dr, .int .i64 ds, .string di, .int .i64 mh, .int .i64 mr, .int .i64 ms, .string mi, .bool false, .slice qa o.length qc] 29) := KY
  have HQ4 : Hid (OwnY w4 w.heap.size (.slice qa o.length qc) o) := KQ
  have HB4 : Hid (Below w.heap.size w w4) := KB
  clear KX KV KR KY KB KG KQ HX3 HV3 HR3 HY3 HB3 HQ3
  have cX_0_4 := HX4.out.cell 0 rfl
  have cX_1_4 := HX4.out.cell 1 rfl
  have cX_2_4 := HX4.out.cell 2 rfl
  have cX_3_4 := HX4.out.cell 3 rfl
  have cX_4_4 := HX4.out.cell 4 rfl
  have cX_5_4 := HX4.out.cell 5 rfl
  have cX_6_4 := HX4.out.cell 6 rfl
  have cX_7_4 := HX4.out.cell 7 rfl
  have cX_8_4 := HX4.out.cell 8 rfl
  have cX_9_4 := HX4.out.cell 9 rfl
  have cX_10_4 := HX4.out.cell 10 rfl
  have cV_0_4 := HV4.out.cell 0 rfl
  have cV_1_4 := HV4.out.cell 1 rfl
  have cV_2_4 := HV4.out.cell 2 rfl
  have cV_3_4 := HV4.out.cell 3 rfl
  have cV_4_4 := HV4.out.cell 4 rfl
  have cY_0_4 := HY4.out.cell 0 rfl
  have cY_1_4 := HY4.out.cell 1 rfl
  have cY_2_4 := HY4.out.cell 2 rfl
  have cY_3_4 := HY4.out.cell 3 rfl
  have cY_4_4 := HY4.out.cell 4 rfl
  have cY_5_4 := HY4.out.cell 5 rfl
  have cY_6_4 := HY4.out.cell 6 rfl
  have cY_7_4 := HY4.out.cell 7 rfl
  have cY_8_4 := HY4.out.cell 8 rfl
  have cY_9_4 := HY4.out.cell 9 rfl
  have cY_10_4 := HY4.out.cell 10 rfl
  go_wp2_with fail
  clear cX_0_4 cX_1_4 cX_2_4 cX_3_4 cX_4_4 cX_5_4 cX_6_4 cX_7_4 cX_8_4 cX_9_4 cX_10_4 cV_0_4 cV_1_4 cV_2_4 cV_3_4 cV_4_4 cY_0_4 cY_1_4 cY_2_4 cY_3_4 cY_4_4 cY_5_4 cY_6_4 cY_7_4 cY_8_4 cY_9_4 cY_10_4
  refine (kM _).mono ?_
  rintro e w5 ⟨rfl, bb⟩
  have HX5 : Hid (Blk w5 w.heap.size [.int .i64 yv, .int .i64 dh, .int .i64 dr, .int .i64 ds, .string di, .int .i64 mh, .int .i64 mr, .int .i64 ms, .string mi, .bool false, .slice a o.length cap] 29) := HX4.out.below bb HX4.out.lt
  have HV5 : Hid (Blk w5 (w.heap.size + 1) [.int .i64 yh, .int .i64 yr, .int .i64 ys, .string yi, .int .i64 yv] 31) := HV4.out.below bb HV4.out.lt
  have HR5 : Hid (Blk w5 (w.heap.size + 2) [.int .i64 0, .int .i64 0, .int .i64 0, .int .i64 0, .string ⟨#[]⟩, .int .i64 0, .int .i64 0, .int .i64 0, .string ⟨#[]⟩, .bool false, .slice none 0 0] 29) := HR4.out.below bb HR4.out.lt
  have HY5 : Hid (Blk w5 nY [.int .i64 yv, .int .i64 dh, .int .i64 dr, .int .i64 ds, .string di, .int .i64 mh, .int .i64 mr, .int .i64 ms, .string mi, .bool false, .slice qa o.length qc] 29) := HY4.out.below bb HY4.out.lt
  have HQ5 : Hid (OwnY w5 w.heap.size (.slice qa o.length qc) o) := own_keep HQ4.out bb
  have HB5 : Hid (Below w.heap.size w w5) := HB4.out.trans (bb.mono HB4.out.size)
  clear HX4 HV4 HR4 HY4 HB4 HQ4
  clear bb
  clear kM
  have cX_0_5 := HX5.out.cell 0 rfl
  have cX_1_5 := HX5.out.cell 1 rfl
  have cX_2_5 := HX5.out.cell 2 rfl
  have cX_3_5 := HX5.out.cell 3 rfl
  have cX_4_5 := HX5.out.cell 4 rfl
  have cX_5_5 := HX5.out.cell 5 rfl
  have cX_6_5 := HX5.out.cell 6 rfl
  have cX_7_5 := HX5.out.cell 7 rfl
  have cX_8_5 := HX5.out.cell 8 rfl
  have cX_9_5 := HX5.out.cell 9 rfl
  have cX_10_5 := HX5.out.cell 10 rfl
  have cV_0_5 := HV5.out.cell 0 rfl
  have cV_1_5 := HV5.out.cell 1 rfl
  have cV_2_5 := HV5.out.cell 2 rfl
  have cV_3_5 := HV5.out.cell 3 rfl
  have cV_4_5 := HV5.out.cell 4 rfl
  have cY_0_5 := HY5.out.cell 0 rfl
  have cY_1_5 := HY5.out.cell 1 rfl
  have cY_2_5 := HY5.out.cell 2 rfl
  have cY_3_5 := HY5.out.cell 3 rfl
  have cY_4_5 := HY5.out.cell 4 rfl
  have cY_5_5 := HY5.out.cell 5 rfl
  have cY_6_5 := HY5.out.cell 6 rfl
  have cY_7_5 := HY5.out.cell 7 rfl
  have cY_8_5 := HY5.out.cell 8 rfl
  have cY_9_5 := HY5.out.cell 9 rfl
  have cY_10_5 := HY5.out.cell 10 rfl
  obtain ⟨wa6, hwa6⟩ : ∃ W, w5.alloc (.cells #[.int .i64 yh, .int .i64 yr, .int .i64 ys, .string yi, .int .i64 yv] 31) = W := ⟨_, rfl⟩
  obtain ⟨nE, hnE⟩ : ∃ n, w5.heap.size = n := ⟨_, rfl⟩
  have hnEX : w.heap.size < nE := by rw [← hnE]; exact HX5.out.lt
  have hnEV : (w.heap.size + 1) < nE := by rw [← hnE]; exact HV5.out.lt
  have hnER : (w.heap.size + 2) < nE := by rw [← hnE]; exact HR5.out.lt
  have hnEY : nY < nE := by rw [← hnE]; exact HY5.out.lt
  have HAnE : Hid (Below w5.heap.size w5 wa6) := by rw [← hwa6]; exact below_one _ _
  have HX6 : Hid (Blk wa6 w.heap.size [.int .i64 yv, .int .i64 dh, .int .i64 dr, .int .i64 ds, .string di, .int .i64 mh, .int .i64 mr, .int .i64 ms, .string mi, .bool false, .slice a o.length cap] 29) := HX5.out.below HAnE.out HX5.out.lt
  have HV6 : Hid (Blk wa6 (w.heap.size + 1) [.int .i64 yh, .int .i64 yr, .int .i64 ys, .string yi, .int .i64 yv] 31) := HV5.out.below HAnE.out HV5.out.lt
  have HR6 : Hid (Blk wa6 (w.heap.size + 2) [.int .i64 0, .int .i64 0, .int .i64 0, .int .i64 0, .string ⟨#[]⟩, .int .i64 0, .int .i64 0, .int .i64 0, .string ⟨#[]⟩, .bool false, .slice none 0 0] 29) := HR5.out.below HAnE.out HR5.out.lt
  have HY6 : Hid (Blk wa6 nY [.int .i64 yv, .int .i64 dh, .int .i64 dr, .int .i64 ds, .string di, .int .i64 mh, .int .i64 mr, .int .i64 ms, .string mi, .bool false, .slice qa o.length qc] 29) := HY5.out.below HAnE.out HY5.out.lt
  have HQ6 : Hid (OwnY wa6 w.heap.size (.slice qa o.length qc) o) := own_keep HQ5.out HAnE.out
  have HB6 : Hid (Below w.heap.size w wa6) := HB5.out.trans (HAnE.out.mono HB5.out.size)
  have HE6 : Hid (Blk wa6 nE [.int .i64 yh, .int .i64 yr, .int .i64 ys, .string yi, .int .i64 yv] 31) := by rw [← hwa6, ← hnE]; exact blk_new _ _ _
  clear HAnE HX5 HV5 HR5 HY5 HB5 HQ5
  have cX_0_6 := HX6.out.cell 0 rfl
  have cX_1_6 := HX6.out.cell 1 rfl
  have cX_2_6 := HX6.out.cell 2 rfl
  have cX_3_6 := HX6.out.cell 3 rfl
  have cX_4_6 := HX6.out.cell 4 rfl
  have cX_5_6 := HX6.out.cell 5 rfl
  have cX_6_6 := HX6.out.cell 6 rfl
  have cX_7_6 := HX6.out.cell 7 rfl
  have cX_8_6 := HX6.out.cell 8 rfl
  have cX_9_6 := HX6.out.cell 9 rfl
  have cX_10_6 := HX6.out.cell 10 rfl
  have cV_0_6 := HV6.out.cell 0 rfl
  have cV_1_6 := HV6.out.cell 1 rfl
  have cV_2_6 := HV6.out.cell 2 rfl
  have cV_3_6 := HV6.out.cell 3 rfl
  have cV_4_6 := HV6.out.cell 4 rfl
  have cY_0_6 := HY6.out.cell 0 rfl
  have cY_1_6 := HY6.out.cell 1 rfl
  have cY_2_6 := HY6.out.cell 2 rfl
  have cY_3_6 := HY6.out.cell 3 rfl
  have cY_4_6 := HY6.out.cell 4 rfl
  have cY_5_6 := HY6.out.cell 5 rfl
  have cY_6_6 := HY6.out.cell 6 rfl
  have cY_7_6 := HY6.out.cell 7 rfl
  have cY_8_6 := HY6.out.cell 8 rfl
  have cY_9_6 := HY6.out.cell 9 rfl
  have cY_10_6 := HY6.out.cell 10 rfl
  have cE_0_6 := HE6.out.cell 0 rfl
  have cE_1_6 := HE6.out.cell 1 rfl
  have cE_2_6 := HE6.out.cell 2 rfl
  have cE_3_6 := HE6.out.cell 3 rfl
  have cE_4_6 := HE6.out.cell 4 rfl
  have HVt : Hid (YO wa6 (some ⟨nE, 0, none⟩) [(⟨yh, yr, ys, yi, yv⟩ : Vt)]) := yo_one (y := (⟨yh, yr, ys, yi, yv⟩ : Vt)) HE6.out
  go_wp2_with (at_builtin; refine wpList_append_y rfl _ _ rfl rfl HQ6.out rfl HVt.out (fun e => by cases e) (by simp only [List.length_cons, List.length_nil]; omega) HB6.out.size ?_)
  intro v2 w9 hown hgr
  obtain ⟨qb, qd, rfl⟩ := own_shape hown
  have HX9 : Hid (Blk w9 w.heap.size [.int .i64 yv, .int .i64 dh, .int .i64 dr, .int .i64 ds, .string di, .int .i64 mh, .int .i64 mr, .int .i64 ms, .string mi, .bool false, .slice a o.length cap] 29) := HX6.out.grown hgr (own_apart HQ6.out HX6.out)
  have HV9 : Hid (True) := trivial
  have HR9 : Hid (Blk w9 (w.heap.size + 2) [.int .i64 0, .int .i64 0, .int .i64 0, .int .i64 0, .string ⟨#[]⟩, .int .i64 0, .int .i64 0, .int .i64 0, .string ⟨#[]⟩, .bool false, .slice none 0 0] 29) := HR6.out.grown hgr (own_apart HQ6.out HR6.out)
  have HY9 : Hid (Blk w9 nY [.int .i64 yv, .int .i64 dh, .int .i64 dr, .int .i64 ds, .string di, .int .i64 mh, .int .i64 mr, .int .i64 ms, .string mi, .bool false, .slice qa o.length qc] 29) := HY6.out.grown hgr (own_apart HQ6.out HY6.out)
  have HB9 : Hid (Below w.heap.size w w9) := HB6.out.grown hgr HB6.out.size (fun j hj => (World.ownsRow.lt (show wa6.ownsRow w.heap.size 31 5 _ _ _ from HQ6.out) j hj).1)
  have HQ9 : Hid (OwnY w9 w.heap.size (.slice qb oo.length qd) oo) := by rw [← HOO.out]; exact hown
  have hLL : (o ++ [(⟨yh, yr, ys, yi, yv⟩ : Vt)]).length = oo.length := by rw [HOO.out]
  clear cX_0_5 cX_1_5 cX_2_5 cX_3_5 cX_4_5 cX_5_5 cX_6_5 cX_7_5 cX_8_5 cX_9_5 cX_10_5 cV_0_5 cV_1_5 cV_2_5 cV_3_5 cV_4_5 cY_0_5 cY_1_5 cY_2_5 cY_3_5 cY_4_5 cY_5_5 cY_6_5 cY_7_5 cY_8_5 cY_9_5 cY_10_5 hwa6 hnE cX_0_6 cX_1_6 cX_2_6 cX_3_6 cX_4_6 cX_5_6 cX_6_6 cX_7_6 cX_8_6 cX_9_6 cX_10_6 cV_0_6 cV_1_6 cV_2_6 cV_3_6 cV_4_6 cY_0_6 cY_1_6 cY_2_6 cY_3_6 cY_4_6 cY_5_6 cY_6_6 cY_7_6 cY_8_6 cY_9_6 cY_10_6 cE_0_6 cE_1_6 cE_2_6 cE_3_6 cE_4_6
  clear HV9 hown hgr HVt HX6 HV6 HR6 HY6 HE6 HB6 HQ6
  simp only [hLL]
  clear hLL
  have cY_0_6 := HY9.out.cell 0 rfl
  have cY_1_6 := HY9.out.cell 1 rfl
  have cY_2_6 := HY9.out.cell 2 rfl
  have cY_3_6 := HY9.out.cell 3 rfl
  have cY_4_6 := HY9.out.cell 4 rfl
  have cY_5_6 := HY9.out.cell 5 rfl
  have cY_6_6 := HY9.out.cell 6 rfl
  have cY_7_6 := HY9.out.cell 7 rfl
  have cY_8_6 := HY9.out.cell 8 rfl
  have cY_9_6 := HY9.out.cell 9 rfl
  have cY_10_6 := HY9.out.cell 10 rfl
  have zY_6 := fun j => HY9.out.frozen j
  have KX := (HX9.out.other 10 (.slice qb oo.length qd) (show w.heap.size ≠ nY by omega))
  have KR := (HR9.out.other 10 (.slice qb oo.length qd) (show (w.heap.size + 2) ≠ nY by omega))
  have KY := (HY9.out.set 10 (.slice qb oo.length qd))
  have KB := (HB9.out.setCell (p := ⟨nY, 10, none⟩) (show w.heap.size ≤ nY by omega) (.slice qb oo.length qd))
  have KG : Hid (w9.grownBy (w9.setCell ⟨nY, 10, none⟩ (.slice qb oo.length qd)) (some nY)) := grown_set (grown_refl _ _) _
  have KQ : Hid (OwnY (w9.setCell ⟨nY, 10, none⟩ (.slice qb oo.length qd)) w.heap.size (.slice qb oo.length qd) oo) := own_aside HQ9.out KG.out HY9.out
  go_upto_region 13 with fail
  clear cY_0_6 cY_1_6 cY_2_6 cY_3_6 cY_4_6 cY_5_6 cY_6_6 cY_7_6 cY_8_6 cY_9_6 cY_10_6 zY_6
  generalize ((w9.setCell _ _) : World) = w7 at *
  have HX7 : Hid (Blk w7 w.heap.size [.int .i64 yv, .int .i64 dh, .int .i64 dr, .int .i64 ds, .string di, .int .i64 mh, .int .i64 mr, .int .i64 ms, .string mi, .bool false, .slice a o.length cap] 29) := KX
  have HR7 : Hid (Blk w7 (w.heap.size + 2) [.int .i64 0, .int .i64 0, .int .i64 0, .int .i64 0, .string ⟨#[]⟩, .int .i64 0, .int .i64 0, .int .i64 0, .string ⟨#[]⟩, .bool false, .slice none 0 0] 29) := KR
  have HY7 : Hid (Blk w7 nY [.int .i64 yv, .int .i64 dh, .int .i64 dr, .int .i64 ds, .string di, .int .i64 mh, .int .i64 mr, .int .i64 ms, .string mi, .bool false, .slice qb oo.length qd] 29) := KY
  have HQ7 : Hid (OwnY w7 w.heap.size (.slice qb oo.length qd) oo) := KQ
  have HB7 : Hid (Below w.heap.size w w7) := KB
  clear KX KR KY KB KG KQ HX9 HR9 HY9 HB9 HQ9
  have cX_0_7 := HX7.out.cell 0 rfl
  have cX_1_7 := HX7.out.cell 1 rfl
  have cX_2_7 := HX7.out.cell 2 rfl
  have cX_3_7 := HX7.out.cell 3 rfl
  have cX_4_7 := HX7.out.cell 4 rfl
  have cX_5_7 := HX7.out.cell 5 rfl
  have cX_6_7 := HX7.out.cell 6 rfl
  have cX_7_7 := HX7.out.cell 7 rfl
  have cX_8_7 := HX7.out.cell 8 rfl
  have cX_9_7 := HX7.out.cell 9 rfl
  have cX_10_7 := HX7.out.cell 10 rfl
  have cR_0_7 := HR7.out.cell 0 rfl
  have cR_1_7 := HR7.out.cell 1 rfl
  have cR_2_7 := HR7.out.cell 2 rfl
  have cR_3_7 := HR7.out.cell 3 rfl
  have cR_4_7 := HR7.out.cell 4 rfl
  have cR_5_7 := HR7.out.cell 5 rfl
  have cR_6_7 := HR7.out.cell 6 rfl
  have cR_7_7 := HR7.out.cell 7 rfl
  have cR_8_7 := HR7.out.cell 8 rfl
  have cR_9_7 := HR7.out.cell 9 rfl
  have cR_10_7 := HR7.out.cell 10 rfl
  have cY_0_7 := HY7.out.cell 0 rfl
  have cY_1_7 := HY7.out.cell 1 rfl
  have cY_2_7 := HY7.out.cell 2 rfl
  have cY_3_7 := HY7.out.cell 3 rfl
  have cY_4_7 := HY7.out.cell 4 rfl
  have cY_5_7 := HY7.out.cell 5 rfl
  have cY_6_7 := HY7.out.cell 6 rfl
  have cY_7_7 := HY7.out.cell 7 rfl
  have cY_8_7 := HY7.out.cell 8 rfl
  have cY_9_7 := HY7.out.cell 9 rfl
  have cY_10_7 := HY7.out.cell 10 rfl
  have zR_7 := fun j => HR7.out.frozen j
  have KX := (((((((((((HX7.out.other 0 (.int .i64 yv) (show w.heap.size ≠ (w.heap.size + 2) by omega)).other 1 (.int .i64 dh) (show w.heap.size ≠ (w.heap.size + 2) by omega)).other 2 (.int .i64 dr) (show w.heap.size ≠ (w.heap.size + 2) by omega)).other 3 (.int .i64 ds) (show w.heap.size ≠ (w.heap.size + 2) by omega)).other 4 (.string di) (show w.heap.size ≠ (w.heap.size + 2) by omega)).other 5 (.int .i64 mh) (show w.heap.size ≠ (w.heap.size + 2) by omega)).other 6 (.int .i64 mr) (show w.heap.size ≠ (w.heap.size + 2) by omega)).other 7 (.int .i64 ms) (show w.heap.size ≠ (w.heap.size + 2) by omega)).other 8 (.string mi) (show w.heap.size ≠ (w.heap.size + 2) by omega)).other 9 (.bool false) (show w.heap.size ≠ (w.heap.size + 2) by omega)).other 10 (.slice qb oo.length qd) (show w.heap.size ≠ (w.heap.size + 2) by omega))
  have KR := (((((((((((HR7.out.set 0 (.int .i64 yv)).set 1 (.int .i64 dh)).set 2 (.int .i64 dr)).set 3 (.int .i64 ds)).set 4 (.string di)).set 5 (.int .i64 mh)).set 6 (.int .i64 mr)).set 7 (.int .i64 ms)).set 8 (.string mi)).set 9 (.bool false)).set 10 (.slice qb oo.length qd))
  have KY := (((((((((((HY7.out.other 0 (.int .i64 yv) (show nY ≠ (w.heap.size + 2) by omega)).other 1 (.int .i64 dh) (show nY ≠ (w.heap.size + 2) by omega)).other 2 (.int .i64 dr) (show nY ≠ (w.heap.size + 2) by omega)).other 3 (.int .i64 ds) (show nY ≠ (w.heap.size + 2) by omega)).other 4 (.string di) (show nY ≠ (w.heap.size + 2) by omega)).other 5 (.int .i64 mh) (show nY ≠ (w.heap.size + 2) by omega)).other 6 (.int .i64 mr) (show nY ≠ (w.heap.size + 2) by omega)).other 7 (.int .i64 ms) (show nY ≠ (w.heap.size + 2) by omega)).other 8 (.string mi) (show nY ≠ (w.heap.size + 2) by omega)).other 9 (.bool false) (show nY ≠ (w.heap.size + 2) by omega)).other 10 (.slice qb oo.length qd) (show nY ≠ (w.heap.size + 2) by omega))
  have KB := (((((((((((HB7.out.setCell (p := ⟨(w.heap.size + 2), 0, none⟩) (show w.heap.size ≤ (w.heap.size + 2) by omega) (.int .i64 yv)).setCell (p := ⟨(w.heap.size + 2), 1, none⟩) (show w.heap.size ≤ (w.heap.size + 2) by omega) (.int .i64 dh)).setCell (p := ⟨(w.heap.size + 2), 2, none⟩) (show w.heap.size ≤ (w.heap.size + 2) by omega) (.int .i64 dr)).setCell (p := ⟨(w.heap.size + 2), 3, none⟩) (show w.heap.size ≤ (w.heap.size + 2) by omega) (.int .i64 ds)).setCell (p := ⟨(w.heap.size + 2), 4, none⟩) (show w.heap.size ≤ (w.heap.size + 2) by omega) (.string di)).setCell (p := ⟨(w.heap.size + 2), 5, none⟩) (show w.heap.size ≤ (w.heap.size + 2) by omega) (.int .i64 mh)).setCell (p := ⟨(w.heap.size + 2), 6, none⟩) (show w.heap.size ≤ (w.heap.size + 2) by omega) (.int .i64 mr)).setCell (p := ⟨(w.heap.size + 2), 7, none⟩) (show w.heap.size ≤ (w.heap.size + 2) by omega) (.int .i64 ms)).setCell (p := ⟨(w.heap.size + 2), 8, none⟩) (show w.heap.size ≤ (w.heap.size + 2) by omega) (.string mi)).setCell (p := ⟨(w.heap.size + 2), 9, none⟩) (show w.heap.size ≤ (w.heap.size + 2) by omega) (.bool false)).setCell (p := ⟨(w.heap.size + 2), 10, none⟩) (show w.heap.size ≤ (w.heap.size + 2) by omega) (.slice qb oo.length qd))
  have KG : Hid (w7.grownBy (((((((((((w7.setCell ⟨(w.heap.size + 2), 0, none⟩ (.int .i64 yv)).setCell ⟨(w.heap.size + 2), 1, none⟩ (.int .i64 dh)).setCell ⟨(w.heap.size + 2), 2, none⟩ (.int .i64 dr)).setCell ⟨(w.heap.size + 2), 3, none⟩ (.int .i64 ds)).setCell ⟨(w.heap.size + 2), 4, none⟩ (.string di)).setCell ⟨(w.heap.size + 2), 5, none⟩ (.int .i64 mh)).setCell ⟨(w.heap.size + 2), 6, none⟩ (.int .i64 mr)).setCell ⟨(w.heap.size + 2), 7, none⟩ (.int .i64 ms)).setCell ⟨(w.heap.size + 2), 8, none⟩ (.string mi)).setCell ⟨(w.heap.size + 2), 9, none⟩ (.bool false)).setCell ⟨(w.heap.size + 2), 10, none⟩ (.slice qb oo.length qd)) (some (w.heap.size + 2))) := grown_set (grown_set (grown_set (grown_set (grown_set (grown_set (grown_set (grown_set (grown_set (grown_set (grown_set (grown_refl _ _) _) _) _) _) _) _) _) _) _) _) _
  have KQ : Hid (OwnY (((((((((((w7.setCell ⟨(w.heap.size + 2), 0, none⟩ (.int .i64 yv)).setCell ⟨(w.heap.size + 2), 1, none⟩ (.int .i64 dh)).setCell ⟨(w.heap.size + 2), 2, none⟩ (.int .i64 dr)).setCell ⟨(w.heap.size + 2), 3, none⟩ (.int .i64 ds)).setCell ⟨(w.heap.size + 2), 4, none⟩ (.string di)).setCell ⟨(w.heap.size + 2), 5, none⟩ (.int .i64 mh)).setCell ⟨(w.heap.size + 2), 6, none⟩ (.int .i64 mr)).setCell ⟨(w.heap.size + 2), 7, none⟩ (.int .i64 ms)).setCell ⟨(w.heap.size + 2), 8, none⟩ (.string mi)).setCell ⟨(w.heap.size + 2), 9, none⟩ (.bool false)).setCell ⟨(w.heap.size + 2), 10, none⟩ (.slice qb oo.length qd)) w.heap.size (.slice qb oo.length qd) oo) := own_aside HQ7.out KG.out HR7.out
  go_wp2_with fail
  clear cX_0_7 cX_1_7 cX_2_7 cX_3_7 cX_4_7 cX_5_7 cX_6_7 cX_7_7 cX_8_7 cX_9_7 cX_10_7 cR_0_7 cR_1_7 cR_2_7 cR_3_7 cR_4_7 cR_5_7 cR_6_7 cR_7_7 cR_8_7 cR_9_7 cR_10_7 cY_0_7 cY_1_7 cY_2_7 cY_3_7 cY_4_7 cY_5_7 cY_6_7 cY_7_7 cY_8_7 cY_9_7 cY_10_7 zR_7
  generalize ((((((((((((w7.setCell _ _).setCell _ _).setCell _ _).setCell _ _).setCell _ _).setCell _ _).setCell _ _).setCell _ _).setCell _ _).setCell _ _).setCell _ _) : World) = w8 at *
  have HX8 : Hid (Blk w8 w.heap.size [.int .i64 yv, .int .i64 dh, .int .i64 dr, .int .i64 ds, .string di, .int .i64 mh, .int .i64 mr, .int .i64 ms, .string mi, .bool false, .slice a o.length cap] 29) := KX
  have HR8 : Hid (Blk w8 (w.heap.size + 2) [.int .i64 yv, .int .i64 dh, .int .i64 dr, .int .i64 ds, .string di, .int .i64 mh, .int .i64 mr, .int .i64 ms, .string mi, .bool false, .slice qb oo.length qd] 29) := KR
  have HY8 : Hid (Blk w8 nY [.int .i64 yv, .int .i64 dh, .int .i64 dr, .int .i64 ds, .string di, .int .i64 mh, .int .i64 mr, .int .i64 ms, .string mi, .bool false, .slice qb oo.length qd] 29) := KY
  have HQ8 : Hid (OwnY w8 w.heap.size (.slice qb oo.length qd) oo) := KQ
  have HB8 : Hid (Below w.heap.size w w8) := KB
  clear KX KR KY KB KG KQ HX7 HR7 HY7 HB7 HQ7
  have y0 := HR8.out.cell 0 rfl
  have y1 := HR8.out.cell 1 rfl
  have y2 := HR8.out.cell 2 rfl
  have y3 := HR8.out.cell 3 rfl
  have y4 := HR8.out.cell 4 rfl
  have y5 := HR8.out.cell 5 rfl
  have y6 := HR8.out.cell 6 rfl
  have y7 := HR8.out.cell 7 rfl
  have y8 := HR8.out.cell 8 rfl
  have y9 := HR8.out.cell 9 rfl
  have y10 := HR8.out.cell 10 rfl
  refine bodyPost_ret (v := .tuple #[.agg #[.int .i64 yv, .int .i64 dh, .int .i64 dr, .int .i64 ds, .string di, .int .i64 mh, .int .i64 mr, .int .i64 ms, .string mi, .bool false, .slice qb oo.length qd], .int .i64 1]) (by simp [results, Try.results15, go_sem, y0, y1, y2, y3, y4, y5, y6, y7, y8, y9, y10]) rfl ⟨_, _, rfl, HQ8.out, HB8.out⟩
set_option maxHeartbeats 6400000 in
set_option maxRecDepth 100000 in
theorem sask_rest (x : Sg) (y : Vt) (a : Option Addr) (cap : Nat) (w : World) (hl : YO w a x.o) (hz : a = none → cap = 0) (hlen : x.o.length ≤ 9223372036854775807) (hs : sOk x = true) (hp : x.p = false) (hv : y.v = x.v) (h60 : x.o.length < 60) (h0 : mayS x.m y ≠ 0) (h1 : mayS x.m y ≠ 1) :
    Calls Try.prog 15 #[sV x a cap, tV y] w fun e w' => ∃ qa qc, e = .returned (.tuple #[sQ x (.slice qa x.o.length qc), .int .i64 (mayS x.m y)]) ∧ Hid (OwnY w' w.heap.size (.slice qa x.o.length qc) x.o) ∧ Below w.heap.size w w' := by
  have HY : Hid (YO w a x.o) := hl
  have kS := fun W (h : YO W a x.o) => spec_sok x a cap W h (by omega)
  simp only [hs] at kS
  have hlo : x.o.length ≤ 60 := sOk_len hs
  have kC := fun W (h : YO W a x.o) => spec_copy x a cap W h hz (by omega)
  have kM := fun W => spec_may x.m y W
  generalize mayS x.m y = c at *
  obtain ⟨v, ⟨dh, dr, ds, di⟩, ⟨mh, mr, ms, mi⟩, p, o⟩ := x
  obtain ⟨yh, yr, ys, yi, yv⟩ := y
  unfold sV sQ tV at *
  unfold gV at *
  simp only at *
  subst hp
  subst hv
  have hge : ¬ (60 : Int) ≤ (o.length : Int) := by omega
  clear hl hs
  obtain ⟨W0, hW0⟩ : ∃ W, ((w.alloc (.cells #[.int .i64 yv, .int .i64 dh, .int .i64 dr, .int .i64 ds, .string di, .int .i64 mh, .int .i64 mr, .int .i64 ms, .string mi, .bool false, .slice a o.length cap] 29)).alloc (.cells #[.int .i64 yh, .int .i64 yr, .int .i64 ys, .string yi, .int .i64 yv] 31)).alloc (.cells #[.int .i64 0, .int .i64 0, .int .i64 0, .int .i64 0, .string ⟨#[]⟩, .int .i64 0, .int .i64 0, .int .i64 0, .string ⟨#[]⟩, .bool false, .slice none 0 0] 29) = W := ⟨_, rfl⟩
  have HX0 : Hid (Blk W0 w.heap.size [.int .i64 yv, .int .i64 dh, .int .i64 dr, .int .i64 ds, .string di, .int .i64 mh, .int .i64 mr, .int .i64 ms, .string mi, .bool false, .slice a o.length cap] 29) := by
    rw [← hW0]
    have hnew := blk_new (w) [.int .i64 yv, .int .i64 dh, .int .i64 dr, .int .i64 ds, .string di, .int .i64 mh, .int .i64 mr, .int .i64 ms, .string mi, .bool false, .slice a o.length cap] 29
    exact ((hnew.alloc _).alloc _)
  have HV0 : Hid (Blk W0 (w.heap.size + 1) [.int .i64 yh, .int .i64 yr, .int .i64 ys, .string yi, .int .i64 yv] 31) := by
    rw [← hW0]
    have hnew := blk_new (w.alloc (.cells #[.int .i64 yv, .int .i64 dh, .int .i64 dr, .int .i64 ds, .string di, .int .i64 mh, .int .i64 mr, .int .i64 ms, .string mi, .bool false, .slice a o.length cap] 29)) [.int .i64 yh, .int .i64 yr, .int .i64 ys, .string yi, .int .i64 yv] 31
    rw [show (w.alloc (.cells #[.int .i64 yv, .int .i64 dh, .int .i64 dr, .int .i64 ds, .string di, .int .i64 mh, .int .i64 mr, .int .i64 ms, .string mi, .bool false, .slice a o.length cap] 29)).heap.size = w.heap.size + 1 from by simp] at hnew
    exact (hnew.alloc _)
  have HR0 : Hid (Blk W0 (w.heap.size + 2) [.int .i64 0, .int .i64 0, .int .i64 0, .int .i64 0, .string ⟨#[]⟩, .int .i64 0, .int .i64 0, .int .i64 0, .string ⟨#[]⟩, .bool false, .slice none 0 0] 29) := by
    rw [← hW0]
    have hnew := blk_new ((w.alloc (.cells #[.int .i64 yv, .int .i64 dh, .int .i64 dr, .int .i64 ds, .string di, .int .i64 mh, .int .i64 mr, .int .i64 ms, .string mi, .bool false, .slice a o.length cap] 29)).alloc (.cells #[.int .i64 yh, .int .i64 yr, .int .i64 ys, .string yi, .int .i64 yv] 31)) [.int .i64 0, .int .i64 0, .int .i64 0, .int .i64 0, .string ⟨#[]⟩, .int .i64 0, .int .i64 0, .int .i64 0, .string ⟨#[]⟩, .bool false, .slice none 0 0] 29
    rw [show ((w.alloc (.cells #[.int .i64 yv, .int .i64 dh, .int .i64 dr, .int .i64 ds, .string di, .int .i64 mh, .int .i64 mr, .int .i64 ms, .string mi, .bool false, .slice a o.length cap] 29)).alloc (.cells #[.int .i64 yh, .int .i64 yr, .int .i64 ys, .string yi, .int .i64 yv] 31)).heap.size = w.heap.size + 2 from by simp] at hnew
    exact hnew
  have HB0 : Hid (Below w.heap.size w W0) := by rw [← hW0]; exact (((Below.refl w.heap.size w).alloc (Nat.le_refl _) _).alloc (by simp; try omega) _).alloc (by simp; try omega) _
  go_enter Try.func15, Try.ntmps15
  have cX_0_0 := HX0.out.cell 0 rfl
  have cX_1_0 := HX0.out.cell 1 rfl
  have cX_2_0 := HX0.out.cell 2 rfl
  have cX_3_0 := HX0.out.cell 3 rfl
  have cX_4_0 := HX0.out.cell 4 rfl
  have cX_5_0 := HX0.out.cell 5 rfl
  have cX_6_0 := HX0.out.cell 6 rfl
  have cX_7_0 := HX0.out.cell 7 rfl
  have cX_8_0 := HX0.out.cell 8 rfl
  have cX_9_0 := HX0.out.cell 9 rfl
  have cX_10_0 := HX0.out.cell 10 rfl
  go_wp2_with fail
  clear hW0 cX_0_0 cX_1_0 cX_2_0 cX_3_0 cX_4_0 cX_5_0 cX_6_0 cX_7_0 cX_8_0 cX_9_0 cX_10_0
  refine (kS _ (HY.out.below HB0.out)).mono ?_
  rintro e w1 ⟨rfl, bb⟩
  have HX1 : Hid (Blk w1 w.heap.size [.int .i64 yv, .int .i64 dh, .int .i64 dr, .int .i64 ds, .string di, .int .i64 mh, .int .i64 mr, .int .i64 ms, .string mi, .bool false, .slice a o.length cap] 29) := HX0.out.below bb HX0.out.lt
  have HV1 : Hid (Blk w1 (w.heap.size + 1) [.int .i64 yh, .int .i64 yr, .int .i64 ys, .string yi, .int .i64 yv] 31) := HV0.out.below bb HV0.out.lt
  have HR1 : Hid (Blk w1 (w.heap.size + 2) [.int .i64 0, .int .i64 0, .int .i64 0, .int .i64 0, .string ⟨#[]⟩, .int .i64 0, .int .i64 0, .int .i64 0, .string ⟨#[]⟩, .bool false, .slice none 0 0] 29) := HR0.out.below bb HR0.out.lt
  have HB1 : Hid (Below w.heap.size w w1) := HB0.out.trans (bb.mono HB0.out.size)
  clear HX0 HV0 HR0 HB0
  clear bb
  clear kS
  have cX_0_1 := HX1.out.cell 0 rfl
  have cX_1_1 := HX1.out.cell 1 rfl
  have cX_2_1 := HX1.out.cell 2 rfl
  have cX_3_1 := HX1.out.cell 3 rfl
  have cX_4_1 := HX1.out.cell 4 rfl
  have cX_5_1 := HX1.out.cell 5 rfl
  have cX_6_1 := HX1.out.cell 6 rfl
  have cX_7_1 := HX1.out.cell 7 rfl
  have cX_8_1 := HX1.out.cell 8 rfl
  have cX_9_1 := HX1.out.cell 9 rfl
  have cX_10_1 := HX1.out.cell 10 rfl
  go_wp2_with fail
  clear cX_0_1 cX_1_1 cX_2_1 cX_3_1 cX_4_1 cX_5_1 cX_6_1 cX_7_1 cX_8_1 cX_9_1 cX_10_1
  refine (kC _ (HY.out.below HB1.out)).mono ?_
  rintro e w2 ⟨q, rfl, HQ, bb⟩
  obtain ⟨qa, qc, rfl⟩ := own_shape HQ.out
  have HQ0 : Hid (OwnY w2 w.heap.size (.slice qa o.length qc) o) := own_less HQ.out HB1.out.size
  have HX2 : Hid (Blk w2 w.heap.size [.int .i64 yv, .int .i64 dh, .int .i64 dr, .int .i64 ds, .string di, .int .i64 mh, .int .i64 mr, .int .i64 ms, .string mi, .bool false, .slice a o.length cap] 29) := HX1.out.below bb HX1.out.lt
  have HV2 : Hid (Blk w2 (w.heap.size + 1) [.int .i64 yh, .int .i64 yr, .int .i64 ys, .string yi, .int .i64 yv] 31) := HV1.out.below bb HV1.out.lt
  have HR2 : Hid (Blk w2 (w.heap.size + 2) [.int .i64 0, .int .i64 0, .int .i64 0, .int .i64 0, .string ⟨#[]⟩, .int .i64 0, .int .i64 0, .int .i64 0, .string ⟨#[]⟩, .bool false, .slice none 0 0] 29) := HR1.out.below bb HR1.out.lt
  have HB2 : Hid (Below w.heap.size w w2) := HB1.out.trans (bb.mono HB1.out.size)
  clear HX1 HV1 HR1 HB1
  clear bb kC HQ HY
  obtain ⟨wa3, hwa3⟩ : ∃ W, w2.alloc (.cells #[.int .i64 0, .int .i64 0, .int .i64 0, .int .i64 0, .string ⟨#[]⟩, .int .i64 0, .int .i64 0, .int .i64 0, .string ⟨#[]⟩, .bool false, .slice none 0 0] 29) = W := ⟨_, rfl⟩
  obtain ⟨nY, hnY⟩ : ∃ n, w2.heap.size = n := ⟨_, rfl⟩
  have hnYX : w.heap.size < nY := by rw [← hnY]; exact HX2.out.lt
  have hnYV : (w.heap.size + 1) < nY := by rw [← hnY]; exact HV2.out.lt
  have hnYR : (w.heap.size + 2) < nY := by rw [← hnY]; exact HR2.out.lt
  have HAnY : Hid (Below w2.heap.size w2 wa3) := by rw [← hwa3]; exact below_one _ _
  have HX3 : Hid (Blk wa3 w.heap.size [.int .i64 yv, .int .i64 dh, .int .i64 dr, .int .i64 ds, .string di, .int .i64 mh, .int .i64 mr, .int .i64 ms, .string mi, .bool false, .slice a o.length cap] 29) := HX2.out.below HAnY.out HX2.out.lt
  have HV3 : Hid (Blk wa3 (w.heap.size + 1) [.int .i64 yh, .int .i64 yr, .int .i64 ys, .string yi, .int .i64 yv] 31) := HV2.out.below HAnY.out HV2.out.lt
  have HR3 : Hid (Blk wa3 (w.heap.size + 2) [.int .i64 0, .int .i64 0, .int .i64 0, .int .i64 0, .string ⟨#[]⟩, .int .i64 0, .int .i64 0, .int .i64 0, .string ⟨#[]⟩, .bool false, .slice none 0 0] 29) := HR2.out.below HAnY.out HR2.out.lt
  have HQ3 : Hid (OwnY wa3 w.heap.size (.slice qa o.length qc) o) := own_keep HQ0.out HAnY.out
  have HB3 : Hid (Below w.heap.size w wa3) := HB2.out.trans (HAnY.out.mono HB2.out.size)
  have HY3 : Hid (Blk wa3 nY [.int .i64 0, .int .i64 0, .int .i64 0, .int .i64 0, .string ⟨#[]⟩, .int .i64 0, .int .i64 0, .int .i64 0, .string ⟨#[]⟩, .bool false, .slice none 0 0] 29) := by rw [← hwa3, ← hnY]; exact blk_new _ _ _
  clear HAnY HX2 HV2 HR2 HB2 HQ0
  have cX_0_3 := HX3.out.cell 0 rfl
  have cX_1_3 := HX3.out.cell 1 rfl
  have cX_2_3 := HX3.out.cell 2 rfl
  have cX_3_3 := HX3.out.cell 3 rfl
  have cX_4_3 := HX3.out.cell 4 rfl
  have cX_5_3 := HX3.out.cell 5 rfl
  have cX_6_3 := HX3.out.cell 6 rfl
  have cX_7_3 := HX3.out.cell 7 rfl
  have cX_8_3 := HX3.out.cell 8 rfl
  have cX_9_3 := HX3.out.cell 9 rfl
  have cX_10_3 := HX3.out.cell 10 rfl
  have cY_0_3 := HY3.out.cell 0 rfl
  have cY_1_3 := HY3.out.cell 1 rfl
  have cY_2_3 := HY3.out.cell 2 rfl
  have cY_3_3 := HY3.out.cell 3 rfl
  have cY_4_3 := HY3.out.cell 4 rfl
  have cY_5_3 := HY3.out.cell 5 rfl
  have cY_6_3 := HY3.out.cell 6 rfl
  have cY_7_3 := HY3.out.cell 7 rfl
  have cY_8_3 := HY3.out.cell 8 rfl
  have cY_9_3 := HY3.out.cell 9 rfl
  have cY_10_3 := HY3.out.cell 10 rfl
  have zY_3 := fun j => HY3.out.frozen j
  have KX := (((((((((((HX3.out.other 0 (.int .i64 yv) (show w.heap.size ≠ nY by omega)).other 1 (.int .i64 dh) (show w.heap.size ≠ nY by omega)).other 2 (.int .i64 dr) (show w.heap.size ≠ nY by omega)).other 3 (.int .i64 ds) (show w.heap.size ≠ nY by omega)).other 4 (.string di) (show w.heap.size ≠ nY by omega)).other 5 (.int .i64 mh) (show w.heap.size ≠ nY by omega)).other 6 (.int .i64 mr) (show w.heap.size ≠ nY by omega)).other 7 (.int .i64 ms) (show w.heap.size ≠ nY by omega)).other 8 (.string mi) (show w.heap.size ≠ nY by omega)).other 9 (.bool false) (show w.heap.size ≠ nY by omega)).other 10 (.slice qa o.length qc) (show w.heap.size ≠ nY by omega))
  have KV := (((((((((((HV3.out.other 0 (.int .i64 yv) (show (w.heap.size + 1) ≠ nY by omega)).other 1 (.int .i64 dh) (show (w.heap.size + 1) ≠ nY by omega)).other 2 (.int .i64 dr) (show (w.heap.size + 1) ≠ nY by omega)).other 3 (.int .i64 ds) (show (w.heap.size + 1) ≠ nY by omega)).other 4 (.string di) (show (w.heap.size + 1) ≠ nY by omega)).other 5 (.int .i64 mh) (show (w.heap.size + 1) ≠ nY by omega)).other 6 (.int .i64 mr) (show (w.heap.size + 1) ≠ nY by omega)).other 7 (.int .i64 ms) (show (w.heap.size + 1) ≠ nY by omega)).other 8 (.string mi) (show (w.heap.size + 1) ≠ nY by omega)).other 9 (.bool false) (show (w.heap.size + 1) ≠ nY by omega)).other 10 (.slice qa o.length qc) (show (w.heap.size + 1) ≠ nY by omega))
  have KR := (((((((((((HR3.out.other 0 (.int .i64 yv) (show (w.heap.size + 2) ≠ nY by omega)).other 1 (.int .i64 dh) (show (w.heap.size + 2) ≠ nY by omega)).other 2 (.int .i64 dr) (show (w.heap.size + 2) ≠ nY by omega)).other 3 (.int .i64 ds) (show (w.heap.size + 2) ≠ nY by omega)).other 4 (.string di) (show (w.heap.size + 2) ≠ nY by omega)).other 5 (.int .i64 mh) (show (w.heap.size + 2) ≠ nY by omega)).other 6 (.int .i64 mr) (show (w.heap.size + 2) ≠ nY by omega)).other 7 (.int .i64 ms) (show (w.heap.size + 2) ≠ nY by omega)).other 8 (.string mi) (show (w.heap.size + 2) ≠ nY by omega)).other 9 (.bool false) (show (w.heap.size + 2) ≠ nY by omega)).other 10 (.slice qa o.length qc) (show (w.heap.size + 2) ≠ nY by omega))
  have KY := (((((((((((HY3.out.set 0 (.int .i64 yv)).set 1 (.int .i64 dh)).set 2 (.int .i64 dr)).set 3 (.int .i64 ds)).set 4 (.string di)).set 5 (.int .i64 mh)).set 6 (.int .i64 mr)).set 7 (.int .i64 ms)).set 8 (.string mi)).set 9 (.bool false)).set 10 (.slice qa o.length qc))
  have KB := (((((((((((HB3.out.setCell (p := ⟨nY, 0, none⟩) (show w.heap.size ≤ nY by omega) (.int .i64 yv)).setCell (p := ⟨nY, 1, none⟩) (show w.heap.size ≤ nY by omega) (.int .i64 dh)).setCell (p := ⟨nY, 2, none⟩) (show w.heap.size ≤ nY by omega) (.int .i64 dr)).setCell (p := ⟨nY, 3, none⟩) (show w.heap.size ≤ nY by omega) (.int .i64 ds)).setCell (p := ⟨nY, 4, none⟩) (show w.heap.size ≤ nY by omega) (.string di)).setCell (p := ⟨nY, 5, none⟩) (show w.heap.size ≤ nY by omega) (.int .i64 mh)).setCell (p := ⟨nY, 6, none⟩) (show w.heap.size ≤ nY by omega) (.int .i64 mr)).setCell (p := ⟨nY, 7, none⟩) (show w.heap.size ≤ nY by omega) (.int .i64 ms)).setCell (p := ⟨nY, 8, none⟩) (show w.heap.size ≤ nY by omega) (.string mi)).setCell (p := ⟨nY, 9, none⟩) (show w.heap.size ≤ nY by omega) (.bool false)).setCell (p := ⟨nY, 10, none⟩) (show w.heap.size ≤ nY by omega) (.slice qa o.length qc))
  have KG : Hid (wa3.grownBy (((((((((((wa3.setCell ⟨nY, 0, none⟩ (.int .i64 yv)).setCell ⟨nY, 1, none⟩ (.int .i64 dh)).setCell ⟨nY, 2, none⟩ (.int .i64 dr)).setCell ⟨nY, 3, none⟩ (.int .i64 ds)).setCell ⟨nY, 4, none⟩ (.string di)).setCell ⟨nY, 5, none⟩ (.int .i64 mh)).setCell ⟨nY, 6, none⟩ (.int .i64 mr)).setCell ⟨nY, 7, none⟩ (.int .i64 ms)).setCell ⟨nY, 8, none⟩ (.string mi)).setCell ⟨nY, 9, none⟩ (.bool false)).setCell ⟨nY, 10, none⟩ (.slice qa o.length qc)) (some nY)) := grown_set (grown_set (grown_set (grown_set (grown_set (grown_set (grown_set (grown_set (grown_set (grown_set (grown_set (grown_refl _ _) _) _) _) _) _) _) _) _) _) _) _
  have KQ : Hid (OwnY (((((((((((wa3.setCell ⟨nY, 0, none⟩ (.int .i64 yv)).setCell ⟨nY, 1, none⟩ (.int .i64 dh)).setCell ⟨nY, 2, none⟩ (.int .i64 dr)).setCell ⟨nY, 3, none⟩ (.int .i64 ds)).setCell ⟨nY, 4, none⟩ (.string di)).setCell ⟨nY, 5, none⟩ (.int .i64 mh)).setCell ⟨nY, 6, none⟩ (.int .i64 mr)).setCell ⟨nY, 7, none⟩ (.int .i64 ms)).setCell ⟨nY, 8, none⟩ (.string mi)).setCell ⟨nY, 9, none⟩ (.bool false)).setCell ⟨nY, 10, none⟩ (.slice qa o.length qc)) w.heap.size (.slice qa o.length qc) o) := own_aside HQ3.out KG.out HY3.out
  go_upto_region 4 with fail
  clear hwa3 hnY cX_0_3 cX_1_3 cX_2_3 cX_3_3 cX_4_3 cX_5_3 cX_6_3 cX_7_3 cX_8_3 cX_9_3 cX_10_3 cY_0_3 cY_1_3 cY_2_3 cY_3_3 cY_4_3 cY_5_3 cY_6_3 cY_7_3 cY_8_3 cY_9_3 cY_10_3 zY_3
  generalize ((((((((((((wa3.setCell _ _).setCell _ _).setCell _ _).setCell _ _).setCell _ _).setCell _ _).setCell _ _).setCell _ _).setCell _ _).setCell _ _).setCell _ _) : World) = w4 at *
  have HX4 : Hid (Blk w4 w.heap.size [.int .i64 yv, .int .i64 dh, .int .i64 dr, .int .i64 ds, .string di, .int .i64 mh, .int .i64 mr, .int .i64 ms, .string mi, .bool false, .slice a o.length cap] 29) := KX
  have HV4 : Hid (Blk w4 (w.heap.size + 1) [.int .i64 yh, .int .i64 yr, .int .i64 ys, .string yi, .int .i64 yv] 31) := KV
  have HR4 : Hid (Blk w4 (w.heap.size + 2) [.int .i64 0, .int .i64 0, .int .i64 0, .int .i64 0, .string ⟨#[]⟩, .int .i64 0, .int .i64 0, .int .i64 0, .string ⟨#[]⟩, .bool false, .slice none 0 0] 29) := KR
  have HY4 : Hid (Blk w4 nY [.int .i64 yv, .int .i64 dh, .int .i64 dr, .int .i64 ds, .string di, .int .i64 mh, .int .i64 mr, .int .i64 ms, .string mi, .bool false, .slice qa o.length qc] 29) := KY
  have HQ4 : Hid (OwnY w4 w.heap.size (.slice qa o.length qc) o) := KQ
  have HB4 : Hid (Below w.heap.size w w4) := KB
  clear KX KV KR KY KB KG KQ HX3 HV3 HR3 HY3 HB3 HQ3
  have cX_0_4 := HX4.out.cell 0 rfl
  have cX_1_4 := HX4.out.cell 1 rfl
  have cX_2_4 := HX4.out.cell 2 rfl
  have cX_3_4 := HX4.out.cell 3 rfl
  have cX_4_4 := HX4.out.cell 4 rfl
  have cX_5_4 := HX4.out.cell 5 rfl
  have cX_6_4 := HX4.out.cell 6 rfl
  have cX_7_4 := HX4.out.cell 7 rfl
  have cX_8_4 := HX4.out.cell 8 rfl
  have cX_9_4 := HX4.out.cell 9 rfl
  have cX_10_4 := HX4.out.cell 10 rfl
  have cV_0_4 := HV4.out.cell 0 rfl
  have cV_1_4 := HV4.out.cell 1 rfl
  have cV_2_4 := HV4.out.cell 2 rfl
  have cV_3_4 := HV4.out.cell 3 rfl
  have cV_4_4 := HV4.out.cell 4 rfl
  have cY_0_4 := HY4.out.cell 0 rfl
  have cY_1_4 := HY4.out.cell 1 rfl
  have cY_2_4 := HY4.out.cell 2 rfl
  have cY_3_4 := HY4.out.cell 3 rfl
  have cY_4_4 := HY4.out.cell 4 rfl
  have cY_5_4 := HY4.out.cell 5 rfl
  have cY_6_4 := HY4.out.cell 6 rfl
  have cY_7_4 := HY4.out.cell 7 rfl
  have cY_8_4 := HY4.out.cell 8 rfl
  have cY_9_4 := HY4.out.cell 9 rfl
  have cY_10_4 := HY4.out.cell 10 rfl
  go_wp2_with fail
  clear cX_0_4 cX_1_4 cX_2_4 cX_3_4 cX_4_4 cX_5_4 cX_6_4 cX_7_4 cX_8_4 cX_9_4 cX_10_4 cV_0_4 cV_1_4 cV_2_4 cV_3_4 cV_4_4 cY_0_4 cY_1_4 cY_2_4 cY_3_4 cY_4_4 cY_5_4 cY_6_4 cY_7_4 cY_8_4 cY_9_4 cY_10_4
  refine (kM _).mono ?_
  rintro e w5 ⟨rfl, bb⟩
  have HX5 : Hid (Blk w5 w.heap.size [.int .i64 yv, .int .i64 dh, .int .i64 dr, .int .i64 ds, .string di, .int .i64 mh, .int .i64 mr, .int .i64 ms, .string mi, .bool false, .slice a o.length cap] 29) := HX4.out.below bb HX4.out.lt
  have HV5 : Hid (Blk w5 (w.heap.size + 1) [.int .i64 yh, .int .i64 yr, .int .i64 ys, .string yi, .int .i64 yv] 31) := HV4.out.below bb HV4.out.lt
  have HR5 : Hid (Blk w5 (w.heap.size + 2) [.int .i64 0, .int .i64 0, .int .i64 0, .int .i64 0, .string ⟨#[]⟩, .int .i64 0, .int .i64 0, .int .i64 0, .string ⟨#[]⟩, .bool false, .slice none 0 0] 29) := HR4.out.below bb HR4.out.lt
  have HY5 : Hid (Blk w5 nY [.int .i64 yv, .int .i64 dh, .int .i64 dr, .int .i64 ds, .string di, .int .i64 mh, .int .i64 mr, .int .i64 ms, .string mi, .bool false, .slice qa o.length qc] 29) := HY4.out.below bb HY4.out.lt
  have HQ5 : Hid (OwnY w5 w.heap.size (.slice qa o.length qc) o) := own_keep HQ4.out bb
  have HB5 : Hid (Below w.heap.size w w5) := HB4.out.trans (bb.mono HB4.out.size)
  clear HX4 HV4 HR4 HY4 HB4 HQ4
  clear bb
  clear kM
  have cX_0_5 := HX5.out.cell 0 rfl
  have cX_1_5 := HX5.out.cell 1 rfl
  have cX_2_5 := HX5.out.cell 2 rfl
  have cX_3_5 := HX5.out.cell 3 rfl
  have cX_4_5 := HX5.out.cell 4 rfl
  have cX_5_5 := HX5.out.cell 5 rfl
  have cX_6_5 := HX5.out.cell 6 rfl
  have cX_7_5 := HX5.out.cell 7 rfl
  have cX_8_5 := HX5.out.cell 8 rfl
  have cX_9_5 := HX5.out.cell 9 rfl
  have cX_10_5 := HX5.out.cell 10 rfl
  have cV_0_5 := HV5.out.cell 0 rfl
  have cV_1_5 := HV5.out.cell 1 rfl
  have cV_2_5 := HV5.out.cell 2 rfl
  have cV_3_5 := HV5.out.cell 3 rfl
  have cV_4_5 := HV5.out.cell 4 rfl
  have cY_0_5 := HY5.out.cell 0 rfl
  have cY_1_5 := HY5.out.cell 1 rfl
  have cY_2_5 := HY5.out.cell 2 rfl
  have cY_3_5 := HY5.out.cell 3 rfl
  have cY_4_5 := HY5.out.cell 4 rfl
  have cY_5_5 := HY5.out.cell 5 rfl
  have cY_6_5 := HY5.out.cell 6 rfl
  have cY_7_5 := HY5.out.cell 7 rfl
  have cY_8_5 := HY5.out.cell 8 rfl
  have cY_9_5 := HY5.out.cell 9 rfl
  have cY_10_5 := HY5.out.cell 10 rfl
  go_upto_region 13 with fail
  clear cX_0_5 cX_1_5 cX_2_5 cX_3_5 cX_4_5 cX_5_5 cX_6_5 cX_7_5 cX_8_5 cX_9_5 cX_10_5 cV_0_5 cV_1_5 cV_2_5 cV_3_5 cV_4_5 cY_0_5 cY_1_5 cY_2_5 cY_3_5 cY_4_5 cY_5_5 cY_6_5 cY_7_5 cY_8_5 cY_9_5 cY_10_5
  have cX_0_5 := HX5.out.cell 0 rfl
  have cX_1_5 := HX5.out.cell 1 rfl
  have cX_2_5 := HX5.out.cell 2 rfl
  have cX_3_5 := HX5.out.cell 3 rfl
  have cX_4_5 := HX5.out.cell 4 rfl
  have cX_5_5 := HX5.out.cell 5 rfl
  have cX_6_5 := HX5.out.cell 6 rfl
  have cX_7_5 := HX5.out.cell 7 rfl
  have cX_8_5 := HX5.out.cell 8 rfl
  have cX_9_5 := HX5.out.cell 9 rfl
  have cX_10_5 := HX5.out.cell 10 rfl
  have cR_0_5 := HR5.out.cell 0 rfl
  have cR_1_5 := HR5.out.cell 1 rfl
  have cR_2_5 := HR5.out.cell 2 rfl
  have cR_3_5 := HR5.out.cell 3 rfl
  have cR_4_5 := HR5.out.cell 4 rfl
  have cR_5_5 := HR5.out.cell 5 rfl
  have cR_6_5 := HR5.out.cell 6 rfl
  have cR_7_5 := HR5.out.cell 7 rfl
  have cR_8_5 := HR5.out.cell 8 rfl
  have cR_9_5 := HR5.out.cell 9 rfl
  have cR_10_5 := HR5.out.cell 10 rfl
  have cY_0_5 := HY5.out.cell 0 rfl
  have cY_1_5 := HY5.out.cell 1 rfl
  have cY_2_5 := HY5.out.cell 2 rfl
  have cY_3_5 := HY5.out.cell 3 rfl
  have cY_4_5 := HY5.out.cell 4 rfl
  have cY_5_5 := HY5.out.cell 5 rfl
  have cY_6_5 := HY5.out.cell 6 rfl
  have cY_7_5 := HY5.out.cell 7 rfl
  have cY_8_5 := HY5.out.cell 8 rfl
  have cY_9_5 := HY5.out.cell 9 rfl
  have cY_10_5 := HY5.out.cell 10 rfl
  have zR_5 := fun j => HR5.out.frozen j
  have KX := (((((((((((HX5.out.other 0 (.int .i64 yv) (show w.heap.size ≠ (w.heap.size + 2) by omega)).other 1 (.int .i64 dh) (show w.heap.size ≠ (w.heap.size + 2) by omega)).other 2 (.int .i64 dr) (show w.heap.size ≠ (w.heap.size + 2) by omega)).other 3 (.int .i64 ds) (show w.heap.size ≠ (w.heap.size + 2) by omega)).other 4 (.string di) (show w.heap.size ≠ (w.heap.size + 2) by omega)).other 5 (.int .i64 mh) (show w.heap.size ≠ (w.heap.size + 2) by omega)).other 6 (.int .i64 mr) (show w.heap.size ≠ (w.heap.size + 2) by omega)).other 7 (.int .i64 ms) (show w.heap.size ≠ (w.heap.size + 2) by omega)).other 8 (.string mi) (show w.heap.size ≠ (w.heap.size + 2) by omega)).other 9 (.bool false) (show w.heap.size ≠ (w.heap.size + 2) by omega)).other 10 (.slice qa o.length qc) (show w.heap.size ≠ (w.heap.size + 2) by omega))
  have KV := (((((((((((HV5.out.other 0 (.int .i64 yv) (show (w.heap.size + 1) ≠ (w.heap.size + 2) by omega)).other 1 (.int .i64 dh) (show (w.heap.size + 1) ≠ (w.heap.size + 2) by omega)).other 2 (.int .i64 dr) (show (w.heap.size + 1) ≠ (w.heap.size + 2) by omega)).other 3 (.int .i64 ds) (show (w.heap.size + 1) ≠ (w.heap.size + 2) by omega)).other 4 (.string di) (show (w.heap.size + 1) ≠ (w.heap.size + 2) by omega)).other 5 (.int .i64 mh) (show (w.heap.size + 1) ≠ (w.heap.size + 2) by omega)).other 6 (.int .i64 mr) (show (w.heap.size + 1) ≠ (w.heap.size + 2) by omega)).other 7 (.int .i64 ms) (show (w.heap.size + 1) ≠ (w.heap.size + 2) by omega)).other 8 (.string mi) (show (w.heap.size + 1) ≠ (w.heap.size + 2) by omega)).other 9 (.bool false) (show (w.heap.size + 1) ≠ (w.heap.size + 2) by omega)).other 10 (.slice qa o.length qc) (show (w.heap.size + 1) ≠ (w.heap.size + 2) by omega))
  have KR := (((((((((((HR5.out.set 0 (.int .i64 yv)).set 1 (.int .i64 dh)).set 2 (.int .i64 dr)).set 3 (.int .i64 ds)).set 4 (.string di)).set 5 (.int .i64 mh)).set 6 (.int .i64 mr)).set 7 (.int .i64 ms)).set 8 (.string mi)).set 9 (.bool false)).set 10 (.slice qa o.length qc))
  have KY := (((((((((((HY5.out.other 0 (.int .i64 yv) (show nY ≠ (w.heap.size + 2) by omega)).other 1 (.int .i64 dh) (show nY ≠ (w.heap.size + 2) by omega)).other 2 (.int .i64 dr) (show nY ≠ (w.heap.size + 2) by omega)).other 3 (.int .i64 ds) (show nY ≠ (w.heap.size + 2) by omega)).other 4 (.string di) (show nY ≠ (w.heap.size + 2) by omega)).other 5 (.int .i64 mh) (show nY ≠ (w.heap.size + 2) by omega)).other 6 (.int .i64 mr) (show nY ≠ (w.heap.size + 2) by omega)).other 7 (.int .i64 ms) (show nY ≠ (w.heap.size + 2) by omega)).other 8 (.string mi) (show nY ≠ (w.heap.size + 2) by omega)).other 9 (.bool false) (show nY ≠ (w.heap.size + 2) by omega)).other 10 (.slice qa o.length qc) (show nY ≠ (w.heap.size + 2) by omega))
  have KB := (((((((((((HB5.out.setCell (p := ⟨(w.heap.size + 2), 0, none⟩) (show w.heap.size ≤ (w.heap.size + 2) by omega) (.int .i64 yv)).setCell (p := ⟨(w.heap.size + 2), 1, none⟩) (show w.heap.size ≤ (w.heap.size + 2) by omega) (.int .i64 dh)).setCell (p := ⟨(w.heap.size + 2), 2, none⟩) (show w.heap.size ≤ (w.heap.size + 2) by omega) (.int .i64 dr)).setCell (p := ⟨(w.heap.size + 2), 3, none⟩) (show w.heap.size ≤ (w.heap.size + 2) by omega) (.int .i64 ds)).setCell (p := ⟨(w.heap.size + 2), 4, none⟩) (show w.heap.size ≤ (w.heap.size + 2) by omega) (.string di)).setCell (p := ⟨(w.heap.size + 2), 5, none⟩) (show w.heap.size ≤ (w.heap.size + 2) by omega) (.int .i64 mh)).setCell (p := ⟨(w.heap.size + 2), 6, none⟩) (show w.heap.size ≤ (w.heap.size + 2) by omega) (.int .i64 mr)).setCell (p := ⟨(w.heap.size + 2), 7, none⟩) (show w.heap.size ≤ (w.heap.size + 2) by omega) (.int .i64 ms)).setCell (p := ⟨(w.heap.size + 2), 8, none⟩) (show w.heap.size ≤ (w.heap.size + 2) by omega) (.string mi)).setCell (p := ⟨(w.heap.size + 2), 9, none⟩) (show w.heap.size ≤ (w.heap.size + 2) by omega) (.bool false)).setCell (p := ⟨(w.heap.size + 2), 10, none⟩) (show w.heap.size ≤ (w.heap.size + 2) by omega) (.slice qa o.length qc))
  have KG : Hid (w5.grownBy (((((((((((w5.setCell ⟨(w.heap.size + 2), 0, none⟩ (.int .i64 yv)).setCell ⟨(w.heap.size + 2), 1, none⟩ (.int .i64 dh)).setCell ⟨(w.heap.size + 2), 2, none⟩ (.int .i64 dr)).setCell ⟨(w.heap.size + 2), 3, none⟩ (.int .i64 ds)).setCell ⟨(w.heap.size + 2), 4, none⟩ (.string di)).setCell ⟨(w.heap.size + 2), 5, none⟩ (.int .i64 mh)).setCell ⟨(w.heap.size + 2), 6, none⟩ (.int .i64 mr)).setCell ⟨(w.heap.size + 2), 7, none⟩ (.int .i64 ms)).setCell ⟨(w.heap.size + 2), 8, none⟩ (.string mi)).setCell ⟨(w.heap.size + 2), 9, none⟩ (.bool false)).setCell ⟨(w.heap.size + 2), 10, none⟩ (.slice qa o.length qc)) (some (w.heap.size + 2))) := grown_set (grown_set (grown_set (grown_set (grown_set (grown_set (grown_set (grown_set (grown_set (grown_set (grown_set (grown_refl _ _) _) _) _) _) _) _) _) _) _) _) _
  have KQ : Hid (OwnY (((((((((((w5.setCell ⟨(w.heap.size + 2), 0, none⟩ (.int .i64 yv)).setCell ⟨(w.heap.size + 2), 1, none⟩ (.int .i64 dh)).setCell ⟨(w.heap.size + 2), 2, none⟩ (.int .i64 dr)).setCell ⟨(w.heap.size + 2), 3, none⟩ (.int .i64 ds)).setCell ⟨(w.heap.size + 2), 4, none⟩ (.string di)).setCell ⟨(w.heap.size + 2), 5, none⟩ (.int .i64 mh)).setCell ⟨(w.heap.size + 2), 6, none⟩ (.int .i64 mr)).setCell ⟨(w.heap.size + 2), 7, none⟩ (.int .i64 ms)).setCell ⟨(w.heap.size + 2), 8, none⟩ (.string mi)).setCell ⟨(w.heap.size + 2), 9, none⟩ (.bool false)).setCell ⟨(w.heap.size + 2), 10, none⟩ (.slice qa o.length qc)) w.heap.size (.slice qa o.length qc) o) := own_aside HQ5.out KG.out HR5.out
  go_wp2_with fail
  clear cX_0_5 cX_1_5 cX_2_5 cX_3_5 cX_4_5 cX_5_5 cX_6_5 cX_7_5 cX_8_5 cX_9_5 cX_10_5 cR_0_5 cR_1_5 cR_2_5 cR_3_5 cR_4_5 cR_5_5 cR_6_5 cR_7_5 cR_8_5 cR_9_5 cR_10_5 cY_0_5 cY_1_5 cY_2_5 cY_3_5 cY_4_5 cY_5_5 cY_6_5 cY_7_5 cY_8_5 cY_9_5 cY_10_5 zR_5
  generalize ((((((((((((w5.setCell _ _).setCell _ _).setCell _ _).setCell _ _).setCell _ _).setCell _ _).setCell _ _).setCell _ _).setCell _ _).setCell _ _).setCell _ _) : World) = w6 at *
  have HX6 : Hid (Blk w6 w.heap.size [.int .i64 yv, .int .i64 dh, .int .i64 dr, .int .i64 ds, .string di, .int .i64 mh, .int .i64 mr, .int .i64 ms, .string mi, .bool false, .slice a o.length cap] 29) := KX
  have HV6 : Hid (Blk w6 (w.heap.size + 1) [.int .i64 yh, .int .i64 yr, .int .i64 ys, .string yi, .int .i64 yv] 31) := KV
  have HR6 : Hid (Blk w6 (w.heap.size + 2) [.int .i64 yv, .int .i64 dh, .int .i64 dr, .int .i64 ds, .string di, .int .i64 mh, .int .i64 mr, .int .i64 ms, .string mi, .bool false, .slice qa o.length qc] 29) := KR
  have HY6 : Hid (Blk w6 nY [.int .i64 yv, .int .i64 dh, .int .i64 dr, .int .i64 ds, .string di, .int .i64 mh, .int .i64 mr, .int .i64 ms, .string mi, .bool false, .slice qa o.length qc] 29) := KY
  have HQ6 : Hid (OwnY w6 w.heap.size (.slice qa o.length qc) o) := KQ
  have HB6 : Hid (Below w.heap.size w w6) := KB
  clear KX KV KR KY KB KG KQ HX5 HV5 HR5 HY5 HB5 HQ5
  have y0 := HR6.out.cell 0 rfl
  have y1 := HR6.out.cell 1 rfl
  have y2 := HR6.out.cell 2 rfl
  have y3 := HR6.out.cell 3 rfl
  have y4 := HR6.out.cell 4 rfl
  have y5 := HR6.out.cell 5 rfl
  have y6 := HR6.out.cell 6 rfl
  have y7 := HR6.out.cell 7 rfl
  have y8 := HR6.out.cell 8 rfl
  have y9 := HR6.out.cell 9 rfl
  have y10 := HR6.out.cell 10 rfl
  refine bodyPost_ret (v := .tuple #[.agg #[.int .i64 yv, .int .i64 dh, .int .i64 dr, .int .i64 ds, .string di, .int .i64 mh, .int .i64 mr, .int .i64 ms, .string mi, .bool false, .slice qa o.length qc], .int .i64 c]) (by simp [results, Try.results15, go_sem, y0, y1, y2, y3, y4, y5, y6, y7, y8, y9, y10]) rfl ⟨_, _, rfl, HQ6.out, HB6.out⟩
theorem spec_ask (x : Sg) (y : Vt) (a : Option Addr) (cap : Nat) (w : World) (hl : YO w a x.o) (hz : a = none → cap = 0) (hlen : x.o.length ≤ 9223372036854775807) :
    Calls Try.prog 15 #[sV x a cap, tV y] w fun e w' => ∃ qa qc, e = .returned (.tuple #[sQ (askS x y).1 (.slice qa (askS x y).1.o.length qc), .int .i64 (askS x y).2]) ∧ Hid (OwnY w' w.heap.size (.slice qa (askS x y).1.o.length qc) (askS x y).1.o) ∧ Below w.heap.size w w' := by
  cases hs : sOk x
  · rw [askS_no hs]; exact sask_no x y a cap w hl hz hlen hs
  · cases hp : x.p
    · by_cases hv : y.v = x.v
      · by_cases h60 : x.o.length < 60
        · by_cases hm : mayS x.m y = 0
          · rw [askS_ok hs hp hv h60 hm]; exact sask_ok x y a cap w hl hz hlen hs hp hv h60 hm
          · by_cases h1 : mayS x.m y = 1
            · rw [askS_same hs hp hv h60 h1]; exact sask_same x y a cap w hl hz hlen hs hp hv h60 h1
            · rw [askS_rest hs hp hv h60 hm h1]; exact sask_rest x y a cap w hl hz hlen hs hp hv h60 hm h1
        · rw [askS_full hs h60]; exact sask_full x y a cap w hl hz hlen hs hp hv h60
      · rw [askS_other hs hv]; exact sask_other x y a cap w hl hz hlen hs hp hv
    · rw [askS_pend hs hp]; exact sask_pend x y a cap w hl hz hlen hs hp
end Go.Proofs.Ytmjlpdmdpagggaa
