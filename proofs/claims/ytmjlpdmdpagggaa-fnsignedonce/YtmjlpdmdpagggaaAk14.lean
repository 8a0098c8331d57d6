/- What impl.SignAsk answers, in a row of its own; old memory stays. Conditions: a row that a machine can hold. -/
import Derived.Test.YtmjlpdmdpagggaaAn14
import Derived.Test.YtmjlpdmdpagggaaSi14
namespace Go.Proofs.Ytmjlpdmdpagggaa
open Go.RowKit
open Num
set_option linter.unusedVariables false
set_option maxHeartbeats 6400000 in
set_option maxRecDepth 100000 in
theorem iask_no (x : Sg) (y : Vt) (a : Option Addr) (cap : Nat) (w : World) (hl : YO w a x.o) (hz : a = none → cap = 0) (hfit : x.o.length ≤ cap ∧ cap ≤ 9223372036854775807) (hs : sOk x = false) :
    Calls Try.prog 14 #[sV x a cap, tV y] w fun e w' => ∃ qa qc, e = .returned (.tuple #[sQ zSg (.slice qa 0 qc), .int .i64 2]) ∧ Hid (OwnY w' w.heap.size (.slice qa ([] : List Vt).length qc) ([] : List Vt)) ∧ Below w.heap.size w w' := by
  have HY : Hid (YO w a x.o) := hl
  have kS := fun W (h : YO W a x.o) => impl_sok x a cap W h (by omega)
  simp only [hs] at kS
  obtain ⟨v, ⟨dh, dr, ds, di⟩, ⟨mh, mr, ms, mi⟩, p, o⟩ := x
  obtain ⟨yh, yr, ys, yi, yv⟩ := y
  unfold sV sQ tV at *
  simp only at *
  clear hl hs hfit
  obtain ⟨W0, hW0⟩ : ∃ W, ((w.alloc (.cells #[.int .i64 v, .int .i64 dh, .int .i64 dr, .int .i64 ds, .string di, .int .i64 mh, .int .i64 mr, .int .i64 ms, .string mi, .bool p, .slice a o.length cap] 29)).alloc (.cells #[.int .i64 yh, .int .i64 yr, .int .i64 ys, .string yi, .int .i64 yv] 31)).alloc (.cells #[.int .i64 0, .int .i64 0, .int .i64 0, .int .i64 0, .string ⟨#[]⟩, .int .i64 0, .int .i64 0, .int .i64 0, .string ⟨#[]⟩, .bool false, .slice none 0 0] 29) = W := ⟨_, rfl⟩
  have HX0 : Hid (Blk W0 w.heap.size [.int .i64 v, .int .i64 dh, .int .i64 dr, .int .i64 ds, .string di, .int .i64 mh, .int .i64 mr, .int .i64 ms, .string mi, .bool p, .slice a o.length cap] 29) := by
    rw [← hW0]
    have hnew := blk_new (w) [.int .i64 v, .int .i64 dh, .int .i64 dr, .int .i64 ds, .string di, .int .i64 mh, .int .i64 mr, .int .i64 ms, .string mi, .bool p, .slice a o.length cap] 29
    exact ((hnew.alloc _).alloc _)
  have HV0 : Hid (Blk W0 (w.heap.size + 1) [.int .i64 yh, .int .i64 yr, .int .i64 ys, .string yi, .int .i64 yv] 31) := by
    rw [← hW0]
    have hnew := blk_new (w.alloc (.cells #[.int .i64 v, .int .i64 dh, .int .i64 dr, .int .i64 ds, .string di, .int .i64 mh, .int .i64 mr, .int .i64 ms, .string mi, .bool p, .slice a o.length cap] 29)) [.int .i64 yh, .int .i64 yr, .int .i64 ys, .string yi, .int .i64 yv] 31
    rw [show (w.alloc (.cells #[.int .i64 v, .int .i64 dh, .int .i64 dr, .int .i64 ds, .string di, .int .i64 mh, .int .i64 mr, .int .i64 ms, .string mi, .bool p, .slice a o.length cap] 29)).heap.size = w.heap.size + 1 from by simp] at hnew
    exact (hnew.alloc _)
  have HR0 : Hid (Blk W0 (w.heap.size + 2) [.int .i64 0, .int .i64 0, .int .i64 0, .int .i64 0, .string ⟨#[]⟩, .int .i64 0, .int .i64 0, .int .i64 0, .string ⟨#[]⟩, .bool false, .slice none 0 0] 29) := by
    rw [← hW0]
    have hnew := blk_new ((w.alloc (.cells #[.int .i64 v, .int .i64 dh, .int .i64 dr, .int .i64 ds, .string di, .int .i64 mh, .int .i64 mr, .int .i64 ms, .string mi, .bool p, .slice a o.length cap] 29)).alloc (.cells #[.int .i64 yh, .int .i64 yr, .int .i64 ys, .string yi, .int .i64 yv] 31)) [.int .i64 0, .int .i64 0, .int .i64 0, .int .i64 0, .string ⟨#[]⟩, .int .i64 0, .int .i64 0, .int .i64 0, .string ⟨#[]⟩, .bool false, .slice none 0 0] 29
    rw [show ((w.alloc (.cells #[.int .i64 v, .int .i64 dh, .int .i64 dr, .int .i64 ds, .string di, .int .i64 mh, .int .i64 mr, .int .i64 ms, .string mi, .bool p, .slice a o.length cap] 29)).alloc (.cells #[.int .i64 yh, .int .i64 yr, .int .i64 ys, .string yi, .int .i64 yv] 31)).heap.size = w.heap.size + 2 from by simp] at hnew
    exact hnew
  have HB0 : Hid (Below w.heap.size w W0) := by rw [← hW0]; exact (((Below.refl w.heap.size w).alloc (Nat.le_refl _) _).alloc (by simp; try omega) _).alloc (by simp; try omega) _
  go_enter Try.func14, Try.ntmps14
  have cX_0_0 := HX0.out.cell 0 rfl
  have cX_1_0 := HX0.out.cell 1 rfl
  have cX_2_0 := HX0.out.cell 2 rfl
  have cX_3_0 := HX0.out.cell 3 rfl
  have cX_4_0 := HX0.out.cell 4 rfl
  have cX_5_0 := HX0.out.cell 5 rfl
  have cX_6_0 := HX0.out.cell 6 rfl
  have cX_7_0 := HX0.out.cell 7 rfl
  have cX_8_0 := HX0.out.cell 8 rfl
  have cX_9_0 := HX0.out.cell 9 rfl
  have cX_10_0 := HX0.out.cell 10 rfl
  go_wp2_with fail
  clear hW0 cX_0_0 cX_1_0 cX_2_0 cX_3_0 cX_4_0 cX_5_0 cX_6_0 cX_7_0 cX_8_0 cX_9_0 cX_10_0
  refine (kS _ (HY.out.below HB0.out)).mono ?_
  rintro e w1 ⟨rfl, bb⟩
  have HX1 : Hid (Blk w1 w.heap.size [.int .i64 v, .int .i64 dh, .int .i64 dr, .int .i64 ds, .string di, .int .i64 mh, .int .i64 mr, .int .i64 ms, .string mi, .bool p, .slice a o.length cap] 29) := HX0.out.below bb HX0.out.lt
  have HV1 : Hid (Blk w1 (w.heap.size + 1) [.int .i64 yh, .int .i64 yr, .int .i64 ys, .string yi, .int .i64 yv] 31) := HV0.out.below bb HV0.out.lt
  have HR1 : Hid (Blk w1 (w.heap.size + 2) [.int .i64 0, .int .i64 0, .int .i64 0, .int .i64 0, .string ⟨#[]⟩, .int .i64 0, .int .i64 0, .int .i64 0, .string ⟨#[]⟩, .bool false, .slice none 0 0] 29) := HR0.out.below bb HR0.out.lt
  have HB1 : Hid (Below w.heap.size w w1) := HB0.out.trans (bb.mono HB0.out.size)
  clear HX0 HV0 HR0 HB0
  clear bb
  clear kS
  have cR_0_1 := HR1.out.cell 0 rfl
  have cR_1_1 := HR1.out.cell 1 rfl
  have cR_2_1 := HR1.out.cell 2 rfl
  have cR_3_1 := HR1.out.cell 3 rfl
  have cR_4_1 := HR1.out.cell 4 rfl
  have cR_5_1 := HR1.out.cell 5 rfl
  have cR_6_1 := HR1.out.cell 6 rfl
  have cR_7_1 := HR1.out.cell 7 rfl
  have cR_8_1 := HR1.out.cell 8 rfl
  have cR_9_1 := HR1.out.cell 9 rfl
  have cR_10_1 := HR1.out.cell 10 rfl
  have zR_1 := fun j => HR1.out.frozen j
  have KX := (((((((((((HX1.out.other 0 (.int .i64 0) (show w.heap.size ≠ (w.heap.size + 2) by omega)).other 1 (.int .i64 0) (show w.heap.size ≠ (w.heap.size + 2) by omega)).other 2 (.int .i64 0) (show w.heap.size ≠ (w.heap.size + 2) by omega)).other 3 (.int .i64 0) (show w.heap.size ≠ (w.heap.size + 2) by omega)).other 4 (.string ⟨#[]⟩) (show w.heap.size ≠ (w.heap.size + 2) by omega)).other 5 (.int .i64 0) (show w.heap.size ≠ (w.heap.size + 2) by omega)).other 6 (.int .i64 0) (show w.heap.size ≠ (w.heap.size + 2) by omega)).other 7 (.int .i64 0) (show w.heap.size ≠ (w.heap.size + 2) by omega)).other 8 (.string ⟨#[]⟩) (show w.heap.size ≠ (w.heap.size + 2) by omega)).other 9 (.bool false) (show w.heap.size ≠ (w.heap.size + 2) by omega)).other 10 (.slice none 0 0) (show w.heap.size ≠ (w.heap.size + 2) by omega))
  have KV := (((((((((((HV1.out.other 0 (.int .i64 0) (show (w.heap.size + 1) ≠ (w.heap.size + 2) by omega)).other 1 (.int .i64 0) (show (w.heap.size + 1) ≠ (w.heap.size + 2) by omega)).other 2 (.int .i64 0) (show (w.heap.size + 1) ≠ (w.heap.size + 2) by omega)).other 3 (.int .i64 0) (show (w.heap.size + 1) ≠ (w.heap.size + 2) by omega)).other 4 (.string ⟨#[]⟩) (show (w.heap.size + 1) ≠ (w.heap.size + 2) by omega)).other 5 (.int .i64 0) (show (w.heap.size + 1) ≠ (w.heap.size + 2) by omega)).other 6 (.int .i64 0) (show (w.heap.size + 1) ≠ (w.heap.size + 2) by omega)).other 7 (.int .i64 0) (show (w.heap.size + 1) ≠ (w.heap.size + 2) by omega)).other 8 (.string ⟨#[]⟩) (show (w.heap.size + 1) ≠ (w.heap.size + 2) by omega)).other 9 (.bool false) (show (w.heap.size + 1) ≠ (w.heap.size + 2) by omega)).other 10 (.slice none 0 0) (show (w.heap.size + 1) ≠ (w.heap.size + 2) by omega))
  have KR := (((((((((((HR1.out.set 0 (.int .i64 0)).set 1 (.int .i64 0)).set 2 (.int .i64 0)).set 3 (.int .i64 0)).set 4 (.string ⟨#[]⟩)).set 5 (.int .i64 0)).set 6 (.int .i64 0)).set 7 (.int .i64 0)).set 8 (.string ⟨#[]⟩)).set 9 (.bool false)).set 10 (.slice none 0 0))
  have KB := (((((((((((HB1.out.setCell (p := ⟨(w.heap.size + 2), 0, none⟩) (show w.heap.size ≤ (w.heap.size + 2) by omega) (.int .i64 0)).setCell (p := ⟨(w.heap.size + 2), 1, none⟩) (show w.heap.size ≤ (w.heap.size + 2) by omega) (.int .i64 0)).setCell (p := ⟨(w.heap.size + 2), 2, none⟩) (show w.heap.size ≤ (w.heap.size + 2) by omega) (.int .i64 0)).setCell (p := ⟨(w.heap.size + 2), 3, none⟩) (show w.heap.size ≤ (w.heap.size + 2) by omega) (.int .i64 0)).setCell (p := ⟨(w.heap.size + 2), 4, none⟩) (show w.heap.size ≤ (w.heap.size + 2) by omega) (.string ⟨#[]⟩)).setCell (p := ⟨(w.heap.size + 2), 5, none⟩) (show w.heap.size ≤ (w.heap.size + 2) by omega) (.int .i64 0)).setCell (p := ⟨(w.heap.size + 2), 6, none⟩) (show w.heap.size ≤ (w.heap.size + 2) by omega) (.int .i64 0)).setCell (p := ⟨(w.heap.size + 2), 7, none⟩) (show w.heap.size ≤ (w.heap.size + 2) by omega) (.int .i64 0)).setCell (p := ⟨(w.heap.size + 2), 8, none⟩) (show w.heap.size ≤ (w.heap.size + 2) by omega) (.string ⟨#[]⟩)).setCell (p := ⟨(w.heap.size + 2), 9, none⟩) (show w.heap.size ≤ (w.heap.size + 2) by omega) (.bool false)).setCell (p := ⟨(w.heap.size + 2), 10, none⟩) (show w.heap.size ≤ (w.heap.size + 2) by omega) (.slice none 0 0))
  go_wp2_with fail
  clear cR_0_1 cR_1_1 cR_2_1 cR_3_1 cR_4_1 cR_5_1 cR_6_1 cR_7_1 cR_8_1 cR_9_1 cR_10_1 zR_1
  generalize ((((((((((((w1.setCell _ _).setCell _ _).setCell _ _).setCell _ _).setCell _ _).setCell _ _).setCell _ _).setCell _ _).setCell _ _).setCell _ _).setCell _ _) : World) = w2 at *
  have HX2 : Hid (Blk w2 w.heap.size [.int .i64 v, .int .i64 dh, .int .i64 dr, .int .i64 ds, .string di, .int .i64 mh, .int .i64 mr, .int .i64 ms, .string mi, .bool p, .slice a o.length cap] 29) := KX
  have HV2 : Hid (Blk w2 (w.heap.size + 1) [.int .i64 yh, .int .i64 yr, .int .i64 ys, .string yi, .int .i64 yv] 31) := KV
  have HR2 : Hid (Blk w2 (w.heap.size + 2) [.int .i64 0, .int .i64 0, .int .i64 0, .int .i64 0, .string ⟨#[]⟩, .int .i64 0, .int .i64 0, .int .i64 0, .string ⟨#[]⟩, .bool false, .slice none 0 0] 29) := KR
  have HB2 : Hid (Below w.heap.size w w2) := KB
  clear KX KV KR KB HX1 HV1 HR1 HB1
  have y0 := HR2.out.cell 0 rfl
  have y1 := HR2.out.cell 1 rfl
  have y2 := HR2.out.cell 2 rfl
  have y3 := HR2.out.cell 3 rfl
  have y4 := HR2.out.cell 4 rfl
  have y5 := HR2.out.cell 5 rfl
  have y6 := HR2.out.cell 6 rfl
  have y7 := HR2.out.cell 7 rfl
  have y8 := HR2.out.cell 8 rfl
  have y9 := HR2.out.cell 9 rfl
  have y10 := HR2.out.cell 10 rfl
  refine bodyPost_ret (v := .tuple #[.agg #[.int .i64 0, .int .i64 0, .int .i64 0, .int .i64 0, .string ⟨#[]⟩, .int .i64 0, .int .i64 0, .int .i64 0, .string ⟨#[]⟩, .bool false, .slice none 0 0], .int .i64 2]) (by simp [results, Try.results14, go_sem, y0, y1, y2, y3, y4, y5, y6, y7, y8, y9, y10]) rfl ⟨none, 0, rfl, OwnY.nil _ _, HB2.out⟩
set_option maxHeartbeats 6400000 in
set_option maxRecDepth 100000 in
theorem iask_pend (x : Sg) (y : Vt) (a : Option Addr) (cap : Nat) (w : World) (hl : YO w a x.o) (hz : a = none → cap = 0) (hfit : x.o.length ≤ cap ∧ cap ≤ 9223372036854775807) (hs : sOk x = true) (hp : x.p = true) :
    Calls Try.prog 14 #[sV x a cap, tV y] w fun e w' => ∃ qa qc, e = .returned (.tuple #[sQ x (.slice qa x.o.length qc), .int .i64 2]) ∧ Hid (OwnY w' w.heap.size (.slice qa x.o.length qc) x.o) ∧ Below w.heap.size w w' := by
  have HY : Hid (YO w a x.o) := hl
  have kS := fun W (h : YO W a x.o) => impl_sok x a cap W h (by omega)
  simp only [hs] at kS
  have hlo : x.o.length ≤ 60 := sOk_len hs
  have HSM : Hid (SmS x ∧ x.o.length ≤ 60) := sOk_sm hs
  obtain ⟨v, ⟨dh, dr, ds, di⟩, ⟨mh, mr, ms, mi⟩, p, o⟩ := x
  obtain ⟨yh, yr, ys, yi, yv⟩ := y
  unfold sV sQ tV at *
  simp only at *
  subst hp
  have hacts : acts ⟨v, ⟨dh, dr, ds, di⟩, ⟨mh, mr, ms, mi⟩, true, o⟩ [] = ⟨v, ⟨dh, dr, ds, di⟩, ⟨mh, mr, ms, mi⟩, true, o⟩ := rfl
  have kA : ∀ (W : World) (hY : YO W a o), Calls Try.prog 38 #[.agg #[.int .i64 v, .int .i64 dh, .int .i64 dr, .int .i64 ds, .string di, .int .i64 mh, .int .i64 mr, .int .i64 ms, .string mi, .bool true, .slice a o.length cap], .slice none 0 0] W fun e w' => ∃ qa qc, e = .returned (.agg #[.int .i64 v, .int .i64 dh, .int .i64 dr, .int .i64 ds, .string di, .int .i64 mh, .int .i64 mr, .int .i64 ms, .string mi, .bool true, .slice qa o.length qc]) ∧ Hid (OwnY w' W.heap.size (.slice qa o.length qc) o) ∧ Below W.heap.size W w' := by
    intro W hY
    have h := after_any ⟨v, ⟨dh, dr, ds, di⟩, ⟨mh, mr, ms, mi⟩, true, o⟩ a cap none [] 0 W hY hz hfit (by simp only; omega) (.inl rfl) (show 0 ≤ 1000 by omega) HSM.out.1 (fun d h => by cases h)
    rw [hacts] at h
    exact h
  clear hacts
  clear HSM
  clear hl hs hfit
  obtain ⟨W0, hW0⟩ : ∃ W, ((w.alloc (.cells #[.int .i64 v, .int .i64 dh, .int .i64 dr, .int .i64 ds, .string di, .int .i64 mh, .int .i64 mr, .int .i64 ms, .string mi, .bool true, .slice a o.length cap] 29)).alloc (.cells #[.int .i64 yh, .int .i64 yr, .int .i64 ys, .string yi, .int .i64 yv] 31)).alloc (.cells #[.int .i64 0, .int .i64 0, .int .i64 0, .int .i64 0, .string ⟨#[]⟩, .int .i64 0, .int .i64 0, .int .i64 0, .string ⟨#[]⟩, .bool false, .slice none 0 0] 29) = W := ⟨_, rfl⟩
  have HX0 : Hid (Blk W0 w.heap.size [.int .i64 v, .int .i64 dh, .int .i64 dr, .int .i64 ds, .string di, .int .i64 mh, .int .i64 mr, .int .i64 ms, .string mi, .bool true, .slice a o.length cap] 29) := by
    rw [← hW0]
    have hnew := blk_new (w) [.int .i64 v, .int .i64 dh, .int .i64 dr, .int .i64 ds, .string di, .int .i64 mh, .int .i64 mr, .int .i64 ms, .string mi, .bool true, .slice a o.length cap] 29
    exact ((hnew.alloc _).alloc _)
  have HV0 : Hid (Blk W0 (w.heap.size + 1) [.int .i64 yh, .int .i64 yr, .int .i64 ys, .string yi, .int .i64 yv] 31) := by
    rw [← hW0]
    have hnew := blk_new (w.alloc (.cells #[.int .i64 v, .int .i64 dh, .int .i64 dr, .int .i64 ds, .string di, .int .i64 mh, .int .i64 mr, .int .i64 ms, .string mi, .bool true, .slice a o.length cap] 29)) [.int .i64 yh, .int .i64 yr, .int .i64 ys, .string yi, .int .i64 yv] 31
    rw [show (w.alloc (.cells #[.int .i64 v, .int .i64 dh, .int .i64 dr, .int .i64 ds, .string di, .int .i64 mh, .int .i64 mr, .int .i64 ms, .string mi, .bool true, .slice a o.length cap] 29)).heap.size = w.heap.size + 1 from by simp] at hnew
    exact (hnew.alloc _)
  have HR0 : Hid (Blk W0 (w.heap.size + 2) [.int .i64 0, .int .i64 0, .int .i64 0, .int .i64 0, .string ⟨#[]⟩, .int .i64 0, .int .i64 0, .int .i64 0, .string ⟨#[]⟩, .bool false, .slice none 0 0] 29) := by
    rw [← hW0]
    have hnew := blk_new ((w.alloc (.cells #[.int .i64 v, .int .i64 dh, .int .i64 dr, .int .i64 ds, .string di, .int .i64 mh, .int .i64 mr, .int .i64 ms, .string mi, .bool true, .slice a o.length cap] 29)).alloc (.cells #[.int .i64 yh, .int .i64 yr, .int .i64 ys, .string yi, .int .i64 yv] 31)) [.int .i64 0, .int .i64 0, .int .i64 0, .int .i64 0, .string ⟨#[]⟩, .int .i64 0, .int .i64 0, .int .i64 0, .string ⟨#[]⟩, .bool false, .slice none 0 0] 29
    rw [show ((w.alloc (.cells #[.int .i64 v, .int .i64 dh, .int .i64 dr, .int .i64 ds, .string di, .int .i64 mh, .int .i64 mr, .int .i64 ms, .string mi, .bool true, .slice a o.length cap] 29)).alloc (.cells #[.int .i64 yh, .int .i64 yr, .int .i64 ys, .string yi, .int .i64 yv] 31)).heap.size = w.heap.size + 2 from by simp] at hnew
    exact hnew
  have HB0 : Hid (Below w.heap.size w W0) := by rw [← hW0]; exact (((Below.refl w.heap.size w).alloc (Nat.le_refl _) _).alloc (by simp; try omega) _).alloc (by simp; try omega) _
  go_enter Try.func14, Try.ntmps14
  have cX_0_0 := HX0.out.cell 0 rfl
  have cX_1_0 := HX0.out.cell 1 rfl
  have cX_2_0 := HX0.out.cell 2 rfl
  have cX_3_0 := HX0.out.cell 3 rfl
  have cX_4_0 := HX0.out.cell 4 rfl
  have cX_5_0 := HX0.out.cell 5 rfl
  have cX_6_0 := HX0.out.cell 6 rfl
  have cX_7_0 := HX0.out.cell 7 rfl
  have cX_8_0 := HX0.out.cell 8 rfl
  have cX_9_0 := HX0.out.cell 9 rfl
  have cX_10_0 := HX0.out.cell 10 rfl
  go_wp2_with fail
  clear hW0 cX_0_0 cX_1_0 cX_2_0 cX_3_0 cX_4_0 cX_5_0 cX_6_0 cX_7_0 cX_8_0 cX_9_0 cX_10_0
  refine (kS _ (HY.out.below HB0.out)).mono ?_
  rintro e w1 ⟨rfl, bb⟩
  have HX1 : Hid (Blk w1 w.heap.size [.int .i64 v, .int .i64 dh, .int .i64 dr, .int .i64 ds, .string di, .int .i64 mh, .int .i64 mr, .int .i64 ms, .string mi, .bool true, .slice a o.length cap] 29) := HX0.out.below bb HX0.out.lt
  have HV1 : Hid (Blk w1 (w.heap.size + 1) [.int .i64 yh, .int .i64 yr, .int .i64 ys, .string yi, .int .i64 yv] 31) := HV0.out.below bb HV0.out.lt
  have HR1 : Hid (Blk w1 (w.heap.size + 2) [.int .i64 0, .int .i64 0, .int .i64 0, .int .i64 0, .string ⟨#[]⟩, .int .i64 0, .int .i64 0, .int .i64 0, .string ⟨#[]⟩, .bool false, .slice none 0 0] 29) := HR0.out.below bb HR0.out.lt
  have HB1 : Hid (Below w.heap.size w w1) := HB0.out.trans (bb.mono HB0.out.size)
  clear HX0 HV0 HR0 HB0
  clear bb
  clear kS
  have cX_0_1 := HX1.out.cell 0 rfl
  have cX_1_1 := HX1.out.cell 1 rfl
  have cX_2_1 := HX1.out.cell 2 rfl
  have cX_3_1 := HX1.out.cell 3 rfl
  have cX_4_1 := HX1.out.cell 4 rfl
  have cX_5_1 := HX1.out.cell 5 rfl
  have cX_6_1 := HX1.out.cell 6 rfl
  have cX_7_1 := HX1.out.cell 7 rfl
  have cX_8_1 := HX1.out.cell 8 rfl
  have cX_9_1 := HX1.out.cell 9 rfl
  have cX_10_1 := HX1.out.cell 10 rfl
  have cV_0_1 := HV1.out.cell 0 rfl
  have cV_1_1 := HV1.out.cell 1 rfl
  have cV_2_1 := HV1.out.cell 2 rfl
  have cV_3_1 := HV1.out.cell 3 rfl
  have cV_4_1 := HV1.out.cell 4 rfl
  go_wp2_with fail
  clear cX_0_1 cX_1_1 cX_2_1 cX_3_1 cX_4_1 cX_5_1 cX_6_1 cX_7_1 cX_8_1 cX_9_1 cX_10_1 cV_0_1 cV_1_1 cV_2_1 cV_3_1 cV_4_1
  refine (kA _ (HY.out.below HB1.out)).mono ?_
  rintro e w2 ⟨qa, qc, rfl, HQ, bb⟩
  obtain ⟨NB, hNB⟩ : ∃ n, w1.heap.size = n := ⟨_, rfl⟩
  have hlt1 : w.heap.size + 2 < NB := by rw [← hNB]; exact HR1.out.lt
  have HQ0 : Hid (OwnY w2 NB (.slice qa o.length qc) o) := by rw [← hNB]; exact HQ.out
  have HX2 : Hid (Blk w2 w.heap.size [.int .i64 v, .int .i64 dh, .int .i64 dr, .int .i64 ds, .string di, .int .i64 mh, .int .i64 mr, .int .i64 ms, .string mi, .bool true, .slice a o.length cap] 29) := HX1.out.below bb HX1.out.lt
  have HV2 : Hid (Blk w2 (w.heap.size + 1) [.int .i64 yh, .int .i64 yr, .int .i64 ys, .string yi, .int .i64 yv] 31) := HV1.out.below bb HV1.out.lt
  have HR2 : Hid (Blk w2 (w.heap.size + 2) [.int .i64 0, .int .i64 0, .int .i64 0, .int .i64 0, .string ⟨#[]⟩, .int .i64 0, .int .i64 0, .int .i64 0, .string ⟨#[]⟩, .bool false, .slice none 0 0] 29) := HR1.out.below bb HR1.out.lt
  have HB2 : Hid (Below w.heap.size w w2) := HB1.out.trans (bb.mono HB1.out.size)
  clear HX1 HV1 HR1 HB1
  clear bb kA HY HQ hNB
  have cR_0_2 := HR2.out.cell 0 rfl
  have cR_1_2 := HR2.out.cell 1 rfl
  have cR_2_2 := HR2.out.cell 2 rfl
  have cR_3_2 := HR2.out.cell 3 rfl
  have cR_4_2 := HR2.out.cell 4 rfl
  have cR_5_2 := HR2.out.cell 5 rfl
  have cR_6_2 := HR2.out.cell 6 rfl
  have cR_7_2 := HR2.out.cell 7 rfl
  have cR_8_2 := HR2.out.cell 8 rfl
  have cR_9_2 := HR2.out.cell 9 rfl
  have cR_10_2 := HR2.out.cell 10 rfl
  have zR_2 := fun j => HR2.out.frozen j
  have KX := (((((((((((HX2.out.other 0 (.int .i64 v) (show w.heap.size ≠ (w.heap.size + 2) by omega)).other 1 (.int .i64 dh) (show w.heap.size ≠ (w.heap.size + 2) by omega)).other 2 (.int .i64 dr) (show w.heap.size ≠ (w.heap.size + 2) by omega)).other 3 (.int .i64 ds) (show w.heap.size ≠ (w.heap.size + 2) by omega)).other 4 (.string di) (show w.heap.size ≠ (w.heap.size + 2) by omega)).other 5 (.int .i64 mh) (show w.heap.size ≠ (w.heap.size + 2) by omega)).other 6 (.int .i64 mr) (show w.heap.size ≠ (w.heap.size + 2) by omega)).other 7 (.int .i64 ms) (show w.heap.size ≠ (w.heap.size + 2) by omega)).other 8 (.string mi) (show w.heap.size ≠ (w.heap.size + 2) by omega)).other 9 (.bool true) (show w.heap.size ≠ (w.heap.size + 2) by omega)).other 10 (.slice qa o.length qc) (show w.heap.size ≠ (w.heap.size + 2) by omega))
  have KV := (((((((((((HV2.out.other 0 (.int .i64 v) (show (w.heap.size + 1) ≠ (w.heap.size + 2) by omega)).other 1 (.int .i64 dh) (show (w.heap.size + 1) ≠ (w.heap.size + 2) by omega)).other 2 (.int .i64 dr) (show (w.heap.size + 1) ≠ (w.heap.size + 2) by omega)).other 3 (.int .i64 ds) (show (w.heap.size + 1) ≠ (w.heap.size + 2) by omega)).other 4 (.string di) (show (w.heap.size + 1) ≠ (w.heap.size + 2) by omega)).other 5 (.int .i64 mh) (show (w.heap.size + 1) ≠ (w.heap.size + 2) by omega)).other 6 (.int .i64 mr) (show (w.heap.size + 1) ≠ (w.heap.size + 2) by omega)).other 7 (.int .i64 ms) (show (w.heap.size + 1) ≠ (w.heap.size + 2) by omega)).other 8 (.string mi) (show (w.heap.size + 1) ≠ (w.heap.size + 2) by omega)).other 9 (.bool true) (show (w.heap.size + 1) ≠ (w.heap.size + 2) by omega)).other 10 (.slice qa o.length qc) (show (w.heap.size + 1) ≠ (w.heap.size + 2) by omega))
  have KR := (((((((((((HR2.out.set 0 (.int .i64 v)).set 1 (.int .i64 dh)).set 2 (.int .i64 dr)).set 3 (.int .i64 ds)).set 4 (.string di)).set 5 (.int .i64 mh)).set 6 (.int .i64 mr)).set 7 (.int .i64 ms)).set 8 (.string mi)).set 9 (.bool true)).set 10 (.slice qa o.length qc))
  have KB := (((((((((((HB2.out.setCell (p := ⟨(w.heap.size + 2), 0, none⟩) (show w.heap.size ≤ (w.heap.size + 2) by omega) (.int .i64 v)).setCell (p := ⟨(w.heap.size + 2), 1, none⟩) (show w.heap.size ≤ (w.heap.size + 2) by omega) (.int .i64 dh)).setCell (p := ⟨(w.heap.size + 2), 2, none⟩) (show w.heap.size ≤ (w.heap.size + 2) by omega) (.int .i64 dr)).setCell (p := ⟨(w.heap.size + 2), 3, none⟩) (show w.heap.size ≤ (w.heap.size + 2) by omega) (.int .i64 ds)).setCell (p := ⟨(w.heap.size + 2), 4, none⟩) (show w.heap.size ≤ (w.heap.size + 2) by omega) (.string di)).setCell (p := ⟨(w.heap.size + 2), 5, none⟩) (show w.heap.size ≤ (w.heap.size + 2) by omega) (.int .i64 mh)).setCell (p := ⟨(w.heap.size + 2), 6, none⟩) (show w.heap.size ≤ (w.heap.size + 2) by omega) (.int .i64 mr)).setCell (p := ⟨(w.heap.size + 2), 7, none⟩) (show w.heap.size ≤ (w.heap.size + 2) by omega) (.int .i64 ms)).setCell (p := ⟨(w.heap.size + 2), 8, none⟩) (show w.heap.size ≤ (w.heap.size + 2) by omega) (.string mi)).setCell (p := ⟨(w.heap.size + 2), 9, none⟩) (show w.heap.size ≤ (w.heap.size + 2) by omega) (.bool true)).setCell (p := ⟨(w.heap.size + 2), 10, none⟩) (show w.heap.size ≤ (w.heap.size + 2) by omega) (.slice qa o.length qc))
  have KG : Hid (w2.grownBy (((((((((((w2.setCell ⟨(w.heap.size + 2), 0, none⟩ (.int .i64 v)).setCell ⟨(w.heap.size + 2), 1, none⟩ (.int .i64 dh)).setCell ⟨(w.heap.size + 2), 2, none⟩ (.int .i64 dr)).setCell ⟨(w.heap.size + 2), 3, none⟩ (.int .i64 ds)).setCell ⟨(w.heap.size + 2), 4, none⟩ (.string di)).setCell ⟨(w.heap.size + 2), 5, none⟩ (.int .i64 mh)).setCell ⟨(w.heap.size + 2), 6, none⟩ (.int .i64 mr)).setCell ⟨(w.heap.size + 2), 7, none⟩ (.int .i64 ms)).setCell ⟨(w.heap.size + 2), 8, none⟩ (.string mi)).setCell ⟨(w.heap.size + 2), 9, none⟩ (.bool true)).setCell ⟨(w.heap.size + 2), 10, none⟩ (.slice qa o.length qc)) (some (w.heap.size + 2))) := grown_set (grown_set (grown_set (grown_set (grown_set (grown_set (grown_set (grown_set (grown_set (grown_set (grown_set (grown_refl _ _) _) _) _) _) _) _) _) _) _) _) _
  have KQ : Hid (OwnY (((((((((((w2.setCell ⟨(w.heap.size + 2), 0, none⟩ (.int .i64 v)).setCell ⟨(w.heap.size + 2), 1, none⟩ (.int .i64 dh)).setCell ⟨(w.heap.size + 2), 2, none⟩ (.int .i64 dr)).setCell ⟨(w.heap.size + 2), 3, none⟩ (.int .i64 ds)).setCell ⟨(w.heap.size + 2), 4, none⟩ (.string di)).setCell ⟨(w.heap.size + 2), 5, none⟩ (.int .i64 mh)).setCell ⟨(w.heap.size + 2), 6, none⟩ (.int .i64 mr)).setCell ⟨(w.heap.size + 2), 7, none⟩ (.int .i64 ms)).setCell ⟨(w.heap.size + 2), 8, none⟩ (.string mi)).setCell ⟨(w.heap.size + 2), 9, none⟩ (.bool true)).setCell ⟨(w.heap.size + 2), 10, none⟩ (.slice qa o.length qc)) NB (.slice qa o.length qc) o) := own_still HQ0.out KG.out (fun j e => by injection e with e; omega)
  go_wp2_with fail
  clear cR_0_2 cR_1_2 cR_2_2 cR_3_2 cR_4_2 cR_5_2 cR_6_2 cR_7_2 cR_8_2 cR_9_2 cR_10_2 zR_2
  generalize ((((((((((((w2.setCell _ _).setCell _ _).setCell _ _).setCell _ _).setCell _ _).setCell _ _).setCell _ _).setCell _ _).setCell _ _).setCell _ _).setCell _ _) : World) = w3 at *
  have HX3 : Hid (Blk w3 w.heap.size [.int .i64 v, .int .i64 dh, .int .i64 dr, .int .i64 ds, .string di, .int .i64 mh, .int .i64 mr, .int .i64 ms, .string mi, .bool true, .slice a o.length cap] 29) := KX
  have HV3 : Hid (Blk w3 (w.heap.size + 1) [.int .i64 yh, .int .i64 yr, .int .i64 ys, .string yi, .int .i64 yv] 31) := KV
  have HR3 : Hid (Blk w3 (w.heap.size + 2) [.int .i64 v, .int .i64 dh, .int .i64 dr, .int .i64 ds, .string di, .int .i64 mh, .int .i64 mr, .int .i64 ms, .string mi, .bool true, .slice qa o.length qc] 29) := KR
  have HQ3 : Hid (OwnY w3 NB (.slice qa o.length qc) o) := KQ
  have HB3 : Hid (Below w.heap.size w w3) := KB
  clear KX KV KR KB KG KQ HX2 HV2 HR2 HB2 HQ0
  have y0 := HR3.out.cell 0 rfl
  have y1 := HR3.out.cell 1 rfl
  have y2 := HR3.out.cell 2 rfl
  have y3 := HR3.out.cell 3 rfl
  have y4 := HR3.out.cell 4 rfl
  have y5 := HR3.out.cell 5 rfl
  have y6 := HR3.out.cell 6 rfl
  have y7 := HR3.out.cell 7 rfl
  have y8 := HR3.out.cell 8 rfl
  have y9 := HR3.out.cell 9 rfl
  have y10 := HR3.out.cell 10 rfl
  refine bodyPost_ret (v := .tuple #[.agg #[.int .i64 v, .int .i64 dh, .int .i64 dr, .int .i64 ds, .string di, .int .i64 mh, .int .i64 mr, .int .i64 ms, .string mi, .bool true, .slice qa o.length qc], .int .i64 2]) (by simp [results, Try.results14, go_sem, y0, y1, y2, y3, y4, y5, y6, y7, y8, y9, y10]) rfl ⟨_, _, rfl, own_less HQ3.out (by omega), HB3.out⟩
set_option maxHeartbeats 6400000 in
set_option maxRecDepth 100000 in
theorem iask_other (x : Sg) (y : Vt) (a : Option Addr) (cap : Nat) (w : World) (hl : YO w a x.o) (hz : a = none → cap = 0) (hfit : x.o.length ≤ cap ∧ cap ≤ 9223372036854775807) (hs : sOk x = true) (hp : x.p = false) (hv : y.v ≠ x.v) :
    Calls Try.prog 14 #[sV x a cap, tV y] w fun e w' => ∃ qa qc, e = .returned (.tuple #[sQ x (.slice qa x.o.length qc), .int .i64 2]) ∧ Hid (OwnY w' w.heap.size (.slice qa x.o.length qc) x.o) ∧ Below w.heap.size w w' := by
  have HY : Hid (YO w a x.o) := hl
  have kS := fun W (h : YO W a x.o) => impl_sok x a cap W h (by omega)
  simp only [hs] at kS
  have hlo : x.o.length ≤ 60 := sOk_len hs
  have HSM : Hid (SmS x ∧ x.o.length ≤ 60) := sOk_sm hs
  obtain ⟨v, ⟨dh, dr, ds, di⟩, ⟨mh, mr, ms, mi⟩, p, o⟩ := x
  obtain ⟨yh, yr, ys, yi, yv⟩ := y
  unfold sV sQ tV at *
  simp only at *
  subst hp
  have hacts : acts ⟨v, ⟨dh, dr, ds, di⟩, ⟨mh, mr, ms, mi⟩, false, o⟩ [] = ⟨v, ⟨dh, dr, ds, di⟩, ⟨mh, mr, ms, mi⟩, false, o⟩ := rfl
  have kA : ∀ (W : World) (hY : YO W a o), Calls Try.prog 38 #[.agg #[.int .i64 v, .int .i64 dh, .int .i64 dr, .int .i64 ds, .string di, .int .i64 mh, .int .i64 mr, .int .i64 ms, .string mi, .bool false, .slice a o.length cap], .slice none 0 0] W fun e w' => ∃ qa qc, e = .returned (.agg #[.int .i64 v, .int .i64 dh, .int .i64 dr, .int .i64 ds, .string di, .int .i64 mh, .int .i64 mr, .int .i64 ms, .string mi, .bool false, .slice qa o.length qc]) ∧ Hid (OwnY w' W.heap.size (.slice qa o.length qc) o) ∧ Below W.heap.size W w' := by
    intro W hY
    have h := after_any ⟨v, ⟨dh, dr, ds, di⟩, ⟨mh, mr, ms, mi⟩, false, o⟩ a cap none [] 0 W hY hz hfit (by simp only; omega) (.inl rfl) (show 0 ≤ 1000 by omega) HSM.out.1 (fun d h => by cases h)
    rw [hacts] at h
    exact h
  clear hacts
  have hne : ¬ yv = v := hv
  clear HSM
  clear hl hs hfit
  obtain ⟨W0, hW0⟩ : ∃ W, ((w.alloc (.cells #[.int .i64 v, .int .i64 dh, .int .i64 dr, .int .i64 ds, .string di, .int .i64 mh, .int .i64 mr, .int .i64 ms, .string mi, .bool false, .slice a o.length cap] 29)).alloc (.cells #[.int .i64 yh, .int .i64 yr, .int .i64 ys, .string yi, .int .i64 yv] 31)).alloc (.cells #[.int .i64 0, .int .i64 0, .int .i64 0, .int .i64 0, .string ⟨#[]⟩, .int .i64 0, .int .i64 0, .int .i64 0, .string ⟨#[]⟩, .bool false, .slice none 0 0] 29) = W := ⟨_, rfl⟩
  have HX0 : Hid (Blk W0 w.heap.size [.int .i64 v, .int .i64 dh, .int .i64 dr, .int .i64 ds, .string di, .int .i64 mh, .int .i64 mr, .int .i64 ms, .string mi, .bool false, .slice a o.length cap] 29) := by
    rw [← hW0]
    have hnew := blk_new (w) [.int .i64 v, .int .i64 dh, .int .i64 dr, .int .i64 ds, .string di, .int .i64 mh, .int .i64 mr, .int .i64 ms, .string mi, .bool false, .slice a o.length cap] 29
    exact ((hnew.alloc _).alloc _)
  have HV0 : Hid (Blk W0 (w.heap.size + 1) [.int .i64 yh, .int .i64 yr, .int .i64 ys, .string yi, .int .i64 yv] 31) := by
    rw [← hW0]
    have hnew := blk_new (w.alloc (.cells #[.int .i64 v, .int .i64 dh, .int .i64 dr, .int .i64 ds, .string di, .int .i64 mh, .int .i64 mr, .int .i64 ms, .string mi, .bool false, .slice a o.length cap] 29)) [.int .i64 yh, .int .i64 yr, .int .i64 ys, .string yi, .int .i64 yv] 31
    rw [show (w.alloc (.cells #[.int .i64 v, .int .i64 dh, .int .i64 dr, .int .i64 ds, .string di, .int .i64 mh, .int .i64 mr, .int .i64 ms, .string mi, .bool false, .slice a o.length cap] 29)).heap.size = w.heap.size + 1 from by simp] at hnew
    exact (hnew.alloc _)
  have HR0 : Hid (Blk W0 (w.heap.size + 2) [.int .i64 0, .int .i64 0, .int .i64 0, .int .i64 0, .string ⟨#[]⟩, .int .i64 0, .int .i64 0, .int .i64 0, .string ⟨#[]⟩, .bool false, .slice none 0 0] 29) := by
    rw [← hW0]
    have hnew := blk_new ((w.alloc (.cells #[.int .i64 v, .int .i64 dh, .int .i64 dr, .int .i64 ds, .string di, .int .i64 mh, .int .i64 mr, .int .i64 ms, .string mi, .bool false, .slice a o.length cap] 29)).alloc (.cells #[.int .i64 yh, .int .i64 yr, .int .i64 ys, .string yi, .int .i64 yv] 31)) [.int .i64 0, .int .i64 0, .int .i64 0, .int .i64 0, .string ⟨#[]⟩, .int .i64 0, .int .i64 0, .int .i64 0, .string ⟨#[]⟩, .bool false, .slice none 0 0] 29
    rw [show ((w.alloc (.cells #[.int .i64 v, .int .i64 dh, .int .i64 dr, .int .i64 ds, .string di, .int .i64 mh, .int .i64 mr, .int .i64 ms, .string mi, .bool false, .slice a o.length cap] 29)).alloc (.cells #[.int .i64 yh, .int .i64 yr, .int .i64 ys, .string yi, .int .i64 yv] 31)).heap.size = w.heap.size + 2 from by simp] at hnew
    exact hnew
  have HB0 : Hid (Below w.heap.size w W0) := by rw [← hW0]; exact (((Below.refl w.heap.size w).alloc (Nat.le_refl _) _).alloc (by simp; try omega) _).alloc (by simp; try omega) _
  go_enter Try.func14, Try.ntmps14
  have cX_0_0 := HX0.out.cell 0 rfl
  have cX_1_0 := HX0.out.cell 1 rfl
  have cX_2_0 := HX0.out.cell 2 rfl
  have cX_3_0 := HX0.out.cell 3 rfl
  have cX_4_0 := HX0.out.cell 4 rfl
  have cX_5_0 := HX0.out.cell 5 rfl
  have cX_6_0 := HX0.out.cell 6 rfl
  have cX_7_0 := HX0.out.cell 7 rfl
  have cX_8_0 := HX0.out.cell 8 rfl
  have cX_9_0 := HX0.out.cell 9 rfl
  have cX_10_0 := HX0.out.cell 10 rfl
  go_wp2_with fail
  clear hW0 cX_0_0 cX_1_0 cX_2_0 cX_3_0 cX_4_0 cX_5_0 cX_6_0 cX_7_0 cX_8_0 cX_9_0 cX_10_0
  refine (kS _ (HY.out.below HB0.out)).mono ?_
  rintro e w1 ⟨rfl, bb⟩
  have HX1 : Hid (Blk w1 w.heap.size [.int .i64 v, .int .i64 dh, .int .i64 dr, .int .i64 ds, .string di, .int .i64 mh, .int .i64 mr, .int .i64 ms, .string mi, .bool false, .slice a o.length cap] 29) := HX0.out.below bb HX0.out.lt
  have HV1 : Hid (Blk w1 (w.heap.size + 1) [.int .i64 yh, .int .i64 yr, .int .i64 ys, .string yi, .int .i64 yv] 31) := HV0.out.below bb HV0.out.lt
  have HR1 : Hid (Blk w1 (w.heap.size + 2) [.int .i64 0, .int .i64 0, .int .i64 0, .int .i64 0, .string ⟨#[]⟩, .int .i64 0, .int .i64 0, .int .i64 0, .string ⟨#[]⟩, .bool false, .slice none 0 0] 29) := HR0.out.below bb HR0.out.lt
  have HB1 : Hid (Below w.heap.size w w1) := HB0.out.trans (bb.mono HB0.out.size)
  clear HX0 HV0 HR0 HB0
  clear bb
  clear kS
  have cX_0_1 := HX1.out.cell 0 rfl
  have cX_1_1 := HX1.out.cell 1 rfl
  have cX_2_1 := HX1.out.cell 2 rfl
  have cX_3_1 := HX1.out.cell 3 rfl
  have cX_4_1 := HX1.out.cell 4 rfl
  have cX_5_1 := HX1.out.cell 5 rfl
  have cX_6_1 := HX1.out.cell 6 rfl
  have cX_7_1 := HX1.out.cell 7 rfl
  have cX_8_1 := HX1.out.cell 8 rfl
  have cX_9_1 := HX1.out.cell 9 rfl
  have cX_10_1 := HX1.out.cell 10 rfl
  have cV_0_1 := HV1.out.cell 0 rfl
  have cV_1_1 := HV1.out.cell 1 rfl
  have cV_2_1 := HV1.out.cell 2 rfl
  have cV_3_1 := HV1.out.cell 3 rfl
  have cV_4_1 := HV1.out.cell 4 rfl
  go_wp2_with fail
  clear cX_0_1 cX_1_1 cX_2_1 cX_3_1 cX_4_1 cX_5_1 cX_6_1 cX_7_1 cX_8_1 cX_9_1 cX_10_1 cV_0_1 cV_1_1 cV_2_1 cV_3_1 cV_4_1
  refine (kA _ (HY.out.below HB1.out)).mono ?_
  rintro e w2 ⟨qa, qc, rfl, HQ, bb⟩
  obtain ⟨NB, hNB⟩ : ∃ n, w1.heap.size = n := ⟨_, rfl⟩
  have hlt1 : w.heap.size + 2 < NB := by rw [← hNB]; exact HR1.out.lt
  have HQ0 : Hid (OwnY w2 NB (.slice qa o.length qc) o) := by rw [← hNB]; exact HQ.out
  have HX2 : Hid (Blk w2 w.heap.size [.int .i64 v, .int .i64 dh, .int .i64 dr, .int .i64 ds, .string di, .int .i64 mh, .int .i64 mr, .int .i64 ms, .string mi, .bool false, .slice a o.length cap] 29) := HX1.out.below bb HX1.out.lt
  have HV2 : Hid (Blk w2 (w.heap.size + 1) [.int .i64 yh, .int .i64 yr, .int .i64 ys, .string yi, .int .i64 yv] 31) := HV1.out.below bb HV1.out.lt
  have HR2 : Hid (Blk w2 (w.heap.size + 2) [.int .i64 0, .int .i64 0, .int .i64 0, .int .i64 0, .string ⟨#[]⟩, .int .i64 0, .int .i64 0, .int .i64 0, .string ⟨#[]⟩, .bool false, .slice none 0 0] 29) := HR1.out.below bb HR1.out.lt
  have HB2 : Hid (Below w.heap.size w w2) := HB1.out.trans (bb.mono HB1.out.size)
  clear HX1 HV1 HR1 HB1
  clear bb kA HY HQ hNB
  have cR_0_2 := HR2.out.cell 0 rfl
  have cR_1_2 := HR2.out.cell 1 rfl
  have cR_2_2 := HR2.out.cell 2 rfl
  have cR_3_2 := HR2.out.cell 3 rfl
  have cR_4_2 := HR2.out.cell 4 rfl
  have cR_5_2 := HR2.out.cell 5 rfl
  have cR_6_2 := HR2.out.cell 6 rfl
  have cR_7_2 := HR2.out.cell 7 rfl
  have cR_8_2 := HR2.out.cell 8 rfl
  have cR_9_2 := HR2.out.cell 9 rfl
  have cR_10_2 := HR2.out.cell 10 rfl
  have zR_2 := fun j => HR2.out.frozen j
  have KX := (((((((((((HX2.out.other 0 (.int .i64 v) (show w.heap.size ≠ (w.heap.size + 2) by omega)).other 1 (.int .i64 dh) (show w.heap.size ≠ (w.heap.size + 2) by omega)).other 2 (.int .i64 dr) (show w.heap.size ≠ (w.heap.size + 2) by omega)).other 3 (.int .i64 ds) (show w.heap.size ≠ (w.heap.size + 2) by omega)).other 4 (.string di) (show w.heap.size ≠ (w.heap.size + 2) by omega)).other 5 (.int .i64 mh) (show w.heap.size ≠ (w.heap.size + 2) by omega)).other 6 (.int .i64 mr) (show w.heap.size ≠ (w.heap.size + 2) by omega)).other 7 (.int .i64 ms) (show w.heap.size ≠ (w.heap.size + 2) by omega)).other 8 (.string mi) (show w.heap.size ≠ (w.heap.size + 2) by omega)).other 9 (.bool false) (show w.heap.size ≠ (w.heap.size + 2) by omega)).other 10 (.slice qa o.length qc) (show w.heap.size ≠ (w.heap.size + 2) by omega))
  have KV := (((((((((((HV2.out.other 0 (.int .i64 v) (show (w.heap.size + 1) ≠ (w.heap.size + 2) by omega)).other 1 (.int .i64 dh) (show (w.heap.size + 1) ≠ (w.heap.size + 2) by omega)).other 2 (.int .i64 dr) (show (w.heap.size + 1) ≠ (w.heap.size + 2) by omega)).other 3 (.int .i64 ds) (show (w.heap.size + 1) ≠ (w.heap.size + 2) by omega)).other 4 (.string di) (show (w.heap.size + 1) ≠ (w.heap.size + 2) by omega)).other 5 (.int .i64 mh) (show (w.heap.size + 1) ≠ (w.heap.size + 2) by omega)).other 6 (.int .i64 mr) (show (w.heap.size + 1) ≠ (w.heap.size + 2) by omega)).other 7 (.int .i64 ms) (show (w.heap.size + 1) ≠ (w.heap.size + 2) by omega)).other 8 (.string mi) (show (w.heap.size + 1) ≠ (w.heap.size + 2) by omega)).other 9 (.bool false) (show (w.heap.size + 1) ≠ (w.heap.size + 2) by omega)).other 10 (.slice qa o.length qc) (show (w.heap.size + 1) ≠ (w.heap.size + 2) by omega))
  have KR := (((((((((((HR2.out.set 0 (.int .i64 v)).set 1 (.int .i64 dh)).set 2 (.int .i64 dr)).set 3 (.int .i64 ds)).set 4 (.string di)).set 5 (.int .i64 mh)).set 6 (.int .i64 mr)).set 7 (.int .i64 ms)).set 8 (.string mi)).set 9 (.bool false)).set 10 (.slice qa o.length qc))
  have KB := (((((((((((HB2.out.setCell (p := ⟨(w.heap.size + 2), 0, none⟩) (show w.heap.size ≤ (w.heap.size + 2) by omega) (.int .i64 v)).setCell (p := ⟨(w.heap.size + 2), 1, none⟩) (show w.heap.size ≤ (w.heap.size + 2) by omega) (.int .i64 dh)).setCell (p := ⟨(w.heap.size + 2), 2, none⟩) (show w.heap.size ≤ (w.heap.size + 2) by omega) (.int .i64 dr)).setCell (p := ⟨(w.heap.size + 2), 3, none⟩) (show w.heap.size ≤ (w.heap.size + 2) by omega) (.int .i64 ds)).setCell (p := ⟨(w.heap.size + 2), 4, none⟩) (show w.heap.size ≤ (w.heap.size + 2) by omega) (.string di)).setCell (p := ⟨(w.heap.size + 2), 5, none⟩) (show w.heap.size ≤ (w.heap.size + 2) by omega) (.int .i64 mh)).setCell (p := ⟨(w.heap.size + 2), 6, none⟩) (show w.heap.size ≤ (w.heap.size + 2) by omega) (.int .i64 mr)).setCell (p := ⟨(w.heap.size + 2), 7, none⟩) (show w.heap.size ≤ (w.heap.size + 2) by omega) (.int .i64 ms)).setCell (p := ⟨(w.heap.size + 2), 8, none⟩) (show w.heap.size ≤ (w.heap.size + 2) by omega) (.string mi)).setCell (p := ⟨(w.heap.size + 2), 9, none⟩) (show w.heap.size ≤ (w.heap.size + 2) by omega) (.bool false)).setCell (p := ⟨(w.heap.size + 2), 10, none⟩) (show w.heap.size ≤ (w.heap.size + 2) by omega) (.slice qa o.length qc))
  have KG : Hid (w2.grownBy (((((((((((w2.setCell ⟨(w.heap.size + 2), 0, none⟩ (.int .i64 v)).setCell ⟨(w.heap.size + 2), 1, none⟩ (.int .i64 dh)).setCell ⟨(w.heap.size + 2), 2, none⟩ (.int .i64 dr)).setCell ⟨(w.heap.size + 2), 3, none⟩ (.int .i64 ds)).setCell ⟨(w.heap.size + 2), 4, none⟩ (.string di)).setCell ⟨(w.heap.size + 2), 5, none⟩ (.int .i64 mh)).setCell ⟨(w.heap.size + 2), 6, none⟩ (.int .i64 mr)).setCell ⟨(w.heap.size + 2), 7, none⟩ (.int .i64 ms)).setCell ⟨(w.heap.size + 2), 8, none⟩ (.string mi)).setCell ⟨(w.heap.size + 2), 9, none⟩ (.bool false)).setCell ⟨(w.heap.size + 2), 10, none⟩ (.slice qa o.length qc)) (some (w.heap.size + 2))) := grown_set (grown_set (grown_set (grown_set (grown_set (grown_set (grown_set (grown_set (grown_set (grown_set (grown_set (grown_refl _ _) _) _) _) _) _) _) _) _) _) _) _
  have KQ : Hid (OwnY (((((((((((w2.setCell ⟨(w.heap.size + 2), 0, none⟩ (.int .i64 v)).setCell ⟨(w.heap.size + 2), 1, none⟩ (.int .i64 dh)).setCell ⟨(w.heap.size + 2), 2, none⟩ (.int .i64 dr)).setCell ⟨(w.heap.size + 2), 3, none⟩ (.int .i64 ds)).setCell ⟨(w.heap.size + 2), 4, none⟩ (.string di)).setCell ⟨(w.heap.size + 2), 5, none⟩ (.int .i64 mh)).setCell ⟨(w.heap.size + 2), 6, none⟩ (.int .i64 mr)).setCell ⟨(w.heap.size + 2), 7, none⟩ (.int .i64 ms)).setCell ⟨(w.heap.size + 2), 8, none⟩ (.string mi)).setCell ⟨(w.heap.size + 2), 9, none⟩ (.bool false)).setCell ⟨(w.heap.size + 2), 10, none⟩ (.slice qa o.length qc)) NB (.slice qa o.length qc) o) := own_still HQ0.out KG.out (fun j e => by injection e with e; omega)
  go_wp2_with fail
  clear cR_0_2 cR_1_2 cR_2_2 cR_3_2 cR_4_2 cR_5_2 cR_6_2 cR_7_2 cR_8_2 cR_9_2 cR_10_2 zR_2
  generalize ((((((((((((w2.setCell _ _).setCell _ _).setCell _ _).setCell _ _).setCell _ _).setCell _ _).setCell _ _).setCell _ _).setCell _ _).setCell _ _).setCell _ _) : World) = w3 at *
  have HX3 : Hid (Blk w3 w.heap.size [.int .i64 v, .int .i64 dh, .int .i64 dr, .int .i64 ds, .string di, .int .i64 mh, .int .i64 mr, .int .i64 ms, .string mi, .bool false, .slice a o.length cap] 29) := KX
  have HV3 : Hid (Blk w3 (w.heap.size + 1) [.int .i64 yh, .int .i64 yr, .int .i64 ys, .string yi, .int .i64 yv] 31) := KV
  have HR3 : Hid (Blk w3 (w.heap.size + 2) [.int .i64 v, .int .i64 dh, .int .i64 dr, .int .i64 ds, .string di, .int .i64 mh, .int .i64 mr, .int .i64 ms, .string mi, .bool false, .slice qa o.length qc] 29) := KR
  have HQ3 : Hid (OwnY w3 NB (.slice qa o.length qc) o) := KQ
  have HB3 : Hid (Below w.heap.size w w3) := KB
  clear KX KV KR KB KG KQ HX2 HV2 HR2 HB2 HQ0
  have y0 := HR3.out.cell 0 rfl
  have y1 := HR3.out.cell 1 rfl
  have y2 := HR3.out.cell 2 rfl
  have y3 := HR3.out.cell 3 rfl
  have y4 := HR3.out.cell 4 rfl
  have y5 := HR3.out.cell 5 rfl
  have y6 := HR3.out.cell 6 rfl
  have y7 := HR3.out.cell 7 rfl
  have y8 := HR3.out.cell 8 rfl
  have y9 := HR3.out.cell 9 rfl
  have y10 := HR3.out.cell 10 rfl
  refine bodyPost_ret (v := .tuple #[.agg #[.int .i64 v, .int .i64 dh, .int .i64 dr, .int .i64 ds, .string di, .int .i64 mh, .int .i64 mr, .int .i64 ms, .string mi, .bool false, .slice qa o.length qc], .int .i64 2]) (by simp [results, Try.results14, go_sem, y0, y1, y2, y3, y4, y5, y6, y7, y8, y9, y10]) rfl ⟨_, _, rfl, own_less HQ3.out (by omega), HB3.out⟩
set_option maxHeartbeats 6400000 in
set_option maxRecDepth 100000 in
theorem iask_ok (x : Sg) (y : Vt) (a : Option Addr) (cap : Nat) (w : World) (hl : YO w a x.o) (hz : a = none → cap = 0) (hfit : x.o.length ≤ cap ∧ cap ≤ 9223372036854775807) (hs : sOk x = true) (hp : x.p = false) (hv : y.v = x.v) (h60 : x.o.length < 60) (hm : mayS x.m y = 0) :
    Calls Try.prog 14 #[sV x a cap, tV y] w fun e w' => ∃ qa qc, e = .returned (.tuple #[sQ (⟨x.v, x.d, ofV y, true, x.o⟩ : Sg) (.slice qa x.o.length qc), .int .i64 0]) ∧ Hid (OwnY w' w.heap.size (.slice qa x.o.length qc) x.o) ∧ Below w.heap.size w w' := by
  have HY : Hid (YO w a x.o) := hl
  have kS := fun W (h : YO W a x.o) => impl_sok x a cap W h (by omega)
  simp only [hs] at kS
  have hlo : x.o.length ≤ 60 := sOk_len hs
  have HSM : Hid (SmS x ∧ x.o.length ≤ 60) := sOk_sm hs
  have kM := fun W => impl_may x.m y W
  have HSY : Hid (SmV y) := vo_sm (may_ne (g := x.m) (by rw [hm]; decide)).2
  simp only [hm] at kM
  obtain ⟨v, ⟨dh, dr, ds, di⟩, ⟨mh, mr, ms, mi⟩, p, o⟩ := x
  obtain ⟨yh, yr, ys, yi, yv⟩ := y
  unfold sV sQ tV at *
  unfold gV at *
  unfold ofV at *
  simp only at *
  subst hp
  subst hv
  have hacts : acts ⟨yv, ⟨dh, dr, ds, di⟩, ⟨mh, mr, ms, mi⟩, false, o⟩ [.hold (⟨yh, yr, ys, yi, yv⟩ : Vt)] = ⟨yv, ⟨dh, dr, ds, di⟩, ⟨yh, yr, ys, yi⟩, true, o⟩ := rfl
  have kA : ∀ (W : World) (hY : YO W a o) (nD : Nat) (hd : DAt W (some ⟨nD, 0, none⟩) [.hold (⟨yh, yr, ys, yi, yv⟩ : Vt)]), Calls Try.prog 38 #[.agg #[.int .i64 yv, .int .i64 dh, .int .i64 dr, .int .i64 ds, .string di, .int .i64 mh, .int .i64 mr, .int .i64 ms, .string mi, .bool false, .slice a o.length cap], .slice (some ⟨nD, 0, none⟩) 1 1] W fun e w' => ∃ qa qc, e = .returned (.agg #[.int .i64 yv, .int .i64 dh, .int .i64 dr, .int .i64 ds, .string di, .int .i64 yh, .int .i64 yr, .int .i64 ys, .string yi, .bool true, .slice qa o.length qc]) ∧ Hid (OwnY w' W.heap.size (.slice qa o.length qc) o) ∧ Below W.heap.size W w' := by
    intro W hY nD hd
    have h := after_any ⟨yv, ⟨dh, dr, ds, di⟩, ⟨mh, mr, ms, mi⟩, false, o⟩ a cap (some ⟨nD, 0, none⟩) [.hold (⟨yh, yr, ys, yi, yv⟩ : Vt)] 1 W hY hz hfit (by simp only; omega) hd (show 1 ≤ 1000 by omega) HSM.out.1 (fun d h => by rw [List.mem_singleton.1 h]; exact HSY.out)
    rw [hacts] at h
    exact h
  clear hacts
  clear HSM
  clear HSY
  clear hl hs hfit
  obtain ⟨W0, hW0⟩ : ∃ W, ((w.alloc (.cells #[.int .i64 yv, .int .i64 dh, .int .i64 dr, .int .i64 ds, .string di, .int .i64 mh, .int .i64 mr, .int .i64 ms, .string mi, .bool false, .slice a o.length cap] 29)).alloc (.cells #[.int .i64 yh, .int .i64 yr, .int .i64 ys, .string yi, .int .i64 yv] 31)).alloc (.cells #[.int .i64 0, .int .i64 0, .int .i64 0, .int .i64 0, .string ⟨#[]⟩, .int .i64 0, .int .i64 0, .int .i64 0, .string ⟨#[]⟩, .bool false, .slice none 0 0] 29) = W := ⟨_, rfl⟩
  have HX0 : Hid (Blk W0 w.heap.size [.int .i64 yv, .int .i64 dh, .int .i64 dr, .int .i64 ds, .string di, .int .i64 mh, .int .i64 mr, .int .i64 ms, .string mi, .bool false, .slice a o.length cap] 29) := by
    rw [← hW0]
    have hnew := blk_new (w) [.int .i64 yv, .int .i64 dh, .int .i64 dr, .int .i64 ds, .string di, .int .i64 mh, .int .i64 mr, .int .i64 ms, .string mi, .bool false, .slice a o.length cap] 29
    exact ((hnew.alloc _).alloc _)
  have HV0 : Hid (Blk W0 (w.heap.size + 1) [.int .i64 yh, .int .i64 yr, .int .i64 ys, .string yi, .int .i64 yv] 31) := by
    rw [← hW0]
    have hnew := blk_new (w.alloc (.cells #[.int .i64 yv, .int .i64 dh, .int .i64 dr, .int .i64 ds, .string di, .int .i64 mh, .int .i64 mr, .int .i64 ms, .string mi, .bool false, .slice a o.length cap] 29)) [.int .i64 yh, .int .i64 yr, .int .i64 ys, .string yi, .int .i64 yv] 31
    rw [show (w.alloc (.cells #[.int .i64 yv, .int .i64 dh, .int .i64 dr, .int .i64 ds, .string di, .int .i64 mh, .int .i64 mr, .int .i64 ms, .string mi, .bool false, .slice a o.length cap] 29)).heap.size = w.heap.size + 1 from by simp] at hnew
    exact (hnew.alloc _)
  have HR0 : Hid (Blk W0 (w.heap.size + 2) [.int .i64 0, .int .i64 0, .int .i64 0, .int .i64 0, .string ⟨#[]⟩, .int .i64 0, .int .i64 0, .int .i64 0, .string ⟨#[]⟩, .bool false, .slice none 0 0] 29) := by
    rw [← hW0]
    have hnew := blk_new ((w.alloc (.cells #[.int .i64 yv, .int .i64 dh, .int .i64 dr, .int .i64 ds, .string di, .int .i64 mh, .int .i64 mr, .int .i64 ms, .string mi, .bool false, .slice a o.length cap] 29)).alloc (.cells #[.int .i64 yh, .int .i64 yr, .int .i64 ys, .string yi, .int .i64 yv] 31)) [.int .i64 0, .int .i64 0, .int .i64 0, .int .i64 0, .string ⟨#[]⟩, .int .i64 0, .int .i64 0, .int .i64 0, .string ⟨#[]⟩, .bool false, .slice none 0 0] 29
    rw [show ((w.alloc (.cells #[.int .i64 yv, .int .i64 dh, .int .i64 dr, .int .i64 ds, .string di, .int .i64 mh, .int .i64 mr, .int .i64 ms, .string mi, .bool false, .slice a o.length cap] 29)).alloc (.cells #[.int .i64 yh, .int .i64 yr, .int .i64 ys, .string yi, .int .i64 yv] 31)).heap.size = w.heap.size + 2 from by simp] at hnew
    exact hnew
  have HB0 : Hid (Below w.heap.size w W0) := by rw [← hW0]; exact (((Below.refl w.heap.size w).alloc (Nat.le_refl _) _).alloc (by simp; try omega) _).alloc (by simp; try omega) _
  go_enter Try.func14, Try.ntmps14
  have cX_0_0 := HX0.out.cell 0 rfl
  have cX_1_0 := HX0.out.cell 1 rfl
  have cX_2_0 := HX0.out.cell 2 rfl
  have cX_3_0 := HX0.out.cell 3 rfl
  have cX_4_0 := HX0.out.cell 4 rfl
  have cX_5_0 := HX0.out.cell 5 rfl
  have cX_6_0 := HX0.out.cell 6 rfl
  have cX_7_0 := HX0.out.cell 7 rfl
  have cX_8_0 := HX0.out.cell 8 rfl
  have cX_9_0 := HX0.out.cell 9 rfl
  have cX_10_0 := HX0.out.cell 10 rfl
  go_wp2_with fail
  clear hW0 cX_0_0 cX_1_0 cX_2_0 cX_3_0 cX_4_0 cX_5_0 cX_6_0 cX_7_0 cX_8_0 cX_9_0 cX_10_0
  refine (kS _ (HY.out.below HB0.out)).mono ?_
  rintro e w1 ⟨rfl, bb⟩
  have HX1 : Hid (Blk w1 w.heap.size [.int .i64 yv, .int .i64 dh, .int .i64 dr, .int .i64 ds, .string di, .int .i64 mh, .int .i64 mr, .int .i64 ms, .string mi, .bool false, .slice a o.length cap] 29) := HX0.out.below bb HX0.out.lt
  have HV1 : Hid (Blk w1 (w.heap.size + 1) [.int .i64 yh, .int .i64 yr, .int .i64 ys, .string yi, .int .i64 yv] 31) := HV0.out.below bb HV0.out.lt
  have HR1 : Hid (Blk w1 (w.heap.size + 2) [.int .i64 0, .int .i64 0, .int .i64 0, .int .i64 0, .string ⟨#[]⟩, .int .i64 0, .int .i64 0, .int .i64 0, .string ⟨#[]⟩, .bool false, .slice none 0 0] 29) := HR0.out.below bb HR0.out.lt
  have HB1 : Hid (Below w.heap.size w w1) := HB0.out.trans (bb.mono HB0.out.size)
  clear HX0 HV0 HR0 HB0
  clear bb
  clear kS
  have cX_0_1 := HX1.out.cell 0 rfl
  have cX_1_1 := HX1.out.cell 1 rfl
  have cX_2_1 := HX1.out.cell 2 rfl
  have cX_3_1 := HX1.out.cell 3 rfl
  have cX_4_1 := HX1.out.cell 4 rfl
  have cX_5_1 := HX1.out.cell 5 rfl
  have cX_6_1 := HX1.out.cell 6 rfl
  have cX_7_1 := HX1.out.cell 7 rfl
  have cX_8_1 := HX1.out.cell 8 rfl
  have cX_9_1 := HX1.out.cell 9 rfl
  have cX_10_1 := HX1.out.cell 10 rfl
  have cV_0_1 := HV1.out.cell 0 rfl
  have cV_1_1 := HV1.out.cell 1 rfl
  have cV_2_1 := HV1.out.cell 2 rfl
  have cV_3_1 := HV1.out.cell 3 rfl
  have cV_4_1 := HV1.out.cell 4 rfl
  go_wp2_with fail
  clear cX_0_1 cX_1_1 cX_2_1 cX_3_1 cX_4_1 cX_5_1 cX_6_1 cX_7_1 cX_8_1 cX_9_1 cX_10_1 cV_0_1 cV_1_1 cV_2_1 cV_3_1 cV_4_1
  refine (kM _).mono ?_
  rintro e w2 ⟨rfl, bb⟩
  have HX2 : Hid (Blk w2 w.heap.size [.int .i64 yv, .int .i64 dh, .int .i64 dr, .int .i64 ds, .string di, .int .i64 mh, .int .i64 mr, .int .i64 ms, .string mi, .bool false, .slice a o.length cap] 29) := HX1.out.below bb HX1.out.lt
  have HV2 : Hid (Blk w2 (w.heap.size + 1) [.int .i64 yh, .int .i64 yr, .int .i64 ys, .string yi, .int .i64 yv] 31) := HV1.out.below bb HV1.out.lt
  have HR2 : Hid (Blk w2 (w.heap.size + 2) [.int .i64 0, .int .i64 0, .int .i64 0, .int .i64 0, .string ⟨#[]⟩, .int .i64 0, .int .i64 0, .int .i64 0, .string ⟨#[]⟩, .bool false, .slice none 0 0] 29) := HR1.out.below bb HR1.out.lt
  have HB2 : Hid (Below w.heap.size w w2) := HB1.out.trans (bb.mono HB1.out.size)
  clear HX1 HV1 HR1 HB1
  clear bb
  clear kM
  have cX_0_2 := HX2.out.cell 0 rfl
  have cX_1_2 := HX2.out.cell 1 rfl
  have cX_2_2 := HX2.out.cell 2 rfl
  have cX_3_2 := HX2.out.cell 3 rfl
  have cX_4_2 := HX2.out.cell 4 rfl
  have cX_5_2 := HX2.out.cell 5 rfl
  have cX_6_2 := HX2.out.cell 6 rfl
  have cX_7_2 := HX2.out.cell 7 rfl
  have cX_8_2 := HX2.out.cell 8 rfl
  have cX_9_2 := HX2.out.cell 9 rfl
  have cX_10_2 := HX2.out.cell 10 rfl
  have cV_0_2 := HV2.out.cell 0 rfl
  have cV_1_2 := HV2.out.cell 1 rfl
  have cV_2_2 := HV2.out.cell 2 rfl
  have cV_3_2 := HV2.out.cell 3 rfl
  have cV_4_2 := HV2.out.cell 4 rfl
  obtain ⟨wa3, hwa3⟩ : ∃ W, w2.alloc (.cells #[.iface 63 (.agg #[.int .i64 yh, .int .i64 yr, .int .i64 ys, .string yi, .int .i64 yv])] 95) = W := ⟨_, rfl⟩
  obtain ⟨nD, hnD⟩ : ∃ n, w2.heap.size = n := ⟨_, rfl⟩
  have hnDX : w.heap.size < nD := by rw [← hnD]; exact HX2.out.lt
  have hnDV : (w.heap.size + 1) < nD := by rw [← hnD]; exact HV2.out.lt
  have hnDR : (w.heap.size + 2) < nD := by rw [← hnD]; exact HR2.out.lt
  have HAnD : Hid (Below w2.heap.size w2 wa3) := by rw [← hwa3]; exact below_one _ _
  have HX3 : Hid (Blk wa3 w.heap.size [.int .i64 yv, .int .i64 dh, .int .i64 dr, .int .i64 ds, .string di, .int .i64 mh, .int .i64 mr, .int .i64 ms, .string mi, .bool false, .slice a o.length cap] 29) := HX2.out.below HAnD.out HX2.out.lt
  have HV3 : Hid (Blk wa3 (w.heap.size + 1) [.int .i64 yh, .int .i64 yr, .int .i64 ys, .string yi, .int .i64 yv] 31) := HV2.out.below HAnD.out HV2.out.lt
  have HR3 : Hid (Blk wa3 (w.heap.size + 2) [.int .i64 0, .int .i64 0, .int .i64 0, .int .i64 0, .string ⟨#[]⟩, .int .i64 0, .int .i64 0, .int .i64 0, .string ⟨#[]⟩, .bool false, .slice none 0 0] 29) := HR2.out.below HAnD.out HR2.out.lt
  have HB3 : Hid (Below w.heap.size w wa3) := HB2.out.trans (HAnD.out.mono HB2.out.size)
  have HD3 : Hid (Blk wa3 nD [.iface 63 (.agg #[.int .i64 yh, .int .i64 yr, .int .i64 ys, .string yi, .int .i64 yv])] 95) := by rw [← hwa3, ← hnD]; exact blk_new _ _ _
  clear HAnD HX2 HV2 HR2 HB2
  have cX_0_3 := HX3.out.cell 0 rfl
  have cX_1_3 := HX3.out.cell 1 rfl
  have cX_2_3 := HX3.out.cell 2 rfl
  have cX_3_3 := HX3.out.cell 3 rfl
  have cX_4_3 := HX3.out.cell 4 rfl
  have cX_5_3 := HX3.out.cell 5 rfl
  have cX_6_3 := HX3.out.cell 6 rfl
  have cX_7_3 := HX3.out.cell 7 rfl
  have cX_8_3 := HX3.out.cell 8 rfl
  have cX_9_3 := HX3.out.cell 9 rfl
  have cX_10_3 := HX3.out.cell 10 rfl
  have cV_0_3 := HV3.out.cell 0 rfl
  have cV_1_3 := HV3.out.cell 1 rfl
  have cV_2_3 := HV3.out.cell 2 rfl
  have cV_3_3 := HV3.out.cell 3 rfl
  have cV_4_3 := HV3.out.cell 4 rfl
  go_wp2_with fail
  clear cX_0_2 cX_1_2 cX_2_2 cX_3_2 cX_4_2 cX_5_2 cX_6_2 cX_7_2 cX_8_2 cX_9_2 cX_10_2 cV_0_2 cV_1_2 cV_2_2 cV_3_2 cV_4_2 hwa3 hnD cX_0_3 cX_1_3 cX_2_3 cX_3_3 cX_4_3 cX_5_3 cX_6_3 cX_7_3 cX_8_3 cX_9_3 cX_10_3 cV_0_3 cV_1_3 cV_2_3 cV_3_3 cV_4_3
  refine (kA _ (HY.out.below HB3.out) nD (dat_one HD3.out)).mono ?_
  rintro e w4 ⟨qa, qc, rfl, HQ, bb⟩
  obtain ⟨NB, hNB⟩ : ∃ n, wa3.heap.size = n := ⟨_, rfl⟩
  have hlt1 : w.heap.size + 2 < NB := by rw [← hNB]; exact HR3.out.lt
  have HQ0 : Hid (OwnY w4 NB (.slice qa o.length qc) o) := by rw [← hNB]; exact HQ.out
  have HX4 : Hid (Blk w4 w.heap.size [.int .i64 yv, .int .i64 dh, .int .i64 dr, .int .i64 ds, .string di, .int .i64 mh, .int .i64 mr, .int .i64 ms, .string mi, .bool false, .slice a o.length cap] 29) := HX3.out.below bb HX3.out.lt
  have HV4 : Hid (Blk w4 (w.heap.size + 1) [.int .i64 yh, .int .i64 yr, .int .i64 ys, .string yi, .int .i64 yv] 31) := HV3.out.below bb HV3.out.lt
  have HR4 : Hid (Blk w4 (w.heap.size + 2) [.int .i64 0, .int .i64 0, .int .i64 0, .int .i64 0, .string ⟨#[]⟩, .int .i64 0, .int .i64 0, .int .i64 0, .string ⟨#[]⟩, .bool false, .slice none 0 0] 29) := HR3.out.below bb HR3.out.lt
  have HD4 : Hid (Blk w4 nD [.iface 63 (.agg #[.int .i64 yh, .int .i64 yr, .int .i64 ys, .string yi, .int .i64 yv])] 95) := HD3.out.below bb HD3.out.lt
  have HB4 : Hid (Below w.heap.size w w4) := HB3.out.trans (bb.mono HB3.out.size)
  clear HX3 HV3 HR3 HD3 HB3
  clear bb kA HY HQ hNB
  have cR_0_4 := HR4.out.cell 0 rfl
  have cR_1_4 := HR4.out.cell 1 rfl
  have cR_2_4 := HR4.out.cell 2 rfl
  have cR_3_4 := HR4.out.cell 3 rfl
  have cR_4_4 := HR4.out.cell 4 rfl
  have cR_5_4 := HR4.out.cell 5 rfl
  have cR_6_4 := HR4.out.cell 6 rfl
  have cR_7_4 := HR4.out.cell 7 rfl
  have cR_8_4 := HR4.out.cell 8 rfl
  have cR_9_4 := HR4.out.cell 9 rfl
  have cR_10_4 := HR4.out.cell 10 rfl
  have zR_4 := fun j => HR4.out.frozen j
  have KX := (((((((((((HX4.out.other 0 (.int .i64 yv) (show w.heap.size ≠ (w.heap.size + 2) by omega)).other 1 (.int .i64 dh) (show w.heap.size ≠ (w.heap.size + 2) by omega)).other 2 (.int .i64 dr) (show w.heap.size ≠ (w.heap.size + 2) by omega)).other 3 (.int .i64 ds) (show w.heap.size ≠ (w.heap.size + 2) by omega)).other 4 (.string di) (show w.heap.size ≠ (w.heap.size + 2) by omega)).other 5 (.int .i64 yh) (show w.heap.size ≠ (w.heap.size + 2) by omega)).other 6 (.int .i64 yr) (show w.heap.size ≠ (w.heap.size + 2) by omega)).other 7 (.int .i64 ys) (show w.heap.size ≠ (w.heap.size + 2) by omega)).other 8 (.string yi) (show w.heap.size ≠ (w.heap.size + 2) by omega)).other 9 (.bool true) (show w.heap.size ≠ (w.heap.size + 2) by omega)).other 10 (.slice qa o.length qc) (show w.heap.size ≠ (w.heap.size + 2) by omega))
  have KV := (((((((((((HV4.out.other 0 (.int .i64 yv) (show (w.heap.size + 1) ≠ (w.heap.size + 2) by omega)).other 1 (.int .i64 dh) (show (w.heap.size + 1) ≠ (w.heap.size + 2) by omega)).other 2 (.int .i64 dr) (show (w.heap.size + 1) ≠ (w.heap.size + 2) by omega)).other 3 (.int .i64 ds) (show (w.heap.size + 1) ≠ (w.heap.size + 2) by omega)).other 4 (.string di) (show (w.heap.size + 1) ≠ (w.heap.size + 2) by omega)).other 5 (.int .i64 yh) (show (w.heap.size + 1) ≠ (w.heap.size + 2) by omega)).other 6 (.int .i64 yr) (show (w.heap.size + 1) ≠ (w.heap.size + 2) by omega)).other 7 (.int .i64 ys) (show (w.heap.size + 1) ≠ (w.heap.size + 2) by omega)).other 8 (.string yi) (show (w.heap.size + 1) ≠ (w.heap.size + 2) by omega)).other 9 (.bool true) (show (w.heap.size + 1) ≠ (w.heap.size + 2) by omega)).other 10 (.slice qa o.length qc) (show (w.heap.size + 1) ≠ (w.heap.size + 2) by omega))
  have KR := (((((((((((HR4.out.set 0 (.int .i64 yv)).set 1 (.int .i64 dh)).set 2 (.int .i64 dr)).set 3 (.int .i64 ds)).set 4 (.string di)).set 5 (.int .i64 yh)).set 6 (.int .i64 yr)).set 7 (.int .i64 ys)).set 8 (.string yi)).set 9 (.bool true)).set 10 (.slice qa o.length qc))
  have KD := (((((((((((HD4.out.other 0 (.int .i64 yv) (show nD ≠ (w.heap.size + 2) by omega)).other 1 (.int .i64 dh) (show nD ≠ (w.heap.size + 2) by omega)).other 2 (.int .i64 dr) (show nD ≠ (w.heap.size + 2) by omega)).other 3 (.int .i64 ds) (show nD ≠ (w.heap.size + 2) by omega)).other 4 (.string di) (show nD ≠ (w.heap.size + 2) by omega)).other 5 (.int .i64 yh) (show nD ≠ (w.heap.size + 2) by omega)).other 6 (.int .i64 yr) (show nD ≠ (w.heap.size + 2) by omega)).other 7 (.int .i64 ys) (show nD ≠ (w.heap.size + 2) by omega)).other 8 (.string yi) (show nD ≠ (w.heap.size + 2) by omega)).other 9 (.bool true) (show nD ≠ (w.heap.size + 2) by omega)).other 10 (.slice qa o.length qc) (show nD ≠ (w.heap.size + 2) by omega))
  have KB := (((((((((((HB4.out.setCell (p := ⟨(w.heap.size + 2), 0, none⟩) (show w.heap.size ≤ (w.heap.size + 2) by omega) (.int .i64 yv)).setCell (p := ⟨(w.heap.size + 2), 1, none⟩) (show w.heap.size ≤ (w.heap.size + 2) by omega) (.int .i64 dh)).setCell (p := ⟨(w.heap.size + 2), 2, none⟩) (show w.heap.size ≤ (w.heap.size + 2) by omega) (.int .i64 dr)).setCell (p := ⟨(w.heap.size + 2), 3, none⟩) (show w.heap.size ≤ (w.heap.size + 2) by omega) (.int .i64 ds)).setCell (p := ⟨(w.heap.size + 2), 4, none⟩) (show w.heap.size ≤ (w.heap.size + 2) by omega) (.string di)).setCell (p := ⟨(w.heap.size + 2), 5, none⟩) (show w.heap.size ≤ (w.heap.size + 2) by omega) (.int .i64 yh)).setCell (p := ⟨(w.heap.size + 2), 6, none⟩) (show w.heap.size ≤ (w.heap.size + 2) by omega) (.int .i64 yr)).setCell (p := ⟨(w.heap.size + 2), 7, none⟩) (show w.heap.size ≤ (w.heap.size + 2) by omega) (.int .i64 ys)).setCell (p := ⟨(w.heap.size + 2), 8, none⟩) (show w.heap.size ≤ (w.heap.size + 2) by omega) (.string yi)).setCell (p := ⟨(w.heap.size + 2), 9, none⟩) (show w.heap.size ≤ (w.heap.size + 2) by omega) (.bool true)).setCell (p := ⟨(w.heap.size + 2), 10, none⟩) (show w.heap.size ≤ (w.heap.size + 2) by omega) (.slice qa o.length qc))
  have KG : Hid (w4.grownBy (((((((((((w4.setCell ⟨(w.heap.size + 2), 0, none⟩ (.int .i64 yv)).setCell ⟨(w.heap.size + 2), 1, none⟩ (.int .i64 dh)).setCell ⟨(w.heap.size + 2), 2, none⟩ (.int .i64 dr)).setCell ⟨(w.heap.size + 2), 3, none⟩ (.int .i64 ds)).setCell ⟨(w.heap.size + 2), 4, none⟩ (.string di)).setCell ⟨(w.heap.size + 2), 5, none⟩ (.int .i64 yh)).setCell ⟨(w.heap.size + 2), 6, none⟩ (.int .i64 yr)).setCell ⟨(w.heap.size + 2), 7, none⟩ (.int .i64 ys)).setCell ⟨(w.heap.size + 2), 8, none⟩ (.string yi)).setCell ⟨(w.heap.size + 2), 9, none⟩ (.bool true)).setCell ⟨(w.heap.size + 2), 10, none⟩ (.slice qa o.length qc)) (some (w.heap.size + 2))) := grown_set (grown_set (grown_set (grown_set (grown_set (grown_set (grown_set (grown_set (grown_set (grown_set (grown_set (grown_refl _ _) _) _) _) _) _) _) _) _) _) _) _
  have KQ : Hid (OwnY (((((((((((w4.setCell ⟨(w.heap.size + 2), 0, none⟩ (.int .i64 yv)).setCell ⟨(w.heap.size + 2), 1, none⟩ (.int .i64 dh)).setCell ⟨(w.heap.size + 2), 2, none⟩ (.int .i64 dr)).setCell ⟨(w.heap.size + 2), 3, none⟩ (.int .i64 ds)).setCell ⟨(w.heap.size + 2), 4, none⟩ (.string di)).setCell ⟨(w.heap.size + 2), 5, none⟩ (.int .i64 yh)).setCell ⟨(w.heap.size + 2), 6, none⟩ (.int .i64 yr)).setCell ⟨(w.heap.size + 2), 7, none⟩ (.int .i64 ys)).setCell ⟨(w.heap.size + 2), 8, none⟩ (.string yi)).setCell ⟨(w.heap.size + 2), 9, none⟩ (.bool true)).setCell ⟨(w.heap.size + 2), 10, none⟩ (.slice qa o.length qc)) NB (.slice qa o.length qc) o) := own_still HQ0.out KG.out (fun j e => by injection e with e; omega)
  go_wp2_with fail
  clear cR_0_4 cR_1_4 cR_2_4 cR_3_4 cR_4_4 cR_5_4 cR_6_4 cR_7_4 cR_8_4 cR_9_4 cR_10_4 zR_4
  generalize ((((((((((((w4.setCell _ _).setCell _ _).setCell _ _).setCell _ _).setCell _ _).setCell _ _).setCell _ _).setCell _ _).setCell _ _).setCell _ _).setCell _ _) : World) = w5 at *
  have HX5 : Hid (Blk w5 w.heap.size [.int .i64 yv, .int .i64 dh, .int .i64 dr, .int .i64 ds, .string di, .int .i64 mh, .int .i64 mr, .int .i64 ms, .string mi, .bool false, .slice a o.length cap] 29) := KX
  have HV5 : Hid (Blk w5 (w.heap.size + 1) [.int .i64 yh, .int .i64 yr, .int .i64 ys, .string yi, .int .i64 yv] 31) := KV
  have HR5 : Hid (Blk w5 (w.heap.size + 2) [.int .i64 yv, .int .i64 dh, .int .i64 dr, .int .i64 ds, .string di, .int .i64 yh, .int .i64 yr, .int .i64 ys, .string yi, .bool true, .slice qa o.length qc] 29) := KR
  have HD5 : Hid (Blk w5 nD [.iface 63 (.agg #[.int .i64 yh, .int .i64 yr, .int .i64 ys, .string yi, .int .i64 yv])] 95) := KD
  have HQ5 : Hid (OwnY w5 NB (.slice qa o.length qc) o) := KQ
  have HB5 : Hid (Below w.heap.size w w5) := KB
  clear KX KV KR KD KB KG KQ HX4 HV4 HR4 HD4 HB4 HQ0
  have y0 := HR5.out.cell 0 rfl
  have y1 := HR5.out.cell 1 rfl
  have y2 := HR5.out.cell 2 rfl
  have y3 := HR5.out.cell 3 rfl
  have y4 := HR5.out.cell 4 rfl
  have y5 := HR5.out.cell 5 rfl
  have y6 := HR5.out.cell 6 rfl
  have y7 := HR5.out.cell 7 rfl
  have y8 := HR5.out.cell 8 rfl
  have y9 := HR5.out.cell 9 rfl
  have y10 := HR5.out.cell 10 rfl
  refine bodyPost_ret (v := .tuple #[.agg #[.int .i64 yv, .int .i64 dh, .int .i64 dr, .int .i64 ds, .string di, .int .i64 yh, .int .i64 yr, .int .i64 ys, .string yi, .bool true, .slice qa o.length qc], .int .i64 0]) (by simp [results, Try.results14, go_sem, y0, y1, y2, y3, y4, y5, y6, y7, y8, y9, y10]) rfl ⟨_, _, rfl, own_less HQ5.out (by omega), HB5.out⟩
set_option maxHeartbeats 6400000 in
set_option maxRecDepth 100000 in
theorem iask_same (x : Sg) (y : Vt) (a : Option Addr) (cap : Nat) (w : World) (hl : YO w a x.o) (hz : a = none → cap = 0) (hfit : x.o.length ≤ cap ∧ cap ≤ 9223372036854775807) (hs : sOk x = true) (hp : x.p = false) (hv : y.v = x.v) (h60 : x.o.length < 60) (hm : mayS x.m y = 1) :
    Calls Try.prog 14 #[sV x a cap, tV y] w fun e w' => ∃ qa qc, e = .returned (.tuple #[sQ (⟨x.v, x.d, x.m, x.p, x.o ++ [y]⟩ : Sg) (.slice qa (x.o ++ [y]).length qc), .int .i64 1]) ∧ Hid (OwnY w' w.heap.size (.slice qa (x.o ++ [y]).length qc) (x.o ++ [y])) ∧ Below w.heap.size w w' := by
  have HY : Hid (YO w a x.o) := hl
  have kS := fun W (h : YO W a x.o) => impl_sok x a cap W h (by omega)
  simp only [hs] at kS
  have hlo : x.o.length ≤ 60 := sOk_len hs
  have HSM : Hid (SmS x ∧ x.o.length ≤ 60) := sOk_sm hs
  have kM := fun W => impl_may x.m y W
  have HSY : Hid (SmV y) := vo_sm (may_ne (g := x.m) (by rw [hm]; decide)).2
  simp only [hm] at kM
  obtain ⟨v, ⟨dh, dr, ds, di⟩, ⟨mh, mr, ms, mi⟩, p, o⟩ := x
  obtain ⟨yh, yr, ys, yi, yv⟩ := y
  unfold sV sQ tV at *
  unfold gV at *
  simp only at *
  subst hp
  subst hv
  have hacts : acts ⟨yv, ⟨dh, dr, ds, di⟩, ⟨mh, mr, ms, mi⟩, false, o⟩ [.tell (⟨yh, yr, ys, yi, yv⟩ : Vt)] = ⟨yv, ⟨dh, dr, ds, di⟩, ⟨mh, mr, ms, mi⟩, false, o ++ [(⟨yh, yr, ys, yi, yv⟩ : Vt)]⟩ := rfl
  have kA : ∀ (W : World) (hY : YO W a o) (nD : Nat) (hd : DAt W (some ⟨nD, 0, none⟩) [.tell (⟨yh, yr, ys, yi, yv⟩ : Vt)]), Calls Try.prog 38 #[.agg #[.int .i64 yv, .int .i64 dh, .int .i64 dr, .int .i64 ds, .string di, .int .i64 mh, .int .i64 mr, .int .i64 ms, .string mi, .bool false, .slice a o.length cap], .slice (some ⟨nD, 0, none⟩) 1 1] W fun e w' => ∃ qa qc, e = .returned (.agg #[.int .i64 yv, .int .i64 dh, .int .i64 dr, .int .i64 ds, .string di, .int .i64 mh, .int .i64 mr, .int .i64 ms, .string mi, .bool false, .slice qa (o ++ [(⟨yh, yr, ys, yi, yv⟩ : Vt)]).length qc]) ∧ Hid (OwnY w' W.heap.size (.slice qa (o ++ [(⟨yh, yr, ys, yi, yv⟩ : Vt)]).length qc) (o ++ [(⟨yh, yr, ys, yi, yv⟩ : Vt)])) ∧ Below W.heap.size W w' := by
    intro W hY nD hd
    have h := after_any ⟨yv, ⟨dh, dr, ds, di⟩, ⟨mh, mr, ms, mi⟩, false, o⟩ a cap (some ⟨nD, 0, none⟩) [.tell (⟨yh, yr, ys, yi, yv⟩ : Vt)] 1 W hY hz hfit (by simp only; omega) hd (show 1 ≤ 1000 by omega) HSM.out.1 (fun d h => by rw [List.mem_singleton.1 h]; exact HSY.out)
    rw [hacts] at h
    exact h
  clear hacts
  generalize o ++ [(⟨yh, yr, ys, yi, yv⟩ : Vt)] = oo at *
  have kF : ∀ W, Calls Try.prog 39 #[.agg #[.int .i64 yv, .int .i64 dh, .int .i64 dr, .int .i64 ds, .string di, .int .i64 mh, .int .i64 mr, .int .i64 ms, .string mi, .bool false, .slice a o.length cap]] W fun e w' => e = .returned (.bool false) ∧ Below W.heap.size W w' := fun W => (impl_full ⟨yv, ⟨dh, dr, ds, di⟩, ⟨mh, mr, ms, mi⟩, false, o⟩ a cap W (by simp only; omega)).mono (fun e w' h => ⟨by rw [h.1, decide_eq_false (show ¬ 60 ≤ o.length by omega)], h.2⟩)
  clear HSM
  clear HSY
  clear hl hs hfit
  obtain ⟨W0, hW0⟩ : ∃ W, ((w.alloc (.cells #[.int .i64 yv, .int .i64 dh, .int .i64 dr, .int .i64 ds, .string di, .int .i64 mh, .int .i64 mr, .int .i64 ms, .string mi, .bool false, .slice a o.length cap] 29)).alloc (.cells #[.int .i64 yh, .int .i64 yr, .int .i64 ys, .string yi, .int .i64 yv] 31)).alloc (.cells #[.int .i64 0, .int .i64 0, .int .i64 0, .int .i64 0, .string ⟨#[]⟩, .int .i64 0, .int .i64 0, .int .i64 0, .string ⟨#[]⟩, .bool false, .slice none 0 0] 29) = W := ⟨_, rfl⟩
  have HX0 : Hid (Blk W0 w.heap.size [.int .i64 yv, .int .i64 dh, .int .i64 dr, .int .i64 ds, .string di, .int .i64 mh, .int .i64 mr, .int .i64 ms, .string mi, .bool false, .slice a o.length cap] 29) := by
    rw [← hW0]
    have hnew := blk_new (w) [.int .i64 yv, .int .i64 dh, .int .i64 dr, .int .i64 ds, .string di, .int .i64 mh, .int .i64 mr, .int .i64 ms, .string mi, .bool false, .slice a o.length cap] 29
    exact ((hnew.alloc _).alloc _)
  have HV0 : Hid (Blk W0 (w.heap.size + 1) [.int .i64 yh, .int .i64 yr, .int .i64 ys, .string yi, .int .i64 yv] 31) := by
    rw [← hW0]
    have hnew := blk_new (w.alloc (.cells #[.int .i64 yv, .int .i64 dh, .int .i64 dr, .int .i64 ds, .string di, .int .i64 mh, .int .i64 mr, .int .i64 ms, .string mi, .bool false, .slice a o.length cap] 29)) [.int .i64 yh, .int .i64 yr, .int .i64 ys, .string yi, .int .i64 yv] 31
    rw [show (w.alloc (.cells #[.int .i64 yv, .int .i64 dh, .int .i64 dr, .int .i64 ds, .string di, .int .i64 mh, .int .i64 mr, .int .i64 ms, .string mi, .bool false, .slice a o.length cap] 29)).heap.size = w.heap.size + 1 from by simp] at hnew
    exact (hnew.alloc _)
  have HR0 : Hid (Blk W0 (w.heap.size + 2) [.int .i64 0, .int .i64 0, .int .i64 0, .int .i64 0, .string ⟨#[]⟩, .int .i64 0, .int .i64 0, .int .i64 0, .string ⟨#[]⟩, .bool false, .slice none 0 0] 29) := by
    rw [← hW0]
    have hnew := blk_new ((w.alloc (.cells #[.int .i64 yv, .int .i64 dh, .int .i64 dr, .int .i64 ds, .string di, .int .i64 mh, .int .i64 mr, .int .i64 ms, .string mi, .bool false, .slice a o.length cap] 29)).alloc (.cells #[.int .i64 yh, .int .i64 yr, .int .i64 ys, .string yi, .int .i64 yv] 31)) [.int .i64 0, .int .i64 0, .int .i64 0, .int .i64 0, .string ⟨#[]⟩, .int .i64 0, .int .i64 0, .int .i64 0, .string ⟨#[]⟩, .bool false, .slice none 0 0] 29
    rw [show ((w.alloc (.cells #[.int .i64 yv, .int .i64 dh, .int .i64 dr, .int .i64 ds, .string di, .int .i64 mh, .int .i64 mr, .int .i64 ms, .string mi, .bool false, .slice a o.length cap] 29)).alloc (.cells #[.int .i64 yh, .int .i64 yr, .int .i64 ys, .string yi, .int .i64 yv] 31)).heap.size = w.heap.size + 2 from by simp] at hnew
    exact hnew
  have HB0 : Hid (Below w.heap.size w W0) := by rw [← hW0]; exact (((Below.refl w.heap.size w).alloc (Nat.le_refl _) _).alloc (by simp; try omega) _).alloc (by simp; try omega) _
  go_enter Try.func14, Try.ntmps14
  have cX_0_0 := HX0.out.cell 0 rfl
  have cX_1_0 := HX0.out.cell 1 rfl
  have cX_2_0 := HX0.out.cell 2 rfl
  have cX_3_0 := HX0.out.cell 3 rfl
  have cX_4_0 := HX0.out.cell 4 rfl
  have cX_5_0 := HX0.out.cell 5 rfl
  have cX_6_0 := HX0.out.cell 6 rfl
  have cX_7_0 := HX0.out.cell 7 rfl
  have cX_8_0 := HX0.out.cell 8 rfl
  have cX_9_0 := HX0.out.cell 9 rfl
  have cX_10_0 := HX0.out.cell 10 rfl
  go_wp2_with fail
  clear hW0 cX_0_0 cX_1_0 cX_2_0 cX_3_0 cX_4_0 cX_5_0 cX_6_0 cX_7_0 cX_8_0 cX_9_0 cX_10_0
  refine (kS _ (HY.out.below HB0.out)).mono ?_
  rintro e w1 ⟨rfl, bb⟩
  have HX1 : Hid (Blk w1 w.heap.size [.int .i64 yv, .int .i64 dh, .int .i64 dr, .int .i64 ds, .string di, .int .i64 mh, .int .i64 mr, .int .i64 ms, .string mi, .bool false, .slice a o.length cap] 29) := HX0.out.below bb HX0.out.lt
  have HV1 : Hid (Blk w1 (w.heap.size + 1) [.int .i64 yh, .int .i64 yr, .int .i64 ys, .string yi, .int .i64 yv] 31) := HV0.out.below bb HV0.out.lt
  have HR1 : Hid (Blk w1 (w.heap.size + 2) [.int .i64 0, .int .i64 0, .int .i64 0, .int .i64 0, .string ⟨#[]⟩, .int .i64 0, .int .i64 0, .int .i64 0, .string ⟨#[]⟩, .bool false, .slice none 0 0] 29) := HR0.out.below bb HR0.out.lt
  have HB1 : Hid (Below w.heap.size w w1) := HB0.out.trans (bb.mono HB0.out.size)
  clear HX0 HV0 HR0 HB0
  clear bb
  clear kS
  have cX_0_1 := HX1.out.cell 0 rfl
  have cX_1_1 := HX1.out.cell 1 rfl
  have cX_2_1 := HX1.out.cell 2 rfl
  have cX_3_1 := HX1.out.cell 3 rfl
  have cX_4_1 := HX1.out.cell 4 rfl
  have cX_5_1 := HX1.out.cell 5 rfl
  have cX_6_1 := HX1.out.cell 6 rfl
  have cX_7_1 := HX1.out.cell 7 rfl
  have cX_8_1 := HX1.out.cell 8 rfl
  have cX_9_1 := HX1.out.cell 9 rfl
  have cX_10_1 := HX1.out.cell 10 rfl
  have cV_0_1 := HV1.out.cell 0 rfl
  have cV_1_1 := HV1.out.cell 1 rfl
  have cV_2_1 := HV1.out.cell 2 rfl
  have cV_3_1 := HV1.out.cell 3 rfl
  have cV_4_1 := HV1.out.cell 4 rfl
  go_wp2_with fail
  clear cX_0_1 cX_1_1 cX_2_1 cX_3_1 cX_4_1 cX_5_1 cX_6_1 cX_7_1 cX_8_1 cX_9_1 cX_10_1 cV_0_1 cV_1_1 cV_2_1 cV_3_1 cV_4_1
  refine (kM _).mono ?_
  rintro e w2 ⟨rfl, bb⟩
  have HX2 : Hid (Blk w2 w.heap.size [.int .i64 yv, .int .i64 dh, .int .i64 dr, .int .i64 ds, .string di, .int .i64 mh, .int .i64 mr, .int .i64 ms, .string mi, .bool false, .slice a o.length cap] 29) := HX1.out.below bb HX1.out.lt
  have HV2 : Hid (Blk w2 (w.heap.size + 1) [.int .i64 yh, .int .i64 yr, .int .i64 ys, .string yi, .int .i64 yv] 31) := HV1.out.below bb HV1.out.lt
  have HR2 : Hid (Blk w2 (w.heap.size + 2) [.int .i64 0, .int .i64 0, .int .i64 0, .int .i64 0, .string ⟨#[]⟩, .int .i64 0, .int .i64 0, .int .i64 0, .string ⟨#[]⟩, .bool false, .slice none 0 0] 29) := HR1.out.below bb HR1.out.lt
  have HB2 : Hid (Below w.heap.size w w2) := HB1.out.trans (bb.mono HB1.out.size)
  clear HX1 HV1 HR1 HB1
  clear bb
  clear kM
  have cX_0_2 := HX2.out.cell 0 rfl
  have cX_1_2 := HX2.out.cell 1 rfl
  have cX_2_2 := HX2.out.cell 2 rfl
  have cX_3_2 := HX2.out.cell 3 rfl
  have cX_4_2 := HX2.out.cell 4 rfl
  have cX_5_2 := HX2.out.cell 5 rfl
  have cX_6_2 := HX2.out.cell 6 rfl
  have cX_7_2 := HX2.out.cell 7 rfl
  have cX_8_2 := HX2.out.cell 8 rfl
  have cX_9_2 := HX2.out.cell 9 rfl
  have cX_10_2 := HX2.out.cell 10 rfl
  have cV_0_2 := HV2.out.cell 0 rfl
  have cV_1_2 := HV2.out.cell 1 rfl
  have cV_2_2 := HV2.out.cell 2 rfl
  have cV_3_2 := HV2.out.cell 3 rfl
  have cV_4_2 := HV2.out.cell 4 rfl
  go_wp2_with fail
  clear cX_0_2 cX_1_2 cX_2_2 cX_3_2 cX_4_2 cX_5_2 cX_6_2 cX_7_2 cX_8_2 cX_9_2 cX_10_2 cV_0_2 cV_1_2 cV_2_2 cV_3_2 cV_4_2
  refine (kF _).mono ?_
  rintro e w3 ⟨rfl, bb⟩
  have HX3 : Hid (Blk w3 w.heap.size [.int .i64 yv, .int .i64 dh, .int .i64 dr, .int .i64 ds, .string di, .int .i64 mh, .int .i64 mr, .int .i64 ms, .string mi, .bool false, .slice a o.length cap] 29) := HX2.out.below bb HX2.out.lt
  have HV3 : Hid (Blk w3 (w.heap.size + 1) [.int .i64 yh, .int .i64 yr, .int .i64 ys, .string yi, .int .i64 yv] 31) := HV2.out.below bb HV2.out.lt
  have HR3 : Hid (Blk w3 (w.heap.size + 2) [.int .i64 0, .int .i64 0, .int .i64 0, .int .i64 0, .string ⟨#[]⟩, .int .i64 0, .int .i64 0, .int .i64 0, .string ⟨#[]⟩, .bool false, .slice none 0 0] 29) := HR2.out.below bb HR2.out.lt
  have HB3 : Hid (Below w.heap.size w w3) := HB2.out.trans (bb.mono HB2.out.size)
  clear HX2 HV2 HR2 HB2
  clear bb
  clear kF
  have cX_0_3 := HX3.out.cell 0 rfl
  have cX_1_3 := HX3.out.cell 1 rfl
  have cX_2_3 := HX3.out.cell 2 rfl
  have cX_3_3 := HX3.out.cell 3 rfl
  have cX_4_3 := HX3.out.cell 4 rfl
  have cX_5_3 := HX3.out.cell 5 rfl
  have cX_6_3 := HX3.out.cell 6 rfl
  have cX_7_3 := HX3.out.cell 7 rfl
  have cX_8_3 := HX3.out.cell 8 rfl
  have cX_9_3 := HX3.out.cell 9 rfl
  have cX_10_3 := HX3.out.cell 10 rfl
  have cV_0_3 := HV3.out.cell 0 rfl
  have cV_1_3 := HV3.out.cell 1 rfl
  have cV_2_3 := HV3.out.cell 2 rfl
  have cV_3_3 := HV3.out.cell 3 rfl
  have cV_4_3 := HV3.out.cell 4 rfl
  obtain ⟨wa4, hwa4⟩ : ∃ W, w3.alloc (.cells #[.iface 65 (.agg #[.int .i64 yh, .int .i64 yr, .int .i64 ys, .string yi, .int .i64 yv])] 95) = W := ⟨_, rfl⟩
  obtain ⟨nD, hnD⟩ : ∃ n, w3.heap.size = n := ⟨_, rfl⟩
  have hnDX : w.heap.size < nD := by rw [← hnD]; exact HX3.out.lt
  have hnDV : (w.heap.size + 1) < nD := by rw [← hnD]; exact HV3.out.lt
  have hnDR : (w.heap.size + 2) < nD := by rw [← hnD]; exact HR3.out.lt
  have HAnD : Hid (Below w3.heap.size w3 wa4) := by rw [← hwa4]; exact below_one _ _
  have HX4 : Hid (Blk wa4 w.heap.size [.int .i64 yv, .int .i64 dh, .int .i64 dr, .int .i64 ds, .string di, .int .i64 mh, .int .i64 mr, .int .i64 ms, .string mi, .bool false, .slice a o.length cap] 29) := HX3.out.below HAnD.out HX3.out.lt
  have HV4 : Hid (Blk wa4 (w.heap.size + 1) [.int .i64 yh, .int .i64 yr, .int .i64 ys, .string yi, .int .i64 yv] 31) := HV3.out.below HAnD.out HV3.out.lt
  have HR4 : Hid (Blk wa4 (w.heap.size + 2) [.int .i64 0, .int .i64 0, .int .i64 0, .int .i64 0, .string ⟨#[]⟩, .int .i64 0, .int .i64 0, .int .i64 0, .string ⟨#[]⟩, .bool false, .slice none 0 0] 29) := HR3.out.below HAnD.out HR3.out.lt
  have HB4 : Hid (Below w.heap.size w wa4) := HB3.out.trans (HAnD.out.mono HB3.out.size)
  have HD4 : Hid (Blk wa4 nD [.iface 65 (.agg #[.int .i64 yh, .int .i64 yr, .int .i64 ys, .string yi, .int .i64 yv])] 95) := by rw [← hwa4, ← hnD]; exact blk_new _ _ _
  clear HAnD HX3 HV3 HR3 HB3
  have cX_0_4 := HX4.out.cell 0 rfl
  have cX_1_4 := HX4.out.cell 1 rfl
  have cX_2_4 := HX4.out.cell 2 rfl
  have cX_3_4 := HX4.out.cell 3 rfl
  have cX_4_4 := HX4.out.cell 4 rfl
  have cX_5_4 := HX4.out.cell 5 rfl
  have cX_6_4 := HX4.out.cell 6 rfl
  have cX_7_4 := HX4.out.cell 7 rfl
  have cX_8_4 := HX4.out.cell 8 rfl
  have cX_9_4 := HX4.out.cell 9 rfl
  have cX_10_4 := HX4.out.cell 10 rfl
  have cV_0_4 := HV4.out.cell 0 rfl
  have cV_1_4 := HV4.out.cell 1 rfl
  have cV_2_4 := HV4.out.cell 2 rfl
  have cV_3_4 := HV4.out.cell 3 rfl
  have cV_4_4 := HV4.out.cell 4 rfl
  go_wp2_with fail
  clear cX_0_3 cX_1_3 cX_2_3 cX_3_3 cX_4_3 cX_5_3 cX_6_3 cX_7_3 cX_8_3 cX_9_3 cX_10_3 cV_0_3 cV_1_3 cV_2_3 cV_3_3 cV_4_3 hwa4 hnD cX_0_4 cX_1_4 cX_2_4 cX_3_4 cX_4_4 cX_5_4 cX_6_4 cX_7_4 cX_8_4 cX_9_4 cX_10_4 cV_0_4 cV_1_4 cV_2_4 cV_3_4 cV_4_4
  refine (kA _ (HY.out.below HB4.out) nD (dat_one HD4.out)).mono ?_
  rintro e w5 ⟨qa, qc, rfl, HQ, bb⟩
  obtain ⟨NB, hNB⟩ : ∃ n, wa4.heap.size = n := ⟨_, rfl⟩
  have hlt1 : w.heap.size + 2 < NB := by rw [← hNB]; exact HR4.out.lt
  have HQ0 : Hid (OwnY w5 NB (.slice qa oo.length qc) oo) := by rw [← hNB]; exact HQ.out
  have HX5 : Hid (Blk w5 w.heap.size [.int .i64 yv, .int .i64 dh, .int .i64 dr, .int .i64 ds, .string di, .int .i64 mh, .int .i64 mr, .int .i64 ms, .string mi, .bool false, .slice a o.length cap] 29) := HX4.out.below bb HX4.out.lt
  have HV5 : Hid (Blk w5 (w.heap.size + 1) [.int .i64 yh, .int .i64 yr, .int .i64 ys, .string yi, .int .i64 yv] 31) := HV4.out.below bb HV4.out.lt
  have HR5 : Hid (Blk w5 (w.heap.size + 2) [.int .i64 0, .int .i64 0, .int .i64 0, .int .i64 0, .string ⟨#[]⟩, .int .i64 0, .int .i64 0, .int .i64 0, .string ⟨#[]⟩, .bool false, .slice none 0 0] 29) := HR4.out.below bb HR4.out.lt
  have HD5 : Hid (Blk w5 nD [.iface 65 (.agg #[.int .i64 yh, .int .i64 yr, .int .i64 ys, .string yi, .int .i64 yv])] 95) := HD4.out.below bb HD4.out.lt
  have HB5 : Hid (Below w.heap.size w w5) := HB4.out.trans (bb.mono HB4.out.size)
  clear HX4 HV4 HR4 HD4 HB4
  clear bb kA HY HQ hNB
  have cR_0_5 := HR5.out.cell 0 rfl
  have cR_1_5 := HR5.out.cell 1 rfl
  have cR_2_5 := HR5.out.cell 2 rfl
  have cR_3_5 := HR5.out.cell 3 rfl
  have cR_4_5 := HR5.out.cell 4 rfl
  have cR_5_5 := HR5.out.cell 5 rfl
  have cR_6_5 := HR5.out.cell 6 rfl
  have cR_7_5 := HR5.out.cell 7 rfl
  have cR_8_5 := HR5.out.cell 8 rfl
  have cR_9_5 := HR5.out.cell 9 rfl
  have cR_10_5 := HR5.out.cell 10 rfl
  have zR_5 := fun j => HR5.out.frozen j
  have KX := (((((((((((HX5.out.other 0 (.int .i64 yv) (show w.heap.size ≠ (w.heap.size + 2) by omega)).other 1 (.int .i64 dh) (show w.heap.size ≠ (w.heap.size + 2) by omega)).other 2 (.int .i64 dr) (show w.heap.size ≠ (w.heap.size + 2) by omega)).other 3 (.int .i64 ds) (show w.heap.size ≠ (w.heap.size + 2) by omega)).other 4 (.string di) (show w.heap.size ≠ (w.heap.size + 2) by omega)).other 5 (.int .i64 mh) (show w.heap.size ≠ (w.heap.size + 2) by omega)).other 6 (.int .i64 mr) (show w.heap.size ≠ (w.heap.size + 2) by omega)).other 7 (.int .i64 ms) (show w.heap.size ≠ (w.heap.size + 2) by omega)).other 8 (.string mi) (show w.heap.size ≠ (w.heap.size + 2) by omega)).other 9 (.bool false) (show w.heap.size ≠ (w.heap.size + 2) by omega)).other 10 (.slice qa oo.length qc) (show w.heap.size ≠ (w.heap.size + 2) by omega))
  have KV := (((((((((((HV5.out.other 0 (.int .i64 yv) (show (w.heap.size + 1) ≠ (w.heap.size + 2) by omega)).other 1 (.int .i64 dh) (show (w.heap.size + 1) ≠ (w.heap.size + 2) by omega)).other 2 (.int .i64 dr) (show (w.heap.size + 1) ≠ (w.heap.size + 2) by omega)).other 3 (.int .i64 ds) (show (w.heap.size + 1) ≠ (w.heap.size + 2) by omega)).other 4 (.string di) (show (w.heap.size + 1) ≠ (w.heap.size + 2) by omega)).other 5 (.int .i64 mh) (show (w.heap.size + 1) ≠ (w.heap.size + 2) by omega)).other 6 (.int .i64 mr) (show (w.heap.size + 1) ≠ (w.heap.size + 2) by omega)).other 7 (.int .i64 ms) (show (w.heap.size + 1) ≠ (w.heap.size + 2) by omega)).other 8 (.string mi) (show (w.heap.size + 1) ≠ (w.heap.size + 2) by omega)).other 9 (.bool false) (show (w.heap.size + 1) ≠ (w.heap.size + 2) by omega)).other 10 (.slice qa oo.length qc) (show (w.heap.size + 1) ≠ (w.heap.size + 2) by omega))
  have KR := (((((((((((HR5.out.set 0 (.int .i64 yv)).set 1 (.int .i64 dh)).set 2 (.int .i64 dr)).set 3 (.int .i64 ds)).set 4 (.string di)).set 5 (.int .i64 mh)).set 6 (.int .i64 mr)).set 7 (.int .i64 ms)).set 8 (.string mi)).set 9 (.bool false)).set 10 (.slice qa oo.length qc))
  have KD := (((((((((((HD5.out.other 0 (.int .i64 yv) (show nD ≠ (w.heap.size + 2) by omega)).other 1 (.int .i64 dh) (show nD ≠ (w.heap.size + 2) by omega)).other 2 (.int .i64 dr) (show nD ≠ (w.heap.size + 2) by omega)).other 3 (.int .i64 ds) (show nD ≠ (w.heap.size + 2) by omega)).other 4 (.string di) (show nD ≠ (w.heap.size + 2) by omega)).other 5 (.int .i64 mh) (show nD ≠ (w.heap.size + 2) by omega)).other 6 (.int .i64 mr) (show nD ≠ (w.heap.size + 2) by omega)).other 7 (.int .i64 ms) (show nD ≠ (w.heap.size + 2) by omega)).other 8 (.string mi) (show nD ≠ (w.heap.size + 2) by omega)).other 9 (.bool false) (show nD ≠ (w.heap.size + 2) by omega)).other 10 (.slice qa oo.length qc) (show nD ≠ (w.heap.size + 2) by omega))
  have KB := (((((((((((HB5.out.setCell (p := ⟨(w.heap.size + 2), 0, none⟩) (show w.heap.size ≤ (w.heap.size + 2) by omega) (.int .i64 yv)).setCell (p := ⟨(w.heap.size + 2), 1, none⟩) (show w.heap.size ≤ (w.heap.size + 2) by omega) (.int .i64 dh)).setCell (p := ⟨(w.heap.size + 2), 2, none⟩) (show w.heap.size ≤ (w.heap.size + 2) by omega) (.int .i64 dr)).setCell (p := ⟨(w.heap.size + 2), 3, none⟩) (show w.heap.size ≤ (w.heap.size + 2) by omega) (.int .i64 ds)).setCell (p := ⟨(w.heap.size + 2), 4, none⟩) (show w.heap.size ≤ (w.heap.size + 2) by omega) (.string di)).setCell (p := ⟨(w.heap.size + 2), 5, none⟩) (show w.heap.size ≤ (w.heap.size + 2) by omega) (.int .i64 mh)).setCell (p := ⟨(w.heap.size + 2), 6, none⟩) (show w.heap.size ≤ (w.heap.size + 2) by omega) (.int .i64 mr)).setCell (p := ⟨(w.heap.size + 2), 7, none⟩) (show w.heap.size ≤ (w.heap.size + 2) by omega) (.int .i64 ms)).setCell (p := ⟨(w.heap.size + 2), 8, none⟩) (show w.heap.size ≤ (w.heap.size + 2) by omega) (.string mi)).setCell (p := ⟨(w.heap.size + 2), 9, none⟩) (show w.heap.size ≤ (w.heap.size + 2) by omega) (.bool false)).setCell (p := ⟨(w.heap.size + 2), 10, none⟩) (show w.heap.size ≤ (w.heap.size + 2) by omega) (.slice qa oo.length qc))
  have KG : Hid (w5.grownBy (((((((((((w5.setCell ⟨(w.heap.size + 2), 0, none⟩ (.int .i64 yv)).setCell ⟨(w.heap.size + 2), 1, none⟩ (.int .i64 dh)).setCell ⟨(w.heap.size + 2), 2, none⟩ (.int .i64 dr)).setCell ⟨(w.heap.size + 2), 3, none⟩ (.int .i64 ds)).setCell ⟨(w.heap.size + 2), 4, none⟩ (.string di)).setCell ⟨(w.heap.size + 2), 5, none⟩ (.int .i64 mh)).setCell ⟨(w.heap.size + 2), 6, none⟩ (.int .i64 mr)).setCell ⟨(w.heap.size + 2), 7, none⟩ (.int .i64 ms)).setCell ⟨(w.heap.size + 2), 8, none⟩ (.string mi)).setCell ⟨(w.heap.size + 2), 9, none⟩ (.bool false)).setCell ⟨(w.heap.size + 2), 10, none⟩ (.slice qa oo.length qc)) (some (w.heap.size + 2))) := grown_set (grown_set (grown_set (grown_set (grown_set (grown_set (grown_set (grown_set (grown_set (grown_set (grown_set (grown_refl _ _) _) _) _) _) _) _) _) _) _) _) _
  have KQ : Hid (OwnY (((((((((((w5.setCell ⟨(w.heap.size + 2), 0, none⟩ (.int .i64 yv)).setCell ⟨(w.heap.size + 2), 1, none⟩ (.int .i64 dh)).setCell ⟨(w.heap.size + 2), 2, none⟩ (.int .i64 dr)).setCell ⟨(w.heap.size + 2), 3, none⟩ (.int .i64 ds)).setCell ⟨(w.heap.size + 2), 4, none⟩ (.string di)).setCell ⟨(w.heap.size + 2), 5, none⟩ (.int .i64 mh)).setCell ⟨(w.heap.size + 2), 6, none⟩ (.int .i64 mr)).setCell ⟨(w.heap.size + 2), 7, none⟩ (.int .i64 ms)).setCell ⟨(w.heap.size + 2), 8, none⟩ (.string mi)).setCell ⟨(w.heap.size + 2), 9, none⟩ (.bool false)).setCell ⟨(w.heap.size + 2), 10, none⟩ (.slice qa oo.length qc)) NB (.slice qa oo.length qc) oo) := own_still HQ0.out KG.out (fun j e => by injection e with e; omega)
  go_wp2_with fail
  clear cR_0_5 cR_1_5 cR_2_5 cR_3_5 cR_4_5 cR_5_5 cR_6_5 cR_7_5 cR_8_5 cR_9_5 cR_10_5 zR_5
  generalize ((((((((((((w5.setCell _ _).setCell _ _).setCell _ _).setCell _ _).setCell _ _).setCell _ _).setCell _ _).setCell _ _).setCell _ _).setCell _ _).setCell _ _) : World) = w6 at *
  have HX6 : Hid (Blk w6 w.heap.size [.int .i64 yv, .int .i64 dh, .int .i64 dr, .int .i64 ds, .string di, .int .i64 mh, .int .i64 mr, .int .i64 ms, .string mi, .bool false, .slice a o.length cap] 29) := KX
  have HV6 : Hid (Blk w6 (w.heap.size + 1) [.int .i64 yh, .int .i64 yr, .int .i64 ys, .string yi, .int .i64 yv] 31) := KV
  have HR6 : Hid (Blk w6 (w.heap.size + 2) [.int .i64 yv, .int .i64 dh, .int .i64 dr, .int .i64 ds, .string di, .int .i64 mh, .int .i64 mr, .int .i64 ms, .string mi, .bool false, .slice qa oo.length qc] 29) := KR
  have HD6 : Hid (Blk w6 nD [.iface 65 (.agg #[.int .i64 yh, .int .i64 yr, .int .i64 ys, .string yi, .int .i64 yv])] 95) := KD
  have HQ6 : Hid (OwnY w6 NB (.slice qa oo.length qc) oo) := KQ
  have HB6 : Hid (Below w.heap.size w w6) := KB
  clear KX KV KR KD KB KG KQ HX5 HV5 HR5 HD5 HB5 HQ0
  have y0 := HR6.out.cell 0 rfl
  have y1 := HR6.out.cell 1 rfl
  have y2 := HR6.out.cell 2 rfl
  have y3 := HR6.out.cell 3 rfl
  have y4 := HR6.out.cell 4 rfl
  have y5 := HR6.out.cell 5 rfl
  have y6 := HR6.out.cell 6 rfl
  have y7 := HR6.out.cell 7 rfl
  have y8 := HR6.out.cell 8 rfl
  have y9 := HR6.out.cell 9 rfl
  have y10 := HR6.out.cell 10 rfl
  refine bodyPost_ret (v := .tuple #[.agg #[.int .i64 yv, .int .i64 dh, .int .i64 dr, .int .i64 ds, .string di, .int .i64 mh, .int .i64 mr, .int .i64 ms, .string mi, .bool false, .slice qa oo.length qc], .int .i64 1]) (by simp [results, Try.results14, go_sem, y0, y1, y2, y3, y4, y5, y6, y7, y8, y9, y10]) rfl ⟨_, _, rfl, own_less HQ6.out (by omega), HB6.out⟩
set_option maxHeartbeats 6400000 in
set_option maxRecDepth 100000 in
theorem iask_rest (x : Sg) (y : Vt) (a : Option Addr) (cap : Nat) (w : World) (hl : YO w a x.o) (hz : a = none → cap = 0) (hfit : x.o.length ≤ cap ∧ cap ≤ 9223372036854775807) (hs : sOk x = true) (hp : x.p = false) (hv : y.v = x.v) (h60 : x.o.length < 60) (h0 : mayS x.m y ≠ 0) (h1 : mayS x.m y ≠ 1) :
    Calls Try.prog 14 #[sV x a cap, tV y] w fun e w' => ∃ qa qc, e = .returned (.tuple #[sQ x (.slice qa x.o.length qc), .int .i64 (mayS x.m y)]) ∧ Hid (OwnY w' w.heap.size (.slice qa x.o.length qc) x.o) ∧ Below w.heap.size w w' := by
  have HY : Hid (YO w a x.o) := hl
  have kS := fun W (h : YO W a x.o) => impl_sok x a cap W h (by omega)
  simp only [hs] at kS
  have hlo : x.o.length ≤ 60 := sOk_len hs
  have HSM : Hid (SmS x ∧ x.o.length ≤ 60) := sOk_sm hs
  have kM := fun W => impl_may x.m y W
  generalize mayS x.m y = c at *
  obtain ⟨v, ⟨dh, dr, ds, di⟩, ⟨mh, mr, ms, mi⟩, p, o⟩ := x
  obtain ⟨yh, yr, ys, yi, yv⟩ := y
  unfold sV sQ tV at *
  unfold gV at *
  simp only at *
  subst hp
  subst hv
  have hacts : acts ⟨yv, ⟨dh, dr, ds, di⟩, ⟨mh, mr, ms, mi⟩, false, o⟩ [] = ⟨yv, ⟨dh, dr, ds, di⟩, ⟨mh, mr, ms, mi⟩, false, o⟩ := rfl
  have kA : ∀ (W : World) (hY : YO W a o), Calls Try.prog 38 #[.agg #[.int .i64 yv, .int .i64 dh, .int .i64 dr, .int .i64 ds, .string di, .int .i64 mh, .int .i64 mr, .int .i64 ms, .string mi, .bool false, .slice a o.length cap], .slice none 0 0] W fun e w' => ∃ qa qc, e = .returned (.agg #[.int .i64 yv, .int .i64 dh, .int .i64 dr, .int .i64 ds, .string di, .int .i64 mh, .int .i64 mr, .int .i64 ms, .string mi, .bool false, .slice qa o.length qc]) ∧ Hid (OwnY w' W.heap.size (.slice qa o.length qc) o) ∧ Below W.heap.size W w' := by
    intro W hY
    have h := after_any ⟨yv, ⟨dh, dr, ds, di⟩, ⟨mh, mr, ms, mi⟩, false, o⟩ a cap none [] 0 W hY hz hfit (by simp only; omega) (.inl rfl) (show 0 ≤ 1000 by omega) HSM.out.1 (fun d h => by cases h)
    rw [hacts] at h
    exact h
  clear hacts
  have kF : ∀ W, Calls Try.prog 39 #[.agg #[.int .i64 yv, .int .i64 dh, .int .i64 dr, .int .i64 ds, .string di, .int .i64 mh, .int .i64 mr, .int .i64 ms, .string mi, .bool false, .slice a o.length cap]] W fun e w' => e = .returned (.bool false) ∧ Below W.heap.size W w' := fun W => (impl_full ⟨yv, ⟨dh, dr, ds, di⟩, ⟨mh, mr, ms, mi⟩, false, o⟩ a cap W (by simp only; omega)).mono (fun e w' h => ⟨by rw [h.1, decide_eq_false (show ¬ 60 ≤ o.length by omega)], h.2⟩)
  clear HSM
  clear hl hs hfit
  obtain ⟨W0, hW0⟩ : ∃ W, ((w.alloc (.cells #[.int .i64 yv, .int .i64 dh, .int .i64 dr, .int .i64 ds, .string di, .int .i64 mh, .int .i64 mr, .int .i64 ms, .string mi, .bool false, .slice a o.length cap] 29)).alloc (.cells #[.int .i64 yh, .int .i64 yr, .int .i64 ys, .string yi, .int .i64 yv] 31)).alloc (.cells #[.int .i64 0, .int .i64 0, .int .i64 0, .int .i64 0, .string ⟨#[]⟩, .int .i64 0, .int .i64 0, .int .i64 0, .string ⟨#[]⟩, .bool false, .slice none 0 0] 29) = W := ⟨_, rfl⟩
  have HX0 : Hid (Blk W0 w.heap.size [.int .i64 yv, .int .i64 dh, .int .i64 dr, .int .i64 ds, .string di, .int .i64 mh, .int .i64 mr, .int .i64 ms, .string mi, .bool false, .slice a o.length cap] 29) := by
    rw [← hW0]
    have hnew := blk_new (w) [.int .i64 yv, .int .i64 dh, .int .i64 dr, .int .i64 ds, .string di, .int .i64 mh, .int .i64 mr, .int .i64 ms, .string mi, .bool false, .slice a o.length cap] 29
    exact ((hnew.alloc _).alloc _)
  have HV0 : Hid (Blk W0 (w.heap.size + 1) [.int .i64 yh, .int .i64 yr, .int .i64 ys, .string yi, .int .i64 yv] 31) := by
    rw [← hW0]
    have hnew := blk_new (w.alloc (.cells #[.int .i64 yv, .int .i64 dh, .int .i64 dr, .int .i64 ds, .string di, .int .i64 mh, .int .i64 mr, .int .i64 ms, .string mi, .bool false, .slice a o.length cap] 29)) [.int .i64 yh, .int .i64 yr, .int .i64 ys, .string yi, .int .i64 yv] 31
    rw [show (w.alloc (.cells #[.int .i64 yv, .int .i64 dh, .int .i64 dr, .int .i64 ds, .string di, .int .i64 mh, .int .i64 mr, .int .i64 ms, .string mi, .bool false, .slice a o.length cap] 29)).heap.size = w.heap.size + 1 from by simp] at hnew
    exact (hnew.alloc _)
  have HR0 : Hid (Blk W0 (w.heap.size + 2) [.int .i64 0, .int .i64 0, .int .i64 0, .int .i64 0, .string ⟨#[]⟩, .int .i64 0, .int .i64 0, .int .i64 0, .string ⟨#[]⟩, .bool false, .slice none 0 0] 29) := by
    rw [← hW0]
    have hnew := blk_new ((w.alloc (.cells #[.int .i64 yv, .int .i64 dh, .int .i64 dr, .int .i64 ds, .string di, .int .i64 mh, .int .i64 mr, .int .i64 ms, .string mi, .bool false, .slice a o.length cap] 29)).alloc (.cells #[.int .i64 yh, .int .i64 yr, .int .i64 ys, .string yi, .int .i64 yv] 31)) [.int .i64 0, .int .i64 0, .int .i64 0, .int .i64 0, .string ⟨#[]⟩, .int .i64 0, .int .i64 0, .int .i64 0, .string ⟨#[]⟩, .bool false, .slice none 0 0] 29
    rw [show ((w.alloc (.cells #[.int .i64 yv, .int .i64 dh, .int .i64 dr, .int .i64 ds, .string di, .int .i64 mh, .int .i64 mr, .int .i64 ms, .string mi, .bool false, .slice a o.length cap] 29)).alloc (.cells #[.int .i64 yh, .int .i64 yr, .int .i64 ys, .string yi, .int .i64 yv] 31)).heap.size = w.heap.size + 2 from by simp] at hnew
    exact hnew
  have HB0 : Hid (Below w.heap.size w W0) := by rw [← hW0]; exact (((Below.refl w.heap.size w).alloc (Nat.le_refl _) _).alloc (by simp; try omega) _).alloc (by simp; try omega) _
  go_enter Try.func14, Try.ntmps14
  have cX_0_0 := HX0.out.cell 0 rfl
  have cX_1_0 := HX0.out.cell 1 rfl
  have cX_2_0 := HX0.out.cell 2 rfl
  have cX_3_0 := HX0.out.cell 3 rfl
  have cX_4_0 := HX0.out.cell 4 rfl
  have cX_5_0 := HX0.out.cell 5 rfl
  have cX_6_0 := HX0.out.cell 6 rfl
  have cX_7_0 := HX0.out.cell 7 rfl
  have cX_8_0 := HX0.out.cell 8 rfl
  have cX_9_0 := HX0.out.cell 9 rfl
  have cX_10_0 := HX0.out.cell 10 rfl
  go_wp2_with fail
  clear hW0 cX_0_0 cX_1_0 cX_2_0 cX_3_0 cX_4_0 cX_5_0 cX_6_0 cX_7_0 cX_8_0 cX_9_0 cX_10_0
  refine (kS _ (HY.out.below HB0.out)).mono ?_
  rintro e w1 ⟨rfl, bb⟩
  have HX1 : Hid (Blk w1 w.heap.size [.int .i64 yv, .int .i64 dh, .int .i64 dr, .int .i64 ds, .string di, .int .i64 mh, .int .i64 mr, .int .i64 ms, .string mi, .bool false, .slice a o.length cap] 29) := HX0.out.below bb HX0.out.lt
  have HV1 : Hid (Blk w1 (w.heap.size + 1) [.int .i64 yh, .int .i64 yr, .int .i64 ys, .string yi, .int .i64 yv] 31) := HV0.out.below bb HV0.out.lt
  have HR1 : Hid (Blk w1 (w.heap.size + 2) [.int .i64 0, .int .i64 0, .int .i64 0, .int .i64 0, .string ⟨#[]⟩, .int .i64 0, .int .i64 0, .int .i64 0, .string ⟨#[]⟩, .bool false, .slice none 0 0] 29) := HR0.out.below bb HR0.out.lt
  have HB1 : Hid (Below w.heap.size w w1) := HB0.out.trans (bb.mono HB0.out.size)
  clear HX0 HV0 HR0 HB0
  clear bb
  clear kS
  have cX_0_1 := HX1.out.cell 0 rfl
  have cX_1_1 := HX1.out.cell 1 rfl
  have cX_2_1 := HX1.out.cell 2 rfl
  have cX_3_1 := HX1.out.cell 3 rfl
  have cX_4_1 := HX1.out.cell 4 rfl
  have cX_5_1 := HX1.out.cell 5 rfl
  have cX_6_1 := HX1.out.cell 6 rfl
  have cX_7_1 := HX1.out.cell 7 rfl
  have cX_8_1 := HX1.out.cell 8 rfl
  have cX_9_1 := HX1.out.cell 9 rfl
  have cX_10_1 := HX1.out.cell 10 rfl
  have cV_0_1 := HV1.out.cell 0 rfl
  have cV_1_1 := HV1.out.cell 1 rfl
  have cV_2_1 := HV1.out.cell 2 rfl
  have cV_3_1 := HV1.out.cell 3 rfl
  have cV_4_1 := HV1.out.cell 4 rfl
  go_wp2_with fail
  clear cX_0_1 cX_1_1 cX_2_1 cX_3_1 cX_4_1 cX_5_1 cX_6_1 cX_7_1 cX_8_1 cX_9_1 cX_10_1 cV_0_1 cV_1_1 cV_2_1 cV_3_1 cV_4_1
  refine (kM _).mono ?_
  rintro e w2 ⟨rfl, bb⟩
  have HX2 : Hid (Blk w2 w.heap.size [.int .i64 yv, .int .i64 dh, .int .i64 dr, .int .i64 ds, .string di, .int .i64 mh, .int .i64 mr, .int .i64 ms, .string mi, .bool false, .slice a o.length cap] 29) := HX1.out.below bb HX1.out.lt
  have HV2 : Hid (Blk w2 (w.heap.size + 1) [.int .i64 yh, .int .i64 yr, .int .i64 ys, .string yi, .int .i64 yv] 31) := HV1.out.below bb HV1.out.lt
  have HR2 : Hid (Blk w2 (w.heap.size + 2) [.int .i64 0, .int .i64 0, .int .i64 0, .int .i64 0, .string ⟨#[]⟩, .int .i64 0, .int .i64 0, .int .i64 0, .string ⟨#[]⟩, .bool false, .slice none 0 0] 29) := HR1.out.below bb HR1.out.lt
  have HB2 : Hid (Below w.heap.size w w2) := HB1.out.trans (bb.mono HB1.out.size)
  clear HX1 HV1 HR1 HB1
  clear bb
  clear kM
  have cX_0_2 := HX2.out.cell 0 rfl
  have cX_1_2 := HX2.out.cell 1 rfl
  have cX_2_2 := HX2.out.cell 2 rfl
  have cX_3_2 := HX2.out.cell 3 rfl
  have cX_4_2 := HX2.out.cell 4 rfl
  have cX_5_2 := HX2.out.cell 5 rfl
  have cX_6_2 := HX2.out.cell 6 rfl
  have cX_7_2 := HX2.out.cell 7 rfl
  have cX_8_2 := HX2.out.cell 8 rfl
  have cX_9_2 := HX2.out.cell 9 rfl
  have cX_10_2 := HX2.out.cell 10 rfl
  have cV_0_2 := HV2.out.cell 0 rfl
  have cV_1_2 := HV2.out.cell 1 rfl
  have cV_2_2 := HV2.out.cell 2 rfl
  have cV_3_2 := HV2.out.cell 3 rfl
  have cV_4_2 := HV2.out.cell 4 rfl
  go_wp2_with fail
  clear cX_0_2 cX_1_2 cX_2_2 cX_3_2 cX_4_2 cX_5_2 cX_6_2 cX_7_2 cX_8_2 cX_9_2 cX_10_2 cV_0_2 cV_1_2 cV_2_2 cV_3_2 cV_4_2
  refine (kF _).mono ?_
  rintro e w3 ⟨rfl, bb⟩
  have HX3 : Hid (Blk w3 w.heap.size [.int .i64 yv, .int .i64 dh, .int .i64 dr, .int .i64 ds, .string di, .int .i64 mh, .int .i64 mr, .int .i64 ms, .string mi, .bool false, .slice a o.length cap] 29) := HX2.out.below bb HX2.out.lt
  have HV3 : Hid (Blk w3 (w.heap.size + 1) [.int .i64 yh, .int .i64 yr, .int .i64 ys, .string yi, .int .i64 yv] 31) := HV2.out.below bb HV2.out.lt
  have HR3 : Hid (Blk w3 (w.heap.size + 2) [.int .i64 0, .int .i64 0, .int .i64 0, .int .i64 0, .string ⟨#[]⟩, .int .i64 0, .int .i64 0, .int .i64 0, .string ⟨#[]⟩, .bool false, .slice none 0 0] 29) := HR2.out.below bb HR2.out.lt
  have HB3 : Hid (Below w.heap.size w w3) := HB2.out.trans (bb.mono HB2.out.size)
  clear HX2 HV2 HR2 HB2
  clear bb
  clear kF
  have cX_0_3 := HX3.out.cell 0 rfl
  have cX_1_3 := HX3.out.cell 1 rfl
  have cX_2_3 := HX3.out.cell 2 rfl
  have cX_3_3 := HX3.out.cell 3 rfl
  have cX_4_3 := HX3.out.cell 4 rfl
  have cX_5_3 := HX3.out.cell 5 rfl
  have cX_6_3 := HX3.out.cell 6 rfl
  have cX_7_3 := HX3.out.cell 7 rfl
  have cX_8_3 := HX3.out.cell 8 rfl
  have cX_9_3 := HX3.out.cell 9 rfl
  have cX_10_3 := HX3.out.cell 10 rfl
  have cV_0_3 := HV3.out.cell 0 rfl
  have cV_1_3 := HV3.out.cell 1 rfl
  have cV_2_3 := HV3.out.cell 2 rfl
  have cV_3_3 := HV3.out.cell 3 rfl
  have cV_4_3 := HV3.out.cell 4 rfl
  go_wp2_with fail
  clear cX_0_3 cX_1_3 cX_2_3 cX_3_3 cX_4_3 cX_5_3 cX_6_3 cX_7_3 cX_8_3 cX_9_3 cX_10_3 cV_0_3 cV_1_3 cV_2_3 cV_3_3 cV_4_3
  refine (kA _ (HY.out.below HB3.out)).mono ?_
  rintro e w4 ⟨qa, qc, rfl, HQ, bb⟩
  obtain ⟨NB, hNB⟩ : ∃ n, w3.heap.size = n := ⟨_, rfl⟩
  have hlt1 : w.heap.size + 2 < NB := by rw [← hNB]; exact HR3.out.lt
  have HQ0 : Hid (OwnY w4 NB (.slice qa o.length qc) o) := by rw [← hNB]; exact HQ.out
  have HX4 : Hid (Blk w4 w.heap.size [.int .i64 yv, .int .i64 dh, .int .i64 dr, .int .i64 ds, .string di, .int .i64 mh, .int .i64 mr, .int .i64 ms, .string mi, .bool false, .slice a o.length cap] 29) := HX3.out.below bb HX3.out.lt
  have HV4 : Hid (Blk w4 (w.heap.size + 1) [.int .i64 yh, .int .i64 yr, .int .i64 ys, .string yi, .int .i64 yv] 31) := HV3.out.below bb HV3.out.lt
  have HR4 : Hid (Blk w4 (w.heap.size + 2) [.int .i64 0, .int .i64 0, .int .i64 0, .int .i64 0, .string ⟨#[]⟩, .int .i64 0, .int .i64 0, .int .i64 0, .string ⟨#[]⟩, .bool false, .slice none 0 0] 29) := HR3.out.below bb HR3.out.lt
  have HB4 : Hid (Below w.heap.size w w4) := HB3.out.trans (bb.mono HB3.out.size)
  clear HX3 HV3 HR3 HB3
  clear bb kA HY HQ hNB
  have cR_0_4 := HR4.out.cell 0 rfl
  have cR_1_4 := HR4.out.cell 1 rfl
  have cR_2_4 := HR4.out.cell 2 rfl
  have cR_3_4 := HR4.out.cell 3 rfl
  have cR_4_4 := HR4.out.cell 4 rfl
  have cR_5_4 := HR4.out.cell 5 rfl
  have cR_6_4 := HR4.out.cell 6 rfl
  have cR_7_4 := HR4.out.cell 7 rfl
  have cR_8_4 := HR4.out.cell 8 rfl
  have cR_9_4 := HR4.out.cell 9 rfl
  have cR_10_4 := HR4.out.cell 10 rfl
  have zR_4 := fun j => HR4.out.frozen j
  have KX := (((((((((((HX4.out.other 0 (.int .i64 yv) (show w.heap.size ≠ (w.heap.size + 2) by omega)).other 1 (.int .i64 dh) (show w.heap.size ≠ (w.heap.size + 2) by omega)).other 2 (.int .i64 dr) (show w.heap.size ≠ (w.heap.size + 2) by omega)).other 3 (.int .i64 ds) (show w.heap.size ≠ (w.heap.size + 2) by omega)).other 4 (.string di) (show w.heap.size ≠ (w.heap.size + 2) by omega)).other 5 (.int .i64 mh) (show w.heap.size ≠ (w.heap.size + 2) by omega)).other 6 (.int .i64 mr) (show w.heap.size ≠ (w.heap.size + 2) by omega)).other 7 (.int .i64 ms) (show w.heap.size ≠ (w.heap.size + 2) by omega)).other 8 (.string mi) (show w.heap.size ≠ (w.heap.size + 2) by omega)).other 9 (.bool false) (show w.heap.size ≠ (w.heap.size + 2) by omega)).other 10 (.slice qa o.length qc) (show w.heap.size ≠ (w.heap.size + 2) by omega))
  have KV := (((((((((((HV4.out.other 0 (.int .i64 yv) (show (w.heap.size + 1) ≠ (w.heap.size + 2) by omega)).other 1 (.int .i64 dh) (show (w.heap.size + 1) ≠ (w.heap.size + 2) by omega)).other 2 (.int .i64 dr) (show (w.heap.size + 1) ≠ (w.heap.size + 2) by omega)).other 3 (.int .i64 ds) (show (w.heap.size + 1) ≠ (w.heap.size + 2) by omega)).other 4 (.string di) (show (w.heap.size + 1) ≠ (w.heap.size + 2) by omega)).other 5 (.int .i64 mh) (show (w.heap.size + 1) ≠ (w.heap.size + 2) by omega)).other 6 (.int .i64 mr) (show (w.heap.size + 1) ≠ (w.heap.size + 2) by omega)).other 7 (.int .i64 ms) (show (w.heap.size + 1) ≠ (w.heap.size + 2) by omega)).other 8 (.string mi) (show (w.heap.size + 1) ≠ (w.heap.size + 2) by omega)).other 9 (.bool false) (show (w.heap.size + 1) ≠ (w.heap.size + 2) by omega)).other 10 (.slice qa o.length qc) (show (w.heap.size + 1) ≠ (w.heap.size + 2) by omega))
  have KR := (((((((((((HR4.out.set 0 (.int .i64 yv)).set 1 (.int .i64 dh)).set 2 (.int .i64 dr)).set 3 (.int .i64 ds)).set 4 (.string di)).set 5 (.int .i64 mh)).set 6 (.int .i64 mr)).set 7 (.int .i64 ms)).set 8 (.string mi)).set 9 (.bool false)).set 10 (.slice qa o.length qc))
  have KB := (((((((((((HB4.out.setCell (p := ⟨(w.heap.size + 2), 0, none⟩) (show w.heap.size ≤ (w.heap.size + 2) by omega) (.int .i64 yv)).setCell (p := ⟨(w.heap.size + 2), 1, none⟩) (show w.heap.size ≤ (w.heap.size + 2) by omega) (.int .i64 dh)).setCell (p := ⟨(w.heap.size + 2), 2, none⟩) (show w.heap.size ≤ (w.heap.size + 2) by omega) (.int .i64 dr)).setCell (p := ⟨(w.heap.size + 2), 3, none⟩) (show w.heap.size ≤ (w.heap.size + 2) by omega) (.int .i64 ds)).setCell (p := ⟨(w.heap.size + 2), 4, none⟩) (show w.heap.size ≤ (w.heap.size + 2) by omega) (.string di)).setCell (p := ⟨(w.heap.size + 2), 5, none⟩) (show w.heap.size ≤ (w.heap.size + 2) by omega) (.int .i64 mh)).setCell (p := ⟨(w.heap.size + 2), 6, none⟩) (show w.heap.size ≤ (w.heap.size + 2) by omega) (.int .i64 mr)).setCell (p := ⟨(w.heap.size + 2), 7, none⟩) (show w.heap.size ≤ (w.heap.size + 2) by omega) (.int .i64 ms)).setCell (p := ⟨(w.heap.size + 2), 8, none⟩) (show w.heap.size ≤ (w.heap.size + 2) by omega) (.string mi)).setCell (p := ⟨(w.heap.size + 2), 9, none⟩) (show w.heap.size ≤ (w.heap.size + 2) by omega) (.bool false)).setCell (p := ⟨(w.heap.size + 2), 10, none⟩) (show w.heap.size ≤ (w.heap.size + 2) by omega) (.slice qa o.length qc))
  have KG : Hid (w4.grownBy (((((((((((w4.setCell ⟨(w.heap.size + 2), 0, none⟩ (.int .i64 yv)).setCell ⟨(w.heap.size + 2), 1, none⟩ (.int .i64 dh)).setCell ⟨(w.heap.size + 2), 2, none⟩ (.int .i64 dr)).setCell ⟨(w.heap.size + 2), 3, none⟩ (.int .i64 ds)).setCell ⟨(w.heap.size + 2), 4, none⟩ (.string di)).setCell ⟨(w.heap.size + 2), 5, none⟩ (.int .i64 mh)).setCell ⟨(w.heap.size + 2), 6, none⟩ (.int .i64 mr)).setCell ⟨(w.heap.size + 2), 7, none⟩ (.int .i64 ms)).setCell ⟨(w.heap.size + 2), 8, none⟩ (.string mi)).setCell ⟨(w.heap.size + 2), 9, none⟩ (.bool false)).setCell ⟨(w.heap.size + 2), 10, none⟩ (.slice qa o.length qc)) (some (w.heap.size + 2))) := grown_set (grown_set (grown_set (grown_set (grown_set (grown_set (grown_set (grown_set (grown_set (grown_set (grown_set (grown_refl _ _) _) _) _) _) _) _) _) _) _) _) _
  have KQ : Hid (OwnY (((((((((((w4.setCell ⟨(w.heap.size + 2), 0, none⟩ (.int .i64 yv)).setCell ⟨(w.heap.size + 2), 1, none⟩ (.int .i64 dh)).setCell ⟨(w.heap.size + 2), 2, none⟩ (.int .i64 dr)).setCell ⟨(w.heap.size + 2), 3, none⟩ (.int .i64 ds)).setCell ⟨(w.heap.size + 2), 4, none⟩ (.string di)).setCell ⟨(w.heap.size + 2), 5, none⟩ (.int .i64 mh)).setCell ⟨(w.heap.size + 2), 6, none⟩ (.int .i64 mr)).setCell ⟨(w.heap.size + 2), 7, none⟩ (.int .i64 ms)).setCell ⟨(w.heap.size + 2), 8, none⟩ (.string mi)).setCell ⟨(w.heap.size + 2), 9, none⟩ (.bool false)).setCell ⟨(w.heap.size + 2), 10, none⟩ (.slice qa o.length qc)) NB (.slice qa o.length qc) o) := own_still HQ0.out KG.out (fun j e => by injection e with e; omega)
  go_wp2_with fail
  clear cR_0_4 cR_1_4 cR_2_4 cR_3_4 cR_4_4 cR_5_4 cR_6_4 cR_7_4 cR_8_4 cR_9_4 cR_10_4 zR_4
  generalize ((((((((((((w4.setCell _ _).setCell _ _).setCell _ _).setCell _ _).setCell _ _).setCell _ _).setCell _ _).setCell _ _).setCell _ _).setCell _ _).setCell _ _) : World) = w5 at *
  have HX5 : Hid (Blk w5 w.heap.size [.int .i64 yv, .int .i64 dh, .int .i64 dr, .int .i64 ds, .string di, .int .i64 mh, .int .i64 mr, .int .i64 ms, .string mi, .bool false, .slice a o.length cap] 29) := KX
  have HV5 : Hid (Blk w5 (w.heap.size + 1) [.int .i64 yh, .int .i64 yr, .int .i64 ys, .string yi, .int .i64 yv] 31) := KV
  have HR5 : Hid (Blk w5 (w.heap.size + 2) [.int .i64 yv, .int .i64 dh, .int .i64 dr, .int .i64 ds, .string di, .int .i64 mh, .int .i64 mr, .int .i64 ms, .string mi, .bool false, .slice qa o.length qc] 29) := KR
  have HQ5 : Hid (OwnY w5 NB (.slice qa o.length qc) o) := KQ
  have HB5 : Hid (Below w.heap.size w w5) := KB
  clear KX KV KR KB KG KQ HX4 HV4 HR4 HB4 HQ0
  have y0 := HR5.out.cell 0 rfl
  have y1 := HR5.out.cell 1 rfl
  have y2 := HR5.out.cell 2 rfl
  have y3 := HR5.out.cell 3 rfl
  have y4 := HR5.out.cell 4 rfl
  have y5 := HR5.out.cell 5 rfl
  have y6 := HR5.out.cell 6 rfl
  have y7 := HR5.out.cell 7 rfl
  have y8 := HR5.out.cell 8 rfl
  have y9 := HR5.out.cell 9 rfl
  have y10 := HR5.out.cell 10 rfl
  refine bodyPost_ret (v := .tuple #[.agg #[.int .i64 yv, .int .i64 dh, .int .i64 dr, .int .i64 ds, .string di, .int .i64 mh, .int .i64 mr, .int .i64 ms, .string mi, .bool false, .slice qa o.length qc], .int .i64 c]) (by simp [results, Try.results14, go_sem, y0, y1, y2, y3, y4, y5, y6, y7, y8, y9, y10]) rfl ⟨_, _, rfl, own_less HQ5.out (by omega), HB5.out⟩
theorem impl_ask (x : Sg) (y : Vt) (a : Option Addr) (cap : Nat) (w : World) (hl : YO w a x.o) (hz : a = none → cap = 0) (hfit : x.o.length ≤ cap ∧ cap ≤ 9223372036854775807) (h60 : x.o.length < 60) :
    Calls Try.prog 14 #[sV x a cap, tV y] w fun e w' => ∃ qa qc, e = .returned (.tuple #[sQ (askS x y).1 (.slice qa (askS x y).1.o.length qc), .int .i64 (askS x y).2]) ∧ Hid (OwnY w' w.heap.size (.slice qa (askS x y).1.o.length qc) (askS x y).1.o) ∧ Below w.heap.size w w' := by
  cases hs : sOk x
  · rw [askS_no hs]; exact iask_no x y a cap w hl hz hfit hs
  · cases hp : x.p
    · by_cases hv : y.v = x.v
      · by_cases hm : mayS x.m y = 0
        · rw [askS_ok hs hp hv h60 hm]; exact iask_ok x y a cap w hl hz hfit hs hp hv h60 hm
        · by_cases h1 : mayS x.m y = 1
          · rw [askS_same hs hp hv h60 h1]; exact iask_same x y a cap w hl hz hfit hs hp hv h60 h1
          · rw [askS_rest hs hp hv h60 hm h1]; exact iask_rest x y a cap w hl hz hfit hs hp hv h60 hm h1
      · rw [askS_other hs hv]; exact iask_other x y a cap w hl hz hfit hs hp hv
    · rw [askS_pend hs hp]; exact iask_pend x y a cap w hl hz hfit hs hp
end Go.Proofs.Ytmjlpdmdpagggaa
