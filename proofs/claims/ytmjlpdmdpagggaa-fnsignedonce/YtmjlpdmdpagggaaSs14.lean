/- What spec.SignSync and spec.SignFall answer, in a row of its own; old memory stays. Conditions: a row that a machine can hold. -/
import Derived.Test.YtmjlpdmdpagggaaCs
import Derived.Test.YtmjlpdmdpagggaaSo
namespace Go.Proofs.Ytmjlpdmdpagggaa
open Go.RowKit
open Num
set_option linter.unusedVariables false
theorem own_apart {w : World} {B b : Nat} {v : Value} {l : List Vt} {cs : List Value} (h : OwnY w B v l) (hb : Blk w b cs 29) : v.ownBlock ≠ some b := by
  intro e
  rcases h.2 with ⟨rfl, _⟩ | ⟨g, cap, cur, rfl, _, hg, _⟩
  · cases e
  · injection e with e
    have e' : g = b := e
    subst e'
    unfold Blk at hb
    rw [hb] at hg
    injection hg with hg
    injection hg with _ hg _
    exact absurd hg (by decide)
theorem own_aside {W W' : World} {B b : Nat} {v : Value} {l : List Vt} {cs : List Value} (h : OwnY W B v l) (hg : W.grownBy W' (some b)) (hb : Blk W b cs 29) : OwnY W' B v l :=
  World.ownsRow.kept (show W.ownsRow B 31 5 v l.length (ycs l) from h) hg (.inr (own_apart h hb))
theorem yo_one {w : World} {n : Nat} {y : Vt} (h : Blk w n [.int .i64 y.h, .int .i64 y.r, .int .i64 y.s, .string y.i, .int .i64 y.v] 31) : YO w (some ⟨n, 0, none⟩) [y] := by
  refine .inr ⟨n, 0, rfl, fun j hj c hc => ?_⟩
  have hj0 : j = 0 := by simp at hj; omega
  subst hj0
  rcases (show c = 0 ∨ c = 1 ∨ c = 2 ∨ c = 3 ∨ c = 4 by omega) with rfl | rfl | rfl | rfl | rfl <;> exact h.cell _ rfl
set_option maxHeartbeats 12800000 in
set_option maxRecDepth 100000 in
theorem ssync_no (x : Sg) (a : Option Addr) (cap : Nat) (w : World) (hl : YO w a x.o) (hz : a = none → cap = 0) (hlen : x.o.length ≤ 9223372036854775807) (hs : sOk x = false) :
    Calls Try.prog 35 #[sV x a cap] w fun e w' => ∃ qa qc, e = .returned (.tuple #[sQ zSg (.slice qa 0 qc), .bool false]) ∧ Hid (OwnY w' w.heap.size (.slice qa ([] : List Vt).length qc) ([] : List Vt)) ∧ Below w.heap.size w w' := by
  have HY : Hid (YO w a x.o) := hl
  have kS := fun W (h : YO W a x.o) => spec_sok x a cap W h (by omega)
  simp only [hs] at kS
  obtain ⟨v, ⟨dh, dr, ds, di⟩, ⟨mh, mr, ms, mi⟩, p, o⟩ := x
  unfold sV sQ at *
  simp only at *
  clear hl hs
  obtain ⟨W0, hW0⟩ : ∃ W, (w.alloc (.cells #[.int .i64 v, .int .i64 dh, .int .i64 dr, .int .i64 ds, .string di, .int .i64 mh, .int .i64 mr, .int .i64 ms, .string mi, .bool p, .slice a o.length cap] 29)).alloc (.cells #[.int .i64 0, .int .i64 0, .int .i64 0, .int .i64 0, .string ⟨#[]⟩, .int .i64 0, .int .i64 0, .int .i64 0, .string ⟨#[]⟩, .bool false, .slice none 0 0] 29) = W := ⟨_, rfl⟩
  have HX0 : Hid (Blk W0 w.heap.size [.int .i64 v, .int .i64 dh, .int .i64 dr, .int .i64 ds, .string di, .int .i64 mh, .int .i64 mr, .int .i64 ms, .string mi, .bool p, .slice a o.length cap] 29) := by
    rw [← hW0]
    have hnew := blk_new (w) [.int .i64 v, .int .i64 dh, .int .i64 dr, .int .i64 ds, .string di, .int .i64 mh, .int .i64 mr, .int .i64 ms, .string mi, .bool p, .slice a o.length cap] 29
    exact (hnew.alloc _)
  have HR0 : Hid (Blk W0 (w.heap.size + 1) [.int .i64 0, .int .i64 0, .int .i64 0, .int .i64 0, .string ⟨#[]⟩, .int .i64 0, .int .i64 0, .int .i64 0, .string ⟨#[]⟩, .bool false, .slice none 0 0] 29) := by
    rw [← hW0]
    have hnew := blk_new (w.alloc (.cells #[.int .i64 v, .int .i64 dh, .int .i64 dr, .int .i64 ds, .string di, .int .i64 mh, .int .i64 mr, .int .i64 ms, .string mi, .bool p, .slice a o.length cap] 29)) [.int .i64 0, .int .i64 0, .int .i64 0, .int .i64 0, .string ⟨#[]⟩, .int .i64 0, .int .i64 0, .int .i64 0, .string ⟨#[]⟩, .bool false, .slice none 0 0] 29
    rw [show (w.alloc (.cells #[.int .i64 v, .int .i64 dh, .int .i64 dr, .int .i64 ds, .string di, .int .i64 mh, .int .i64 mr, .int .i64 ms, .string mi, .bool p, .slice a o.length cap] 29)).heap.size = w.heap.size + 1 from by simp] at hnew
    exact hnew
  have HB0 : Hid (Below w.heap.size w W0) := by rw [← hW0]; exact ((Below.refl w.heap.size w).alloc (Nat.le_refl _) _).alloc (by simp; try omega) _
  go_enter Try.func35, Try.ntmps35
  have cX_0_0 := HX0.out.cell 0 rfl
  have cX_1_0 := HX0.out.cell 1 rfl
  have cX_2_0 := HX0.out.cell 2 rfl
  have cX_3_0 := HX0.out.cell 3 rfl
  have cX_4_0 := HX0.out.cell 4 rfl
  have cX_5_0 := HX0.out.cell 5 rfl
  have cX_6_0 := HX0.out.cell 6 rfl
  have cX_7_0 := HX0.out.cell 7 rfl
  have cX_8_0 := HX0.out.cell 8 rfl
  have cX_9_0 := HX0.out.cell 9 rfl
  have cX_10_0 := HX0.out.cell 10 rfl
  go_wp2_with fail
  clear hW0 cX_0_0 cX_1_0 cX_2_0 cX_3_0 cX_4_0 cX_5_0 cX_6_0 cX_7_0 cX_8_0 cX_9_0 cX_10_0
  refine (kS _ (HY.out.below HB0.out)).mono ?_
  rintro e w1 ⟨rfl, bb⟩
  have HX1 : Hid (Blk w1 w.heap.size [.int .i64 v, .int .i64 dh, .int .i64 dr, .int .i64 ds, .string di, .int .i64 mh, .int .i64 mr, .int .i64 ms, .string mi, .bool p, .slice a o.length cap] 29) := HX0.out.below bb HX0.out.lt
  have HR1 : Hid (Blk w1 (w.heap.size + 1) [.int .i64 0, .int .i64 0, .int .i64 0, .int .i64 0, .string ⟨#[]⟩, .int .i64 0, .int .i64 0, .int .i64 0, .string ⟨#[]⟩, .bool false, .slice none 0 0] 29) := HR0.out.below bb HR0.out.lt
  have HB1 : Hid (Below w.heap.size w w1) := HB0.out.trans (bb.mono HB0.out.size)
  clear HX0 HR0 HB0
  clear bb
  clear kS
  have cR_0_1 := HR1.out.cell 0 rfl
  have cR_1_1 := HR1.out.cell 1 rfl
  have cR_2_1 := HR1.out.cell 2 rfl
  have cR_3_1 := HR1.out.cell 3 rfl
  have cR_4_1 := HR1.out.cell 4 rfl
  have cR_5_1 := HR1.out.cell 5 rfl
  have cR_6_1 := HR1.out.cell 6 rfl
  have cR_7_1 := HR1.out.cell 7 rfl
  have cR_8_1 := HR1.out.cell 8 rfl
  have cR_9_1 := HR1.out.cell 9 rfl
  have cR_10_1 := HR1.out.cell 10 rfl
  have zR_1 := fun j => HR1.out.frozen j
  have KX := (((((((((((HX1.out.other 0 (.int .i64 0) (show w.heap.size ≠ (w.heap.size + 1) by omega)).other 1 (.int .i64 0) (show w.heap.size ≠ (w.heap.size + 1) by omega)).other 2 (.int .i64 0) (show w.heap.size ≠ (w.heap.size + 1) by omega)).other 3 (.int .i64 0) (show w.heap.size ≠ (w.heap.size + 1) by omega)).other 4 (.string ⟨#[]⟩) (show w.heap.size ≠ (w.heap.size + 1) by omega)).other 5 (.int .i64 0) (show w.heap.size ≠ (w.heap.size + 1) by omega)).other 6 (.int .i64 0) (show w.heap.size ≠ (w.heap.size + 1) by omega)).other 7 (.int .i64 0) (show w.heap.size ≠ (w.heap.size + 1) by omega)).other 8 (.string ⟨#[]⟩) (show w.heap.size ≠ (w.heap.size + 1) by omega)).other 9 (.bool false) (show w.heap.size ≠ (w.heap.size + 1) by omega)).other 10 (.slice none 0 0) (show w.heap.size ≠ (w.heap.size + 1) by omega))
  have KR := (((((((((((HR1.out.set 0 (.int .i64 0)).set 1 (.int .i64 0)).set 2 (.int .i64 0)).set 3 (.int .i64 0)).set 4 (.string ⟨#[]⟩)).set 5 (.int .i64 0)).set 6 (.int .i64 0)).set 7 (.int .i64 0)).set 8 (.string ⟨#[]⟩)).set 9 (.bool false)).set 10 (.slice none 0 0))
  have KB := (((((((((((HB1.out.setCell (p := ⟨(w.heap.size + 1), 0, none⟩) (show w.heap.size ≤ (w.heap.size + 1) by omega) (.int .i64 0)).setCell (p := ⟨(w.heap.size + 1), 1, none⟩) (show w.heap.size ≤ (w.heap.size + 1) by omega) (.int .i64 0)).setCell (p := ⟨(w.heap.size + 1), 2, none⟩) (show w.heap.size ≤ (w.heap.size + 1) by omega) (.int .i64 0)).setCell (p := ⟨(w.heap.size + 1), 3, none⟩) (show w.heap.size ≤ (w.heap.size + 1) by omega) (.int .i64 0)).setCell (p := ⟨(w.heap.size + 1), 4, none⟩) (show w.heap.size ≤ (w.heap.size + 1) by omega) (.string ⟨#[]⟩)).setCell (p := ⟨(w.heap.size + 1), 5, none⟩) (show w.heap.size ≤ (w.heap.size + 1) by omega) (.int .i64 0)).setCell (p := ⟨(w.heap.size + 1), 6, none⟩) (show w.heap.size ≤ (w.heap.size + 1) by omega) (.int .i64 0)).setCell (p := ⟨(w.heap.size + 1), 7, none⟩) (show w.heap.size ≤ (w.heap.size + 1) by omega) (.int .i64 0)).setCell (p := ⟨(w.heap.size + 1), 8, none⟩) (show w.heap.size ≤ (w.heap.size + 1) by omega) (.string ⟨#[]⟩)).setCell (p := ⟨(w.heap.size + 1), 9, none⟩) (show w.heap.size ≤ (w.heap.size + 1) by omega) (.bool false)).setCell (p := ⟨(w.heap.size + 1), 10, none⟩) (show w.heap.size ≤ (w.heap.size + 1) by omega) (.slice none 0 0))
  go_wp2_with fail
  clear cR_0_1 cR_1_1 cR_2_1 cR_3_1 cR_4_1 cR_5_1 cR_6_1 cR_7_1 cR_8_1 cR_9_1 cR_10_1 zR_1
  generalize ((((((((((((w1.setCell _ _).setCell _ _).setCell _ _).setCell _ _).setCell _ _).setCell _ _).setCell _ _).setCell _ _).setCell _ _).setCell _ _).setCell _ _) : World) = w2 at *
  have HX2 : Hid (Blk w2 w.heap.size [.int .i64 v, .int .i64 dh, .int .i64 dr, .int .i64 ds, .string di, .int .i64 mh, .int .i64 mr, .int .i64 ms, .string mi, .bool p, .slice a o.length cap] 29) := KX
  have HR2 : Hid (Blk w2 (w.heap.size + 1) [.int .i64 0, .int .i64 0, .int .i64 0, .int .i64 0, .string ⟨#[]⟩, .int .i64 0, .int .i64 0, .int .i64 0, .string ⟨#[]⟩, .bool false, .slice none 0 0] 29) := KR
  have HB2 : Hid (Below w.heap.size w w2) := KB
  clear KX KR KB HX1 HR1 HB1
  have y0 := HR2.out.cell 0 rfl
  have y1 := HR2.out.cell 1 rfl
  have y2 := HR2.out.cell 2 rfl
  have y3 := HR2.out.cell 3 rfl
  have y4 := HR2.out.cell 4 rfl
  have y5 := HR2.out.cell 5 rfl
  have y6 := HR2.out.cell 6 rfl
  have y7 := HR2.out.cell 7 rfl
  have y8 := HR2.out.cell 8 rfl
  have y9 := HR2.out.cell 9 rfl
  have y10 := HR2.out.cell 10 rfl
  refine bodyPost_ret (v := .tuple #[.agg #[.int .i64 0, .int .i64 0, .int .i64 0, .int .i64 0, .string ⟨#[]⟩, .int .i64 0, .int .i64 0, .int .i64 0, .string ⟨#[]⟩, .bool false, .slice none 0 0], .bool false]) (by simp [results, Try.results35, go_sem, y0, y1, y2, y3, y4, y5, y6, y7, y8, y9, y10]) rfl ⟨none, 0, rfl, OwnY.nil _ _, HB2.out⟩
set_option maxHeartbeats 12800000 in
set_option maxRecDepth 100000 in
theorem ssync_np (x : Sg) (a : Option Addr) (cap : Nat) (w : World) (hl : YO w a x.o) (hz : a = none → cap = 0) (hlen : x.o.length ≤ 9223372036854775807) (hs : sOk x = true) (hp : x.p = false) :
    Calls Try.prog 35 #[sV x a cap] w fun e w' => ∃ qa qc, e = .returned (.tuple #[sQ x (.slice qa x.o.length qc), .bool false]) ∧ Hid (OwnY w' w.heap.size (.slice qa x.o.length qc) x.o) ∧ Below w.heap.size w w' := by
  have HY : Hid (YO w a x.o) := hl
  have kS := fun W (h : YO W a x.o) => spec_sok x a cap W h (by omega)
  simp only [hs] at kS
  have hlo : x.o.length ≤ 60 := sOk_len hs
  have kC := fun W (h : YO W a x.o) => spec_copy x a cap W h hz (by omega)
  obtain ⟨v, ⟨dh, dr, ds, di⟩, ⟨mh, mr, ms, mi⟩, p, o⟩ := x
  unfold sV sQ at *
  simp only at *
  subst hp
  clear hl hs
  obtain ⟨W0, hW0⟩ : ∃ W, (w.alloc (.cells #[.int .i64 v, .int .i64 dh, .int .i64 dr, .int .i64 ds, .string di, .int .i64 mh, .int .i64 mr, .int .i64 ms, .string mi, .bool false, .slice a o.length cap] 29)).alloc (.cells #[.int .i64 0, .int .i64 0, .int .i64 0, .int .i64 0, .string ⟨#[]⟩, .int .i64 0, .int .i64 0, .int .i64 0, .string ⟨#[]⟩, .bool false, .slice none 0 0] 29) = W := ⟨_, rfl⟩
  have HX0 : Hid (Blk W0 w.heap.size [.int .i64 v, .int .i64 dh, .int .i64 dr, .int .i64 ds, .string di, .int .i64 mh, .int .i64 mr, .int .i64 ms, .string mi, .bool false, .slice a o.length cap] 29) := by
    rw [← hW0]
    have hnew := blk_new (w) [.int .i64 v, .int .i64 dh, .int .i64 dr, .int .i64 ds, .string di, .int .i64 mh, .int .i64 mr, .int .i64 ms, .string mi, .bool false, .slice a o.length cap] 29
    exact (hnew.alloc _)
  have HR0 : Hid (Blk W0 (w.heap.size + 1) [.int .i64 0, .int .i64 0, .int .i64 0, .int .i64 0, .string ⟨#[]⟩, .int .i64 0, .int .i64 0, .int .i64 0, .string ⟨#[]⟩, .bool false, .slice none 0 0] 29) := by
    rw [← hW0]
    have hnew := blk_new (w.alloc (.cells #[.int .i64 v, .int .i64 dh, .int .i64 dr, .int .i64 ds, .string di, .int .i64 mh, .int .i64 mr, .int .i64 ms, .string mi, .bool false, .slice a o.length cap] 29)) [.int .i64 0, .int .i64 0, .int .i64 0, .int .i64 0, .string ⟨#[]⟩, .int .i64 0, .int .i64 0, .int .i64 0, .string ⟨#[]⟩, .bool false, .slice none 0 0] 29
    rw [show (w.alloc (.cells #[.int .i64 v, .int .i64 dh, .int .i64 dr, .int .i64 ds, .string di, .int .i64 mh, .int .i64 mr, .int .i64 ms, .string mi, .bool false, .slice a o.length cap] 29)).heap.size = w.heap.size + 1 from by simp] at hnew
    exact hnew
  have HB0 : Hid (Below w.heap.size w W0) := by rw [← hW0]; exact ((Below.refl w.heap.size w).alloc (Nat.le_refl _) _).alloc (by simp; try omega) _
  go_enter Try.func35, Try.ntmps35
  have cX_0_0 := HX0.out.cell 0 rfl
  have cX_1_0 := HX0.out.cell 1 rfl
  have cX_2_0 := HX0.out.cell 2 rfl
  have cX_3_0 := HX0.out.cell 3 rfl
  have cX_4_0 := HX0.out.cell 4 rfl
  have cX_5_0 := HX0.out.cell 5 rfl
  have cX_6_0 := HX0.out.cell 6 rfl
  have cX_7_0 := HX0.out.cell 7 rfl
  have cX_8_0 := HX0.out.cell 8 rfl
  have cX_9_0 := HX0.out.cell 9 rfl
  have cX_10_0 := HX0.out.cell 10 rfl
  go_wp2_with fail
  clear hW0 cX_0_0 cX_1_0 cX_2_0 cX_3_0 cX_4_0 cX_5_0 cX_6_0 cX_7_0 cX_8_0 cX_9_0 cX_10_0
  refine (kS _ (HY.out.below HB0.out)).mono ?_
  rintro e w1 ⟨rfl, bb⟩
  have HX1 : Hid (Blk w1 w.heap.size [.int .i64 v, .int .i64 dh, .int .i64 dr, .int .i64 ds, .string di, .int .i64 mh, .int .i64 mr, .int .i64 ms, .string mi, .bool false, .slice a o.length cap] 29) := HX0.out.below bb HX0.out.lt
  have HR1 : Hid (Blk w1 (w.heap.size + 1) [.int .i64 0, .int .i64 0, .int .i64 0, .int .i64 0, .string ⟨#[]⟩, .int .i64 0, .int .i64 0, .int .i64 0, .string ⟨#[]⟩, .bool false, .slice none 0 0] 29) := HR0.out.below bb HR0.out.lt
  have HB1 : Hid (Below w.heap.size w w1) := HB0.out.trans (bb.mono HB0.out.size)
  clear HX0 HR0 HB0
  clear bb
  clear kS
  have cX_0_1 := HX1.out.cell 0 rfl
  have cX_1_1 := HX1.out.cell 1 rfl
  have cX_2_1 := HX1.out.cell 2 rfl
  have cX_3_1 := HX1.out.cell 3 rfl
  have cX_4_1 := HX1.out.cell 4 rfl
  have cX_5_1 := HX1.out.cell 5 rfl
  have cX_6_1 := HX1.out.cell 6 rfl
  have cX_7_1 := HX1.out.cell 7 rfl
  have cX_8_1 := HX1.out.cell 8 rfl
  have cX_9_1 := HX1.out.cell 9 rfl
  have cX_10_1 := HX1.out.cell 10 rfl
  go_wp2_with fail
  clear cX_0_1 cX_1_1 cX_2_1 cX_3_1 cX_4_1 cX_5_1 cX_6_1 cX_7_1 cX_8_1 cX_9_1 cX_10_1
  refine (kC _ (HY.out.below HB1.out)).mono ?_
  rintro e w2 ⟨q, rfl, HQ, bb⟩
  obtain ⟨qa, qc, rfl⟩ := own_shape HQ.out
  have HQ0 : Hid (OwnY w2 w.heap.size (.slice qa o.length qc) o) := own_less HQ.out HB1.out.size
  have HX2 : Hid (Blk w2 w.heap.size [.int .i64 v, .int .i64 dh, .int .i64 dr, .int .i64 ds, .string di, .int .i64 mh, .int .i64 mr, .int .i64 ms, .string mi, .bool false, .slice a o.length cap] 29) := HX1.out.below bb HX1.out.lt
  have HR2 : Hid (Blk w2 (w.heap.size + 1) [.int .i64 0, .int .i64 0, .int .i64 0, .int .i64 0, .string ⟨#[]⟩, .int .i64 0, .int .i64 0, .int .i64 0, .string ⟨#[]⟩, .bool false, .slice none 0 0] 29) := HR1.out.below bb HR1.out.lt
  have HB2 : Hid (Below w.heap.size w w2) := HB1.out.trans (bb.mono HB1.out.size)
  clear HX1 HR1 HB1
  clear bb kC HQ HY
  obtain ⟨wa3, hwa3⟩ : ∃ W, w2.alloc (.cells #[.int .i64 0, .int .i64 0, .int .i64 0, .int .i64 0, .string ⟨#[]⟩, .int .i64 0, .int .i64 0, .int .i64 0, .string ⟨#[]⟩, .bool false, .slice none 0 0] 29) = W := ⟨_, rfl⟩
  obtain ⟨nY, hnY⟩ : ∃ n, w2.heap.size = n := ⟨_, rfl⟩
  have hnYX : w.heap.size < nY := by rw [← hnY]; exact HX2.out.lt
  have hnYR : (w.heap.size + 1) < nY := by rw [← hnY]; exact HR2.out.lt
  have HAnY : Hid (Below w2.heap.size w2 wa3) := by rw [← hwa3]; exact below_one _ _
  have HX3 : Hid (Blk wa3 w.heap.size [.int .i64 v, .int .i64 dh, .int .i64 dr, .int .i64 ds, .string di, .int .i64 mh, .int .i64 mr, .int .i64 ms, .string mi, .bool false, .slice a o.length cap] 29) := HX2.out.below HAnY.out HX2.out.lt
  have HR3 : Hid (Blk wa3 (w.heap.size + 1) [.int .i64 0, .int .i64 0, .int .i64 0, .int .i64 0, .string ⟨#[]⟩, .int .i64 0, .int .i64 0, .int .i64 0, .string ⟨#[]⟩, .bool false, .slice none 0 0] 29) := HR2.out.below HAnY.out HR2.out.lt
  have HQ3 : Hid (OwnY wa3 w.heap.size (.slice qa o.length qc) o) := own_keep HQ0.out HAnY.out
  have HB3 : Hid (Below w.heap.size w wa3) := HB2.out.trans (HAnY.out.mono HB2.out.size)
  have HY3 : Hid (Blk wa3 nY [.int .i64 0, .int .i64 0, .int .i64 0, .int .i64 0, .string ⟨#[]⟩, .int .i64 0, .int .i64 0, .int .i64 0, .string ⟨#[]⟩, .bool false, .slice none 0 0] 29) := by rw [← hwa3, ← hnY]; exact blk_new _ _ _
  clear HAnY HX2 HR2 HB2 HQ0
  have cX_0_3 := HX3.out.cell 0 rfl
  have cX_1_3 := HX3.out.cell 1 rfl
  have cX_2_3 := HX3.out.cell 2 rfl
  have cX_3_3 := HX3.out.cell 3 rfl
  have cX_4_3 := HX3.out.cell 4 rfl
  have cX_5_3 := HX3.out.cell 5 rfl
  have cX_6_3 := HX3.out.cell 6 rfl
  have cX_7_3 := HX3.out.cell 7 rfl
  have cX_8_3 := HX3.out.cell 8 rfl
  have cX_9_3 := HX3.out.cell 9 rfl
  have cX_10_3 := HX3.out.cell 10 rfl
  have cY_0_3 := HY3.out.cell 0 rfl
  have cY_1_3 := HY3.out.cell 1 rfl
  have cY_2_3 := HY3.out.cell 2 rfl
  have cY_3_3 := HY3.out.cell 3 rfl
  have cY_4_3 := HY3.out.cell 4 rfl
  have cY_5_3 := HY3.out.cell 5 rfl
  have cY_6_3 := HY3.out.cell 6 rfl
  have cY_7_3 := HY3.out.cell 7 rfl
  have cY_8_3 := HY3.out.cell 8 rfl
  have cY_9_3 := HY3.out.cell 9 rfl
  have cY_10_3 := HY3.out.cell 10 rfl
  have zY_3 := fun j => HY3.out.frozen j
  have KX := (((((((((((HX3.out.other 0 (.int .i64 v) (show w.heap.size ≠ nY by omega)).other 1 (.int .i64 dh) (show w.heap.size ≠ nY by omega)).other 2 (.int .i64 dr) (show w.heap.size ≠ nY by omega)).other 3 (.int .i64 ds) (show w.heap.size ≠ nY by omega)).other 4 (.string di) (show w.heap.size ≠ nY by omega)).other 5 (.int .i64 mh) (show w.heap.size ≠ nY by omega)).other 6 (.int .i64 mr) (show w.heap.size ≠ nY by omega)).other 7 (.int .i64 ms) (show w.heap.size ≠ nY by omega)).other 8 (.string mi) (show w.heap.size ≠ nY by omega)).other 9 (.bool false) (show w.heap.size ≠ nY by omega)).other 10 (.slice qa o.length qc) (show w.heap.size ≠ nY by omega))
  have KR := (((((((((((HR3.out.other 0 (.int .i64 v) (show (w.heap.size + 1) ≠ nY by omega)).other 1 (.int .i64 dh) (show (w.heap.size + 1) ≠ nY by omega)).other 2 (.int .i64 dr) (show (w.heap.size + 1) ≠ nY by omega)).other 3 (.int .i64 ds) (show (w.heap.size + 1) ≠ nY by omega)).other 4 (.string di) (show (w.heap.size + 1) ≠ nY by omega)).other 5 (.int .i64 mh) (show (w.heap.size + 1) ≠ nY by omega)).other 6 (.int .i64 mr) (show (w.heap.size + 1) ≠ nY by omega)).other 7 (.int .i64 ms) (show (w.heap.size + 1) ≠ nY by omega)).other 8 (.string mi) (show (w.heap.size + 1) ≠ nY by omega)).other 9 (.bool false) (show (w.heap.size + 1) ≠ nY by omega)).other 10 (.slice qa o.length qc) (show (w.heap.size + 1) ≠ nY by omega))
  have KY := (((((((((((HY3.out.set 0 (.int .i64 v)).set 1 (.int .i64 dh)).set 2 (.int .i64 dr)).set 3 (.int .i64 ds)).set 4 (.string di)).set 5 (.int .i64 mh)).set 6 (.int .i64 mr)).set 7 (.int .i64 ms)).set 8 (.string mi)).set 9 (.bool false)).set 10 (.slice qa o.length qc))
  have KB := (((((((((((HB3.out.setCell (p := ⟨nY, 0, none⟩) (show w.heap.size ≤ nY by omega) (.int .i64 v)).setCell (p := ⟨nY, 1, none⟩) (show w.heap.size ≤ nY by omega) (.int .i64 dh)).setCell (p := ⟨nY, 2, none⟩) (show w.heap.size ≤ nY by omega) (.int .i64 dr)).setCell (p := ⟨nY, 3, none⟩) (show w.heap.size ≤ nY by omega) (.int .i64 ds)).setCell (p := ⟨nY, 4, none⟩) (show w.heap.size ≤ nY by omega) (.string di)).setCell (p := ⟨nY, 5, none⟩) (show w.heap.size ≤ nY by omega) (.int .i64 mh)).setCell (p := ⟨nY, 6, none⟩) (show w.heap.size ≤ nY by omega) (.int .i64 mr)).setCell (p := ⟨nY, 7, none⟩) (show w.heap.size ≤ nY by omega) (.int .i64 ms)).setCell (p := ⟨nY, 8, none⟩) (show w.heap.size ≤ nY by omega) (.string mi)).setCell (p := ⟨nY, 9, none⟩) (show w.heap.size ≤ nY by omega) (.bool false)).setCell (p := ⟨nY, 10, none⟩) (show w.heap.size ≤ nY by omega) (.slice qa o.length qc))
  have KG : Hid (wa3.grownBy (((((((((((wa3.setCell ⟨nY, 0, none⟩ (.int .i64 v)).setCell ⟨nY, 1, none⟩ (.int .i64 dh)).setCell ⟨nY, 2, none⟩ (.int .i64 dr)).setCell ⟨nY, 3, none⟩ (.int .i64 ds)).setCell ⟨nY, 4, none⟩ (.string di)).setCell ⟨nY, 5, none⟩ (.int .i64 mh)).setCell ⟨nY, 6, none⟩ (.int .i64 mr)).setCell ⟨nY, 7, none⟩ (.int .i64 ms)).setCell ⟨nY, 8, none⟩ (.string mi)).setCell ⟨nY, 9, none⟩ (.bool false)).setCell ⟨nY, 10, none⟩ (.slice qa o.length qc)) (some nY)) := grown_set (grown_set (grown_set (grown_set (grown_set (grown_set (grown_set (grown_set (grown_set (grown_set (grown_set (grown_refl _ _) _) _) _) _) _) _) _) _) _) _) _
  have KQ : Hid (OwnY (((((((((((wa3.setCell ⟨nY, 0, none⟩ (.int .i64 v)).setCell ⟨nY, 1, none⟩ (.int .i64 dh)).setCell ⟨nY, 2, none⟩ (.int .i64 dr)).setCell ⟨nY, 3, none⟩ (.int .i64 ds)).setCell ⟨nY, 4, none⟩ (.string di)).setCell ⟨nY, 5, none⟩ (.int .i64 mh)).setCell ⟨nY, 6, none⟩ (.int .i64 mr)).setCell ⟨nY, 7, none⟩ (.int .i64 ms)).setCell ⟨nY, 8, none⟩ (.string mi)).setCell ⟨nY, 9, none⟩ (.bool false)).setCell ⟨nY, 10, none⟩ (.slice qa o.length qc)) w.heap.size (.slice qa o.length qc) o) := own_aside HQ3.out KG.out HY3.out
  go_upto_region 4 with fail
  clear hwa3 hnY cX_0_3 cX_1_3 cX_2_3 cX_3_3 cX_4_3 cX_5_3 cX_6_3 cX_7_3 cX_8_3 cX_9_3 cX_10_3 cY_0_3 cY_1_3 cY_2_3 cY_3_3 cY_4_3 cY_5_3 cY_6_3 cY_7_3 cY_8_3 cY_9_3 cY_10_3 zY_3
  generalize ((((((((((((wa3.setCell _ _).setCell _ _).setCell _ _).setCell _ _).setCell _ _).setCell _ _).setCell _ _).setCell _ _).setCell _ _).setCell _ _).setCell _ _) : World) = w4 at *
  have HX4 : Hid (Blk w4 w.heap.size [.int .i64 v, .int .i64 dh, .int .i64 dr, .int .i64 ds, .string di, .int .i64 mh, .int .i64 mr, .int .i64 ms, .string mi, .bool false, .slice a o.length cap] 29) := KX
  have HR4 : Hid (Blk w4 (w.heap.size + 1) [.int .i64 0, .int .i64 0, .int .i64 0, .int .i64 0, .string ⟨#[]⟩, .int .i64 0, .int .i64 0, .int .i64 0, .string ⟨#[]⟩, .bool false, .slice none 0 0] 29) := KR
  have HY4 : Hid (Blk w4 nY [.int .i64 v, .int .i64 dh, .int .i64 dr, .int .i64 ds, .string di, .int .i64 mh, .int .i64 mr, .int .i64 ms, .string mi, .bool false, .slice qa o.length qc] 29) := KY
  have HQ4 : Hid (OwnY w4 w.heap.size (.slice qa o.length qc) o) := KQ
  have HB4 : Hid (Below w.heap.size w w4) := KB
  clear KX KR KY KB KG KQ HX3 HR3 HY3 HB3 HQ3
  have cX_0_4 := HX4.out.cell 0 rfl
  have cX_1_4 := HX4.out.cell 1 rfl
  have cX_2_4 := HX4.out.cell 2 rfl
  have cX_3_4 := HX4.out.cell 3 rfl
  have cX_4_4 := HX4.out.cell 4 rfl
  have cX_5_4 := HX4.out.cell 5 rfl
  have cX_6_4 := HX4.out.cell 6 rfl
  have cX_7_4 := HX4.out.cell 7 rfl
  have cX_8_4 := HX4.out.cell 8 rfl
  have cX_9_4 := HX4.out.cell 9 rfl
  have cX_10_4 := HX4.out.cell 10 rfl
  have cR_0_4 := HR4.out.cell 0 rfl
  have cR_1_4 := HR4.out.cell 1 rfl
  have cR_2_4 := HR4.out.cell 2 rfl
  have cR_3_4 := HR4.out.cell 3 rfl
  have cR_4_4 := HR4.out.cell 4 rfl
  have cR_5_4 := HR4.out.cell 5 rfl
  have cR_6_4 := HR4.out.cell 6 rfl
  have cR_7_4 := HR4.out.cell 7 rfl
  have cR_8_4 := HR4.out.cell 8 rfl
  have cR_9_4 := HR4.out.cell 9 rfl
  have cR_10_4 := HR4.out.cell 10 rfl
  have cY_0_4 := HY4.out.cell 0 rfl
  have cY_1_4 := HY4.out.cell 1 rfl
  have cY_2_4 := HY4.out.cell 2 rfl
  have cY_3_4 := HY4.out.cell 3 rfl
  have cY_4_4 := HY4.out.cell 4 rfl
  have cY_5_4 := HY4.out.cell 5 rfl
  have cY_6_4 := HY4.out.cell 6 rfl
  have cY_7_4 := HY4.out.cell 7 rfl
  have cY_8_4 := HY4.out.cell 8 rfl
  have cY_9_4 := HY4.out.cell 9 rfl
  have cY_10_4 := HY4.out.cell 10 rfl
  have zR_4 := fun j => HR4.out.frozen j
  have KX := (((((((((((HX4.out.other 0 (.int .i64 v) (show w.heap.size ≠ (w.heap.size + 1) by omega)).other 1 (.int .i64 dh) (show w.heap.size ≠ (w.heap.size + 1) by omega)).other 2 (.int .i64 dr) (show w.heap.size ≠ (w.heap.size + 1) by omega)).other 3 (.int .i64 ds) (show w.heap.size ≠ (w.heap.size + 1) by omega)).other 4 (.string di) (show w.heap.size ≠ (w.heap.size + 1) by omega)).other 5 (.int .i64 mh) (show w.heap.size ≠ (w.heap.size + 1) by omega)).other 6 (.int .i64 mr) (show w.heap.size ≠ (w.heap.size + 1) by omega)).other 7 (.int .i64 ms) (show w.heap.size ≠ (w.heap.size + 1) by omega)).other 8 (.string mi) (show w.heap.size ≠ (w.heap.size + 1) by omega)).other 9 (.bool false) (show w.heap.size ≠ (w.heap.size + 1) by omega)).other 10 (.slice qa o.length qc) (show w.heap.size ≠ (w.heap.size + 1) by omega))
  have KR := (((((((((((HR4.out.set 0 (.int .i64 v)).set 1 (.int .i64 dh)).set 2 (.int .i64 dr)).set 3 (.int .i64 ds)).set 4 (.string di)).set 5 (.int .i64 mh)).set 6 (.int .i64 mr)).set 7 (.int .i64 ms)).set 8 (.string mi)).set 9 (.bool false)).set 10 (.slice qa o.length qc))
  have KY := (((((((((((HY4.out.other 0 (.int .i64 v) (show nY ≠ (w.heap.size + 1) by omega)).other 1 (.int .i64 dh) (show nY ≠ (w.heap.size + 1) by omega)).other 2 (.int .i64 dr) (show nY ≠ (w.heap.size + 1) by omega)).other 3 (.int .i64 ds) (show nY ≠ (w.heap.size + 1) by omega)).other 4 (.string di) (show nY ≠ (w.heap.size + 1) by omega)).other 5 (.int .i64 mh) (show nY ≠ (w.heap.size + 1) by omega)).other 6 (.int .i64 mr) (show nY ≠ (w.heap.size + 1) by omega)).other 7 (.int .i64 ms) (show nY ≠ (w.heap.size + 1) by omega)).other 8 (.string mi) (show nY ≠ (w.heap.size + 1) by omega)).other 9 (.bool false) (show nY ≠ (w.heap.size + 1) by omega)).other 10 (.slice qa o.length qc) (show nY ≠ (w.heap.size + 1) by omega))
  have KB := (((((((((((HB4.out.setCell (p := ⟨(w.heap.size + 1), 0, none⟩) (show w.heap.size ≤ (w.heap.size + 1) by omega) (.int .i64 v)).setCell (p := ⟨(w.heap.size + 1), 1, none⟩) (show w.heap.size ≤ (w.heap.size + 1) by omega) (.int .i64 dh)).setCell (p := ⟨(w.heap.size + 1), 2, none⟩) (show w.heap.size ≤ (w.heap.size + 1) by omega) (.int .i64 dr)).setCell (p := ⟨(w.heap.size + 1), 3, none⟩) (show w.heap.size ≤ (w.heap.size + 1) by omega) (.int .i64 ds)).setCell (p := ⟨(w.heap.size + 1), 4, none⟩) (show w.heap.size ≤ (w.heap.size + 1) by omega) (.string di)).setCell (p := ⟨(w.heap.size + 1), 5, none⟩) (show w.heap.size ≤ (w.heap.size + 1) by omega) (.int .i64 mh)).setCell (p := ⟨(w.heap.size + 1), 6, none⟩) (show w.heap.size ≤ (w.heap.size + 1) by omega) (.int .i64 mr)).setCell (p := ⟨(w.heap.size + 1), 7, none⟩) (show w.heap.size ≤ (w.heap.size + 1) by omega) (.int .i64 ms)).setCell (p := ⟨(w.heap.size + 1), 8, none⟩) (show w.heap.size ≤ (w.heap.size + 1) by omega) (.string mi)).setCell (p := ⟨(w.heap.size + 1), 9, none⟩) (show w.heap.size ≤ (w.heap.size + 1) by omega) (.bool false)).setCell (p := ⟨(w.heap.size + 1), 10, none⟩) (show w.heap.size ≤ (w.heap.size + 1) by omega) (.slice qa o.length qc))
  have KG : Hid (w4.grownBy (((((((((((w4.setCell ⟨(w.heap.size + 1), 0, none⟩ (.int .i64 v)).setCell ⟨(w.heap.size + 1), 1, none⟩ (.int .i64 dh)).setCell ⟨(w.heap.size + 1), 2, none⟩ (.int .i64 dr)).setCell ⟨(w.heap.size + 1), 3, none⟩ (.int .i64 ds)).setCell ⟨(w.heap.size + 1), 4, none⟩ (.string di)).setCell ⟨(w.heap.size + 1), 5, none⟩ (.int .i64 mh)).setCell ⟨(w.heap.size + 1), 6, none⟩ (.int .i64 mr)).setCell ⟨(w.heap.size + 1), 7, none⟩ (.int .i64 ms)).setCell ⟨(w.heap.size + 1), 8, none⟩ (.string mi)).setCell ⟨(w.heap.size + 1), 9, none⟩ (.bool false)).setCell ⟨(w.heap.size + 1), 10, none⟩ (.slice qa o.length qc)) (some (w.heap.size + 1))) := grown_set (grown_set (grown_set (grown_set (grown_set (grown_set (grown_set (grown_set (grown_set (grown_set (grown_set (grown_refl _ _) _) _) _) _) _) _) _) _) _) _) _
  have KQ : Hid (OwnY (((((((((((w4.setCell ⟨(w.heap.size + 1), 0, none⟩ (.int .i64 v)).setCell ⟨(w.heap.size + 1), 1, none⟩ (.int .i64 dh)).setCell ⟨(w.heap.size + 1), 2, none⟩ (.int .i64 dr)).setCell ⟨(w.heap.size + 1), 3, none⟩ (.int .i64 ds)).setCell ⟨(w.heap.size + 1), 4, none⟩ (.string di)).setCell ⟨(w.heap.size + 1), 5, none⟩ (.int .i64 mh)).setCell ⟨(w.heap.size + 1), 6, none⟩ (.int .i64 mr)).setCell ⟨(w.heap.size + 1), 7, none⟩ (.int .i64 ms)).setCell ⟨(w.heap.size + 1), 8, none⟩ (.string mi)).setCell ⟨(w.heap.size + 1), 9, none⟩ (.bool false)).setCell ⟨(w.heap.size + 1), 10, none⟩ (.slice qa o.length qc)) w.heap.size (.slice qa o.length qc) o) := own_aside HQ4.out KG.out HR4.out
  go_wp2_with fail
  clear cX_0_4 cX_1_4 cX_2_4 cX_3_4 cX_4_4 cX_5_4 cX_6_4 cX_7_4 cX_8_4 cX_9_4 cX_10_4 cR_0_4 cR_1_4 cR_2_4 cR_3_4 cR_4_4 cR_5_4 cR_6_4 cR_7_4 cR_8_4 cR_9_4 cR_10_4 cY_0_4 cY_1_4 cY_2_4 cY_3_4 cY_4_4 cY_5_4 cY_6_4 cY_7_4 cY_8_4 cY_9_4 cY_10_4 zR_4
  generalize ((((((((((((w4.setCell _ _).setCell _ _).setCell _ _).setCell _ _).setCell _ _).setCell _ _).setCell _ _).setCell _ _).setCell _ _).setCell _ _).setCell _ _) : World) = w5 at *
  have HX5 : Hid (Blk w5 w.heap.size [.int .i64 v, .int .i64 dh, .int .i64 dr, .int .i64 ds, .string di, .int .i64 mh, .int .i64 mr, .int .i64 ms, .string mi, .bool false, .slice a o.length cap] 29) := KX
  have HR5 : Hid (Blk w5 (w.heap.size + 1) [.int .i64 v, .int .i64 dh, .int .i64 dr, .int .i64 ds, .string di, .int .i64 mh, .int .i64 mr, .int .i64 ms, .string mi, .bool false, .slice qa o.length qc] 29) := KR
  have HY5 : Hid (Blk w5 nY [.int .i64 v, .int .i64 dh, .int .i64 dr, .int .i64 ds, .string di, .int .i64 mh, .int .i64 mr, .int .i64 ms, .string mi, .bool false, .slice qa o.length qc] 29) := KY
  have HQ5 : Hid (OwnY w5 w.heap.size (.slice qa o.length qc) o) := KQ
  have HB5 : Hid (Below w.heap.size w w5) := KB
  clear KX KR KY KB KG KQ HX4 HR4 HY4 HB4 HQ4
  have y0 := HR5.out.cell 0 rfl
  have y1 := HR5.out.cell 1 rfl
  have y2 := HR5.out.cell 2 rfl
  have y3 := HR5.out.cell 3 rfl
  have y4 := HR5.out.cell 4 rfl
  have y5 := HR5.out.cell 5 rfl
  have y6 := HR5.out.cell 6 rfl
  have y7 := HR5.out.cell 7 rfl
  have y8 := HR5.out.cell 8 rfl
  have y9 := HR5.out.cell 9 rfl
  have y10 := HR5.out.cell 10 rfl
  refine bodyPost_ret (v := .tuple #[.agg #[.int .i64 v, .int .i64 dh, .int .i64 dr, .int .i64 ds, .string di, .int .i64 mh, .int .i64 mr, .int .i64 ms, .string mi, .bool false, .slice qa o.length qc], .bool false]) (by simp [results, Try.results35, go_sem, y0, y1, y2, y3, y4, y5, y6, y7, y8, y9, y10]) rfl ⟨_, _, rfl, HQ5.out, HB5.out⟩
set_option maxHeartbeats 12800000 in
set_option maxRecDepth 100000 in
theorem ssync_full (x : Sg) (a : Option Addr) (cap : Nat) (w : World) (hl : YO w a x.o) (hz : a = none → cap = 0) (hlen : x.o.length ≤ 9223372036854775807) (hs : sOk x = true) (hp : x.p = true) (h60 : ¬ x.o.length < 60) :
    Calls Try.prog 35 #[sV x a cap] w fun e w' => ∃ qa qc, e = .returned (.tuple #[sQ (⟨x.v, x.m, x.m, false, x.o⟩ : Sg) (.slice qa x.o.length qc), .bool true]) ∧ Hid (OwnY w' w.heap.size (.slice qa x.o.length qc) x.o) ∧ Below w.heap.size w w' := by
  have HY : Hid (YO w a x.o) := hl
  have kS := fun W (h : YO W a x.o) => spec_sok x a cap W h (by omega)
  simp only [hs] at kS
  have hlo : x.o.length ≤ 60 := sOk_len hs
  have kC := fun W (h : YO W a x.o) => spec_copy x a cap W h hz (by omega)
  obtain ⟨v, ⟨dh, dr, ds, di⟩, ⟨mh, mr, ms, mi⟩, p, o⟩ := x
  unfold sV sQ at *
  simp only at *
  subst hp
  have hltz : ¬ (o.length : Int) < 60 := by omega
  clear hl hs
  obtain ⟨W0, hW0⟩ : ∃ W, (w.alloc (.cells #[.int .i64 v, .int .i64 dh, .int .i64 dr, .int .i64 ds, .string di, .int .i64 mh, .int .i64 mr, .int .i64 ms, .string mi, .bool true, .slice a o.length cap] 29)).alloc (.cells #[.int .i64 0, .int .i64 0, .int .i64 0, .int .i64 0, .string ⟨#[]⟩, .int .i64 0, .int .i64 0, .int .i64 0, .string ⟨#[]⟩, .bool false, .slice none 0 0] 29) = W := ⟨_, rfl⟩
  have HX0 : Hid (Blk W0 w.heap.size [.int .i64 v, .int .i64 dh, .int .i64 dr, .int .i64 ds, .string di, .int .i64 mh, .int .i64 mr, .int .i64 ms, .string mi, .bool true, .slice a o.length cap] 29) := by
    rw [← hW0]
    have hnew := blk_new (w) [.int .i64 v, .int .i64 dh, .int .i64 dr, .int .i64 ds, .string di, .int .i64 mh, .int .i64 mr, .int .i64 ms, .string mi, .bool true, .slice a o.length cap] 29
    exact (hnew.alloc _)
  have HR0 : Hid (Blk W0 (w.heap.size + 1) [.int .i64 0, .int .i64 0, .int .i64 0, .int .i64 0, .string ⟨#[]⟩, .int .i64 0, .int .i64 0, .int .i64 0, .string ⟨#[]⟩, .bool false, .slice none 0 0] 29) := by
    rw [← hW0]
    have hnew := blk_new (w.alloc (.cells #[.int .i64 v, .int .i64 dh, .int .i64 dr, .int .i64 ds, .string di, .int .i64 mh, .int .i64 mr, .int .i64 ms, .string mi, .bool true, .slice a o.length cap] 29)) [.int .i64 0, .int .i64 0, .int .i64 0, .int .i64 0, .string ⟨#[]⟩, .int .i64 0, .int .i64 0, .int .i64 0, .string ⟨#[]⟩, .bool false, .slice none 0 0] 29
    rw [show (w.alloc (.cells #[.int .i64 v, .int .i64 dh, .int .i64 dr, .int .i64 ds, .string di, .int .i64 mh, .int .i64 mr, .int .i64 ms, .string mi, .bool true, .slice a o.length cap] 29)).heap.size = w.heap.size + 1 from by simp] at hnew
    exact hnew
  have HB0 : Hid (Below w.heap.size w W0) := by rw [← hW0]; exact ((Below.refl w.heap.size w).alloc (Nat.le_refl _) _).alloc (by simp; try omega) _
  go_enter Try.func35, Try.ntmps35
  have cX_0_0 := HX0.out.cell 0 rfl
  have cX_1_0 := HX0.out.cell 1 rfl
  have cX_2_0 := HX0.out.cell 2 rfl
  have cX_3_0 := HX0.out.cell 3 rfl
  have cX_4_0 := HX0.out.cell 4 rfl
  have cX_5_0 := HX0.out.cell 5 rfl
  have cX_6_0 := HX0.out.cell 6 rfl
  have cX_7_0 := HX0.out.cell 7 rfl
  have cX_8_0 := HX0.out.cell 8 rfl
  have cX_9_0 := HX0.out.cell 9 rfl
  have cX_10_0 := HX0.out.cell 10 rfl
  go_wp2_with fail
  clear hW0 cX_0_0 cX_1_0 cX_2_0 cX_3_0 cX_4_0 cX_5_0 cX_6_0 cX_7_0 cX_8_0 cX_9_0 cX_10_0
  refine (kS _ (HY.out.below HB0.out)).mono ?_
  rintro e w1 ⟨rfl, bb⟩
  have HX1 : Hid (Blk w1 w.heap.size [.int .i64 v, .int .i64 dh, .int .i64 dr, .int .i64 ds, .string di, .int .i64 mh, .int .i64 mr, .int .i64 ms, .string mi, .bool true, .slice a o.length cap] 29) := HX0.out.below bb HX0.out.lt
  have HR1 : Hid (Blk w1 (w.heap.size + 1) [.int .i64 0, .int .i64 0, .int .i64 0, .int .i64 0, .string ⟨#[]⟩, .int .i64 0, .int .i64 0, .int .i64 0, .string ⟨#[]⟩, .bool false, .slice none 0 0] 29) := HR0.out.below bb HR0.out.lt
  have HB1 : Hid (Below w.heap.size w w1) := HB0.out.trans (bb.mono HB0.out.size)
  clear HX0 HR0 HB0
  clear bb
  clear kS
  have cX_0_1 := HX1.out.cell 0 rfl
  have cX_1_1 := HX1.out.cell 1 rfl
  have cX_2_1 := HX1.out.cell 2 rfl
  have cX_3_1 := HX1.out.cell 3 rfl
  have cX_4_1 := HX1.out.cell 4 rfl
  have cX_5_1 := HX1.out.cell 5 rfl
  have cX_6_1 := HX1.out.cell 6 rfl
  have cX_7_1 := HX1.out.cell 7 rfl
  have cX_8_1 := HX1.out.cell 8 rfl
  have cX_9_1 := HX1.out.cell 9 rfl
  have cX_10_1 := HX1.out.cell 10 rfl
  go_wp2_with fail
  clear cX_0_1 cX_1_1 cX_2_1 cX_3_1 cX_4_1 cX_5_1 cX_6_1 cX_7_1 cX_8_1 cX_9_1 cX_10_1
  refine (kC _ (HY.out.below HB1.out)).mono ?_
  rintro e w2 ⟨q, rfl, HQ, bb⟩
  obtain ⟨qa, qc, rfl⟩ := own_shape HQ.out
  have HQ0 : Hid (OwnY w2 w.heap.size (.slice qa o.length qc) o) := own_less HQ.out HB1.out.size
  have HX2 : Hid (Blk w2 w.heap.size [.int .i64 v, .int .i64 dh, .int .i64 dr, .int .i64 ds, .string di, .int .i64 mh, .int .i64 mr, .int .i64 ms, .string mi, .bool true, .slice a o.length cap] 29) := HX1.out.below bb HX1.out.lt
  have HR2 : Hid (Blk w2 (w.heap.size + 1) [.int .i64 0, .int .i64 0, .int .i64 0, .int .i64 0, .string ⟨#[]⟩, .int .i64 0, .int .i64 0, .int .i64 0, .string ⟨#[]⟩, .bool false, .slice none 0 0] 29) := HR1.out.below bb HR1.out.lt
  have HB2 : Hid (Below w.heap.size w w2) := HB1.out.trans (bb.mono HB1.out.size)
  clear HX1 HR1 HB1
  clear bb kC HQ HY
  obtain ⟨wa3, hwa3⟩ : ∃ W, w2.alloc (.cells #[.int .i64 0, .int .i64 0, .int .i64 0, .int .i64 0, .string ⟨#[]⟩, .int .i64 0, .int .i64 0, .int .i64 0, .string ⟨#[]⟩, .bool false, .slice none 0 0] 29) = W := ⟨_, rfl⟩
  obtain ⟨nY, hnY⟩ : ∃ n, w2.heap.size = n := ⟨_, rfl⟩
  have hnYX : w.heap.size < nY := by rw [← hnY]; exact HX2.out.lt
  have hnYR : (w.heap.size + 1) < nY := by rw [← hnY]; exact HR2.out.lt
  have HAnY : Hid (Below w2.heap.size w2 wa3) := by rw [← hwa3]; exact below_one _ _
  have HX3 : Hid (Blk wa3 w.heap.size [.int .i64 v, .int .i64 dh, .int .i64 dr, .int .i64 ds, .string di, .int .i64 mh, .int .i64 mr, .int .i64 ms, .string mi, .bool true, .slice a o.length cap] 29) := HX2.out.below HAnY.out HX2.out.lt
  have HR3 : Hid (Blk wa3 (w.heap.size + 1) [.int .i64 0, .int .i64 0, .int .i64 0, .int .i64 0, .string ⟨#[]⟩, .int .i64 0, .int .i64 0, .int .i64 0, .string ⟨#[]⟩, .bool false, .slice none 0 0] 29) := HR2.out.below HAnY.out HR2.out.lt
  have HQ3 : Hid (OwnY wa3 w.heap.size (.slice qa o.length qc) o) := own_keep HQ0.out HAnY.out
  have HB3 : Hid (Below w.heap.size w wa3) := HB2.out.trans (HAnY.out.mono HB2.out.size)
  have HY3 : Hid (Blk wa3 nY [.int .i64 0, .int .i64 0, .int .i64 0, .int .i64 0, .string ⟨#[]⟩, .int .i64 0, .int .i64 0, .int .i64 0, .string ⟨#[]⟩, .bool false, .slice none 0 0] 29) := by rw [← hwa3, ← hnY]; exact blk_new _ _ _
  clear HAnY HX2 HR2 HB2 HQ0
  have cX_0_3 := HX3.out.cell 0 rfl
  have cX_1_3 := HX3.out.cell 1 rfl
  have cX_2_3 := HX3.out.cell 2 rfl
  have cX_3_3 := HX3.out.cell 3 rfl
  have cX_4_3 := HX3.out.cell 4 rfl
  have cX_5_3 := HX3.out.cell 5 rfl
  have cX_6_3 := HX3.out.cell 6 rfl
  have cX_7_3 := HX3.out.cell 7 rfl
  have cX_8_3 := HX3.out.cell 8 rfl
  have cX_9_3 := HX3.out.cell 9 rfl
  have cX_10_3 := HX3.out.cell 10 rfl
  have cY_0_3 := HY3.out.cell 0 rfl
  have cY_1_3 := HY3.out.cell 1 rfl
  have cY_2_3 := HY3.out.cell 2 rfl
  have cY_3_3 := HY3.out.cell 3 rfl
  have cY_4_3 := HY3.out.cell 4 rfl
  have cY_5_3 := HY3.out.cell 5 rfl
  have cY_6_3 := HY3.out.cell 6 rfl
  have cY_7_3 := HY3.out.cell 7 rfl
  have cY_8_3 := HY3.out.cell 8 rfl
  have cY_9_3 := HY3.out.cell 9 rfl
  have cY_10_3 := HY3.out.cell 10 rfl
  have zY_3 := fun j => HY3.out.frozen j
  have KX := (((((((((((HX3.out.other 0 (.int .i64 v) (show w.heap.size ≠ nY by omega)).other 1 (.int .i64 dh) (show w.heap.size ≠ nY by omega)).other 2 (.int .i64 dr) (show w.heap.size ≠ nY by omega)).other 3 (.int .i64 ds) (show w.heap.size ≠ nY by omega)).other 4 (.string di) (show w.heap.size ≠ nY by omega)).other 5 (.int .i64 mh) (show w.heap.size ≠ nY by omega)).other 6 (.int .i64 mr) (show w.heap.size ≠ nY by omega)).other 7 (.int .i64 ms) (show w.heap.size ≠ nY by omega)).other 8 (.string mi) (show w.heap.size ≠ nY by omega)).other 9 (.bool true) (show w.heap.size ≠ nY by omega)).other 10 (.slice qa o.length qc) (show w.heap.size ≠ nY by omega))
  have KR := (((((((((((HR3.out.other 0 (.int .i64 v) (show (w.heap.size + 1) ≠ nY by omega)).other 1 (.int .i64 dh) (show (w.heap.size + 1) ≠ nY by omega)).other 2 (.int .i64 dr) (show (w.heap.size + 1) ≠ nY by omega)).other 3 (.int .i64 ds) (show (w.heap.size + 1) ≠ nY by omega)).other 4 (.string di) (show (w.heap.size + 1) ≠ nY by omega)).other 5 (.int .i64 mh) (show (w.heap.size + 1) ≠ nY by omega)).other 6 (.int .i64 mr) (show (w.heap.size + 1) ≠ nY by omega)).other 7 (.int .i64 ms) (show (w.heap.size + 1) ≠ nY by omega)).other 8 (.string mi) (show (w.heap.size + 1) ≠ nY by omega)).other 9 (.bool true) (show (w.heap.size + 1) ≠ nY by omega)).other 10 (.slice qa o.length qc) (show (w.heap.size + 1) ≠ nY by omega))
  have KY := (((((((((((HY3.out.set 0 (.int .i64 v)).set 1 (.int .i64 dh)).set 2 (.int .i64 dr)).set 3 (.int .i64 ds)).set 4 (.string di)).set 5 (.int .i64 mh)).set 6 (.int .i64 mr)).set 7 (.int .i64 ms)).set 8 (.string mi)).set 9 (.bool true)).set 10 (.slice qa o.length qc))
  have KB := (((((((((((HB3.out.setCell (p := ⟨nY, 0, none⟩) (show w.heap.size ≤ nY by omega) (.int .i64 v)).setCell (p := ⟨nY, 1, none⟩) (show w.heap.size ≤ nY by omega) (.int .i64 dh)).setCell (p := ⟨nY, 2, none⟩) (show w.heap.size ≤ nY by omega) (.int .i64 dr)).setCell (p := ⟨nY, 3, none⟩) (show w.heap.size ≤ nY by omega) (.int .i64 ds)).setCell (p := ⟨nY, 4, none⟩) (show w.heap.size ≤ nY by omega) (.string di)).setCell (p := ⟨nY, 5, none⟩) (show w.heap.size ≤ nY by omega) (.int .i64 mh)).setCell (p := ⟨nY, 6, none⟩) (show w.heap.size ≤ nY by omega) (.int .i64 mr)).setCell (p := ⟨nY, 7, none⟩) (show w.heap.size ≤ nY by omega) (.int .i64 ms)).setCell (p := ⟨nY, 8, none⟩) (show w.heap.size ≤ nY by omega) (.string mi)).setCell (p := ⟨nY, 9, none⟩) (show w.heap.size ≤ nY by omega) (.bool true)).setCell (p := ⟨nY, 10, none⟩) (show w.heap.size ≤ nY by omega) (.slice qa o.length qc))
  have KG : Hid (wa3.grownBy (((((((((((wa3.setCell ⟨nY, 0, none⟩ (.int .i64 v)).setCell ⟨nY, 1, none⟩ (.int .i64 dh)).setCell ⟨nY, 2, none⟩ (.int .i64 dr)).setCell ⟨nY, 3, none⟩ (.int .i64 ds)).setCell ⟨nY, 4, none⟩ (.string di)).setCell ⟨nY, 5, none⟩ (.int .i64 mh)).setCell ⟨nY, 6, none⟩ (.int .i64 mr)).setCell ⟨nY, 7, none⟩ (.int .i64 ms)).setCell ⟨nY, 8, none⟩ (.string mi)).setCell ⟨nY, 9, none⟩ (.bool true)).setCell ⟨nY, 10, none⟩ (.slice qa o.length qc)) (some nY)) := grown_set (grown_set (grown_set (grown_set (grown_set (grown_set (grown_set (grown_set (grown_set (grown_set (grown_set (grown_refl _ _) _) _) _) _) _) _) _) _) _) _) _
  have KQ : Hid (OwnY (((((((((((wa3.setCell ⟨nY, 0, none⟩ (.int .i64 v)).setCell ⟨nY, 1, none⟩ (.int .i64 dh)).setCell ⟨nY, 2, none⟩ (.int .i64 dr)).setCell ⟨nY, 3, none⟩ (.int .i64 ds)).setCell ⟨nY, 4, none⟩ (.string di)).setCell ⟨nY, 5, none⟩ (.int .i64 mh)).setCell ⟨nY, 6, none⟩ (.int .i64 mr)).setCell ⟨nY, 7, none⟩ (.int .i64 ms)).setCell ⟨nY, 8, none⟩ (.string mi)).setCell ⟨nY, 9, none⟩ (.bool true)).setCell ⟨nY, 10, none⟩ (.slice qa o.length qc)) w.heap.size (.slice qa o.length qc) o) := own_aside HQ3.out KG.out HY3.out
  go_upto_region 4 with fail
  clear hwa3 hnY cX_0_3 cX_1_3 cX_2_3 cX_3_3 cX_4_3 cX_5_3 cX_6_3 cX_7_3 cX_8_3 cX_9_3 cX_10_3 cY_0_3 cY_1_3 cY_2_3 cY_3_3 cY_4_3 cY_5_3 cY_6_3 cY_7_3 cY_8_3 cY_9_3 cY_10_3 zY_3
  generalize ((((((((((((wa3.setCell _ _).setCell _ _).setCell _ _).setCell _ _).setCell _ _).setCell _ _).setCell _ _).setCell _ _).setCell _ _).setCell _ _).setCell _ _) : World) = w4 at *
  have HX4 : Hid (Blk w4 w.heap.size [.int .i64 v, .int .i64 dh, .int .i64 dr, .int .i64 ds, .string di, .int .i64 mh, .int .i64 mr, .int .i64 ms, .string mi, .bool true, .slice a o.length cap] 29) := KX
  have HR4 : Hid (Blk w4 (w.heap.size + 1) [.int .i64 0, .int .i64 0, .int .i64 0, .int .i64 0, .string ⟨#[]⟩, .int .i64 0, .int .i64 0, .int .i64 0, .string ⟨#[]⟩, .bool false, .slice none 0 0] 29) := KR
  have HY4 : Hid (Blk w4 nY [.int .i64 v, .int .i64 dh, .int .i64 dr, .int .i64 ds, .string di, .int .i64 mh, .int .i64 mr, .int .i64 ms, .string mi, .bool true, .slice qa o.length qc] 29) := KY
  have HQ4 : Hid (OwnY w4 w.heap.size (.slice qa o.length qc) o) := KQ
  have HB4 : Hid (Below w.heap.size w w4) := KB
  clear KX KR KY KB KG KQ HX3 HR3 HY3 HB3 HQ3
  have cX_0_4 := HX4.out.cell 0 rfl
  have cX_1_4 := HX4.out.cell 1 rfl
  have cX_2_4 := HX4.out.cell 2 rfl
  have cX_3_4 := HX4.out.cell 3 rfl
  have cX_4_4 := HX4.out.cell 4 rfl
  have cX_5_4 := HX4.out.cell 5 rfl
  have cX_6_4 := HX4.out.cell 6 rfl
  have cX_7_4 := HX4.out.cell 7 rfl
  have cX_8_4 := HX4.out.cell 8 rfl
  have cX_9_4 := HX4.out.cell 9 rfl
  have cX_10_4 := HX4.out.cell 10 rfl
  have cY_0_4 := HY4.out.cell 0 rfl
  have cY_1_4 := HY4.out.cell 1 rfl
  have cY_2_4 := HY4.out.cell 2 rfl
  have cY_3_4 := HY4.out.cell 3 rfl
  have cY_4_4 := HY4.out.cell 4 rfl
  have cY_5_4 := HY4.out.cell 5 rfl
  have cY_6_4 := HY4.out.cell 6 rfl
  have cY_7_4 := HY4.out.cell 7 rfl
  have cY_8_4 := HY4.out.cell 8 rfl
  have cY_9_4 := HY4.out.cell 9 rfl
  have cY_10_4 := HY4.out.cell 10 rfl
  have zY_4 := fun j => HY4.out.frozen j
  have KX := ((((HX4.out.other 1 (.int .i64 mh) (show w.heap.size ≠ nY by omega)).other 2 (.int .i64 mr) (show w.heap.size ≠ nY by omega)).other 3 (.int .i64 ms) (show w.heap.size ≠ nY by omega)).other 4 (.string mi) (show w.heap.size ≠ nY by omega))
  have KR := ((((HR4.out.other 1 (.int .i64 mh) (show (w.heap.size + 1) ≠ nY by omega)).other 2 (.int .i64 mr) (show (w.heap.size + 1) ≠ nY by omega)).other 3 (.int .i64 ms) (show (w.heap.size + 1) ≠ nY by omega)).other 4 (.string mi) (show (w.heap.size + 1) ≠ nY by omega))
  have KY := ((((HY4.out.set 1 (.int .i64 mh)).set 2 (.int .i64 mr)).set 3 (.int .i64 ms)).set 4 (.string mi))
  have KB := ((((HB4.out.setCell (p := ⟨nY, 1, none⟩) (show w.heap.size ≤ nY by omega) (.int .i64 mh)).setCell (p := ⟨nY, 2, none⟩) (show w.heap.size ≤ nY by omega) (.int .i64 mr)).setCell (p := ⟨nY, 3, none⟩) (show w.heap.size ≤ nY by omega) (.int .i64 ms)).setCell (p := ⟨nY, 4, none⟩) (show w.heap.size ≤ nY by omega) (.string mi))
  have KG : Hid (w4.grownBy ((((w4.setCell ⟨nY, 1, none⟩ (.int .i64 mh)).setCell ⟨nY, 2, none⟩ (.int .i64 mr)).setCell ⟨nY, 3, none⟩ (.int .i64 ms)).setCell ⟨nY, 4, none⟩ (.string mi)) (some nY)) := grown_set (grown_set (grown_set (grown_set (grown_refl _ _) _) _) _) _
  have KQ : Hid (OwnY ((((w4.setCell ⟨nY, 1, none⟩ (.int .i64 mh)).setCell ⟨nY, 2, none⟩ (.int .i64 mr)).setCell ⟨nY, 3, none⟩ (.int .i64 ms)).setCell ⟨nY, 4, none⟩ (.string mi)) w.heap.size (.slice qa o.length qc) o) := own_aside HQ4.out KG.out HY4.out
  go_upto_region 7 with fail
  clear cX_0_4 cX_1_4 cX_2_4 cX_3_4 cX_4_4 cX_5_4 cX_6_4 cX_7_4 cX_8_4 cX_9_4 cX_10_4 cY_0_4 cY_1_4 cY_2_4 cY_3_4 cY_4_4 cY_5_4 cY_6_4 cY_7_4 cY_8_4 cY_9_4 cY_10_4 zY_4
  generalize (((((w4.setCell _ _).setCell _ _).setCell _ _).setCell _ _) : World) = w5 at *
  have HX5 : Hid (Blk w5 w.heap.size [.int .i64 v, .int .i64 dh, .int .i64 dr, .int .i64 ds, .string di, .int .i64 mh, .int .i64 mr, .int .i64 ms, .string mi, .bool true, .slice a o.length cap] 29) := KX
  have HR5 : Hid (Blk w5 (w.heap.size + 1) [.int .i64 0, .int .i64 0, .int .i64 0, .int .i64 0, .string ⟨#[]⟩, .int .i64 0, .int .i64 0, .int .i64 0, .string ⟨#[]⟩, .bool false, .slice none 0 0] 29) := KR
  have HY5 : Hid (Blk w5 nY [.int .i64 v, .int .i64 mh, .int .i64 mr, .int .i64 ms, .string mi, .int .i64 mh, .int .i64 mr, .int .i64 ms, .string mi, .bool true, .slice qa o.length qc] 29) := KY
  have HQ5 : Hid (OwnY w5 w.heap.size (.slice qa o.length qc) o) := KQ
  have HB5 : Hid (Below w.heap.size w w5) := KB
  clear KX KR KY KB KG KQ HX4 HR4 HY4 HB4 HQ4
  have cY_0_5 := HY5.out.cell 0 rfl
  have cY_1_5 := HY5.out.cell 1 rfl
  have cY_2_5 := HY5.out.cell 2 rfl
  have cY_3_5 := HY5.out.cell 3 rfl
  have cY_4_5 := HY5.out.cell 4 rfl
  have cY_5_5 := HY5.out.cell 5 rfl
  have cY_6_5 := HY5.out.cell 6 rfl
  have cY_7_5 := HY5.out.cell 7 rfl
  have cY_8_5 := HY5.out.cell 8 rfl
  have cY_9_5 := HY5.out.cell 9 rfl
  have cY_10_5 := HY5.out.cell 10 rfl
  have zY_5 := fun j => HY5.out.frozen j
  have KX := (HX5.out.other 9 (.bool false) (show w.heap.size ≠ nY by omega))
  have KR := (HR5.out.other 9 (.bool false) (show (w.heap.size + 1) ≠ nY by omega))
  have KY := (HY5.out.set 9 (.bool false))
  have KB := (HB5.out.setCell (p := ⟨nY, 9, none⟩) (show w.heap.size ≤ nY by omega) (.bool false))
  have KG : Hid (w5.grownBy (w5.setCell ⟨nY, 9, none⟩ (.bool false)) (some nY)) := grown_set (grown_refl _ _) _
  have KQ : Hid (OwnY (w5.setCell ⟨nY, 9, none⟩ (.bool false)) w.heap.size (.slice qa o.length qc) o) := own_aside HQ5.out KG.out HY5.out
  go_upto_region 8 with fail
  clear cY_0_5 cY_1_5 cY_2_5 cY_3_5 cY_4_5 cY_5_5 cY_6_5 cY_7_5 cY_8_5 cY_9_5 cY_10_5 zY_5
  generalize ((w5.setCell _ _) : World) = w6 at *
  have HX6 : Hid (Blk w6 w.heap.size [.int .i64 v, .int .i64 dh, .int .i64 dr, .int .i64 ds, .string di, .int .i64 mh, .int .i64 mr, .int .i64 ms, .string mi, .bool true, .slice a o.length cap] 29) := KX
  have HR6 : Hid (Blk w6 (w.heap.size + 1) [.int .i64 0, .int .i64 0, .int .i64 0, .int .i64 0, .string ⟨#[]⟩, .int .i64 0, .int .i64 0, .int .i64 0, .string ⟨#[]⟩, .bool false, .slice none 0 0] 29) := KR
  have HY6 : Hid (Blk w6 nY [.int .i64 v, .int .i64 mh, .int .i64 mr, .int .i64 ms, .string mi, .int .i64 mh, .int .i64 mr, .int .i64 ms, .string mi, .bool false, .slice qa o.length qc] 29) := KY
  have HQ6 : Hid (OwnY w6 w.heap.size (.slice qa o.length qc) o) := KQ
  have HB6 : Hid (Below w.heap.size w w6) := KB
  clear KX KR KY KB KG KQ HX5 HR5 HY5 HB5 HQ5
  have cY_0_6 := HY6.out.cell 0 rfl
  have cY_1_6 := HY6.out.cell 1 rfl
  have cY_2_6 := HY6.out.cell 2 rfl
  have cY_3_6 := HY6.out.cell 3 rfl
  have cY_4_6 := HY6.out.cell 4 rfl
  have cY_5_6 := HY6.out.cell 5 rfl
  have cY_6_6 := HY6.out.cell 6 rfl
  have cY_7_6 := HY6.out.cell 7 rfl
  have cY_8_6 := HY6.out.cell 8 rfl
  have cY_9_6 := HY6.out.cell 9 rfl
  have cY_10_6 := HY6.out.cell 10 rfl
  go_upto_region 10 with fail
  clear cY_0_6 cY_1_6 cY_2_6 cY_3_6 cY_4_6 cY_5_6 cY_6_6 cY_7_6 cY_8_6 cY_9_6 cY_10_6
  have cX_0_6 := HX6.out.cell 0 rfl
  have cX_1_6 := HX6.out.cell 1 rfl
  have cX_2_6 := HX6.out.cell 2 rfl
  have cX_3_6 := HX6.out.cell 3 rfl
  have cX_4_6 := HX6.out.cell 4 rfl
  have cX_5_6 := HX6.out.cell 5 rfl
  have cX_6_6 := HX6.out.cell 6 rfl
  have cX_7_6 := HX6.out.cell 7 rfl
  have cX_8_6 := HX6.out.cell 8 rfl
  have cX_9_6 := HX6.out.cell 9 rfl
  have cX_10_6 := HX6.out.cell 10 rfl
  have cR_0_6 := HR6.out.cell 0 rfl
  have cR_1_6 := HR6.out.cell 1 rfl
  have cR_2_6 := HR6.out.cell 2 rfl
  have cR_3_6 := HR6.out.cell 3 rfl
  have cR_4_6 := HR6.out.cell 4 rfl
  have cR_5_6 := HR6.out.cell 5 rfl
  have cR_6_6 := HR6.out.cell 6 rfl
  have cR_7_6 := HR6.out.cell 7 rfl
  have cR_8_6 := HR6.out.cell 8 rfl
  have cR_9_6 := HR6.out.cell 9 rfl
  have cR_10_6 := HR6.out.cell 10 rfl
  have cY_0_6 := HY6.out.cell 0 rfl
  have cY_1_6 := HY6.out.cell 1 rfl
  have cY_2_6 := HY6.out.cell 2 rfl
  have cY_3_6 := HY6.out.cell 3 rfl
  have cY_4_6 := HY6.out.cell 4 rfl
  have cY_5_6 := HY6.out.cell 5 rfl
  have cY_6_6 := HY6.out.cell 6 rfl
  have cY_7_6 := HY6.out.cell 7 rfl
  have cY_8_6 := HY6.out.cell 8 rfl
  have cY_9_6 := HY6.out.cell 9 rfl
  have cY_10_6 := HY6.out.cell 10 rfl
  have zR_6 := fun j => HR6.out.frozen j
  have KX := (((((((((((HX6.out.other 0 (.int .i64 v) (show w.heap.size ≠ (w.heap.size + 1) by omega)).other 1 (.int .i64 mh) (show w.heap.size ≠ (w.heap.size + 1) by omega)).other 2 (.int .i64 mr) (show w.heap.size ≠ (w.heap.size + 1) by omega)).other 3 (.int .i64 ms) (show w.heap.size ≠ (w.heap.size + 1) by omega)).other 4 (.string mi) (show w.heap.size ≠ (w.heap.size + 1) by omega)).other 5 (.int .i64 mh) (show w.heap.size ≠ (w.heap.size + 1) by omega)).other 6 (.int .i64 mr) (show w.heap.size ≠ (w.heap.size + 1) by omega)).other 7 (.int .i64 ms) (show w.heap.size ≠ (w.heap.size + 1) by omega)).other 8 (.string mi) (show w.heap.size ≠ (w.heap.size + 1) by omega)).other 9 (.bool false) (show w.heap.size ≠ (w.heap.size + 1) by omega)).other 10 (.slice qa o.length qc) (show w.heap.size ≠ (w.heap.size + 1) by omega))
  have KR := (((((((((((HR6.out.set 0 (.int .i64 v)).set 1 (.int .i64 mh)).set 2 (.int .i64 mr)).set 3 (.int .i64 ms)).set 4 (.string mi)).set 5 (.int .i64 mh)).set 6 (.int .i64 mr)).set 7 (.int .i64 ms)).set 8 (.string mi)).set 9 (.bool false)).set 10 (.slice qa o.length qc))
  have KY := (((((((((((HY6.out.other 0 (.int .i64 v) (show nY ≠ (w.heap.size + 1) by omega)).other 1 (.int .i64 mh) (show nY ≠ (w.heap.size + 1) by omega)).other 2 (.int .i64 mr) (show nY ≠ (w.heap.size + 1) by omega)).other 3 (.int .i64 ms) (show nY ≠ (w.heap.size + 1) by omega)).other 4 (.string mi) (show nY ≠ (w.heap.size + 1) by omega)).other 5 (.int .i64 mh) (show nY ≠ (w.heap.size + 1) by omega)).other 6 (.int .i64 mr) (show nY ≠ (w.heap.size + 1) by omega)).other 7 (.int .i64 ms) (show nY ≠ (w.heap.size + 1) by omega)).other 8 (.string mi) (show nY ≠ (w.heap.size + 1) by omega)).other 9 (.bool false) (show nY ≠ (w.heap.size + 1) by omega)).other 10 (.slice qa o.length qc) (show nY ≠ (w.heap.size + 1) by omega))
  have KB := (((((((((((HB6.out.setCell (p := ⟨(w.heap.size + 1), 0, none⟩) (show w.heap.size ≤ (w.heap.size + 1) by omega) (.int .i64 v)).setCell (p := ⟨(w.heap.size + 1), 1, none⟩) (show w.heap.size ≤ (w.heap.size + 1) by omega) (.int .i64 mh)).setCell (p := ⟨(w.heap.size + 1), 2, none⟩) (show w.heap.size ≤ (w.heap.size + 1) by omega) (.int .i64 mr)).setCell (p := ⟨(w.heap.size + 1), 3, none⟩) (show w.heap.size ≤ (w.heap.size + 1) by omega) (.int .i64 ms)).setCell (p := ⟨(w.heap.size + 1), 4, none⟩) (show w.heap.size ≤ (w.heap.size + 1) by omega) (.string mi)).setCell (p := ⟨(w.heap.size + 1), 5, none⟩) (show w.heap.size ≤ (w.heap.size + 1) by omega) (.int .i64 mh)).setCell (p := ⟨(w.heap.size + 1), 6, none⟩) (show w.heap.size ≤ (w.heap.size + 1) by omega) (.int .i64 mr)).setCell (p := ⟨(w.heap.size + 1), 7, none⟩) (show w.heap.size ≤ (w.heap.size + 1) by omega) (.int .i64 ms)).setCell (p := ⟨(w.heap.size + 1), 8, none⟩) (show w.heap.size ≤ (w.heap.size + 1) by omega) (.string mi)).setCell (p := ⟨(w.heap.size + 1), 9, none⟩) (show w.heap.size ≤ (w.heap.size + 1) by omega) (.bool false)).setCell (p := ⟨(w.heap.size + 1), 10, none⟩) (show w.heap.size ≤ (w.heap.size + 1) by omega) (.slice qa o.length qc))
  have KG : Hid (w6.grownBy (((((((((((w6.setCell ⟨(w.heap.size + 1), 0, none⟩ (.int .i64 v)).setCell ⟨(w.heap.size + 1), 1, none⟩ (.int .i64 mh)).setCell ⟨(w.heap.size + 1), 2, none⟩ (.int .i64 mr)).setCell ⟨(w.heap.size + 1), 3, none⟩ (.int .i64 ms)).setCell ⟨(w.heap.size + 1), 4, none⟩ (.string mi)).setCell ⟨(w.heap.size + 1), 5, none⟩ (.int .i64 mh)).setCell ⟨(w.heap.size + 1), 6, none⟩ (.int .i64 mr)).setCell ⟨(w.heap.size + 1), 7, none⟩ (.int .i64 ms)).setCell ⟨(w.heap.size + 1), 8, none⟩ (.string mi)).setCell ⟨(w.heap.size + 1), 9, none⟩ (.bool false)).setCell ⟨(w.heap.size + 1), 10, none⟩ (.slice qa o.length qc)) (some (w.heap.size + 1))) := grown_set (grown_set (grown_set (grown_set (grown_set (grown_set (grown_set (grown_set (grown_set (grown_set (grown_set (grown_refl _ _) _) _) _) _) _) _) _) _) _) _) _
  have KQ : Hid (OwnY (((((((((((w6.setCell ⟨(w.heap.size + 1), 0, none⟩ (.int .i64 v)).setCell ⟨(w.heap.size + 1), 1, none⟩ (.int .i64 mh)).setCell ⟨(w.heap.size + 1), 2, none⟩ (.int .i64 mr)).setCell ⟨(w.heap.size + 1), 3, none⟩ (.int .i64 ms)).setCell ⟨(w.heap.size + 1), 4, none⟩ (.string mi)).setCell ⟨(w.heap.size + 1), 5, none⟩ (.int .i64 mh)).setCell ⟨(w.heap.size + 1), 6, none⟩ (.int .i64 mr)).setCell ⟨(w.heap.size + 1), 7, none⟩ (.int .i64 ms)).setCell ⟨(w.heap.size + 1), 8, none⟩ (.string mi)).setCell ⟨(w.heap.size + 1), 9, none⟩ (.bool false)).setCell ⟨(w.heap.size + 1), 10, none⟩ (.slice qa o.length qc)) w.heap.size (.slice qa o.length qc) o) := own_aside HQ6.out KG.out HR6.out
  go_wp2_with fail
  clear cX_0_6 cX_1_6 cX_2_6 cX_3_6 cX_4_6 cX_5_6 cX_6_6 cX_7_6 cX_8_6 cX_9_6 cX_10_6 cR_0_6 cR_1_6 cR_2_6 cR_3_6 cR_4_6 cR_5_6 cR_6_6 cR_7_6 cR_8_6 cR_9_6 cR_10_6 cY_0_6 cY_1_6 cY_2_6 cY_3_6 cY_4_6 cY_5_6 cY_6_6 cY_7_6 cY_8_6 cY_9_6 cY_10_6 zR_6
  generalize ((((((((((((w6.setCell _ _).setCell _ _).setCell _ _).setCell _ _).setCell _ _).setCell _ _).setCell _ _).setCell _ _).setCell _ _).setCell _ _).setCell _ _) : World) = w7 at *
  have HX7 : Hid (Blk w7 w.heap.size [.int .i64 v, .int .i64 dh, .int .i64 dr, .int .i64 ds, .string di, .int .i64 mh, .int .i64 mr, .int .i64 ms, .string mi, .bool true, .slice a o.length cap] 29) := KX
  have HR7 : Hid (Blk w7 (w.heap.size + 1) [.int .i64 v, .int .i64 mh, .int .i64 mr, .int .i64 ms, .string mi, .int .i64 mh, .int .i64 mr, .int .i64 ms, .string mi, .bool false, .slice qa o.length qc] 29) := KR
  have HY7 : Hid (Blk w7 nY [.int .i64 v, .int .i64 mh, .int .i64 mr, .int .i64 ms, .string mi, .int .i64 mh, .int .i64 mr, .int .i64 ms, .string mi, .bool false, .slice qa o.length qc] 29) := KY
  have HQ7 : Hid (OwnY w7 w.heap.size (.slice qa o.length qc) o) := KQ
  have HB7 : Hid (Below w.heap.size w w7) := KB
  clear KX KR KY KB KG KQ HX6 HR6 HY6 HB6 HQ6
  have y0 := HR7.out.cell 0 rfl
  have y1 := HR7.out.cell 1 rfl
  have y2 := HR7.out.cell 2 rfl
  have y3 := HR7.out.cell 3 rfl
  have y4 := HR7.out.cell 4 rfl
  have y5 := HR7.out.cell 5 rfl
  have y6 := HR7.out.cell 6 rfl
  have y7 := HR7.out.cell 7 rfl
  have y8 := HR7.out.cell 8 rfl
  have y9 := HR7.out.cell 9 rfl
  have y10 := HR7.out.cell 10 rfl
  refine bodyPost_ret (v := .tuple #[.agg #[.int .i64 v, .int .i64 mh, .int .i64 mr, .int .i64 ms, .string mi, .int .i64 mh, .int .i64 mr, .int .i64 ms, .string mi, .bool false, .slice qa o.length qc], .bool true]) (by simp [results, Try.results35, go_sem, y0, y1, y2, y3, y4, y5, y6, y7, y8, y9, y10]) rfl ⟨_, _, rfl, HQ7.out, HB7.out⟩
set_option maxHeartbeats 12800000 in
set_option maxRecDepth 100000 in
theorem ssync_room (x : Sg) (a : Option Addr) (cap : Nat) (w : World) (hl : YO w a x.o) (hz : a = none → cap = 0) (hlen : x.o.length ≤ 9223372036854775807) (hs : sOk x = true) (hp : x.p = true) (h60 : x.o.length < 60) :
    Calls Try.prog 35 #[sV x a cap] w fun e w' => ∃ qa qc, e = .returned (.tuple #[sQ (⟨x.v, x.m, x.m, false, x.o ++ [gvo x.m x.v]⟩ : Sg) (.slice qa (x.o ++ [gvo x.m x.v]).length qc), .bool true]) ∧ Hid (OwnY w' w.heap.size (.slice qa (x.o ++ [gvo x.m x.v]).length qc) (x.o ++ [gvo x.m x.v])) ∧ Below w.heap.size w w' := by
  have HY : Hid (YO w a x.o) := hl
  have kS := fun W (h : YO W a x.o) => spec_sok x a cap W h (by omega)
  simp only [hs] at kS
  have hlo : x.o.length ≤ 60 := sOk_len hs
  have kC := fun W (h : YO W a x.o) => spec_copy x a cap W h hz (by omega)
  obtain ⟨v, ⟨dh, dr, ds, di⟩, ⟨mh, mr, ms, mi⟩, p, o⟩ := x
  unfold sV sQ at *
  simp only at *
  rw [show gvo (⟨mh, mr, ms, mi⟩ : Gt) v = ⟨mh, mr, ms, mi, v⟩ from rfl]
  obtain ⟨oo, hoo⟩ : ∃ l, o ++ [(⟨mh, mr, ms, mi, v⟩ : Vt)] = l := ⟨_, rfl⟩
  rw [hoo]
  have HOO : Hid (o ++ [(⟨mh, mr, ms, mi, v⟩ : Vt)] = oo) := hoo
  clear hoo
  subst hp
  have hltz : (o.length : Int) < 60 := by omega
  have kG : ∀ W, Calls Try.prog 50 #[.agg #[.int .i64 mh, .int .i64 mr, .int .i64 ms, .string mi], .int .i64 v] W fun e w' => e = .returned (.agg #[.int .i64 mh, .int .i64 mr, .int .i64 ms, .string mi, .int .i64 v]) ∧ Below W.heap.size W w' := fun W => spec_gvo ⟨mh, mr, ms, mi⟩ v W
  clear hl hs
  obtain ⟨W0, hW0⟩ : ∃ W, (w.alloc (.cells #[.int .i64 v, .int .i64 dh, .int .i64 dr, .int .i64 ds, .string di, .int .i64 mh, .int .i64 mr, .int .i64 ms, .string mi, .bool true, .slice a o.length cap] 29)).alloc (.cells #[.int .i64 0, .int .i64 0, .int .i64 0, .int .i64 0, .string ⟨#[]⟩, .int .i64 0, .int .i64 0, .int .i64 0, .string ⟨#[]⟩, .bool false, .slice none 0 0] 29) = W := ⟨_, rfl⟩
  have HX0 : Hid (Blk W0 w.heap.size [.int .i64 v, .int .i64 dh, .int .i64 dr, .int .i64 ds, .string di, .int .i64 mh, .int .i64 mr, .int .i64 ms, .string mi, .bool true, .slice a o.length cap] 29) := by
    rw [← hW0]
    have hnew := blk_new (w) [.int .i64 v, .int .i64 dh, .int .i64 dr, .int .i64 ds, .string di, .int .i64 mh, .int .i64 mr, .int .i64 ms, .string mi, .bool true, .slice a o.length cap] 29
    exact (hnew.alloc _)
  have HR0 : Hid (Blk W0 (w.heap.size + 1) [.int .i64 0, .int .i64 0, .int .i64 0, .int .i64 0, .string ⟨#[]⟩, .int .i64 0, .int .i64 0, .int .i64 0, .string ⟨#[]⟩, .bool false, .slice none 0 0] 29) := by
    rw [← hW0]
    have hnew := blk_new (w.alloc (.cells #[.int .i64 v, .int .i64 dh, .int .i64 dr, .int .i64 ds, .string di, .int .i64 mh, .int .i64 mr, .int .i64 ms, .string mi, .bool true, .slice a o.length cap] 29)) [.int .i64 0, .int .i64 0, .int .i64 0, .int .i64 0, .string ⟨#[]⟩, .int .i64 0, .int .i64 0, .int .i64 0, .string ⟨#[]⟩, .bool false, .slice none 0 0] 29
    rw [show (w.alloc (.cells #[.int .i64 v, .int .i64 dh, .int .i64 dr, .int .i64 ds, .string di, .int .i64 mh, .int .i64 mr, .int .i64 ms, .string mi, .bool true, .slice a o.length cap] 29)).heap.size = w.heap.size + 1 from by simp] at hnew
    exact hnew
  have HB0 : Hid (Below w.heap.size w W0) := by rw [← hW0]; exact ((Below.refl w.heap.size w).alloc (Nat.le_refl _) _).alloc (by simp; try omega) _
  go_enter Try.func35, Try.ntmps35
  have cX_0_0 := HX0.out.cell 0 rfl
  have cX_1_0 := HX0.out.cell 1 rfl
  have cX_2_0 := HX0.out.cell 2 rfl
  have cX_3_0 := HX0.out.cell 3 rfl
  have cX_4_0 := HX0.out.cell 4 rfl
  have cX_5_0 := HX0.out.cell 5 rfl
  have cX_6_0 := HX0.out.cell 6 rfl
  have cX_7_0 := HX0.out.cell 7 rfl
  have cX_8_0 := HX0.out.cell 8 rfl
  have cX_9_0 := HX0.out.cell 9 rfl
  have cX_10_0 := HX0.out.cell 10 rfl
  go_wp2_with fail
  clear hW0 cX_0_0 cX_1_0 cX_2_0 cX_3_0 cX_4_0 cX_5_0 cX_6_0 cX_7_0 cX_8_0 cX_9_0 cX_10_0
  refine (kS _ (HY.out.below HB0.out)).mono ?_
  rintro e w1 ⟨rfl, bb⟩
  have HX1 : Hid (Blk w1 w.heap.size [.int .i64 v, .int .i64 dh, .int .i64 dr, .int .i64 ds, .string di, .int .i64 mh, .int .i64 mr, .int .i64 ms, .string mi, .bool true, .slice a o.length cap] 29) := HX0.out.below bb HX0.out.lt
  have HR1 : Hid (Blk w1 (w.heap.size + 1) [.int .i64 0, .int .i64 0, .int .i64 0, .int .i64 0, .string ⟨#[]⟩, .int .i64 0, .int .i64 0, .int .i64 0, .string ⟨#[]⟩, .bool false, .slice none 0 0] 29) := HR0.out.below bb HR0.out.lt
  have HB1 : Hid (Below w.heap.size w w1) := HB0.out.trans (bb.mono HB0.out.size)
  clear HX0 HR0 HB0
  clear bb
  clear kS
  have cX_0_1 := HX1.out.cell 0 rfl
  have cX_1_1 := HX1.out.cell 1 rfl
  have cX_2_1 := HX1.out.cell 2 rfl
  have cX_3_1 := HX1.out.cell 3 rfl
  have cX_4_1 := HX1.out.cell 4 rfl
  have cX_5_1 := HX1.out.cell 5 rfl
  have cX_6_1 := HX1.out.cell 6 rfl
  have cX_7_1 := HX1.out.cell 7 rfl
  have cX_8_1 := HX1.out.cell 8 rfl
  have cX_9_1 := HX1.out.cell 9 rfl
  have cX_10_1 := HX1.out.cell 10 rfl
  go_wp2_with fail
  clear cX_0_1 cX_1_1 cX_2_1 cX_3_1 cX_4_1 cX_5_1 cX_6_1 cX_7_1 cX_8_1 cX_9_1 cX_10_1
  refine (kC _ (HY.out.below HB1.out)).mono ?_
  rintro e w2 ⟨q, rfl, HQ, bb⟩
  obtain ⟨qa, qc, rfl⟩ := own_shape HQ.out
  have HQ0 : Hid (OwnY w2 w.heap.size (.slice qa o.length qc) o) := own_less HQ.out HB1.out.size
  have HX2 : Hid (Blk w2 w.heap.size [.int .i64 v, .int .i64 dh, .int .i64 dr, .int .i64 ds, .string di, .int .i64 mh, .int .i64 mr, .int .i64 ms, .string mi, .bool true, .slice a o.length cap] 29) := HX1.out.below bb HX1.out.lt
  have HR2 : Hid (Blk w2 (w.heap.size + 1) [.int .i64 0, .int .i64 0, .int .i64 0, .int .i64 0, .string ⟨#[]⟩, .int .i64 0, .int .i64 0, .int .i64 0, .string ⟨#[]⟩, .bool false, .slice none 0 0] 29) := HR1.out.below bb HR1.out.lt
  have HB2 : Hid (Below w.heap.size w w2) := HB1.out.trans (bb.mono HB1.out.size)
  clear HX1 HR1 HB1
  clear bb kC HQ HY
  obtain ⟨wa3, hwa3⟩ : ∃ W, w2.alloc (.cells #[.int .i64 0, .int .i64 0, .int .i64 0, .int .i64 0, .string ⟨#[]⟩, .int .i64 0, .int .i64 0, .int .i64 0, .string ⟨#[]⟩, .bool false, .slice none 0 0] 29) = W := ⟨_, rfl⟩
  obtain ⟨nY, hnY⟩ : ∃ n, w2.heap.size = n := ⟨_, rfl⟩
  have hnYX : w.heap.size < nY := by rw [← hnY]; exact HX2.out.lt
  have hnYR : (w.heap.size + 1) < nY := by rw [← hnY]; exact HR2.out.lt
  have HAnY : Hid (Below w2.heap.size w2 wa3) := by rw [← hwa3]; exact below_one _ _
  have HX3 : Hid (Blk wa3 w.heap.size [.int .i64 v, .int .i64 dh, .int .i64 dr, .int .i64 ds, .string di, .int .i64 mh, .int .i64 mr, .int .i64 ms, .string mi, .bool true, .slice a o.length cap] 29) := HX2.out.below HAnY.out HX2.out.lt
  have HR3 : Hid (Blk wa3 (w.heap.size + 1) [.int .i64 0, .int .i64 0, .int .i64 0, .int .i64 0, .string ⟨#[]⟩, .int .i64 0, .int .i64 0, .int .i64 0, .string ⟨#[]⟩, .bool false, .slice none 0 0] 29) := HR2.out.below HAnY.out HR2.out.lt
  have HQ3 : Hid (OwnY wa3 w.heap.size (.slice qa o.length qc) o) := own_keep HQ0.out HAnY.out
  have HB3 : Hid (Below w.heap.size w wa3) := HB2.out.trans (HAnY.out.mono HB2.out.size)
  have HY3 : Hid (Blk wa3 nY [.int .i64 0, .int .i64 0, .int .i64 0, .int .i64 0, .string ⟨#[]⟩, .int .i64 0, .int .i64 0, .int .i64 0, .string ⟨#[]⟩, .bool false, .slice none 0 0] 29) := by rw [← hwa3, ← hnY]; exact blk_new _ _ _
  clear HAnY HX2 HR2 HB2 HQ0
  have cX_0_3 := HX3.out.cell 0 rfl
  have cX_1_3 := HX3.out.cell 1 rfl
  have cX_2_3 := HX3.out.cell 2 rfl
  have cX_3_3 := HX3.out.cell 3 rfl
  have cX_4_3 := HX3.out.cell 4 rfl
  have cX_5_3 := HX3.out.cell 5 rfl
  have cX_6_3 := HX3.out.cell 6 rfl
  have cX_7_3 := HX3.out.cell 7 rfl
  have cX_8_3 := HX3.out.cell 8 rfl
  have cX_9_3 := HX3.out.cell 9 rfl
  have cX_10_3 := HX3.out.cell 10 rfl
  have cY_0_3 := HY3.out.cell 0 rfl
  have cY_1_3 := HY3.out.cell 1 rfl
  have cY_2_3 := HY3.out.cell 2 rfl
  have cY_3_3 := HY3.out.cell 3 rfl
  have cY_4_3 := HY3.out.cell 4 rfl
  have cY_5_3 := HY3.out.cell 5 rfl
  have cY_6_3 := HY3.out.cell 6 rfl
  have cY_7_3 := HY3.out.cell 7 rfl
  have cY_8_3 := HY3.out.cell 8 rfl
  have cY_9_3 := HY3.out.cell 9 rfl
  have cY_10_3 := HY3.out.cell 10 rfl
  have zY_3 := fun j => HY3.out.frozen j
  have KX := (((((((((((HX3.out.other 0 (.int .i64 v) (show w.heap.size ≠ nY by omega)).other 1 (.int .i64 dh) (show w.heap.size ≠ nY by omega)).other 2 (.int .i64 dr) (show w.heap.size ≠ nY by omega)).other 3 (.int .i64 ds) (show w.heap.size ≠ nY by omega)).other 4 (.string di) (show w.heap.size ≠ nY by omega)).other 5 (.int .i64 mh) (show w.heap.size ≠ nY by omega)).other 6 (.int .i64 mr) (show w.heap.size ≠ nY by omega)).other 7 (.int .i64 ms) (show w.heap.size ≠ nY by omega)).other 8 (.string mi) (show w.heap.size ≠ nY by omega)).other 9 (.bool true) (show w.heap.size ≠ nY by omega)).other 10 (.slice qa o.length qc) (show w.heap.size ≠ nY by omega))
  have KR := (((((((((((HR3.out.other 0 (.int .i64 v) (show (w.heap.size + 1) ≠ nY by omega)).other 1 (.int .i64 dh) (show (w.heap.size + 1) ≠ nY by omega)).other 2 (.int .i64 dr) (show (w.heap.size + 1) ≠ nY by omega)).other 3 (.int .i64 ds) (show (w.heap.size + 1) ≠ nY by omega)).other 4 (.string di) (show (w.heap.size + 1) ≠ nY by omega)).other 5 (.int .i64 mh) (show (w.heap.size + 1) ≠ nY by omega)).other 6 (.int .i64 mr) (show (w.heap.size + 1) ≠ nY by omega)).other 7 (.int .i64 ms) (show (w.heap.size + 1) ≠ nY by omega)).other 8 (.string mi) (show (w.heap.size + 1) ≠ nY by omega)).other 9 (.bool true) (show (w.heap.size + 1) ≠ nY by omega)).other 10 (.slice qa o.length qc) (show (w.heap.size + 1) ≠ nY by omega))
  have KY := (((((((((((HY3.out.set 0 (.int .i64 v)).set 1 (.int .i64 dh)).set 2 (.int .i64 dr)).set 3 (.int .i64 ds)).set 4 (.string di)).set 5 (.int .i64 mh)).set 6 (.int .i64 mr)).set 7 (.int .i64 ms)).set 8 (.string mi)).set 9 (.bool true)).set 10 (.slice qa o.length qc))
  have KB := (((((((((((HB3.out.setCell (p := ⟨nY, 0, none⟩) (show w.heap.size ≤ nY by omega) (.int .i64 v)).setCell (p := ⟨nY, 1, none⟩) (show w.heap.size ≤ nY by omega) (.int .i64 dh)).setCell (p := ⟨nY, 2, none⟩) (show w.heap.size ≤ nY by omega) (.int .i64 dr)).setCell (p := ⟨nY, 3, none⟩) (show w.heap.size ≤ nY by omega) (.int .i64 ds)).setCell (p := ⟨nY, 4, none⟩) (show w.heap.size ≤ nY by omega) (.string di)).setCell (p := ⟨nY, 5, none⟩) (show w.heap.size ≤ nY by omega) (.int .i64 mh)).setCell (p := ⟨nY, 6, none⟩) (show w.heap.size ≤ nY by omega) (.int .i64 mr)).setCell (p := ⟨nY, 7, none⟩) (show w.heap.size ≤ nY by omega) (.int .i64 ms)).setCell (p := ⟨nY, 8, none⟩) (show w.heap.size ≤ nY by omega) (.string mi)).setCell (p := ⟨nY, 9, none⟩) (show w.heap.size ≤ nY by omega) (.bool true)).setCell (p := ⟨nY, 10, none⟩) (show w.heap.size ≤ nY by omega) (.slice qa o.length qc))
  have KG : Hid (wa3.grownBy (((((((((((wa3.setCell ⟨nY, 0, none⟩ (.int .i64 v)).setCell ⟨nY, 1, none⟩ (.int .i64 dh)).setCell ⟨nY, 2, none⟩ (.int .i64 dr)).setCell ⟨nY, 3, none⟩ (.int .i64 ds)).setCell ⟨nY, 4, none⟩ (.string di)).setCell ⟨nY, 5, none⟩ (.int .i64 mh)).setCell ⟨nY, 6, none⟩ (.int .i64 mr)).setCell ⟨nY, 7, none⟩ (.int .i64 ms)).setCell ⟨nY, 8, none⟩ (.string mi)).setCell ⟨nY, 9, none⟩ (.bool true)).setCell ⟨nY, 10, none⟩ (.slice qa o.length qc)) (some nY)) := grown_set (grown_set (grown_set (grown_set (grown_set (grown_set (grown_set (grown_set (grown_set (grown_set (grown_set (grown_refl _ _) _) _) _) _) _) _) _) _) _) _) _
  have KQ : Hid (OwnY (((((((((((wa3.setCell ⟨nY, 0, none⟩ (.int .i64 v)).setCell ⟨nY, 1, none⟩ (.int .i64 dh)).setCell ⟨nY, 2, none⟩ (.int .i64 dr)).setCell ⟨nY, 3, none⟩ (.int .i64 ds)).setCell ⟨nY, 4, none⟩ (.string di)).setCell ⟨nY, 5, none⟩ (.int .i64 mh)).setCell ⟨nY, 6, none⟩ (.int .i64 mr)).setCell ⟨nY, 7, none⟩ (.int .i64 ms)).setCell ⟨nY, 8, none⟩ (.string mi)).setCell ⟨nY, 9, none⟩ (.bool true)).setCell ⟨nY, 10, none⟩ (.slice qa o.length qc)) w.heap.size (.slice qa o.length qc) o) := own_aside HQ3.out KG.out HY3.out
  go_upto_region 4 with fail
  clear hwa3 hnY cX_0_3 cX_1_3 cX_2_3 cX_3_3 cX_4_3 cX_5_3 cX_6_3 cX_7_3 cX_8_3 cX_9_3 cX_10_3 cY_0_3 cY_1_3 cY_2_3 cY_3_3 cY_4_3 cY_5_3 cY_6_3 cY_7_3 cY_8_3 cY_9_3 cY_10_3 zY_3
  generalize ((((((((((((wa3.setCell _ _).setCell _ _).setCell _ _).setCell _ _).setCell _ _).setCell _ _).setCell _ _).setCell _ _).setCell _ _).setCell _ _).setCell _ _) : World) = w4 at *
  have HX4 : Hid (Blk w4 w.heap.size [.int .i64 v, .int .i64 dh, .int .i64 dr, .int .i64 ds, .string di, .int .i64 mh, .int .i64 mr, .int .i64 ms, .string mi, .bool true, .slice a o.length cap] 29) := KX
  have HR4 : Hid (Blk w4 (w.heap.size + 1) [.int .i64 0, .int .i64 0, .int .i64 0, .int .i64 0, .string ⟨#[]⟩, .int .i64 0, .int .i64 0, .int .i64 0, .string ⟨#[]⟩, .bool false, .slice none 0 0] 29) := KR
  have HY4 : Hid (Blk w4 nY [.int .i64 v, .int .i64 dh, .int .i64 dr, .int .i64 ds, .string di, .int .i64 mh, .int .i64 mr, .int .i64 ms, .string mi, .bool true, .slice qa o.length qc] 29) := KY
  have HQ4 : Hid (OwnY w4 w.heap.size (.slice qa o.length qc) o) := KQ
  have HB4 : Hid (Below w.heap.size w w4) := KB
  clear KX KR KY KB KG KQ HX3 HR3 HY3 HB3 HQ3
  have cX_0_4 := HX4.out.cell 0 rfl
  have cX_1_4 := HX4.out.cell 1 rfl
  have cX_2_4 := HX4.out.cell 2 rfl
  have cX_3_4 := HX4.out.cell 3 rfl
  have cX_4_4 := HX4.out.cell 4 rfl
  have cX_5_4 := HX4.out.cell 5 rfl
  have cX_6_4 := HX4.out.cell 6 rfl
  have cX_7_4 := HX4.out.cell 7 rfl
  have cX_8_4 := HX4.out.cell 8 rfl
  have cX_9_4 := HX4.out.cell 9 rfl
  have cX_10_4 := HX4.out.cell 10 rfl
  have cY_0_4 := HY4.out.cell 0 rfl
  have cY_1_4 := HY4.out.cell 1 rfl
  have cY_2_4 := HY4.out.cell 2 rfl
  have cY_3_4 := HY4.out.cell 3 rfl
  have cY_4_4 := HY4.out.cell 4 rfl
  have cY_5_4 := HY4.out.cell 5 rfl
  have cY_6_4 := HY4.out.cell 6 rfl
  have cY_7_4 := HY4.out.cell 7 rfl
  have cY_8_4 := HY4.out.cell 8 rfl
  have cY_9_4 := HY4.out.cell 9 rfl
  have cY_10_4 := HY4.out.cell 10 rfl
  have zY_4 := fun j => HY4.out.frozen j
  have KX := ((((HX4.out.other 1 (.int .i64 mh) (show w.heap.size ≠ nY by omega)).other 2 (.int .i64 mr) (show w.heap.size ≠ nY by omega)).other 3 (.int .i64 ms) (show w.heap.size ≠ nY by omega)).other 4 (.string mi) (show w.heap.size ≠ nY by omega))
  have KR := ((((HR4.out.other 1 (.int .i64 mh) (show (w.heap.size + 1) ≠ nY by omega)).other 2 (.int .i64 mr) (show (w.heap.size + 1) ≠ nY by omega)).other 3 (.int .i64 ms) (show (w.heap.size + 1) ≠ nY by omega)).other 4 (.string mi) (show (w.heap.size + 1) ≠ nY by omega))
  have KY := ((((HY4.out.set 1 (.int .i64 mh)).set 2 (.int .i64 mr)).set 3 (.int .i64 ms)).set 4 (.string mi))
  have KB := ((((HB4.out.setCell (p := ⟨nY, 1, none⟩) (show w.heap.size ≤ nY by omega) (.int .i64 mh)).setCell (p := ⟨nY, 2, none⟩) (show w.heap.size ≤ nY by omega) (.int .i64 mr)).setCell (p := ⟨nY, 3, none⟩) (show w.heap.size ≤ nY by omega) (.int .i64 ms)).setCell (p := ⟨nY, 4, none⟩) (show w.heap.size ≤ nY by omega) (.string mi))
  have KG : Hid (w4.grownBy ((((w4.setCell ⟨nY, 1, none⟩ (.int .i64 mh)).setCell ⟨nY, 2, none⟩ (.int .i64 mr)).setCell ⟨nY, 3, none⟩ (.int .i64 ms)).setCell ⟨nY, 4, none⟩ (.string mi)) (some nY)) := grown_set (grown_set (grown_set (grown_set (grown_refl _ _) _) _) _) _
  have KQ : Hid (OwnY ((((w4.setCell ⟨nY, 1, none⟩ (.int .i64 mh)).setCell ⟨nY, 2, none⟩ (.int .i64 mr)).setCell ⟨nY, 3, none⟩ (.int .i64 ms)).setCell ⟨nY, 4, none⟩ (.string mi)) w.heap.size (.slice qa o.length qc) o) := own_aside HQ4.out KG.out HY4.out
  go_upto_region 7 with fail
  clear cX_0_4 cX_1_4 cX_2_4 cX_3_4 cX_4_4 cX_5_4 cX_6_4 cX_7_4 cX_8_4 cX_9_4 cX_10_4 cY_0_4 cY_1_4 cY_2_4 cY_3_4 cY_4_4 cY_5_4 cY_6_4 cY_7_4 cY_8_4 cY_9_4 cY_10_4 zY_4
  generalize (((((w4.setCell _ _).setCell _ _).setCell _ _).setCell _ _) : World) = w5 at *
  have HX5 : Hid (Blk w5 w.heap.size [.int .i64 v, .int .i64 dh, .int .i64 dr, .int .i64 ds, .string di, .int .i64 mh, .int .i64 mr, .int .i64 ms, .string mi, .bool true, .slice a o.length cap] 29) := KX
  have HR5 : Hid (Blk w5 (w.heap.size + 1) [.int .i64 0, .int .i64 0, .int .i64 0, .int .i64 0, .string ⟨#[]⟩, .int .i64 0, .int .i64 0, .int .i64 0, .string ⟨#[]⟩, .bool false, .slice none 0 0] 29) := KR
  have HY5 : Hid (Blk w5 nY [.int .i64 v, .int .i64 mh, .int .i64 mr, .int .i64 ms, .string mi, .int .i64 mh, .int .i64 mr, .int .i64 ms, .string mi, .bool true, .slice qa o.length qc] 29) := KY
  have HQ5 : Hid (OwnY w5 w.heap.size (.slice qa o.length qc) o) := KQ
  have HB5 : Hid (Below w.heap.size w w5) := KB
  clear KX KR KY KB KG KQ HX4 HR4 HY4 HB4 HQ4
  have cY_0_5 := HY5.out.cell 0 rfl
  have cY_1_5 := HY5.out.cell 1 rfl
  have cY_2_5 := HY5.out.cell 2 rfl
  have cY_3_5 := HY5.out.cell 3 rfl
  have cY_4_5 := HY5.out.cell 4 rfl
  have cY_5_5 := HY5.out.cell 5 rfl
  have cY_6_5 := HY5.out.cell 6 rfl
  have cY_7_5 := HY5.out.cell 7 rfl
  have cY_8_5 := HY5.out.cell 8 rfl
  have cY_9_5 := HY5.out.cell 9 rfl
  have cY_10_5 := HY5.out.cell 10 rfl
  have zY_5 := fun j => HY5.out.frozen j
  have KX := (HX5.out.other 9 (.bool false) (show w.heap.size ≠ nY by omega))
  have KR := (HR5.out.other 9 (.bool false) (show (w.heap.size + 1) ≠ nY by omega))
  have KY := (HY5.out.set 9 (.bool false))
  have KB := (HB5.out.setCell (p := ⟨nY, 9, none⟩) (show w.heap.size ≤ nY by omega) (.bool false))
  have KG : Hid (w5.grownBy (w5.setCell ⟨nY, 9, none⟩ (.bool false)) (some nY)) := grown_set (grown_refl _ _) _
  have KQ : Hid (OwnY (w5.setCell ⟨nY, 9, none⟩ (.bool false)) w.heap.size (.slice qa o.length qc) o) := own_aside HQ5.out KG.out HY5.out
  go_upto_region 8 with fail
  clear cY_0_5 cY_1_5 cY_2_5 cY_3_5 cY_4_5 cY_5_5 cY_6_5 cY_7_5 cY_8_5 cY_9_5 cY_10_5 zY_5
  generalize ((w5.setCell _ _) : World) = w6 at *
  have HX6 : Hid (Blk w6 w.heap.size [.int .i64 v, .int .i64 dh, .int .i64 dr, .int .i64 ds, .string di, .int .i64 mh, .int .i64 mr, .int .i64 ms, .string mi, .bool true, .slice a o.length cap] 29) := KX
  have HR6 : Hid (Blk w6 (w.heap.size + 1) [.int .i64 0, .int .i64 0, .int .i64 0, .int .i64 0, .string ⟨#[]⟩, .int .i64 0, .int .i64 0, .int .i64 0, .string ⟨#[]⟩, .bool false, .slice none 0 0] 29) := KR
  have HY6 : Hid (Blk w6 nY [.int .i64 v, .int .i64 mh, .int .i64 mr, .int .i64 ms, .string mi, .int .i64 mh, .int .i64 mr, .int .i64 ms, .string mi, .bool false, .slice qa o.length qc] 29) := KY
  have HQ6 : Hid (OwnY w6 w.heap.size (.slice qa o.length qc) o) := KQ
  have HB6 : Hid (Below w.heap.size w w6) := KB
  clear KX KR KY KB KG KQ HX5 HR5 HY5 HB5 HQ5
  have hYW : nY < w6.heap.size := HY6.out.lt
  have cY_0_6 := HY6.out.cell 0 rfl
  have cY_1_6 := HY6.out.cell 1 rfl
  have cY_2_6 := HY6.out.cell 2 rfl
  have cY_3_6 := HY6.out.cell 3 rfl
  have cY_4_6 := HY6.out.cell 4 rfl
  have cY_5_6 := HY6.out.cell 5 rfl
  have cY_6_6 := HY6.out.cell 6 rfl
  have cY_7_6 := HY6.out.cell 7 rfl
  have cY_8_6 := HY6.out.cell 8 rfl
  have cY_9_6 := HY6.out.cell 9 rfl
  have cY_10_6 := HY6.out.cell 10 rfl
  have zY_6 := fun j => HY6.out.frozen j
  go_wp2_with fail
  have HXd : Hid (Blk w6.drew w.heap.size [.int .i64 v, .int .i64 dh, .int .i64 dr, .int .i64 ds, .string di, .int .i64 mh, .int .i64 mr, .int .i64 ms, .string mi, .bool true, .slice a o.length cap] 29) := HX6.out.below (Below.refl _ _).drew HX6.out.lt
  have HRd : Hid (Blk w6.drew (w.heap.size + 1) [.int .i64 0, .int .i64 0, .int .i64 0, .int .i64 0, .string ⟨#[]⟩, .int .i64 0, .int .i64 0, .int .i64 0, .string ⟨#[]⟩, .bool false, .slice none 0 0] 29) := HR6.out.below (Below.refl _ _).drew HR6.out.lt
  have HYd : Hid (Blk w6.drew nY [.int .i64 v, .int .i64 mh, .int .i64 mr, .int .i64 ms, .string mi, .int .i64 mh, .int .i64 mr, .int .i64 ms, .string mi, .bool false, .slice qa o.length qc] 29) := HY6.out.below (Below.refl _ _).drew HY6.out.lt
  have HQd : Hid (OwnY w6.drew w.heap.size (.slice qa o.length qc) o) := own_keep HQ6.out (Below.refl _ _).drew
  have HBd : Hid (Below w.heap.size w w6.drew) := HB6.out.trans ((Below.refl _ _).drew.mono HB6.out.size)
  go_region_law (first | (refine step_call2 (by rfl) 50 _ _ _ _ (by rfl) Try.f50 Try.func50 (by kernel_rfl) (by kernel_rfl) _ _ _ (by rfl) (by rfl) _ (kG _) ?_; intro w7 b7; have HX7 : Hid (Blk w7 w.heap.size [.int .i64 v, .int .i64 dh, .int .i64 dr, .int .i64 ds, .string di, .int .i64 mh, .int .i64 mr, .int .i64 ms, .string mi, .bool true, .slice a o.length cap] 29) := HXd.out.below b7 HXd.out.lt; have HR7 : Hid (Blk w7 (w.heap.size + 1) [.int .i64 0, .int .i64 0, .int .i64 0, .int .i64 0, .string ⟨#[]⟩, .int .i64 0, .int .i64 0, .int .i64 0, .string ⟨#[]⟩, .bool false, .slice none 0 0] 29) := HRd.out.below b7 HRd.out.lt; have HY7 : Hid (Blk w7 nY [.int .i64 v, .int .i64 mh, .int .i64 mr, .int .i64 ms, .string mi, .int .i64 mh, .int .i64 mr, .int .i64 ms, .string mi, .bool false, .slice qa o.length qc] 29) := HYd.out.below b7 HYd.out.lt; have HQ7 : Hid (OwnY w7 w.heap.size (.slice qa o.length qc) o) := own_keep HQd.out b7; have HB7 : Hid (Below w.heap.size w w7) := HBd.out.trans (b7.mono HBd.out.size); have y7 := HY7.out.cell 10 rfl; obtain ⟨wt, hwt⟩ : ∃ W, w7.alloc (.cells #[.int .i64 mh, .int .i64 mr, .int .i64 ms, .string mi, .int .i64 v] 31) = W := ⟨_, rfl⟩; obtain ⟨nt, hnt⟩ : ∃ n, w7.heap.size = n := ⟨_, rfl⟩; have hYt : nY < nt := (by rw [← hnt]; exact HY7.out.lt); have HAt : Hid (Below w7.heap.size w7 wt) := (by rw [← hwt]; exact below_one _ _); have HXt : Hid (Blk wt w.heap.size [.int .i64 v, .int .i64 dh, .int .i64 dr, .int .i64 ds, .string di, .int .i64 mh, .int .i64 mr, .int .i64 ms, .string mi, .bool true, .slice a o.length cap] 29) := HX7.out.below HAt.out HX7.out.lt; have HRt : Hid (Blk wt (w.heap.size + 1) [.int .i64 0, .int .i64 0, .int .i64 0, .int .i64 0, .string ⟨#[]⟩, .int .i64 0, .int .i64 0, .int .i64 0, .string ⟨#[]⟩, .bool false, .slice none 0 0] 29) := HR7.out.below HAt.out HR7.out.lt; have HYt : Hid (Blk wt nY [.int .i64 v, .int .i64 mh, .int .i64 mr, .int .i64 ms, .string mi, .int .i64 mh, .int .i64 mr, .int .i64 ms, .string mi, .bool false, .slice qa o.length qc] 29) := HY7.out.below HAt.out HY7.out.lt; have HQt : Hid (OwnY wt w.heap.size (.slice qa o.length qc) o) := own_keep HQ7.out HAt.out; have HBt : Hid (Below w.heap.size w wt) := HB7.out.trans (HAt.out.mono HB7.out.size); have HVt : Hid (YO wt (some ⟨nt, 0, none⟩) [(⟨mh, mr, ms, mi, v⟩ : Vt)]) := yo_one (y := (⟨mh, mr, ms, mi, v⟩ : Vt)) (by (have hb := blk_new w7 [.int .i64 mh, .int .i64 mr, .int .i64 ms, .string mi, .int .i64 v] 31); rw [hwt, hnt] at hb; exact hb); have yt := HYt.out.cell 10 rfl) | (refine step_append_y (w := wt) (by rfl) _ _ (by rfl) (by rfl) HQt.out (by rfl) HVt.out (fun e => by cases e) (by simp only [List.length_cons, List.length_nil]; omega) HBt.out.size ?_; intro vq wq hown hgr; obtain ⟨qb, qd, rfl⟩ := own_shape hown; have HYq : Hid (Blk wq nY [.int .i64 v, .int .i64 mh, .int .i64 mr, .int .i64 ms, .string mi, .int .i64 mh, .int .i64 mr, .int .i64 ms, .string mi, .bool false, .slice qa o.length qc] 29) := HYt.out.grown hgr (own_apart HQt.out HYt.out); have yq := HYq.out.cell 10 rfl; have fq := fun j => HYq.out.frozen j))
  all_goals
    have hLL : oo.length = o.length + 1 := by rw [← HOO.out]; simp
    have HOq : Hid (OwnY wq w.heap.size (.slice qb oo.length qd) oo) := by rw [← HOO.out]; exact hown
    have HGq : Hid (wt.grownBy wq (Value.slice qa o.length qc).ownBlock) := hgr
    clear hown hgr
    have HXq : Hid (Blk wq w.heap.size [.int .i64 v, .int .i64 dh, .int .i64 dr, .int .i64 ds, .string di, .int .i64 mh, .int .i64 mr, .int .i64 ms, .string mi, .bool true, .slice a o.length cap] 29) := HXt.out.grown HGq.out (own_apart HQt.out HXt.out)
    have HRq : Hid (Blk wq (w.heap.size + 1) [.int .i64 0, .int .i64 0, .int .i64 0, .int .i64 0, .string ⟨#[]⟩, .int .i64 0, .int .i64 0, .int .i64 0, .string ⟨#[]⟩, .bool false, .slice none 0 0] 29) := HRt.out.grown HGq.out (own_apart HQt.out HRt.out)
    have HBq : Hid (Below w.heap.size w wq) := HBt.out.grown HGq.out HBt.out.size (fun j hj => (World.ownsRow.lt (show wt.ownsRow w.heap.size 31 5 _ _ _ from HQt.out) j hj).1)
    have KY := HYq.out.set 10 (.slice qb (o.length + 1) qd)
    have KX := HXq.out.other (g' := nY) 10 (.slice qb (o.length + 1) qd) (by omega)
    have KR := HRq.out.other (g' := nY) 10 (.slice qb (o.length + 1) qd) (by omega)
    have KB := HBq.out.setCell (p := ⟨nY, 10, none⟩) (show w.heap.size ≤ nY by omega) (.slice qb (o.length + 1) qd)
    have KO := own_aside HOq.out (gr_set wq nY 10 (.slice qb (o.length + 1) qd)) HYq.out
    clear yq fq yt y7 cY_0_6 cY_1_6 cY_2_6 cY_3_6 cY_4_6 cY_5_6 cY_6_6 cY_7_6 cY_8_6 cY_9_6 cY_10_6 zY_6 HOq HGq HXq HRq HYq HBq HXt HRt HYt HQt HBt HVt HX7 HR7 HY7 HQ7 HB7 HXd HRd HYd HQd HBd hwt hnt HAt b7 kG HX6 HR6 HY6 HB6 HQ6
    generalize (wq.setCell ⟨nY, 10, none⟩ (.slice qb (o.length + 1) qd)) = w5 at *
    have HX5 : Hid (Blk w5 w.heap.size [.int .i64 v, .int .i64 dh, .int .i64 dr, .int .i64 ds, .string di, .int .i64 mh, .int .i64 mr, .int .i64 ms, .string mi, .bool true, .slice a o.length cap] 29) := KX
    have HR5 : Hid (Blk w5 (w.heap.size + 1) [.int .i64 0, .int .i64 0, .int .i64 0, .int .i64 0, .string ⟨#[]⟩, .int .i64 0, .int .i64 0, .int .i64 0, .string ⟨#[]⟩, .bool false, .slice none 0 0] 29) := KR
    have HY5 : Hid (Blk w5 nY [.int .i64 v, .int .i64 mh, .int .i64 mr, .int .i64 ms, .string mi, .int .i64 mh, .int .i64 mr, .int .i64 ms, .string mi, .bool false, .slice qb oo.length qd] 29) := by rw [hLL]; exact KY
    have HB5 : Hid (Below w.heap.size w w5) := KB
    have HQ5 : Hid (OwnY w5 w.heap.size (.slice qb oo.length qd) oo) := KO
    clear KX KR KY KB KO hLL
    have cX_0_300 := HX5.out.cell 0 rfl
    have cX_1_300 := HX5.out.cell 1 rfl
    have cX_2_300 := HX5.out.cell 2 rfl
    have cX_3_300 := HX5.out.cell 3 rfl
    have cX_4_300 := HX5.out.cell 4 rfl
    have cX_5_300 := HX5.out.cell 5 rfl
    have cX_6_300 := HX5.out.cell 6 rfl
    have cX_7_300 := HX5.out.cell 7 rfl
    have cX_8_300 := HX5.out.cell 8 rfl
    have cX_9_300 := HX5.out.cell 9 rfl
    have cX_10_300 := HX5.out.cell 10 rfl
    have cR_0_300 := HR5.out.cell 0 rfl
    have cR_1_300 := HR5.out.cell 1 rfl
    have cR_2_300 := HR5.out.cell 2 rfl
    have cR_3_300 := HR5.out.cell 3 rfl
    have cR_4_300 := HR5.out.cell 4 rfl
    have cR_5_300 := HR5.out.cell 5 rfl
    have cR_6_300 := HR5.out.cell 6 rfl
    have cR_7_300 := HR5.out.cell 7 rfl
    have cR_8_300 := HR5.out.cell 8 rfl
    have cR_9_300 := HR5.out.cell 9 rfl
    have cR_10_300 := HR5.out.cell 10 rfl
    have cY_0_300 := HY5.out.cell 0 rfl
    have cY_1_300 := HY5.out.cell 1 rfl
    have cY_2_300 := HY5.out.cell 2 rfl
    have cY_3_300 := HY5.out.cell 3 rfl
    have cY_4_300 := HY5.out.cell 4 rfl
    have cY_5_300 := HY5.out.cell 5 rfl
    have cY_6_300 := HY5.out.cell 6 rfl
    have cY_7_300 := HY5.out.cell 7 rfl
    have cY_8_300 := HY5.out.cell 8 rfl
    have cY_9_300 := HY5.out.cell 9 rfl
    have cY_10_300 := HY5.out.cell 10 rfl
    have zR_300 := fun j => HR5.out.frozen j
    have KX := (((((((((((HX5.out.other 0 (.int .i64 v) (show w.heap.size ≠ (w.heap.size + 1) by omega)).other 1 (.int .i64 mh) (show w.heap.size ≠ (w.heap.size + 1) by omega)).other 2 (.int .i64 mr) (show w.heap.size ≠ (w.heap.size + 1) by omega)).other 3 (.int .i64 ms) (show w.heap.size ≠ (w.heap.size + 1) by omega)).other 4 (.string mi) (show w.heap.size ≠ (w.heap.size + 1) by omega)).other 5 (.int .i64 mh) (show w.heap.size ≠ (w.heap.size + 1) by omega)).other 6 (.int .i64 mr) (show w.heap.size ≠ (w.heap.size + 1) by omega)).other 7 (.int .i64 ms) (show w.heap.size ≠ (w.heap.size + 1) by omega)).other 8 (.string mi) (show w.heap.size ≠ (w.heap.size + 1) by omega)).other 9 (.bool false) (show w.heap.size ≠ (w.heap.size + 1) by omega)).other 10 (.slice qb oo.length qd) (show w.heap.size ≠ (w.heap.size + 1) by omega))
    have KR := (((((((((((HR5.out.set 0 (.int .i64 v)).set 1 (.int .i64 mh)).set 2 (.int .i64 mr)).set 3 (.int .i64 ms)).set 4 (.string mi)).set 5 (.int .i64 mh)).set 6 (.int .i64 mr)).set 7 (.int .i64 ms)).set 8 (.string mi)).set 9 (.bool false)).set 10 (.slice qb oo.length qd))
    have KY := (((((((((((HY5.out.other 0 (.int .i64 v) (show nY ≠ (w.heap.size + 1) by omega)).other 1 (.int .i64 mh) (show nY ≠ (w.heap.size + 1) by omega)).other 2 (.int .i64 mr) (show nY ≠ (w.heap.size + 1) by omega)).other 3 (.int .i64 ms) (show nY ≠ (w.heap.size + 1) by omega)).other 4 (.string mi) (show nY ≠ (w.heap.size + 1) by omega)).other 5 (.int .i64 mh) (show nY ≠ (w.heap.size + 1) by omega)).other 6 (.int .i64 mr) (show nY ≠ (w.heap.size + 1) by omega)).other 7 (.int .i64 ms) (show nY ≠ (w.heap.size + 1) by omega)).other 8 (.string mi) (show nY ≠ (w.heap.size + 1) by omega)).other 9 (.bool false) (show nY ≠ (w.heap.size + 1) by omega)).other 10 (.slice qb oo.length qd) (show nY ≠ (w.heap.size + 1) by omega))
    have KB := (((((((((((HB5.out.setCell (p := ⟨(w.heap.size + 1), 0, none⟩) (show w.heap.size ≤ (w.heap.size + 1) by omega) (.int .i64 v)).setCell (p := ⟨(w.heap.size + 1), 1, none⟩) (show w.heap.size ≤ (w.heap.size + 1) by omega) (.int .i64 mh)).setCell (p := ⟨(w.heap.size + 1), 2, none⟩) (show w.heap.size ≤ (w.heap.size + 1) by omega) (.int .i64 mr)).setCell (p := ⟨(w.heap.size + 1), 3, none⟩) (show w.heap.size ≤ (w.heap.size + 1) by omega) (.int .i64 ms)).setCell (p := ⟨(w.heap.size + 1), 4, none⟩) (show w.heap.size ≤ (w.heap.size + 1) by omega) (.string mi)).setCell (p := ⟨(w.heap.size + 1), 5, none⟩) (show w.heap.size ≤ (w.heap.size + 1) by omega) (.int .i64 mh)).setCell (p := ⟨(w.heap.size + 1), 6, none⟩) (show w.heap.size ≤ (w.heap.size + 1) by omega) (.int .i64 mr)).setCell (p := ⟨(w.heap.size + 1), 7, none⟩) (show w.heap.size ≤ (w.heap.size + 1) by omega) (.int .i64 ms)).setCell (p := ⟨(w.heap.size + 1), 8, none⟩) (show w.heap.size ≤ (w.heap.size + 1) by omega) (.string mi)).setCell (p := ⟨(w.heap.size + 1), 9, none⟩) (show w.heap.size ≤ (w.heap.size + 1) by omega) (.bool false)).setCell (p := ⟨(w.heap.size + 1), 10, none⟩) (show w.heap.size ≤ (w.heap.size + 1) by omega) (.slice qb oo.length qd))
    have KG : Hid (w5.grownBy (((((((((((w5.setCell ⟨(w.heap.size + 1), 0, none⟩ (.int .i64 v)).setCell ⟨(w.heap.size + 1), 1, none⟩ (.int .i64 mh)).setCell ⟨(w.heap.size + 1), 2, none⟩ (.int .i64 mr)).setCell ⟨(w.heap.size + 1), 3, none⟩ (.int .i64 ms)).setCell ⟨(w.heap.size + 1), 4, none⟩ (.string mi)).setCell ⟨(w.heap.size + 1), 5, none⟩ (.int .i64 mh)).setCell ⟨(w.heap.size + 1), 6, none⟩ (.int .i64 mr)).setCell ⟨(w.heap.size + 1), 7, none⟩ (.int .i64 ms)).setCell ⟨(w.heap.size + 1), 8, none⟩ (.string mi)).setCell ⟨(w.heap.size + 1), 9, none⟩ (.bool false)).setCell ⟨(w.heap.size + 1), 10, none⟩ (.slice qb oo.length qd)) (some (w.heap.size + 1))) := grown_set (grown_set (grown_set (grown_set (grown_set (grown_set (grown_set (grown_set (grown_set (grown_set (grown_set (grown_refl _ _) _) _) _) _) _) _) _) _) _) _) _
    have KQ : Hid (OwnY (((((((((((w5.setCell ⟨(w.heap.size + 1), 0, none⟩ (.int .i64 v)).setCell ⟨(w.heap.size + 1), 1, none⟩ (.int .i64 mh)).setCell ⟨(w.heap.size + 1), 2, none⟩ (.int .i64 mr)).setCell ⟨(w.heap.size + 1), 3, none⟩ (.int .i64 ms)).setCell ⟨(w.heap.size + 1), 4, none⟩ (.string mi)).setCell ⟨(w.heap.size + 1), 5, none⟩ (.int .i64 mh)).setCell ⟨(w.heap.size + 1), 6, none⟩ (.int .i64 mr)).setCell ⟨(w.heap.size + 1), 7, none⟩ (.int .i64 ms)).setCell ⟨(w.heap.size + 1), 8, none⟩ (.string mi)).setCell ⟨(w.heap.size + 1), 9, none⟩ (.bool false)).setCell ⟨(w.heap.size + 1), 10, none⟩ (.slice qb oo.length qd)) w.heap.size (.slice qb oo.length qd) oo) := own_aside HQ5.out KG.out HR5.out
    go_wp2_with fail
    clear cX_0_300 cX_1_300 cX_2_300 cX_3_300 cX_4_300 cX_5_300 cX_6_300 cX_7_300 cX_8_300 cX_9_300 cX_10_300 cR_0_300 cR_1_300 cR_2_300 cR_3_300 cR_4_300 cR_5_300 cR_6_300 cR_7_300 cR_8_300 cR_9_300 cR_10_300 cY_0_300 cY_1_300 cY_2_300 cY_3_300 cY_4_300 cY_5_300 cY_6_300 cY_7_300 cY_8_300 cY_9_300 cY_10_300 zR_300
    generalize ((((((((((((w5.setCell _ _).setCell _ _).setCell _ _).setCell _ _).setCell _ _).setCell _ _).setCell _ _).setCell _ _).setCell _ _).setCell _ _).setCell _ _) : World) = w301 at *
    have HX301 : Hid (Blk w301 w.heap.size [.int .i64 v, .int .i64 dh, .int .i64 dr, .int .i64 ds, .string di, .int .i64 mh, .int .i64 mr, .int .i64 ms, .string mi, .bool true, .slice a o.length cap] 29) := KX
    have HR301 : Hid (Blk w301 (w.heap.size + 1) [.int .i64 v, .int .i64 mh, .int .i64 mr, .int .i64 ms, .string mi, .int .i64 mh, .int .i64 mr, .int .i64 ms, .string mi, .bool false, .slice qb oo.length qd] 29) := KR
    have HY301 : Hid (Blk w301 nY [.int .i64 v, .int .i64 mh, .int .i64 mr, .int .i64 ms, .string mi, .int .i64 mh, .int .i64 mr, .int .i64 ms, .string mi, .bool false, .slice qb oo.length qd] 29) := KY
    have HQ301 : Hid (OwnY w301 w.heap.size (.slice qb oo.length qd) oo) := KQ
    have HB301 : Hid (Below w.heap.size w w301) := KB
    clear KX KR KY KB KG KQ HX5 HR5 HY5 HB5 HQ5
    have y0 := HR301.out.cell 0 rfl
    have y1 := HR301.out.cell 1 rfl
    have y2 := HR301.out.cell 2 rfl
    have y3 := HR301.out.cell 3 rfl
    have y4 := HR301.out.cell 4 rfl
    have y5 := HR301.out.cell 5 rfl
    have y6 := HR301.out.cell 6 rfl
    have y7 := HR301.out.cell 7 rfl
    have y8 := HR301.out.cell 8 rfl
    have y9 := HR301.out.cell 9 rfl
    have y10 := HR301.out.cell 10 rfl
    refine bodyPost_ret (v := .tuple #[.agg #[.int .i64 v, .int .i64 mh, .int .i64 mr, .int .i64 ms, .string mi, .int .i64 mh, .int .i64 mr, .int .i64 ms, .string mi, .bool false, .slice qb oo.length qd], .bool true]) (by simp [results, Try.results35, go_sem, y0, y1, y2, y3, y4, y5, y6, y7, y8, y9, y10]) rfl ⟨_, _, rfl, HQ301.out, HB301.out⟩
set_option maxHeartbeats 12800000 in
set_option maxRecDepth 100000 in
theorem sfall_no (x : Sg) (a : Option Addr) (cap : Nat) (w : World) (hl : YO w a x.o) (hz : a = none → cap = 0) (hlen : x.o.length ≤ 9223372036854775807) (hs : sOk x = false) :
    Calls Try.prog 36 #[sV x a cap] w fun e w' => ∃ qa qc, e = .returned (.tuple #[sQ zSg (.slice qa 0 qc), .bool false]) ∧ Hid (OwnY w' w.heap.size (.slice qa ([] : List Vt).length qc) ([] : List Vt)) ∧ Below w.heap.size w w' := by
  have HY : Hid (YO w a x.o) := hl
  have kS := fun W (h : YO W a x.o) => spec_sok x a cap W h (by omega)
  simp only [hs] at kS
  obtain ⟨v, ⟨dh, dr, ds, di⟩, ⟨mh, mr, ms, mi⟩, p, o⟩ := x
  unfold sV sQ at *
  simp only at *
  clear hl hs
  obtain ⟨W0, hW0⟩ : ∃ W, (w.alloc (.cells #[.int .i64 v, .int .i64 dh, .int .i64 dr, .int .i64 ds, .string di, .int .i64 mh, .int .i64 mr, .int .i64 ms, .string mi, .bool p, .slice a o.length cap] 29)).alloc (.cells #[.int .i64 0, .int .i64 0, .int .i64 0, .int .i64 0, .string ⟨#[]⟩, .int .i64 0, .int .i64 0, .int .i64 0, .string ⟨#[]⟩, .bool false, .slice none 0 0] 29) = W := ⟨_, rfl⟩
  have HX0 : Hid (Blk W0 w.heap.size [.int .i64 v, .int .i64 dh, .int .i64 dr, .int .i64 ds, .string di, .int .i64 mh, .int .i64 mr, .int .i64 ms, .string mi, .bool p, .slice a o.length cap] 29) := by
    rw [← hW0]
    have hnew := blk_new (w) [.int .i64 v, .int .i64 dh, .int .i64 dr, .int .i64 ds, .string di, .int .i64 mh, .int .i64 mr, .int .i64 ms, .string mi, .bool p, .slice a o.length cap] 29
    exact (hnew.alloc _)
  have HR0 : Hid (Blk W0 (w.heap.size + 1) [.int .i64 0, .int .i64 0, .int .i64 0, .int .i64 0, .string ⟨#[]⟩, .int .i64 0, .int .i64 0, .int .i64 0, .string ⟨#[]⟩, .bool false, .slice none 0 0] 29) := by
    rw [← hW0]
    have hnew := blk_new (w.alloc (.cells #[.int .i64 v, .int .i64 dh, .int .i64 dr, .int .i64 ds, .string di, .int .i64 mh, .int .i64 mr, .int .i64 ms, .string mi, .bool p, .slice a o.length cap] 29)) [.int .i64 0, .int .i64 0, .int .i64 0, .int .i64 0, .string ⟨#[]⟩, .int .i64 0, .int .i64 0, .int .i64 0, .string ⟨#[]⟩, .bool false, .slice none 0 0] 29
    rw [show (w.alloc (.cells #[.int .i64 v, .int .i64 dh, .int .i64 dr, .int .i64 ds, .string di, .int .i64 mh, .int .i64 mr, .int .i64 ms, .string mi, .bool p, .slice a o.length cap] 29)).heap.size = w.heap.size + 1 from by simp] at hnew
    exact hnew
  have HB0 : Hid (Below w.heap.size w W0) := by rw [← hW0]; exact ((Below.refl w.heap.size w).alloc (Nat.le_refl _) _).alloc (by simp; try omega) _
  go_enter Try.func36, Try.ntmps36
  have cX_0_0 := HX0.out.cell 0 rfl
  have cX_1_0 := HX0.out.cell 1 rfl
  have cX_2_0 := HX0.out.cell 2 rfl
  have cX_3_0 := HX0.out.cell 3 rfl
  have cX_4_0 := HX0.out.cell 4 rfl
  have cX_5_0 := HX0.out.cell 5 rfl
  have cX_6_0 := HX0.out.cell 6 rfl
  have cX_7_0 := HX0.out.cell 7 rfl
  have cX_8_0 := HX0.out.cell 8 rfl
  have cX_9_0 := HX0.out.cell 9 rfl
  have cX_10_0 := HX0.out.cell 10 rfl
  go_wp2_with fail
  clear hW0 cX_0_0 cX_1_0 cX_2_0 cX_3_0 cX_4_0 cX_5_0 cX_6_0 cX_7_0 cX_8_0 cX_9_0 cX_10_0
  refine (kS _ (HY.out.below HB0.out)).mono ?_
  rintro e w1 ⟨rfl, bb⟩
  have HX1 : Hid (Blk w1 w.heap.size [.int .i64 v, .int .i64 dh, .int .i64 dr, .int .i64 ds, .string di, .int .i64 mh, .int .i64 mr, .int .i64 ms, .string mi, .bool p, .slice a o.length cap] 29) := HX0.out.below bb HX0.out.lt
  have HR1 : Hid (Blk w1 (w.heap.size + 1) [.int .i64 0, .int .i64 0, .int .i64 0, .int .i64 0, .string ⟨#[]⟩, .int .i64 0, .int .i64 0, .int .i64 0, .string ⟨#[]⟩, .bool false, .slice none 0 0] 29) := HR0.out.below bb HR0.out.lt
  have HB1 : Hid (Below w.heap.size w w1) := HB0.out.trans (bb.mono HB0.out.size)
  clear HX0 HR0 HB0
  clear bb
  clear kS
  have cR_0_1 := HR1.out.cell 0 rfl
  have cR_1_1 := HR1.out.cell 1 rfl
  have cR_2_1 := HR1.out.cell 2 rfl
  have cR_3_1 := HR1.out.cell 3 rfl
  have cR_4_1 := HR1.out.cell 4 rfl
  have cR_5_1 := HR1.out.cell 5 rfl
  have cR_6_1 := HR1.out.cell 6 rfl
  have cR_7_1 := HR1.out.cell 7 rfl
  have cR_8_1 := HR1.out.cell 8 rfl
  have cR_9_1 := HR1.out.cell 9 rfl
  have cR_10_1 := HR1.out.cell 10 rfl
  have zR_1 := fun j => HR1.out.frozen j
  have KX := (((((((((((HX1.out.other 0 (.int .i64 0) (show w.heap.size ≠ (w.heap.size + 1) by omega)).other 1 (.int .i64 0) (show w.heap.size ≠ (w.heap.size + 1) by omega)).other 2 (.int .i64 0) (show w.heap.size ≠ (w.heap.size + 1) by omega)).other 3 (.int .i64 0) (show w.heap.size ≠ (w.heap.size + 1) by omega)).other 4 (.string ⟨#[]⟩) (show w.heap.size ≠ (w.heap.size + 1) by omega)).other 5 (.int .i64 0) (show w.heap.size ≠ (w.heap.size + 1) by omega)).other 6 (.int .i64 0) (show w.heap.size ≠ (w.heap.size + 1) by omega)).other 7 (.int .i64 0) (show w.heap.size ≠ (w.heap.size + 1) by omega)).other 8 (.string ⟨#[]⟩) (show w.heap.size ≠ (w.heap.size + 1) by omega)).other 9 (.bool false) (show w.heap.size ≠ (w.heap.size + 1) by omega)).other 10 (.slice none 0 0) (show w.heap.size ≠ (w.heap.size + 1) by omega))
  have KR := (((((((((((HR1.out.set 0 (.int .i64 0)).set 1 (.int .i64 0)).set 2 (.int .i64 0)).set 3 (.int .i64 0)).set 4 (.string ⟨#[]⟩)).set 5 (.int .i64 0)).set 6 (.int .i64 0)).set 7 (.int .i64 0)).set 8 (.string ⟨#[]⟩)).set 9 (.bool false)).set 10 (.slice none 0 0))
  have KB := (((((((((((HB1.out.setCell (p := ⟨(w.heap.size + 1), 0, none⟩) (show w.heap.size ≤ (w.heap.size + 1) by omega) (.int .i64 0)).setCell (p := ⟨(w.heap.size + 1), 1, none⟩) (show w.heap.size ≤ (w.heap.size + 1) by omega) (.int .i64 0)).setCell (p := ⟨(w.heap.size + 1), 2, none⟩) (show w.heap.size ≤ (w.heap.size + 1) by omega) (.int .i64 0)).setCell (p := ⟨(w.heap.size + 1), 3, none⟩) (show w.heap.size ≤ (w.heap.size + 1) by omega) (.int .i64 0)).setCell (p := ⟨(w.heap.size + 1), 4, none⟩) (show w.heap.size ≤ (w.heap.size + 1) by omega) (.string ⟨#[]⟩)).setCell (p := ⟨(w.heap.size + 1), 5, none⟩) (show w.heap.size ≤ (w.heap.size + 1) by omega) (.int .i64 0)).setCell (p := ⟨(w.heap.size + 1), 6, none⟩) (show w.heap.size ≤ (w.heap.size + 1) by omega) (.int .i64 0)).setCell (p := ⟨(w.heap.size + 1), 7, none⟩) (show w.heap.size ≤ (w.heap.size + 1) by omega) (.int .i64 0)).setCell (p := ⟨(w.heap.size + 1), 8, none⟩) (show w.heap.size ≤ (w.heap.size + 1) by omega) (.string ⟨#[]⟩)).setCell (p := ⟨(w.heap.size + 1), 9, none⟩) (show w.heap.size ≤ (w.heap.size + 1) by omega) (.bool false)).setCell (p := ⟨(w.heap.size + 1), 10, none⟩) (show w.heap.size ≤ (w.heap.size + 1) by omega) (.slice none 0 0))
  go_wp2_with fail
  clear cR_0_1 cR_1_1 cR_2_1 cR_3_1 cR_4_1 cR_5_1 cR_6_1 cR_7_1 cR_8_1 cR_9_1 cR_10_1 zR_1
  generalize ((((((((((((w1.setCell _ _).setCell _ _).setCell _ _).setCell _ _).setCell _ _).setCell _ _).setCell _ _).setCell _ _).setCell _ _).setCell _ _).setCell _ _) : World) = w2 at *
  have HX2 : Hid (Blk w2 w.heap.size [.int .i64 v, .int .i64 dh, .int .i64 dr, .int .i64 ds, .string di, .int .i64 mh, .int .i64 mr, .int .i64 ms, .string mi, .bool p, .slice a o.length cap] 29) := KX
  have HR2 : Hid (Blk w2 (w.heap.size + 1) [.int .i64 0, .int .i64 0, .int .i64 0, .int .i64 0, .string ⟨#[]⟩, .int .i64 0, .int .i64 0, .int .i64 0, .string ⟨#[]⟩, .bool false, .slice none 0 0] 29) := KR
  have HB2 : Hid (Below w.heap.size w w2) := KB
  clear KX KR KB HX1 HR1 HB1
  have y0 := HR2.out.cell 0 rfl
  have y1 := HR2.out.cell 1 rfl
  have y2 := HR2.out.cell 2 rfl
  have y3 := HR2.out.cell 3 rfl
  have y4 := HR2.out.cell 4 rfl
  have y5 := HR2.out.cell 5 rfl
  have y6 := HR2.out.cell 6 rfl
  have y7 := HR2.out.cell 7 rfl
  have y8 := HR2.out.cell 8 rfl
  have y9 := HR2.out.cell 9 rfl
  have y10 := HR2.out.cell 10 rfl
  refine bodyPost_ret (v := .tuple #[.agg #[.int .i64 0, .int .i64 0, .int .i64 0, .int .i64 0, .string ⟨#[]⟩, .int .i64 0, .int .i64 0, .int .i64 0, .string ⟨#[]⟩, .bool false, .slice none 0 0], .bool false]) (by simp [results, Try.results36, go_sem, y0, y1, y2, y3, y4, y5, y6, y7, y8, y9, y10]) rfl ⟨none, 0, rfl, OwnY.nil _ _, HB2.out⟩
set_option maxHeartbeats 12800000 in
set_option maxRecDepth 100000 in
theorem sfall_yes (x : Sg) (a : Option Addr) (cap : Nat) (w : World) (hl : YO w a x.o) (hz : a = none → cap = 0) (hlen : x.o.length ≤ 9223372036854775807) (hs : sOk x = true) :
    Calls Try.prog 36 #[sV x a cap] w fun e w' => ∃ qa qc, e = .returned (.tuple #[sQ (⟨x.v, x.d, x.d, false, x.o⟩ : Sg) (.slice qa x.o.length qc), .bool true]) ∧ Hid (OwnY w' w.heap.size (.slice qa x.o.length qc) x.o) ∧ Below w.heap.size w w' := by
  have HY : Hid (YO w a x.o) := hl
  have kS := fun W (h : YO W a x.o) => spec_sok x a cap W h (by omega)
  simp only [hs] at kS
  have hlo : x.o.length ≤ 60 := sOk_len hs
  have kC := fun W (h : YO W a x.o) => spec_copy x a cap W h hz (by omega)
  obtain ⟨v, ⟨dh, dr, ds, di⟩, ⟨mh, mr, ms, mi⟩, p, o⟩ := x
  unfold sV sQ at *
  simp only at *
  clear hl hs
  obtain ⟨W0, hW0⟩ : ∃ W, (w.alloc (.cells #[.int .i64 v, .int .i64 dh, .int .i64 dr, .int .i64 ds, .string di, .int .i64 mh, .int .i64 mr, .int .i64 ms, .string mi, .bool p, .slice a o.length cap] 29)).alloc (.cells #[.int .i64 0, .int .i64 0, .int .i64 0, .int .i64 0, .string ⟨#[]⟩, .int .i64 0, .int .i64 0, .int .i64 0, .string ⟨#[]⟩, .bool false, .slice none 0 0] 29) = W := ⟨_, rfl⟩
  have HX0 : Hid (Blk W0 w.heap.size [.int .i64 v, .int .i64 dh, .int .i64 dr, .int .i64 ds, .string di, .int .i64 mh, .int .i64 mr, .int .i64 ms, .string mi, .bool p, .slice a o.length cap] 29) := by
    rw [← hW0]
    have hnew := blk_new (w) [.int .i64 v, .int .i64 dh, .int .i64 dr, .int .i64 ds, .string di, .int .i64 mh, .int .i64 mr, .int .i64 ms, .string mi, .bool p, .slice a o.length cap] 29
    exact (hnew.alloc _)
  have HR0 : Hid (Blk W0 (w.heap.size + 1) [.int .i64 0, .int .i64 0, .int .i64 0, .int .i64 0, .string ⟨#[]⟩, .int .i64 0, .int .i64 0, .int .i64 0, .string ⟨#[]⟩, .bool false, .slice none 0 0] 29) := by
    rw [← hW0]
    have hnew := blk_new (w.alloc (.cells #[.int .i64 v, .int .i64 dh, .int .i64 dr, .int .i64 ds, .string di, .int .i64 mh, .int .i64 mr, .int .i64 ms, .string mi, .bool p, .slice a o.length cap] 29)) [.int .i64 0, .int .i64 0, .int .i64 0, .int .i64 0, .string ⟨#[]⟩, .int .i64 0, .int .i64 0, .int .i64 0, .string ⟨#[]⟩, .bool false, .slice none 0 0] 29
    rw [show (w.alloc (.cells #[.int .i64 v, .int .i64 dh, .int .i64 dr, .int .i64 ds, .string di, .int .i64 mh, .int .i64 mr, .int .i64 ms, .string mi, .bool p, .slice a o.length cap] 29)).heap.size = w.heap.size + 1 from by simp] at hnew
    exact hnew
  have HB0 : Hid (Below w.heap.size w W0) := by rw [← hW0]; exact ((Below.refl w.heap.size w).alloc (Nat.le_refl _) _).alloc (by simp; try omega) _
  go_enter Try.func36, Try.ntmps36
  have cX_0_0 := HX0.out.cell 0 rfl
  have cX_1_0 := HX0.out.cell 1 rfl
  have cX_2_0 := HX0.out.cell 2 rfl
  have cX_3_0 := HX0.out.cell 3 rfl
  have cX_4_0 := HX0.out.cell 4 rfl
  have cX_5_0 := HX0.out.cell 5 rfl
  have cX_6_0 := HX0.out.cell 6 rfl
  have cX_7_0 := HX0.out.cell 7 rfl
  have cX_8_0 := HX0.out.cell 8 rfl
  have cX_9_0 := HX0.out.cell 9 rfl
  have cX_10_0 := HX0.out.cell 10 rfl
  go_wp2_with fail
  clear hW0 cX_0_0 cX_1_0 cX_2_0 cX_3_0 cX_4_0 cX_5_0 cX_6_0 cX_7_0 cX_8_0 cX_9_0 cX_10_0
  refine (kS _ (HY.out.below HB0.out)).mono ?_
  rintro e w1 ⟨rfl, bb⟩
  have HX1 : Hid (Blk w1 w.heap.size [.int .i64 v, .int .i64 dh, .int .i64 dr, .int .i64 ds, .string di, .int .i64 mh, .int .i64 mr, .int .i64 ms, .string mi, .bool p, .slice a o.length cap] 29) := HX0.out.below bb HX0.out.lt
  have HR1 : Hid (Blk w1 (w.heap.size + 1) [.int .i64 0, .int .i64 0, .int .i64 0, .int .i64 0, .string ⟨#[]⟩, .int .i64 0, .int .i64 0, .int .i64 0, .string ⟨#[]⟩, .bool false, .slice none 0 0] 29) := HR0.out.below bb HR0.out.lt
  have HB1 : Hid (Below w.heap.size w w1) := HB0.out.trans (bb.mono HB0.out.size)
  clear HX0 HR0 HB0
  clear bb
  clear kS
  have cX_0_1 := HX1.out.cell 0 rfl
  have cX_1_1 := HX1.out.cell 1 rfl
  have cX_2_1 := HX1.out.cell 2 rfl
  have cX_3_1 := HX1.out.cell 3 rfl
  have cX_4_1 := HX1.out.cell 4 rfl
  have cX_5_1 := HX1.out.cell 5 rfl
  have cX_6_1 := HX1.out.cell 6 rfl
  have cX_7_1 := HX1.out.cell 7 rfl
  have cX_8_1 := HX1.out.cell 8 rfl
  have cX_9_1 := HX1.out.cell 9 rfl
  have cX_10_1 := HX1.out.cell 10 rfl
  go_wp2_with fail
  clear cX_0_1 cX_1_1 cX_2_1 cX_3_1 cX_4_1 cX_5_1 cX_6_1 cX_7_1 cX_8_1 cX_9_1 cX_10_1
  refine (kC _ (HY.out.below HB1.out)).mono ?_
  rintro e w2 ⟨q, rfl, HQ, bb⟩
  obtain ⟨qa, qc, rfl⟩ := own_shape HQ.out
  have HQ0 : Hid (OwnY w2 w.heap.size (.slice qa o.length qc) o) := own_less HQ.out HB1.out.size
  have HX2 : Hid (Blk w2 w.heap.size [.int .i64 v, .int .i64 dh, .int .i64 dr, .int .i64 ds, .string di, .int .i64 mh, .int .i64 mr, .int .i64 ms, .string mi, .bool p, .slice a o.length cap] 29) := HX1.out.below bb HX1.out.lt
  have HR2 : Hid (Blk w2 (w.heap.size + 1) [.int .i64 0, .int .i64 0, .int .i64 0, .int .i64 0, .string ⟨#[]⟩, .int .i64 0, .int .i64 0, .int .i64 0, .string ⟨#[]⟩, .bool false, .slice none 0 0] 29) := HR1.out.below bb HR1.out.lt
  have HB2 : Hid (Below w.heap.size w w2) := HB1.out.trans (bb.mono HB1.out.size)
  clear HX1 HR1 HB1
  clear bb kC HQ HY
  obtain ⟨wa3, hwa3⟩ : ∃ W, w2.alloc (.cells #[.int .i64 0, .int .i64 0, .int .i64 0, .int .i64 0, .string ⟨#[]⟩, .int .i64 0, .int .i64 0, .int .i64 0, .string ⟨#[]⟩, .bool false, .slice none 0 0] 29) = W := ⟨_, rfl⟩
  obtain ⟨nY, hnY⟩ : ∃ n, w2.heap.size = n := ⟨_, rfl⟩
  have hnYX : w.heap.size < nY := by rw [← hnY]; exact HX2.out.lt
  have hnYR : (w.heap.size + 1) < nY := by rw [← hnY]; exact HR2.out.lt
  have HAnY : Hid (Below w2.heap.size w2 wa3) := by rw [← hwa3]; exact below_one _ _
  have HX3 : Hid (Blk wa3 w.heap.size [.int .i64 v, .int .i64 dh, .int .i64 dr, .int .i64 ds, .string di, .int .i64 mh, .int .i64 mr, .int .i64 ms, .string mi, .bool p, .slice a o.length cap] 29) := HX2.out.below HAnY.out HX2.out.lt
  have HR3 : Hid (Blk wa3 (w.heap.size + 1) [.int .i64 0, .int .i64 0, .int .i64 0, .int .i64 0, .string ⟨#[]⟩, .int .i64 0, .int .i64 0, .int .i64 0, .string ⟨#[]⟩, .bool false, .slice none 0 0] 29) := HR2.out.below HAnY.out HR2.out.lt
  have HQ3 : Hid (OwnY wa3 w.heap.size (.slice qa o.length qc) o) := own_keep HQ0.out HAnY.out
  have HB3 : Hid (Below w.heap.size w wa3) := HB2.out.trans (HAnY.out.mono HB2.out.size)
  have HY3 : Hid (Blk wa3 nY [.int .i64 0, .int .i64 0, .int .i64 0, .int .i64 0, .string ⟨#[]⟩, .int .i64 0, .int .i64 0, .int .i64 0, .string ⟨#[]⟩, .bool false, .slice none 0 0] 29) := by rw [← hwa3, ← hnY]; exact blk_new _ _ _
  clear HAnY HX2 HR2 HB2 HQ0
  have cX_0_3 := HX3.out.cell 0 rfl
  have cX_1_3 := HX3.out.cell 1 rfl
  have cX_2_3 := HX3.out.cell 2 rfl
  have cX_3_3 := HX3.out.cell 3 rfl
  have cX_4_3 := HX3.out.cell 4 rfl
  have cX_5_3 := HX3.out.cell 5 rfl
  have cX_6_3 := HX3.out.cell 6 rfl
  have cX_7_3 := HX3.out.cell 7 rfl
  have cX_8_3 := HX3.out.cell 8 rfl
  have cX_9_3 := HX3.out.cell 9 rfl
  have cX_10_3 := HX3.out.cell 10 rfl
  have cY_0_3 := HY3.out.cell 0 rfl
  have cY_1_3 := HY3.out.cell 1 rfl
  have cY_2_3 := HY3.out.cell 2 rfl
  have cY_3_3 := HY3.out.cell 3 rfl
  have cY_4_3 := HY3.out.cell 4 rfl
  have cY_5_3 := HY3.out.cell 5 rfl
  have cY_6_3 := HY3.out.cell 6 rfl
  have cY_7_3 := HY3.out.cell 7 rfl
  have cY_8_3 := HY3.out.cell 8 rfl
  have cY_9_3 := HY3.out.cell 9 rfl
  have cY_10_3 := HY3.out.cell 10 rfl
  have zY_3 := fun j => HY3.out.frozen j
  have KX := (((((((((((HX3.out.other 0 (.int .i64 v) (show w.heap.size ≠ nY by omega)).other 1 (.int .i64 dh) (show w.heap.size ≠ nY by omega)).other 2 (.int .i64 dr) (show w.heap.size ≠ nY by omega)).other 3 (.int .i64 ds) (show w.heap.size ≠ nY by omega)).other 4 (.string di) (show w.heap.size ≠ nY by omega)).other 5 (.int .i64 mh) (show w.heap.size ≠ nY by omega)).other 6 (.int .i64 mr) (show w.heap.size ≠ nY by omega)).other 7 (.int .i64 ms) (show w.heap.size ≠ nY by omega)).other 8 (.string mi) (show w.heap.size ≠ nY by omega)).other 9 (.bool p) (show w.heap.size ≠ nY by omega)).other 10 (.slice qa o.length qc) (show w.heap.size ≠ nY by omega))
  have KR := (((((((((((HR3.out.other 0 (.int .i64 v) (show (w.heap.size + 1) ≠ nY by omega)).other 1 (.int .i64 dh) (show (w.heap.size + 1) ≠ nY by omega)).other 2 (.int .i64 dr) (show (w.heap.size + 1) ≠ nY by omega)).other 3 (.int .i64 ds) (show (w.heap.size + 1) ≠ nY by omega)).other 4 (.string di) (show (w.heap.size + 1) ≠ nY by omega)).other 5 (.int .i64 mh) (show (w.heap.size + 1) ≠ nY by omega)).other 6 (.int .i64 mr) (show (w.heap.size + 1) ≠ nY by omega)).other 7 (.int .i64 ms) (show (w.heap.size + 1) ≠ nY by omega)).other 8 (.string mi) (show (w.heap.size + 1) ≠ nY by omega)).other 9 (.bool p) (show (w.heap.size + 1) ≠ nY by omega)).other 10 (.slice qa o.length qc) (show (w.heap.size + 1) ≠ nY by omega))
  have KY := (((((((((((HY3.out.set 0 (.int .i64 v)).set 1 (.int .i64 dh)).set 2 (.int .i64 dr)).set 3 (.int .i64 ds)).set 4 (.string di)).set 5 (.int .i64 mh)).set 6 (.int .i64 mr)).set 7 (.int .i64 ms)).set 8 (.string mi)).set 9 (.bool p)).set 10 (.slice qa o.length qc))
  have KB := (((((((((((HB3.out.setCell (p := ⟨nY, 0, none⟩) (show w.heap.size ≤ nY by omega) (.int .i64 v)).setCell (p := ⟨nY, 1, none⟩) (show w.heap.size ≤ nY by omega) (.int .i64 dh)).setCell (p := ⟨nY, 2, none⟩) (show w.heap.size ≤ nY by omega) (.int .i64 dr)).setCell (p := ⟨nY, 3, none⟩) (show w.heap.size ≤ nY by omega) (.int .i64 ds)).setCell (p := ⟨nY, 4, none⟩) (show w.heap.size ≤ nY by omega) (.string di)).setCell (p := ⟨nY, 5, none⟩) (show w.heap.size ≤ nY by omega) (.int .i64 mh)).setCell (p := ⟨nY, 6, none⟩) (show w.heap.size ≤ nY by omega) (.int .i64 mr)).setCell (p := ⟨nY, 7, none⟩) (show w.heap.size ≤ nY by omega) (.int .i64 ms)).setCell (p := ⟨nY, 8, none⟩) (show w.heap.size ≤ nY by omega) (.string mi)).setCell (p := ⟨nY, 9, none⟩) (show w.heap.size ≤ nY by omega) (.bool p)).setCell (p := ⟨nY, 10, none⟩) (show w.heap.size ≤ nY by omega) (.slice qa o.length qc))
  have KG : Hid (wa3.grownBy (((((((((((wa3.setCell ⟨nY, 0, none⟩ (.int .i64 v)).setCell ⟨nY, 1, none⟩ (.int .i64 dh)).setCell ⟨nY, 2, none⟩ (.int .i64 dr)).setCell ⟨nY, 3, none⟩ (.int .i64 ds)).setCell ⟨nY, 4, none⟩ (.string di)).setCell ⟨nY, 5, none⟩ (.int .i64 mh)).setCell ⟨nY, 6, none⟩ (.int .i64 mr)).setCell ⟨nY, 7, none⟩ (.int .i64 ms)).setCell ⟨nY, 8, none⟩ (.string mi)).setCell ⟨nY, 9, none⟩ (.bool p)).setCell ⟨nY, 10, none⟩ (.slice qa o.length qc)) (some nY)) := grown_set (grown_set (grown_set (grown_set (grown_set (grown_set (grown_set (grown_set (grown_set (grown_set (grown_set (grown_refl _ _) _) _) _) _) _) _) _) _) _) _) _
  have KQ : Hid (OwnY (((((((((((wa3.setCell ⟨nY, 0, none⟩ (.int .i64 v)).setCell ⟨nY, 1, none⟩ (.int .i64 dh)).setCell ⟨nY, 2, none⟩ (.int .i64 dr)).setCell ⟨nY, 3, none⟩ (.int .i64 ds)).setCell ⟨nY, 4, none⟩ (.string di)).setCell ⟨nY, 5, none⟩ (.int .i64 mh)).setCell ⟨nY, 6, none⟩ (.int .i64 mr)).setCell ⟨nY, 7, none⟩ (.int .i64 ms)).setCell ⟨nY, 8, none⟩ (.string mi)).setCell ⟨nY, 9, none⟩ (.bool p)).setCell ⟨nY, 10, none⟩ (.slice qa o.length qc)) w.heap.size (.slice qa o.length qc) o) := own_aside HQ3.out KG.out HY3.out
  go_upto_region 4 with fail
  clear hwa3 hnY cX_0_3 cX_1_3 cX_2_3 cX_3_3 cX_4_3 cX_5_3 cX_6_3 cX_7_3 cX_8_3 cX_9_3 cX_10_3 cY_0_3 cY_1_3 cY_2_3 cY_3_3 cY_4_3 cY_5_3 cY_6_3 cY_7_3 cY_8_3 cY_9_3 cY_10_3 zY_3
  generalize ((((((((((((wa3.setCell _ _).setCell _ _).setCell _ _).setCell _ _).setCell _ _).setCell _ _).setCell _ _).setCell _ _).setCell _ _).setCell _ _).setCell _ _) : World) = w4 at *
  have HX4 : Hid (Blk w4 w.heap.size [.int .i64 v, .int .i64 dh, .int .i64 dr, .int .i64 ds, .string di, .int .i64 mh, .int .i64 mr, .int .i64 ms, .string mi, .bool p, .slice a o.length cap] 29) := KX
  have HR4 : Hid (Blk w4 (w.heap.size + 1) [.int .i64 0, .int .i64 0, .int .i64 0, .int .i64 0, .string ⟨#[]⟩, .int .i64 0, .int .i64 0, .int .i64 0, .string ⟨#[]⟩, .bool false, .slice none 0 0] 29) := KR
  have HY4 : Hid (Blk w4 nY [.int .i64 v, .int .i64 dh, .int .i64 dr, .int .i64 ds, .string di, .int .i64 mh, .int .i64 mr, .int .i64 ms, .string mi, .bool p, .slice qa o.length qc] 29) := KY
  have HQ4 : Hid (OwnY w4 w.heap.size (.slice qa o.length qc) o) := KQ
  have HB4 : Hid (Below w.heap.size w w4) := KB
  clear KX KR KY KB KG KQ HX3 HR3 HY3 HB3 HQ3
  have cY_0_4 := HY4.out.cell 0 rfl
  have cY_1_4 := HY4.out.cell 1 rfl
  have cY_2_4 := HY4.out.cell 2 rfl
  have cY_3_4 := HY4.out.cell 3 rfl
  have cY_4_4 := HY4.out.cell 4 rfl
  have cY_5_4 := HY4.out.cell 5 rfl
  have cY_6_4 := HY4.out.cell 6 rfl
  have cY_7_4 := HY4.out.cell 7 rfl
  have cY_8_4 := HY4.out.cell 8 rfl
  have cY_9_4 := HY4.out.cell 9 rfl
  have cY_10_4 := HY4.out.cell 10 rfl
  have zY_4 := fun j => HY4.out.frozen j
  have KX := ((((HX4.out.other 5 (.int .i64 dh) (show w.heap.size ≠ nY by omega)).other 6 (.int .i64 dr) (show w.heap.size ≠ nY by omega)).other 7 (.int .i64 ds) (show w.heap.size ≠ nY by omega)).other 8 (.string di) (show w.heap.size ≠ nY by omega))
  have KR := ((((HR4.out.other 5 (.int .i64 dh) (show (w.heap.size + 1) ≠ nY by omega)).other 6 (.int .i64 dr) (show (w.heap.size + 1) ≠ nY by omega)).other 7 (.int .i64 ds) (show (w.heap.size + 1) ≠ nY by omega)).other 8 (.string di) (show (w.heap.size + 1) ≠ nY by omega))
  have KY := ((((HY4.out.set 5 (.int .i64 dh)).set 6 (.int .i64 dr)).set 7 (.int .i64 ds)).set 8 (.string di))
  have KB := ((((HB4.out.setCell (p := ⟨nY, 5, none⟩) (show w.heap.size ≤ nY by omega) (.int .i64 dh)).setCell (p := ⟨nY, 6, none⟩) (show w.heap.size ≤ nY by omega) (.int .i64 dr)).setCell (p := ⟨nY, 7, none⟩) (show w.heap.size ≤ nY by omega) (.int .i64 ds)).setCell (p := ⟨nY, 8, none⟩) (show w.heap.size ≤ nY by omega) (.string di))
  have KG : Hid (w4.grownBy ((((w4.setCell ⟨nY, 5, none⟩ (.int .i64 dh)).setCell ⟨nY, 6, none⟩ (.int .i64 dr)).setCell ⟨nY, 7, none⟩ (.int .i64 ds)).setCell ⟨nY, 8, none⟩ (.string di)) (some nY)) := grown_set (grown_set (grown_set (grown_set (grown_refl _ _) _) _) _) _
  have KQ : Hid (OwnY ((((w4.setCell ⟨nY, 5, none⟩ (.int .i64 dh)).setCell ⟨nY, 6, none⟩ (.int .i64 dr)).setCell ⟨nY, 7, none⟩ (.int .i64 ds)).setCell ⟨nY, 8, none⟩ (.string di)) w.heap.size (.slice qa o.length qc) o) := own_aside HQ4.out KG.out HY4.out
  go_upto_region 5 with fail
  clear cY_0_4 cY_1_4 cY_2_4 cY_3_4 cY_4_4 cY_5_4 cY_6_4 cY_7_4 cY_8_4 cY_9_4 cY_10_4 zY_4
  generalize (((((w4.setCell _ _).setCell _ _).setCell _ _).setCell _ _) : World) = w5 at *
  have HX5 : Hid (Blk w5 w.heap.size [.int .i64 v, .int .i64 dh, .int .i64 dr, .int .i64 ds, .string di, .int .i64 mh, .int .i64 mr, .int .i64 ms, .string mi, .bool p, .slice a o.length cap] 29) := KX
  have HR5 : Hid (Blk w5 (w.heap.size + 1) [.int .i64 0, .int .i64 0, .int .i64 0, .int .i64 0, .string ⟨#[]⟩, .int .i64 0, .int .i64 0, .int .i64 0, .string ⟨#[]⟩, .bool false, .slice none 0 0] 29) := KR
  have HY5 : Hid (Blk w5 nY [.int .i64 v, .int .i64 dh, .int .i64 dr, .int .i64 ds, .string di, .int .i64 dh, .int .i64 dr, .int .i64 ds, .string di, .bool p, .slice qa o.length qc] 29) := KY
  have HQ5 : Hid (OwnY w5 w.heap.size (.slice qa o.length qc) o) := KQ
  have HB5 : Hid (Below w.heap.size w w5) := KB
  clear KX KR KY KB KG KQ HX4 HR4 HY4 HB4 HQ4
  have cY_0_5 := HY5.out.cell 0 rfl
  have cY_1_5 := HY5.out.cell 1 rfl
  have cY_2_5 := HY5.out.cell 2 rfl
  have cY_3_5 := HY5.out.cell 3 rfl
  have cY_4_5 := HY5.out.cell 4 rfl
  have cY_5_5 := HY5.out.cell 5 rfl
  have cY_6_5 := HY5.out.cell 6 rfl
  have cY_7_5 := HY5.out.cell 7 rfl
  have cY_8_5 := HY5.out.cell 8 rfl
  have cY_9_5 := HY5.out.cell 9 rfl
  have cY_10_5 := HY5.out.cell 10 rfl
  have zY_5 := fun j => HY5.out.frozen j
  have KX := (HX5.out.other 9 (.bool false) (show w.heap.size ≠ nY by omega))
  have KR := (HR5.out.other 9 (.bool false) (show (w.heap.size + 1) ≠ nY by omega))
  have KY := (HY5.out.set 9 (.bool false))
  have KB := (HB5.out.setCell (p := ⟨nY, 9, none⟩) (show w.heap.size ≤ nY by omega) (.bool false))
  have KG : Hid (w5.grownBy (w5.setCell ⟨nY, 9, none⟩ (.bool false)) (some nY)) := grown_set (grown_refl _ _) _
  have KQ : Hid (OwnY (w5.setCell ⟨nY, 9, none⟩ (.bool false)) w.heap.size (.slice qa o.length qc) o) := own_aside HQ5.out KG.out HY5.out
  go_upto_region 6 with fail
  clear cY_0_5 cY_1_5 cY_2_5 cY_3_5 cY_4_5 cY_5_5 cY_6_5 cY_7_5 cY_8_5 cY_9_5 cY_10_5 zY_5
  generalize ((w5.setCell _ _) : World) = w6 at *
  have HX6 : Hid (Blk w6 w.heap.size [.int .i64 v, .int .i64 dh, .int .i64 dr, .int .i64 ds, .string di, .int .i64 mh, .int .i64 mr, .int .i64 ms, .string mi, .bool p, .slice a o.length cap] 29) := KX
  have HR6 : Hid (Blk w6 (w.heap.size + 1) [.int .i64 0, .int .i64 0, .int .i64 0, .int .i64 0, .string ⟨#[]⟩, .int .i64 0, .int .i64 0, .int .i64 0, .string ⟨#[]⟩, .bool false, .slice none 0 0] 29) := KR
  have HY6 : Hid (Blk w6 nY [.int .i64 v, .int .i64 dh, .int .i64 dr, .int .i64 ds, .string di, .int .i64 dh, .int .i64 dr, .int .i64 ds, .string di, .bool false, .slice qa o.length qc] 29) := KY
  have HQ6 : Hid (OwnY w6 w.heap.size (.slice qa o.length qc) o) := KQ
  have HB6 : Hid (Below w.heap.size w w6) := KB
  clear KX KR KY KB KG KQ HX5 HR5 HY5 HB5 HQ5
  have cX_0_6 := HX6.out.cell 0 rfl
  have cX_1_6 := HX6.out.cell 1 rfl
  have cX_2_6 := HX6.out.cell 2 rfl
  have cX_3_6 := HX6.out.cell 3 rfl
  have cX_4_6 := HX6.out.cell 4 rfl
  have cX_5_6 := HX6.out.cell 5 rfl
  have cX_6_6 := HX6.out.cell 6 rfl
  have cX_7_6 := HX6.out.cell 7 rfl
  have cX_8_6 := HX6.out.cell 8 rfl
  have cX_9_6 := HX6.out.cell 9 rfl
  have cX_10_6 := HX6.out.cell 10 rfl
  have cR_0_6 := HR6.out.cell 0 rfl
  have cR_1_6 := HR6.out.cell 1 rfl
  have cR_2_6 := HR6.out.cell 2 rfl
  have cR_3_6 := HR6.out.cell 3 rfl
  have cR_4_6 := HR6.out.cell 4 rfl
  have cR_5_6 := HR6.out.cell 5 rfl
  have cR_6_6 := HR6.out.cell 6 rfl
  have cR_7_6 := HR6.out.cell 7 rfl
  have cR_8_6 := HR6.out.cell 8 rfl
  have cR_9_6 := HR6.out.cell 9 rfl
  have cR_10_6 := HR6.out.cell 10 rfl
  have cY_0_6 := HY6.out.cell 0 rfl
  have cY_1_6 := HY6.out.cell 1 rfl
  have cY_2_6 := HY6.out.cell 2 rfl
  have cY_3_6 := HY6.out.cell 3 rfl
  have cY_4_6 := HY6.out.cell 4 rfl
  have cY_5_6 := HY6.out.cell 5 rfl
  have cY_6_6 := HY6.out.cell 6 rfl
  have cY_7_6 := HY6.out.cell 7 rfl
  have cY_8_6 := HY6.out.cell 8 rfl
  have cY_9_6 := HY6.out.cell 9 rfl
  have cY_10_6 := HY6.out.cell 10 rfl
  have zR_6 := fun j => HR6.out.frozen j
  have KX := (((((((((((HX6.out.other 0 (.int .i64 v) (show w.heap.size ≠ (w.heap.size + 1) by omega)).other 1 (.int .i64 dh) (show w.heap.size ≠ (w.heap.size + 1) by omega)).other 2 (.int .i64 dr) (show w.heap.size ≠ (w.heap.size + 1) by omega)).other 3 (.int .i64 ds) (show w.heap.size ≠ (w.heap.size + 1) by omega)).other 4 (.string di) (show w.heap.size ≠ (w.heap.size + 1) by omega)).other 5 (.int .i64 dh) (show w.heap.size ≠ (w.heap.size + 1) by omega)).other 6 (.int .i64 dr) (show w.heap.size ≠ (w.heap.size + 1) by omega)).other 7 (.int .i64 ds) (show w.heap.size ≠ (w.heap.size + 1) by omega)).other 8 (.string di) (show w.heap.size ≠ (w.heap.size + 1) by omega)).other 9 (.bool false) (show w.heap.size ≠ (w.heap.size + 1) by omega)).other 10 (.slice qa o.length qc) (show w.heap.size ≠ (w.heap.size + 1) by omega))
  have KR := (((((((((((HR6.out.set 0 (.int .i64 v)).set 1 (.int .i64 dh)).set 2 (.int .i64 dr)).set 3 (.int .i64 ds)).set 4 (.string di)).set 5 (.int .i64 dh)).set 6 (.int .i64 dr)).set 7 (.int .i64 ds)).set 8 (.string di)).set 9 (.bool false)).set 10 (.slice qa o.length qc))
  have KY := (((((((((((HY6.out.other 0 (.int .i64 v) (show nY ≠ (w.heap.size + 1) by omega)).other 1 (.int .i64 dh) (show nY ≠ (w.heap.size + 1) by omega)).other 2 (.int .i64 dr) (show nY ≠ (w.heap.size + 1) by omega)).other 3 (.int .i64 ds) (show nY ≠ (w.heap.size + 1) by omega)).other 4 (.string di) (show nY ≠ (w.heap.size + 1) by omega)).other 5 (.int .i64 dh) (show nY ≠ (w.heap.size + 1) by omega)).other 6 (.int .i64 dr) (show nY ≠ (w.heap.size + 1) by omega)).other 7 (.int .i64 ds) (show nY ≠ (w.heap.size + 1) by omega)).other 8 (.string di) (show nY ≠ (w.heap.size + 1) by omega)).other 9 (.bool false) (show nY ≠ (w.heap.size + 1) by omega)).other 10 (.slice qa o.length qc) (show nY ≠ (w.heap.size + 1) by omega))
  have KB := (((((((((((HB6.out.setCell (p := ⟨(w.heap.size + 1), 0, none⟩) (show w.heap.size ≤ (w.heap.size + 1) by omega) (.int .i64 v)).setCell (p := ⟨(w.heap.size + 1), 1, none⟩) (show w.heap.size ≤ (w.heap.size + 1) by omega) (.int .i64 dh)).setCell (p := ⟨(w.heap.size + 1), 2, none⟩) (show w.heap.size ≤ (w.heap.size + 1) by omega) (.int .i64 dr)).setCell (p := ⟨(w.heap.size + 1), 3, none⟩) (show w.heap.size ≤ (w.heap.size + 1) by omega) (.int .i64 ds)).setCell (p := ⟨(w.heap.size + 1), 4, none⟩) (show w.heap.size ≤ (w.heap.size + 1) by omega) (.string di)).setCell (p := ⟨(w.heap.size + 1), 5, none⟩) (show w.heap.size ≤ (w.heap.size + 1) by omega) (.int .i64 dh)).setCell (p := ⟨(w.heap.size + 1), 6, none⟩) (show w.heap.size ≤ (w.heap.size + 1) by omega) (.int .i64 dr)).setCell (p := ⟨(w.heap.size + 1), 7, none⟩) (show w.heap.size ≤ (w.heap.size + 1) by omega) (.int .i64 ds)).setCell (p := ⟨(w.heap.size + 1), 8, none⟩) (show w.heap.size ≤ (w.heap.size + 1) by omega) (.string di)).setCell (p := ⟨(w.heap.size + 1), 9, none⟩) (show w.heap.size ≤ (w.heap.size + 1) by omega) (.bool false)).setCell (p := ⟨(w.heap.size + 1), 10, none⟩) (show w.heap.size ≤ (w.heap.size + 1) by omega) (.slice qa o.length qc))
  have KG : Hid (w6.grownBy (((((((((((w6.setCell ⟨(w.heap.size + 1), 0, none⟩ (.int .i64 v)).setCell ⟨(w.heap.size + 1), 1, none⟩ (.int .i64 dh)).setCell ⟨(w.heap.size + 1), 2, none⟩ (.int .i64 dr)).setCell ⟨(w.heap.size + 1), 3, none⟩ (.int .i64 ds)).setCell ⟨(w.heap.size + 1), 4, none⟩ (.string di)).setCell ⟨(w.heap.size + 1), 5, none⟩ (.int .i64 dh)).setCell ⟨(w.heap.size + 1), 6, none⟩ (.int .i64 dr)).setCell ⟨(w.heap.size + 1), 7, none⟩ (.int .i64 ds)).setCell ⟨(w.heap.size + 1), 8, none⟩ (.string di)).setCell ⟨(w.heap.size + 1), 9, none⟩ (.bool false)).setCell ⟨(w.heap.size + 1), 10, none⟩ (.slice qa o.length qc)) (some (w.heap.size + 1))) := grown_set (grown_set (grown_set (grown_set (grown_set (grown_set (grown_set (grown_set (grown_set (grown_set (grown_set (grown_refl _ _) _) _) _) _) _) _) _) _) _) _) _
  have KQ : Hid (OwnY (((((((((((w6.setCell ⟨(w.heap.size + 1), 0, none⟩ (.int .i64 v)).setCell ⟨(w.heap.size + 1), 1, none⟩ (.int .i64 dh)).setCell ⟨(w.heap.size + 1), 2, none⟩ (.int .i64 dr)).setCell ⟨(w.heap.size + 1), 3, none⟩ (.int .i64 ds)).setCell ⟨(w.heap.size + 1), 4, none⟩ (.string di)).setCell ⟨(w.heap.size + 1), 5, none⟩ (.int .i64 dh)).setCell ⟨(w.heap.size + 1), 6, none⟩ (.int .i64 dr)).setCell ⟨(w.heap.size + 1), 7, none⟩ (.int .i64 ds)).setCell ⟨(w.heap.size + 1), 8, none⟩ (.string di)).setCell ⟨(w.heap.size + 1), 9, none⟩ (.bool false)).setCell ⟨(w.heap.size + 1), 10, none⟩ (.slice qa o.length qc)) w.heap.size (.slice qa o.length qc) o) := own_aside HQ6.out KG.out HR6.out
  go_wp2_with fail
  clear cX_0_6 cX_1_6 cX_2_6 cX_3_6 cX_4_6 cX_5_6 cX_6_6 cX_7_6 cX_8_6 cX_9_6 cX_10_6 cR_0_6 cR_1_6 cR_2_6 cR_3_6 cR_4_6 cR_5_6 cR_6_6 cR_7_6 cR_8_6 cR_9_6 cR_10_6 cY_0_6 cY_1_6 cY_2_6 cY_3_6 cY_4_6 cY_5_6 cY_6_6 cY_7_6 cY_8_6 cY_9_6 cY_10_6 zR_6
  generalize ((((((((((((w6.setCell _ _).setCell _ _).setCell _ _).setCell _ _).setCell _ _).setCell _ _).setCell _ _).setCell _ _).setCell _ _).setCell _ _).setCell _ _) : World) = w7 at *
  have HX7 : Hid (Blk w7 w.heap.size [.int .i64 v, .int .i64 dh, .int .i64 dr, .int .i64 ds, .string di, .int .i64 mh, .int .i64 mr, .int .i64 ms, .string mi, .bool p, .slice a o.length cap] 29) := KX
  have HR7 : Hid (Blk w7 (w.heap.size + 1) [.int .i64 v, .int .i64 dh, .int .i64 dr, .int .i64 ds, .string di, .int .i64 dh, .int .i64 dr, .int .i64 ds, .string di, .bool false, .slice qa o.length qc] 29) := KR
  have HY7 : Hid (Blk w7 nY [.int .i64 v, .int .i64 dh, .int .i64 dr, .int .i64 ds, .string di, .int .i64 dh, .int .i64 dr, .int .i64 ds, .string di, .bool false, .slice qa o.length qc] 29) := KY
  have HQ7 : Hid (OwnY w7 w.heap.size (.slice qa o.length qc) o) := KQ
  have HB7 : Hid (Below w.heap.size w w7) := KB
  clear KX KR KY KB KG KQ HX6 HR6 HY6 HB6 HQ6
  have y0 := HR7.out.cell 0 rfl
  have y1 := HR7.out.cell 1 rfl
  have y2 := HR7.out.cell 2 rfl
  have y3 := HR7.out.cell 3 rfl
  have y4 := HR7.out.cell 4 rfl
  have y5 := HR7.out.cell 5 rfl
  have y6 := HR7.out.cell 6 rfl
  have y7 := HR7.out.cell 7 rfl
  have y8 := HR7.out.cell 8 rfl
  have y9 := HR7.out.cell 9 rfl
  have y10 := HR7.out.cell 10 rfl
  refine bodyPost_ret (v := .tuple #[.agg #[.int .i64 v, .int .i64 dh, .int .i64 dr, .int .i64 ds, .string di, .int .i64 dh, .int .i64 dr, .int .i64 ds, .string di, .bool false, .slice qa o.length qc], .bool true]) (by simp [results, Try.results36, go_sem, y0, y1, y2, y3, y4, y5, y6, y7, y8, y9, y10]) rfl ⟨_, _, rfl, HQ7.out, HB7.out⟩
theorem spec_sync (x : Sg) (a : Option Addr) (cap : Nat) (w : World) (hl : YO w a x.o) (hz : a = none → cap = 0) (hlen : x.o.length ≤ 9223372036854775807) :
    Calls Try.prog 35 #[sV x a cap] w fun e w' => ∃ qa qc, e = .returned (.tuple #[sQ (synS x).1 (.slice qa (synS x).1.o.length qc), .bool (synS x).2]) ∧ Hid (OwnY w' w.heap.size (.slice qa (synS x).1.o.length qc) (synS x).1.o) ∧ Below w.heap.size w w' := by
  cases hs : sOk x
  · have e : synS x = (zSg, false) := by unfold synS; rw [hs]; rfl
    rw [e]; exact ssync_no x a cap w hl hz hlen hs
  · cases hp : x.p
    · have e : synS x = (x, false) := by unfold synS; rw [hs, hp]; rfl
      rw [e]; exact ssync_np x a cap w hl hz hlen hs hp
    · by_cases h60 : x.o.length < 60
      · have e : synS x = (⟨x.v, x.m, x.m, false, x.o ++ [gvo x.m x.v]⟩, true) := by unfold synS synO; rw [hs, hp, if_pos h60]; rfl
        rw [e]; exact ssync_room x a cap w hl hz hlen hs hp h60
      · have e : synS x = (⟨x.v, x.m, x.m, false, x.o⟩, true) := by unfold synS synO; rw [hs, hp, if_neg h60]; rfl
        rw [e]; exact ssync_full x a cap w hl hz hlen hs hp h60
theorem spec_fall (x : Sg) (a : Option Addr) (cap : Nat) (w : World) (hl : YO w a x.o) (hz : a = none → cap = 0) (hlen : x.o.length ≤ 9223372036854775807) :
    Calls Try.prog 36 #[sV x a cap] w fun e w' => ∃ qa qc, e = .returned (.tuple #[sQ (fallS x).1 (.slice qa (fallS x).1.o.length qc), .bool (fallS x).2]) ∧ Hid (OwnY w' w.heap.size (.slice qa (fallS x).1.o.length qc) (fallS x).1.o) ∧ Below w.heap.size w w' := by
  cases hs : sOk x
  · have e : fallS x = (zSg, false) := by unfold fallS; rw [hs]; rfl
    rw [e]; exact sfall_no x a cap w hl hz hlen hs
  · have e : fallS x = (⟨x.v, x.d, x.d, false, x.o⟩, true) := by unfold fallS; rw [hs]; rfl
    rw [e]; exact sfall_yes x a cap w hl hz hlen hs
end Go.Proofs.Ytmjlpdmdpagggaa
