/- What impl.SignSync and impl.SignFall answer, in a row of its own; old memory stays. Conditions: a row that a machine can hold. -/
import Derived.Test.YtmjlpdmdpagggaaSa
import Derived.Test.YtmjlpdmdpagggaaSo
namespace Go.Proofs.Ytmjlpdmdpagggaa
open Go.RowKit
open Num
set_option linter.unusedVariables false
theorem gOk_sm {g : Gt} (h : gOk g = true) : g.i.size ≤ 1048576 := by
  unfold gOk at h
  rcases Bool.or_eq_true_iff.1 h with h | h
  · rw [geB_iff.1 h]; show (0 : Nat) ≤ 1048576; omega
  · have := ((voB_iff _).1 h).2.2.2.1
    show (gvo g 1).i.size ≤ 1048576
    omega
theorem sOk_sm {x : Sg} (h : sOk x = true) : SmS x ∧ x.o.length ≤ 60 := by
  have h60 := sOk_len h
  unfold sOk at h
  simp only [Bool.and_eq_true] at h
  refine ⟨⟨gOk_sm h.2.1, gOk_sm h.2.2.1, fun y hy => ?_⟩, h60⟩
  have h1 := List.all_eq_true.1 h.2.2.2.2.2.2 y hy
  unfold outB at h1
  simp only [Bool.and_eq_true] at h1
  have := ((voB_iff _).1 h1.1).2.2.2.1
  unfold SmV; omega
theorem infoD : ∃ i, Try.prog.info? 95 = some i ∧ i.zero = some .nilIface ∧ i.size = 1 ∧ i.bytes = 16 :=
  info_parts (by kernel_rfl)
theorem dat_one {w : World} {n : Nat} {d : Deed} (h : Blk w n [dV d] 95) : DAt w (some ⟨n, 0, none⟩) [d] :=
  .inr ⟨n, rfl, h.lt, fun j hj => by
    have : j = 0 := by simp at hj; omega
    subst this; exact h.cell 0 rfl⟩
theorem own_d1 {w : World} {n : Nat} {d : Deed} (h : Blk w n [dV d] 95) : w.ownsRow n 95 1 (.slice (some ⟨n, 0, none⟩) 1 1) 1 [dV d] :=
  ⟨rfl, .inr ⟨n, 1, #[dV d], rfl, Nat.le_refl _, h, Nat.le_refl _, by unfold maxLen; omega, rfl, rfl⟩⟩
theorem dat_two {w : World} {B n c : Nat} {da : Option Addr} {d e : Deed} (h : w.ownsRow B 95 1 (.slice da 2 c) 2 [dV d, dV e]) : DAt w da [d, e] := by
  have h' := h
  rcases h.2 with ⟨e0, hn⟩ | ⟨g, cap, cur, e0, hB, hg, hnc, hcm, _⟩
  · omega
  · simp only [Value.slice.injEq] at e0
    obtain ⟨rfl, _, rfl⟩ := e0
    refine .inr ⟨g, rfl, (Array.getElem?_eq_some_iff.1 hg).1, fun j hj => ?_⟩
    have hj2 : j < 2 := hj
    rw [h'.cellAt j (by omega)]
    rcases (show j = 0 ∨ j = 1 by omega) with rfl | rfl <;> rfl
theorem one_d (d : Deed) : (dV d).oneCell' = true := by cases d <;> rfl
set_option maxHeartbeats 12800000 in
set_option maxRecDepth 100000 in
theorem sync_no (x : Sg) (a : Option Addr) (cap : Nat) (w : World) (hl : YO w a x.o) (hz : a = none → cap = 0) (hfit : x.o.length ≤ cap ∧ cap ≤ 9223372036854775807) (hs : sOk x = false) :
    Calls Try.prog 16 #[sV x a cap] w fun e w' => ∃ qa qc, e = .returned (.tuple #[sQ zSg (.slice qa 0 qc), .bool false]) ∧ Hid (OwnY w' w.heap.size (.slice qa ([] : List Vt).length qc) ([] : List Vt)) ∧ Below w.heap.size w w' := by
  have HY : Hid (YO w a x.o) := hl
  have kS := fun W (h : YO W a x.o) => impl_sok x a cap W h (by omega)
  simp only [hs] at kS
  obtain ⟨v, ⟨dh, dr, ds, di⟩, ⟨mh, mr, ms, mi⟩, p, o⟩ := x
  unfold sV sQ at *
  simp only at *
  clear hl hs hfit
  obtain ⟨W0, hW0⟩ : ∃ W, (w.alloc (.cells #[.int .i64 v, .int .i64 dh, .int .i64 dr, .int .i64 ds, .string di, .int .i64 mh, .int .i64 mr, .int .i64 ms, .string mi, .bool p, .slice a o.length cap] 29)).alloc (.cells #[.int .i64 0, .int .i64 0, .int .i64 0, .int .i64 0, .string ⟨#[]⟩, .int .i64 0, .int .i64 0, .int .i64 0, .string ⟨#[]⟩, .bool false, .slice none 0 0] 29) = W := ⟨_, rfl⟩
  have HX0 : Hid (Blk W0 w.heap.size [.int .i64 v, .int .i64 dh, .int .i64 dr, .int .i64 ds, .string di, .int .i64 mh, .int .i64 mr, .int .i64 ms, .string mi, .bool p, .slice a o.length cap] 29) := by
    rw [← hW0]
    have hnew := blk_new (w) [.int .i64 v, .int .i64 dh, .int .i64 dr, .int .i64 ds, .string di, .int .i64 mh, .int .i64 mr, .int .i64 ms, .string mi, .bool p, .slice a o.length cap] 29
    exact (hnew.alloc _)
  have HR0 : Hid (Blk W0 (w.heap.size + 1) [.int .i64 0, .int .i64 0, .int .i64 0, .int .i64 0, .string ⟨#[]⟩, .int .i64 0, .int .i64 0, .int .i64 0, .string ⟨#[]⟩, .bool false, .slice none 0 0] 29) := by
    rw [← hW0]
    have hnew := blk_new (w.alloc (.cells #[.int .i64 v, .int .i64 dh, .int .i64 dr, .int .i64 ds, .string di, .int .i64 mh, .int .i64 mr, .int .i64 ms, .string mi, .bool p, .slice a o.length cap] 29)) [.int .i64 0, .int .i64 0, .int .i64 0, .int .i64 0, .string ⟨#[]⟩, .int .i64 0, .int .i64 0, .int .i64 0, .string ⟨#[]⟩, .bool false, .slice none 0 0] 29
    rw [show (w.alloc (.cells #[.int .i64 v, .int .i64 dh, .int .i64 dr, .int .i64 ds, .string di, .int .i64 mh, .int .i64 mr, .int .i64 ms, .string mi, .bool p, .slice a o.length cap] 29)).heap.size = w.heap.size + 1 from by simp] at hnew
    exact hnew
  have HB0 : Hid (Below w.heap.size w W0) := by rw [← hW0]; exact ((Below.refl w.heap.size w).alloc (Nat.le_refl _) _).alloc (by simp; try omega) _
  go_enter Try.func16, Try.ntmps16
  have cX_0_0 := HX0.out.cell 0 rfl
  have cX_1_0 := HX0.out.cell 1 rfl
  have cX_2_0 := HX0.out.cell 2 rfl
  have cX_3_0 := HX0.out.cell 3 rfl
  have cX_4_0 := HX0.out.cell 4 rfl
  have cX_5_0 := HX0.out.cell 5 rfl
  have cX_6_0 := HX0.out.cell 6 rfl
  have cX_7_0 := HX0.out.cell 7 rfl
  have cX_8_0 := HX0.out.cell 8 rfl
  have cX_9_0 := HX0.out.cell 9 rfl
  have cX_10_0 := HX0.out.cell 10 rfl
  go_wp2_with fail
  clear hW0 cX_0_0 cX_1_0 cX_2_0 cX_3_0 cX_4_0 cX_5_0 cX_6_0 cX_7_0 cX_8_0 cX_9_0 cX_10_0
  refine (kS _ (HY.out.below HB0.out)).mono ?_
  rintro e w1 ⟨rfl, bb⟩
  have HX1 : Hid (Blk w1 w.heap.size [.int .i64 v, .int .i64 dh, .int .i64 dr, .int .i64 ds, .string di, .int .i64 mh, .int .i64 mr, .int .i64 ms, .string mi, .bool p, .slice a o.length cap] 29) := HX0.out.below bb HX0.out.lt
  have HR1 : Hid (Blk w1 (w.heap.size + 1) [.int .i64 0, .int .i64 0, .int .i64 0, .int .i64 0, .string ⟨#[]⟩, .int .i64 0, .int .i64 0, .int .i64 0, .string ⟨#[]⟩, .bool false, .slice none 0 0] 29) := HR0.out.below bb HR0.out.lt
  have HB1 : Hid (Below w.heap.size w w1) := HB0.out.trans (bb.mono HB0.out.size)
  clear HX0 HR0 HB0
  clear bb
  clear kS
  have cR_0_1 := HR1.out.cell 0 rfl
  have cR_1_1 := HR1.out.cell 1 rfl
  have cR_2_1 := HR1.out.cell 2 rfl
  have cR_3_1 := HR1.out.cell 3 rfl
  have cR_4_1 := HR1.out.cell 4 rfl
  have cR_5_1 := HR1.out.cell 5 rfl
  have cR_6_1 := HR1.out.cell 6 rfl
  have cR_7_1 := HR1.out.cell 7 rfl
  have cR_8_1 := HR1.out.cell 8 rfl
  have cR_9_1 := HR1.out.cell 9 rfl
  have cR_10_1 := HR1.out.cell 10 rfl
  have zR_1 := fun j => HR1.out.frozen j
  have KX := (((((((((((HX1.out.other 0 (.int .i64 0) (show w.heap.size ≠ (w.heap.size + 1) by omega)).other 1 (.int .i64 0) (show w.heap.size ≠ (w.heap.size + 1) by omega)).other 2 (.int .i64 0) (show w.heap.size ≠ (w.heap.size + 1) by omega)).other 3 (.int .i64 0) (show w.heap.size ≠ (w.heap.size + 1) by omega)).other 4 (.string ⟨#[]⟩) (show w.heap.size ≠ (w.heap.size + 1) by omega)).other 5 (.int .i64 0) (show w.heap.size ≠ (w.heap.size + 1) by omega)).other 6 (.int .i64 0) (show w.heap.size ≠ (w.heap.size + 1) by omega)).other 7 (.int .i64 0) (show w.heap.size ≠ (w.heap.size + 1) by omega)).other 8 (.string ⟨#[]⟩) (show w.heap.size ≠ (w.heap.size + 1) by omega)).other 9 (.bool false) (show w.heap.size ≠ (w.heap.size + 1) by omega)).other 10 (.slice none 0 0) (show w.heap.size ≠ (w.heap.size + 1) by omega))
  have KR := (((((((((((HR1.out.set 0 (.int .i64 0)).set 1 (.int .i64 0)).set 2 (.int .i64 0)).set 3 (.int .i64 0)).set 4 (.string ⟨#[]⟩)).set 5 (.int .i64 0)).set 6 (.int .i64 0)).set 7 (.int .i64 0)).set 8 (.string ⟨#[]⟩)).set 9 (.bool false)).set 10 (.slice none 0 0))
  have KB := (((((((((((HB1.out.setCell (p := ⟨(w.heap.size + 1), 0, none⟩) (show w.heap.size ≤ (w.heap.size + 1) by omega) (.int .i64 0)).setCell (p := ⟨(w.heap.size + 1), 1, none⟩) (show w.heap.size ≤ (w.heap.size + 1) by omega) (.int .i64 0)).setCell (p := ⟨(w.heap.size + 1), 2, none⟩) (show w.heap.size ≤ (w.heap.size + 1) by omega) (.int .i64 0)).setCell (p := ⟨(w.heap.size + 1), 3, none⟩) (show w.heap.size ≤ (w.heap.size + 1) by omega) (.int .i64 0)).setCell (p := ⟨(w.heap.size + 1), 4, none⟩) (show w.heap.size ≤ (w.heap.size + 1) by omega) (.string ⟨#[]⟩)).setCell (p := ⟨(w.heap.size + 1), 5, none⟩) (show w.heap.size ≤ (w.heap.size + 1) by omega) (.int .i64 0)).setCell (p := ⟨(w.heap.size + 1), 6, none⟩) (show w.heap.size ≤ (w.heap.size + 1) by omega) (.int .i64 0)).setCell (p := ⟨(w.heap.size + 1), 7, none⟩) (show w.heap.size ≤ (w.heap.size + 1) by omega) (.int .i64 0)).setCell (p := ⟨(w.heap.size + 1), 8, none⟩) (show w.heap.size ≤ (w.heap.size + 1) by omega) (.string ⟨#[]⟩)).setCell (p := ⟨(w.heap.size + 1), 9, none⟩) (show w.heap.size ≤ (w.heap.size + 1) by omega) (.bool false)).setCell (p := ⟨(w.heap.size + 1), 10, none⟩) (show w.heap.size ≤ (w.heap.size + 1) by omega) (.slice none 0 0))
  go_wp2_with fail
  clear cR_0_1 cR_1_1 cR_2_1 cR_3_1 cR_4_1 cR_5_1 cR_6_1 cR_7_1 cR_8_1 cR_9_1 cR_10_1 zR_1
  generalize ((((((((((((w1.setCell _ _).setCell _ _).setCell _ _).setCell _ _).setCell _ _).setCell _ _).setCell _ _).setCell _ _).setCell _ _).setCell _ _).setCell _ _) : World) = w2 at *
  have HX2 : Hid (Blk w2 w.heap.size [.int .i64 v, .int .i64 dh, .int .i64 dr, .int .i64 ds, .string di, .int .i64 mh, .int .i64 mr, .int .i64 ms, .string mi, .bool p, .slice a o.length cap] 29) := KX
  have HR2 : Hid (Blk w2 (w.heap.size + 1) [.int .i64 0, .int .i64 0, .int .i64 0, .int .i64 0, .string ⟨#[]⟩, .int .i64 0, .int .i64 0, .int .i64 0, .string ⟨#[]⟩, .bool false, .slice none 0 0] 29) := KR
  have HB2 : Hid (Below w.heap.size w w2) := KB
  clear KX KR KB HX1 HR1 HB1
  have y0 := HR2.out.cell 0 rfl
  have y1 := HR2.out.cell 1 rfl
  have y2 := HR2.out.cell 2 rfl
  have y3 := HR2.out.cell 3 rfl
  have y4 := HR2.out.cell 4 rfl
  have y5 := HR2.out.cell 5 rfl
  have y6 := HR2.out.cell 6 rfl
  have y7 := HR2.out.cell 7 rfl
  have y8 := HR2.out.cell 8 rfl
  have y9 := HR2.out.cell 9 rfl
  have y10 := HR2.out.cell 10 rfl
  refine bodyPost_ret (v := .tuple #[.agg #[.int .i64 0, .int .i64 0, .int .i64 0, .int .i64 0, .string ⟨#[]⟩, .int .i64 0, .int .i64 0, .int .i64 0, .string ⟨#[]⟩, .bool false, .slice none 0 0], .bool false]) (by simp [results, Try.results16, go_sem, y0, y1, y2, y3, y4, y5, y6, y7, y8, y9, y10]) rfl ⟨none, 0, rfl, OwnY.nil _ _, HB2.out⟩
set_option maxHeartbeats 12800000 in
set_option maxRecDepth 100000 in
theorem sync_np (x : Sg) (a : Option Addr) (cap : Nat) (w : World) (hl : YO w a x.o) (hz : a = none → cap = 0) (hfit : x.o.length ≤ cap ∧ cap ≤ 9223372036854775807) (hs : sOk x = true) (hp : x.p = false) :
    Calls Try.prog 16 #[sV x a cap] w fun e w' => ∃ qa qc, e = .returned (.tuple #[sQ x (.slice qa x.o.length qc), .bool false]) ∧ Hid (OwnY w' w.heap.size (.slice qa x.o.length qc) x.o) ∧ Below w.heap.size w w' := by
  have HY : Hid (YO w a x.o) := hl
  have kS := fun W (h : YO W a x.o) => impl_sok x a cap W h (by omega)
  have HSM : Hid (SmS x ∧ x.o.length ≤ 60) := sOk_sm hs
  simp only [hs] at kS
  obtain ⟨v, ⟨dh, dr, ds, di⟩, ⟨mh, mr, ms, mi⟩, p, o⟩ := x
  unfold sV sQ at *
  simp only at *
  subst hp
  have hlo : o.length ≤ 60 := HSM.out.2
  have hacts : acts ⟨v, ⟨dh, dr, ds, di⟩, ⟨mh, mr, ms, mi⟩, false, o⟩ [] = ⟨v, ⟨dh, dr, ds, di⟩, ⟨mh, mr, ms, mi⟩, false, o⟩ := rfl
  have kA : ∀ (W : World) (hY : YO W a o), Calls Try.prog 38 #[.agg #[.int .i64 v, .int .i64 dh, .int .i64 dr, .int .i64 ds, .string di, .int .i64 mh, .int .i64 mr, .int .i64 ms, .string mi, .bool false, .slice a o.length cap], .slice none 0 0] W fun e w' => ∃ qa qc, e = .returned (.agg #[.int .i64 v, .int .i64 dh, .int .i64 dr, .int .i64 ds, .string di, .int .i64 mh, .int .i64 mr, .int .i64 ms, .string mi, .bool false, .slice qa o.length qc]) ∧ Hid (OwnY w' W.heap.size (.slice qa o.length qc) o) ∧ Below W.heap.size W w' := by
    intro W hY
    have h := after_any ⟨v, ⟨dh, dr, ds, di⟩, ⟨mh, mr, ms, mi⟩, false, o⟩ a cap none [] 0 W hY hz hfit (by simp only; omega) (.inl rfl) (show 0 ≤ 1000 by omega) HSM.out.1 (fun d h => by cases h)
    rw [hacts] at h
    exact h
  clear hacts
  clear hl hs hfit HSM
  obtain ⟨W0, hW0⟩ : ∃ W, (w.alloc (.cells #[.int .i64 v, .int .i64 dh, .int .i64 dr, .int .i64 ds, .string di, .int .i64 mh, .int .i64 mr, .int .i64 ms, .string mi, .bool false, .slice a o.length cap] 29)).alloc (.cells #[.int .i64 0, .int .i64 0, .int .i64 0, .int .i64 0, .string ⟨#[]⟩, .int .i64 0, .int .i64 0, .int .i64 0, .string ⟨#[]⟩, .bool false, .slice none 0 0] 29) = W := ⟨_, rfl⟩
  have HX0 : Hid (Blk W0 w.heap.size [.int .i64 v, .int .i64 dh, .int .i64 dr, .int .i64 ds, .string di, .int .i64 mh, .int .i64 mr, .int .i64 ms, .string mi, .bool false, .slice a o.length cap] 29) := by
    rw [← hW0]
    have hnew := blk_new (w) [.int .i64 v, .int .i64 dh, .int .i64 dr, .int .i64 ds, .string di, .int .i64 mh, .int .i64 mr, .int .i64 ms, .string mi, .bool false, .slice a o.length cap] 29
    exact (hnew.alloc _)
  have HR0 : Hid (Blk W0 (w.heap.size + 1) [.int .i64 0, .int .i64 0, .int .i64 0, .int .i64 0, .string ⟨#[]⟩, .int .i64 0, .int .i64 0, .int .i64 0, .string ⟨#[]⟩, .bool false, .slice none 0 0] 29) := by
    rw [← hW0]
    have hnew := blk_new (w.alloc (.cells #[.int .i64 v, .int .i64 dh, .int .i64 dr, .int .i64 ds, .string di, .int .i64 mh, .int .i64 mr, .int .i64 ms, .string mi, .bool false, .slice a o.length cap] 29)) [.int .i64 0, .int .i64 0, .int .i64 0, .int .i64 0, .string ⟨#[]⟩, .int .i64 0, .int .i64 0, .int .i64 0, .string ⟨#[]⟩, .bool false, .slice none 0 0] 29
    rw [show (w.alloc (.cells #[.int .i64 v, .int .i64 dh, .int .i64 dr, .int .i64 ds, .string di, .int .i64 mh, .int .i64 mr, .int .i64 ms, .string mi, .bool false, .slice a o.length cap] 29)).heap.size = w.heap.size + 1 from by simp] at hnew
    exact hnew
  have HB0 : Hid (Below w.heap.size w W0) := by rw [← hW0]; exact ((Below.refl w.heap.size w).alloc (Nat.le_refl _) _).alloc (by simp; try omega) _
  go_enter Try.func16, Try.ntmps16
  have cX_0_0 := HX0.out.cell 0 rfl
  have cX_1_0 := HX0.out.cell 1 rfl
  have cX_2_0 := HX0.out.cell 2 rfl
  have cX_3_0 := HX0.out.cell 3 rfl
  have cX_4_0 := HX0.out.cell 4 rfl
  have cX_5_0 := HX0.out.cell 5 rfl
  have cX_6_0 := HX0.out.cell 6 rfl
  have cX_7_0 := HX0.out.cell 7 rfl
  have cX_8_0 := HX0.out.cell 8 rfl
  have cX_9_0 := HX0.out.cell 9 rfl
  have cX_10_0 := HX0.out.cell 10 rfl
  go_wp2_with fail
  clear hW0 cX_0_0 cX_1_0 cX_2_0 cX_3_0 cX_4_0 cX_5_0 cX_6_0 cX_7_0 cX_8_0 cX_9_0 cX_10_0
  refine (kS _ (HY.out.below HB0.out)).mono ?_
  rintro e w1 ⟨rfl, bb⟩
  have HX1 : Hid (Blk w1 w.heap.size [.int .i64 v, .int .i64 dh, .int .i64 dr, .int .i64 ds, .string di, .int .i64 mh, .int .i64 mr, .int .i64 ms, .string mi, .bool false, .slice a o.length cap] 29) := HX0.out.below bb HX0.out.lt
  have HR1 : Hid (Blk w1 (w.heap.size + 1) [.int .i64 0, .int .i64 0, .int .i64 0, .int .i64 0, .string ⟨#[]⟩, .int .i64 0, .int .i64 0, .int .i64 0, .string ⟨#[]⟩, .bool false, .slice none 0 0] 29) := HR0.out.below bb HR0.out.lt
  have HB1 : Hid (Below w.heap.size w w1) := HB0.out.trans (bb.mono HB0.out.size)
  clear HX0 HR0 HB0
  clear bb
  clear kS
  have cX_0_1 := HX1.out.cell 0 rfl
  have cX_1_1 := HX1.out.cell 1 rfl
  have cX_2_1 := HX1.out.cell 2 rfl
  have cX_3_1 := HX1.out.cell 3 rfl
  have cX_4_1 := HX1.out.cell 4 rfl
  have cX_5_1 := HX1.out.cell 5 rfl
  have cX_6_1 := HX1.out.cell 6 rfl
  have cX_7_1 := HX1.out.cell 7 rfl
  have cX_8_1 := HX1.out.cell 8 rfl
  have cX_9_1 := HX1.out.cell 9 rfl
  have cX_10_1 := HX1.out.cell 10 rfl
  go_wp2_with fail
  clear cX_0_1 cX_1_1 cX_2_1 cX_3_1 cX_4_1 cX_5_1 cX_6_1 cX_7_1 cX_8_1 cX_9_1 cX_10_1
  obtain ⟨NB, hNB⟩ : ∃ n, w1.heap.size = n := ⟨_, rfl⟩
  have HNB : Hid (w1.heap.size = NB) := hNB
  have hlt1 : w.heap.size + 1 < NB := by rw [← hNB]; exact HR1.out.lt
  clear hNB
  refine (kA _ (HY.out.below HB1.out)).mono ?_
  rintro e w2 ⟨qa, qc, rfl, HQ, bb⟩
  rw [HNB.out] at HQ
  have HQ0 : Hid (OwnY w2 NB (.slice qa o.length qc) o) := HQ
  clear HQ HNB
  have HX2 : Hid (Blk w2 w.heap.size [.int .i64 v, .int .i64 dh, .int .i64 dr, .int .i64 ds, .string di, .int .i64 mh, .int .i64 mr, .int .i64 ms, .string mi, .bool false, .slice a o.length cap] 29) := HX1.out.below bb HX1.out.lt
  have HR2 : Hid (Blk w2 (w.heap.size + 1) [.int .i64 0, .int .i64 0, .int .i64 0, .int .i64 0, .string ⟨#[]⟩, .int .i64 0, .int .i64 0, .int .i64 0, .string ⟨#[]⟩, .bool false, .slice none 0 0] 29) := HR1.out.below bb HR1.out.lt
  have HB2 : Hid (Below w.heap.size w w2) := HB1.out.trans (bb.mono HB1.out.size)
  clear HX1 HR1 HB1
  clear bb
  clear kA HY
  have cR_0_2 := HR2.out.cell 0 rfl
  have cR_1_2 := HR2.out.cell 1 rfl
  have cR_2_2 := HR2.out.cell 2 rfl
  have cR_3_2 := HR2.out.cell 3 rfl
  have cR_4_2 := HR2.out.cell 4 rfl
  have cR_5_2 := HR2.out.cell 5 rfl
  have cR_6_2 := HR2.out.cell 6 rfl
  have cR_7_2 := HR2.out.cell 7 rfl
  have cR_8_2 := HR2.out.cell 8 rfl
  have cR_9_2 := HR2.out.cell 9 rfl
  have cR_10_2 := HR2.out.cell 10 rfl
  have zR_2 := fun j => HR2.out.frozen j
  have KX := (((((((((((HX2.out.other 0 (.int .i64 v) (show w.heap.size ≠ (w.heap.size + 1) by omega)).other 1 (.int .i64 dh) (show w.heap.size ≠ (w.heap.size + 1) by omega)).other 2 (.int .i64 dr) (show w.heap.size ≠ (w.heap.size + 1) by omega)).other 3 (.int .i64 ds) (show w.heap.size ≠ (w.heap.size + 1) by omega)).other 4 (.string di) (show w.heap.size ≠ (w.heap.size + 1) by omega)).other 5 (.int .i64 mh) (show w.heap.size ≠ (w.heap.size + 1) by omega)).other 6 (.int .i64 mr) (show w.heap.size ≠ (w.heap.size + 1) by omega)).other 7 (.int .i64 ms) (show w.heap.size ≠ (w.heap.size + 1) by omega)).other 8 (.string mi) (show w.heap.size ≠ (w.heap.size + 1) by omega)).other 9 (.bool false) (show w.heap.size ≠ (w.heap.size + 1) by omega)).other 10 (.slice qa o.length qc) (show w.heap.size ≠ (w.heap.size + 1) by omega))
  have KR := (((((((((((HR2.out.set 0 (.int .i64 v)).set 1 (.int .i64 dh)).set 2 (.int .i64 dr)).set 3 (.int .i64 ds)).set 4 (.string di)).set 5 (.int .i64 mh)).set 6 (.int .i64 mr)).set 7 (.int .i64 ms)).set 8 (.string mi)).set 9 (.bool false)).set 10 (.slice qa o.length qc))
  have KB := (((((((((((HB2.out.setCell (p := ⟨(w.heap.size + 1), 0, none⟩) (show w.heap.size ≤ (w.heap.size + 1) by omega) (.int .i64 v)).setCell (p := ⟨(w.heap.size + 1), 1, none⟩) (show w.heap.size ≤ (w.heap.size + 1) by omega) (.int .i64 dh)).setCell (p := ⟨(w.heap.size + 1), 2, none⟩) (show w.heap.size ≤ (w.heap.size + 1) by omega) (.int .i64 dr)).setCell (p := ⟨(w.heap.size + 1), 3, none⟩) (show w.heap.size ≤ (w.heap.size + 1) by omega) (.int .i64 ds)).setCell (p := ⟨(w.heap.size + 1), 4, none⟩) (show w.heap.size ≤ (w.heap.size + 1) by omega) (.string di)).setCell (p := ⟨(w.heap.size + 1), 5, none⟩) (show w.heap.size ≤ (w.heap.size + 1) by omega) (.int .i64 mh)).setCell (p := ⟨(w.heap.size + 1), 6, none⟩) (show w.heap.size ≤ (w.heap.size + 1) by omega) (.int .i64 mr)).setCell (p := ⟨(w.heap.size + 1), 7, none⟩) (show w.heap.size ≤ (w.heap.size + 1) by omega) (.int .i64 ms)).setCell (p := ⟨(w.heap.size + 1), 8, none⟩) (show w.heap.size ≤ (w.heap.size + 1) by omega) (.string mi)).setCell (p := ⟨(w.heap.size + 1), 9, none⟩) (show w.heap.size ≤ (w.heap.size + 1) by omega) (.bool false)).setCell (p := ⟨(w.heap.size + 1), 10, none⟩) (show w.heap.size ≤ (w.heap.size + 1) by omega) (.slice qa o.length qc))
  have KG : Hid (w2.grownBy (((((((((((w2.setCell ⟨(w.heap.size + 1), 0, none⟩ (.int .i64 v)).setCell ⟨(w.heap.size + 1), 1, none⟩ (.int .i64 dh)).setCell ⟨(w.heap.size + 1), 2, none⟩ (.int .i64 dr)).setCell ⟨(w.heap.size + 1), 3, none⟩ (.int .i64 ds)).setCell ⟨(w.heap.size + 1), 4, none⟩ (.string di)).setCell ⟨(w.heap.size + 1), 5, none⟩ (.int .i64 mh)).setCell ⟨(w.heap.size + 1), 6, none⟩ (.int .i64 mr)).setCell ⟨(w.heap.size + 1), 7, none⟩ (.int .i64 ms)).setCell ⟨(w.heap.size + 1), 8, none⟩ (.string mi)).setCell ⟨(w.heap.size + 1), 9, none⟩ (.bool false)).setCell ⟨(w.heap.size + 1), 10, none⟩ (.slice qa o.length qc)) (some (w.heap.size + 1))) := grown_set (grown_set (grown_set (grown_set (grown_set (grown_set (grown_set (grown_set (grown_set (grown_set (grown_set (grown_refl _ _) _) _) _) _) _) _) _) _) _) _) _
  have KQ : Hid (OwnY (((((((((((w2.setCell ⟨(w.heap.size + 1), 0, none⟩ (.int .i64 v)).setCell ⟨(w.heap.size + 1), 1, none⟩ (.int .i64 dh)).setCell ⟨(w.heap.size + 1), 2, none⟩ (.int .i64 dr)).setCell ⟨(w.heap.size + 1), 3, none⟩ (.int .i64 ds)).setCell ⟨(w.heap.size + 1), 4, none⟩ (.string di)).setCell ⟨(w.heap.size + 1), 5, none⟩ (.int .i64 mh)).setCell ⟨(w.heap.size + 1), 6, none⟩ (.int .i64 mr)).setCell ⟨(w.heap.size + 1), 7, none⟩ (.int .i64 ms)).setCell ⟨(w.heap.size + 1), 8, none⟩ (.string mi)).setCell ⟨(w.heap.size + 1), 9, none⟩ (.bool false)).setCell ⟨(w.heap.size + 1), 10, none⟩ (.slice qa o.length qc)) NB (.slice qa o.length qc) o) := own_still HQ0.out KG.out (fun j e => by injection e with e; omega)
  go_wp2_with fail
  clear cR_0_2 cR_1_2 cR_2_2 cR_3_2 cR_4_2 cR_5_2 cR_6_2 cR_7_2 cR_8_2 cR_9_2 cR_10_2 zR_2
  generalize ((((((((((((w2.setCell _ _).setCell _ _).setCell _ _).setCell _ _).setCell _ _).setCell _ _).setCell _ _).setCell _ _).setCell _ _).setCell _ _).setCell _ _) : World) = w3 at *
  have HX3 : Hid (Blk w3 w.heap.size [.int .i64 v, .int .i64 dh, .int .i64 dr, .int .i64 ds, .string di, .int .i64 mh, .int .i64 mr, .int .i64 ms, .string mi, .bool false, .slice a o.length cap] 29) := KX
  have HR3 : Hid (Blk w3 (w.heap.size + 1) [.int .i64 v, .int .i64 dh, .int .i64 dr, .int .i64 ds, .string di, .int .i64 mh, .int .i64 mr, .int .i64 ms, .string mi, .bool false, .slice qa o.length qc] 29) := KR
  have HQ3 : Hid (OwnY w3 NB (.slice qa o.length qc) o) := KQ
  have HB3 : Hid (Below w.heap.size w w3) := KB
  clear KX KR KB KG KQ HX2 HR2 HB2 HQ0
  have y0 := HR3.out.cell 0 rfl
  have y1 := HR3.out.cell 1 rfl
  have y2 := HR3.out.cell 2 rfl
  have y3 := HR3.out.cell 3 rfl
  have y4 := HR3.out.cell 4 rfl
  have y5 := HR3.out.cell 5 rfl
  have y6 := HR3.out.cell 6 rfl
  have y7 := HR3.out.cell 7 rfl
  have y8 := HR3.out.cell 8 rfl
  have y9 := HR3.out.cell 9 rfl
  have y10 := HR3.out.cell 10 rfl
  refine bodyPost_ret (v := .tuple #[.agg #[.int .i64 v, .int .i64 dh, .int .i64 dr, .int .i64 ds, .string di, .int .i64 mh, .int .i64 mr, .int .i64 ms, .string mi, .bool false, .slice qa o.length qc], .bool false]) (by simp [results, Try.results16, go_sem, y0, y1, y2, y3, y4, y5, y6, y7, y8, y9, y10]) rfl ⟨_, _, rfl, own_less HQ3.out (by omega), HB3.out⟩
set_option maxHeartbeats 12800000 in
set_option maxRecDepth 100000 in
theorem sync_full (x : Sg) (a : Option Addr) (cap : Nat) (w : World) (hl : YO w a x.o) (hz : a = none → cap = 0) (hfit : x.o.length ≤ cap ∧ cap ≤ 9223372036854775807) (hs : sOk x = true) (hp : x.p = true) (h60 : ¬ x.o.length < 60) :
    Calls Try.prog 16 #[sV x a cap] w fun e w' => ∃ qa qc, e = .returned (.tuple #[sQ (⟨x.v, x.m, x.m, false, x.o⟩ : Sg) (.slice qa x.o.length qc), .bool true]) ∧ Hid (OwnY w' w.heap.size (.slice qa x.o.length qc) x.o) ∧ Below w.heap.size w w' := by
  have HY : Hid (YO w a x.o) := hl
  have kS := fun W (h : YO W a x.o) => impl_sok x a cap W h (by omega)
  have HSM : Hid (SmS x ∧ x.o.length ≤ 60) := sOk_sm hs
  simp only [hs] at kS
  obtain ⟨v, ⟨dh, dr, ds, di⟩, ⟨mh, mr, ms, mi⟩, p, o⟩ := x
  unfold sV sQ at *
  simp only at *
  subst hp
  have hlo : o.length ≤ 60 := HSM.out.2
  have hacts : acts ⟨v, ⟨dh, dr, ds, di⟩, ⟨mh, mr, ms, mi⟩, true, o⟩ [.sync] = ⟨v, ⟨mh, mr, ms, mi⟩, ⟨mh, mr, ms, mi⟩, false, o⟩ := rfl
  have kA : ∀ (W : World) (hY : YO W a o) (nD : Nat) (hd : DAt W (some ⟨nD, 0, none⟩) [.sync]), Calls Try.prog 38 #[.agg #[.int .i64 v, .int .i64 dh, .int .i64 dr, .int .i64 ds, .string di, .int .i64 mh, .int .i64 mr, .int .i64 ms, .string mi, .bool true, .slice a o.length cap], .slice (some ⟨nD, 0, none⟩) 1 1] W fun e w' => ∃ qa qc, e = .returned (.agg #[.int .i64 v, .int .i64 mh, .int .i64 mr, .int .i64 ms, .string mi, .int .i64 mh, .int .i64 mr, .int .i64 ms, .string mi, .bool false, .slice qa o.length qc]) ∧ Hid (OwnY w' W.heap.size (.slice qa o.length qc) o) ∧ Below W.heap.size W w' := by
    intro W hY nD hd
    have h := after_any ⟨v, ⟨dh, dr, ds, di⟩, ⟨mh, mr, ms, mi⟩, true, o⟩ a cap (some ⟨nD, 0, none⟩) [.sync] 1 W hY hz hfit (by simp only; omega) hd (show 1 ≤ 1000 by omega) HSM.out.1 (fun d h => by rw [List.mem_singleton.1 h]; trivial)
    rw [hacts] at h
    exact h
  clear hacts
  have kF : ∀ W, Calls Try.prog 39 #[.agg #[.int .i64 v, .int .i64 dh, .int .i64 dr, .int .i64 ds, .string di, .int .i64 mh, .int .i64 mr, .int .i64 ms, .string mi, .bool true, .slice a o.length cap]] W fun e w' => e = .returned (.bool true) ∧ Below W.heap.size W w' := fun W => (impl_full ⟨v, ⟨dh, dr, ds, di⟩, ⟨mh, mr, ms, mi⟩, true, o⟩ a cap W (by simp only; omega)).mono (fun e w' h => ⟨by rw [h.1, decide_eq_true (show 60 ≤ o.length by omega)], h.2⟩)
  clear hl hs hfit HSM
  obtain ⟨W0, hW0⟩ : ∃ W, (w.alloc (.cells #[.int .i64 v, .int .i64 dh, .int .i64 dr, .int .i64 ds, .string di, .int .i64 mh, .int .i64 mr, .int .i64 ms, .string mi, .bool true, .slice a o.length cap] 29)).alloc (.cells #[.int .i64 0, .int .i64 0, .int .i64 0, .int .i64 0, .string ⟨#[]⟩, .int .i64 0, .int .i64 0, .int .i64 0, .string ⟨#[]⟩, .bool false, .slice none 0 0] 29) = W := ⟨_, rfl⟩
  have HX0 : Hid (Blk W0 w.heap.size [.int .i64 v, .int .i64 dh, .int .i64 dr, .int .i64 ds, .string di, .int .i64 mh, .int .i64 mr, .int .i64 ms, .string mi, .bool true, .slice a o.length cap] 29) := by
    rw [← hW0]
    have hnew := blk_new (w) [.int .i64 v, .int .i64 dh, .int .i64 dr, .int .i64 ds, .string di, .int .i64 mh, .int .i64 mr, .int .i64 ms, .string mi, .bool true, .slice a o.length cap] 29
    exact (hnew.alloc _)
  have HR0 : Hid (Blk W0 (w.heap.size + 1) [.int .i64 0, .int .i64 0, .int .i64 0, .int .i64 0, .string ⟨#[]⟩, .int .i64 0, .int .i64 0, .int .i64 0, .string ⟨#[]⟩, .bool false, .slice none 0 0] 29) := by
    rw [← hW0]
    have hnew := blk_new (w.alloc (.cells #[.int .i64 v, .int .i64 dh, .int .i64 dr, .int .i64 ds, .string di, .int .i64 mh, .int .i64 mr, .int .i64 ms, .string mi, .bool true, .slice a o.length cap] 29)) [.int .i64 0, .int .i64 0, .int .i64 0, .int .i64 0, .string ⟨#[]⟩, .int .i64 0, .int .i64 0, .int .i64 0, .string ⟨#[]⟩, .bool false, .slice none 0 0] 29
    rw [show (w.alloc (.cells #[.int .i64 v, .int .i64 dh, .int .i64 dr, .int .i64 ds, .string di, .int .i64 mh, .int .i64 mr, .int .i64 ms, .string mi, .bool true, .slice a o.length cap] 29)).heap.size = w.heap.size + 1 from by simp] at hnew
    exact hnew
  have HB0 : Hid (Below w.heap.size w W0) := by rw [← hW0]; exact ((Below.refl w.heap.size w).alloc (Nat.le_refl _) _).alloc (by simp; try omega) _
  go_enter Try.func16, Try.ntmps16
  have cX_0_0 := HX0.out.cell 0 rfl
  have cX_1_0 := HX0.out.cell 1 rfl
  have cX_2_0 := HX0.out.cell 2 rfl
  have cX_3_0 := HX0.out.cell 3 rfl
  have cX_4_0 := HX0.out.cell 4 rfl
  have cX_5_0 := HX0.out.cell 5 rfl
  have cX_6_0 := HX0.out.cell 6 rfl
  have cX_7_0 := HX0.out.cell 7 rfl
  have cX_8_0 := HX0.out.cell 8 rfl
  have cX_9_0 := HX0.out.cell 9 rfl
  have cX_10_0 := HX0.out.cell 10 rfl
  go_wp2_with fail
  clear hW0 cX_0_0 cX_1_0 cX_2_0 cX_3_0 cX_4_0 cX_5_0 cX_6_0 cX_7_0 cX_8_0 cX_9_0 cX_10_0
  refine (kS _ (HY.out.below HB0.out)).mono ?_
  rintro e w1 ⟨rfl, bb⟩
  have HX1 : Hid (Blk w1 w.heap.size [.int .i64 v, .int .i64 dh, .int .i64 dr, .int .i64 ds, .string di, .int .i64 mh, .int .i64 mr, .int .i64 ms, .string mi, .bool true, .slice a o.length cap] 29) := HX0.out.below bb HX0.out.lt
  have HR1 : Hid (Blk w1 (w.heap.size + 1) [.int .i64 0, .int .i64 0, .int .i64 0, .int .i64 0, .string ⟨#[]⟩, .int .i64 0, .int .i64 0, .int .i64 0, .string ⟨#[]⟩, .bool false, .slice none 0 0] 29) := HR0.out.below bb HR0.out.lt
  have HB1 : Hid (Below w.heap.size w w1) := HB0.out.trans (bb.mono HB0.out.size)
  clear HX0 HR0 HB0
  clear bb
  clear kS
  have cX_0_1 := HX1.out.cell 0 rfl
  have cX_1_1 := HX1.out.cell 1 rfl
  have cX_2_1 := HX1.out.cell 2 rfl
  have cX_3_1 := HX1.out.cell 3 rfl
  have cX_4_1 := HX1.out.cell 4 rfl
  have cX_5_1 := HX1.out.cell 5 rfl
  have cX_6_1 := HX1.out.cell 6 rfl
  have cX_7_1 := HX1.out.cell 7 rfl
  have cX_8_1 := HX1.out.cell 8 rfl
  have cX_9_1 := HX1.out.cell 9 rfl
  have cX_10_1 := HX1.out.cell 10 rfl
  obtain ⟨wa2, hwa2⟩ : ∃ W, w1.alloc (.cells #[.iface 69 (.agg #[])] 95) = W := ⟨_, rfl⟩
  obtain ⟨nD, hnD⟩ : ∃ n, w1.heap.size = n := ⟨_, rfl⟩
  have hnDX : w.heap.size < nD := by rw [← hnD]; exact HX1.out.lt
  have hnDR : (w.heap.size + 1) < nD := by rw [← hnD]; exact HR1.out.lt
  have HAnD : Hid (Below w1.heap.size w1 wa2) := by rw [← hwa2]; exact below_one _ _
  have HX2 : Hid (Blk wa2 w.heap.size [.int .i64 v, .int .i64 dh, .int .i64 dr, .int .i64 ds, .string di, .int .i64 mh, .int .i64 mr, .int .i64 ms, .string mi, .bool true, .slice a o.length cap] 29) := HX1.out.below HAnD.out HX1.out.lt
  have HR2 : Hid (Blk wa2 (w.heap.size + 1) [.int .i64 0, .int .i64 0, .int .i64 0, .int .i64 0, .string ⟨#[]⟩, .int .i64 0, .int .i64 0, .int .i64 0, .string ⟨#[]⟩, .bool false, .slice none 0 0] 29) := HR1.out.below HAnD.out HR1.out.lt
  have HB2 : Hid (Below w.heap.size w wa2) := HB1.out.trans (HAnD.out.mono HB1.out.size)
  have HD2 : Hid (Blk wa2 nD [.iface 69 (.agg #[])] 95) := by rw [← hwa2, ← hnD]; exact blk_new _ _ _
  clear HAnD HX1 HR1 HB1
  have cX_0_2 := HX2.out.cell 0 rfl
  have cX_1_2 := HX2.out.cell 1 rfl
  have cX_2_2 := HX2.out.cell 2 rfl
  have cX_3_2 := HX2.out.cell 3 rfl
  have cX_4_2 := HX2.out.cell 4 rfl
  have cX_5_2 := HX2.out.cell 5 rfl
  have cX_6_2 := HX2.out.cell 6 rfl
  have cX_7_2 := HX2.out.cell 7 rfl
  have cX_8_2 := HX2.out.cell 8 rfl
  have cX_9_2 := HX2.out.cell 9 rfl
  have cX_10_2 := HX2.out.cell 10 rfl
  go_wp2_with fail
  clear cX_0_1 cX_1_1 cX_2_1 cX_3_1 cX_4_1 cX_5_1 cX_6_1 cX_7_1 cX_8_1 cX_9_1 cX_10_1 hwa2 hnD cX_0_2 cX_1_2 cX_2_2 cX_3_2 cX_4_2 cX_5_2 cX_6_2 cX_7_2 cX_8_2 cX_9_2 cX_10_2
  refine (kF _).mono ?_
  rintro e w3 ⟨rfl, bb⟩
  have HX3 : Hid (Blk w3 w.heap.size [.int .i64 v, .int .i64 dh, .int .i64 dr, .int .i64 ds, .string di, .int .i64 mh, .int .i64 mr, .int .i64 ms, .string mi, .bool true, .slice a o.length cap] 29) := HX2.out.below bb HX2.out.lt
  have HR3 : Hid (Blk w3 (w.heap.size + 1) [.int .i64 0, .int .i64 0, .int .i64 0, .int .i64 0, .string ⟨#[]⟩, .int .i64 0, .int .i64 0, .int .i64 0, .string ⟨#[]⟩, .bool false, .slice none 0 0] 29) := HR2.out.below bb HR2.out.lt
  have HD3 : Hid (Blk w3 nD [.iface 69 (.agg #[])] 95) := HD2.out.below bb HD2.out.lt
  have HB3 : Hid (Below w.heap.size w w3) := HB2.out.trans (bb.mono HB2.out.size)
  clear HX2 HR2 HD2 HB2
  clear bb
  have cX_0_3 := HX3.out.cell 0 rfl
  have cX_1_3 := HX3.out.cell 1 rfl
  have cX_2_3 := HX3.out.cell 2 rfl
  have cX_3_3 := HX3.out.cell 3 rfl
  have cX_4_3 := HX3.out.cell 4 rfl
  have cX_5_3 := HX3.out.cell 5 rfl
  have cX_6_3 := HX3.out.cell 6 rfl
  have cX_7_3 := HX3.out.cell 7 rfl
  have cX_8_3 := HX3.out.cell 8 rfl
  have cX_9_3 := HX3.out.cell 9 rfl
  have cX_10_3 := HX3.out.cell 10 rfl
  go_wp2_with fail
  clear cX_0_3 cX_1_3 cX_2_3 cX_3_3 cX_4_3 cX_5_3 cX_6_3 cX_7_3 cX_8_3 cX_9_3 cX_10_3
  obtain ⟨NB, hNB⟩ : ∃ n, w3.heap.size = n := ⟨_, rfl⟩
  have HNB : Hid (w3.heap.size = NB) := hNB
  have hlt1 : w.heap.size + 1 < NB := by rw [← hNB]; exact HR3.out.lt
  clear hNB
  refine (kA _ (HY.out.below HB3.out) nD (dat_one HD3.out)).mono ?_
  rintro e w4 ⟨qa, qc, rfl, HQ, bb⟩
  rw [HNB.out] at HQ
  have HQ0 : Hid (OwnY w4 NB (.slice qa o.length qc) o) := HQ
  clear HQ HNB
  have HX4 : Hid (Blk w4 w.heap.size [.int .i64 v, .int .i64 dh, .int .i64 dr, .int .i64 ds, .string di, .int .i64 mh, .int .i64 mr, .int .i64 ms, .string mi, .bool true, .slice a o.length cap] 29) := HX3.out.below bb HX3.out.lt
  have HR4 : Hid (Blk w4 (w.heap.size + 1) [.int .i64 0, .int .i64 0, .int .i64 0, .int .i64 0, .string ⟨#[]⟩, .int .i64 0, .int .i64 0, .int .i64 0, .string ⟨#[]⟩, .bool false, .slice none 0 0] 29) := HR3.out.below bb HR3.out.lt
  have HD4 : Hid (Blk w4 nD [.iface 69 (.agg #[])] 95) := HD3.out.below bb HD3.out.lt
  have HB4 : Hid (Below w.heap.size w w4) := HB3.out.trans (bb.mono HB3.out.size)
  clear HX3 HR3 HD3 HB3
  clear bb
  clear kA HY
  have cR_0_4 := HR4.out.cell 0 rfl
  have cR_1_4 := HR4.out.cell 1 rfl
  have cR_2_4 := HR4.out.cell 2 rfl
  have cR_3_4 := HR4.out.cell 3 rfl
  have cR_4_4 := HR4.out.cell 4 rfl
  have cR_5_4 := HR4.out.cell 5 rfl
  have cR_6_4 := HR4.out.cell 6 rfl
  have cR_7_4 := HR4.out.cell 7 rfl
  have cR_8_4 := HR4.out.cell 8 rfl
  have cR_9_4 := HR4.out.cell 9 rfl
  have cR_10_4 := HR4.out.cell 10 rfl
  have zR_4 := fun j => HR4.out.frozen j
  have KX := (((((((((((HX4.out.other 0 (.int .i64 v) (show w.heap.size ≠ (w.heap.size + 1) by omega)).other 1 (.int .i64 mh) (show w.heap.size ≠ (w.heap.size + 1) by omega)).other 2 (.int .i64 mr) (show w.heap.size ≠ (w.heap.size + 1) by omega)).other 3 (.int .i64 ms) (show w.heap.size ≠ (w.heap.size + 1) by omega)).other 4 (.string mi) (show w.heap.size ≠ (w.heap.size + 1) by omega)).other 5 (.int .i64 mh) (show w.heap.size ≠ (w.heap.size + 1) by omega)).other 6 (.int .i64 mr) (show w.heap.size ≠ (w.heap.size + 1) by omega)).other 7 (.int .i64 ms) (show w.heap.size ≠ (w.heap.size + 1) by omega)).other 8 (.string mi) (show w.heap.size ≠ (w.heap.size + 1) by omega)).other 9 (.bool false) (show w.heap.size ≠ (w.heap.size + 1) by omega)).other 10 (.slice qa o.length qc) (show w.heap.size ≠ (w.heap.size + 1) by omega))
  have KR := (((((((((((HR4.out.set 0 (.int .i64 v)).set 1 (.int .i64 mh)).set 2 (.int .i64 mr)).set 3 (.int .i64 ms)).set 4 (.string mi)).set 5 (.int .i64 mh)).set 6 (.int .i64 mr)).set 7 (.int .i64 ms)).set 8 (.string mi)).set 9 (.bool false)).set 10 (.slice qa o.length qc))
  have KD := (((((((((((HD4.out.other 0 (.int .i64 v) (show nD ≠ (w.heap.size + 1) by omega)).other 1 (.int .i64 mh) (show nD ≠ (w.heap.size + 1) by omega)).other 2 (.int .i64 mr) (show nD ≠ (w.heap.size + 1) by omega)).other 3 (.int .i64 ms) (show nD ≠ (w.heap.size + 1) by omega)).other 4 (.string mi) (show nD ≠ (w.heap.size + 1) by omega)).other 5 (.int .i64 mh) (show nD ≠ (w.heap.size + 1) by omega)).other 6 (.int .i64 mr) (show nD ≠ (w.heap.size + 1) by omega)).other 7 (.int .i64 ms) (show nD ≠ (w.heap.size + 1) by omega)).other 8 (.string mi) (show nD ≠ (w.heap.size + 1) by omega)).other 9 (.bool false) (show nD ≠ (w.heap.size + 1) by omega)).other 10 (.slice qa o.length qc) (show nD ≠ (w.heap.size + 1) by omega))
  have KB := (((((((((((HB4.out.setCell (p := ⟨(w.heap.size + 1), 0, none⟩) (show w.heap.size ≤ (w.heap.size + 1) by omega) (.int .i64 v)).setCell (p := ⟨(w.heap.size + 1), 1, none⟩) (show w.heap.size ≤ (w.heap.size + 1) by omega) (.int .i64 mh)).setCell (p := ⟨(w.heap.size + 1), 2, none⟩) (show w.heap.size ≤ (w.heap.size + 1) by omega) (.int .i64 mr)).setCell (p := ⟨(w.heap.size + 1), 3, none⟩) (show w.heap.size ≤ (w.heap.size + 1) by omega) (.int .i64 ms)).setCell (p := ⟨(w.heap.size + 1), 4, none⟩) (show w.heap.size ≤ (w.heap.size + 1) by omega) (.string mi)).setCell (p := ⟨(w.heap.size + 1), 5, none⟩) (show w.heap.size ≤ (w.heap.size + 1) by omega) (.int .i64 mh)).setCell (p := ⟨(w.heap.size + 1), 6, none⟩) (show w.heap.size ≤ (w.heap.size + 1) by omega) (.int .i64 mr)).setCell (p := ⟨(w.heap.size + 1), 7, none⟩) (show w.heap.size ≤ (w.heap.size + 1) by omega) (.int .i64 ms)).setCell (p := ⟨(w.heap.size + 1), 8, none⟩) (show w.heap.size ≤ (w.heap.size + 1) by omega) (.string mi)).setCell (p := ⟨(w.heap.size + 1), 9, none⟩) (show w.heap.size ≤ (w.heap.size + 1) by omega) (.bool false)).setCell (p := ⟨(w.heap.size + 1), 10, none⟩) (show w.heap.size ≤ (w.heap.size + 1) by omega) (.slice qa o.length qc))
  have KG : Hid (w4.grownBy (((((((((((w4.setCell ⟨(w.heap.size + 1), 0, none⟩ (.int .i64 v)).setCell ⟨(w.heap.size + 1), 1, none⟩ (.int .i64 mh)).setCell ⟨(w.heap.size + 1), 2, none⟩ (.int .i64 mr)).setCell ⟨(w.heap.size + 1), 3, none⟩ (.int .i64 ms)).setCell ⟨(w.heap.size + 1), 4, none⟩ (.string mi)).setCell ⟨(w.heap.size + 1), 5, none⟩ (.int .i64 mh)).setCell ⟨(w.heap.size + 1), 6, none⟩ (.int .i64 mr)).setCell ⟨(w.heap.size + 1), 7, none⟩ (.int .i64 ms)).setCell ⟨(w.heap.size + 1), 8, none⟩ (.string mi)).setCell ⟨(w.heap.size + 1), 9, none⟩ (.bool false)).setCell ⟨(w.heap.size + 1), 10, none⟩ (.slice qa o.length qc)) (some (w.heap.size + 1))) := grown_set (grown_set (grown_set (grown_set (grown_set (grown_set (grown_set (grown_set (grown_set (grown_set (grown_set (grown_refl _ _) _) _) _) _) _) _) _) _) _) _) _
  have KQ : Hid (OwnY (((((((((((w4.setCell ⟨(w.heap.size + 1), 0, none⟩ (.int .i64 v)).setCell ⟨(w.heap.size + 1), 1, none⟩ (.int .i64 mh)).setCell ⟨(w.heap.size + 1), 2, none⟩ (.int .i64 mr)).setCell ⟨(w.heap.size + 1), 3, none⟩ (.int .i64 ms)).setCell ⟨(w.heap.size + 1), 4, none⟩ (.string mi)).setCell ⟨(w.heap.size + 1), 5, none⟩ (.int .i64 mh)).setCell ⟨(w.heap.size + 1), 6, none⟩ (.int .i64 mr)).setCell ⟨(w.heap.size + 1), 7, none⟩ (.int .i64 ms)).setCell ⟨(w.heap.size + 1), 8, none⟩ (.string mi)).setCell ⟨(w.heap.size + 1), 9, none⟩ (.bool false)).setCell ⟨(w.heap.size + 1), 10, none⟩ (.slice qa o.length qc)) NB (.slice qa o.length qc) o) := own_still HQ0.out KG.out (fun j e => by injection e with e; omega)
  go_wp2_with fail
  clear cR_0_4 cR_1_4 cR_2_4 cR_3_4 cR_4_4 cR_5_4 cR_6_4 cR_7_4 cR_8_4 cR_9_4 cR_10_4 zR_4
  generalize ((((((((((((w4.setCell _ _).setCell _ _).setCell _ _).setCell _ _).setCell _ _).setCell _ _).setCell _ _).setCell _ _).setCell _ _).setCell _ _).setCell _ _) : World) = w5 at *
  have HX5 : Hid (Blk w5 w.heap.size [.int .i64 v, .int .i64 dh, .int .i64 dr, .int .i64 ds, .string di, .int .i64 mh, .int .i64 mr, .int .i64 ms, .string mi, .bool true, .slice a o.length cap] 29) := KX
  have HR5 : Hid (Blk w5 (w.heap.size + 1) [.int .i64 v, .int .i64 mh, .int .i64 mr, .int .i64 ms, .string mi, .int .i64 mh, .int .i64 mr, .int .i64 ms, .string mi, .bool false, .slice qa o.length qc] 29) := KR
  have HD5 : Hid (Blk w5 nD [.iface 69 (.agg #[])] 95) := KD
  have HQ5 : Hid (OwnY w5 NB (.slice qa o.length qc) o) := KQ
  have HB5 : Hid (Below w.heap.size w w5) := KB
  clear KX KR KD KB KG KQ HX4 HR4 HD4 HB4 HQ0
  have y0 := HR5.out.cell 0 rfl
  have y1 := HR5.out.cell 1 rfl
  have y2 := HR5.out.cell 2 rfl
  have y3 := HR5.out.cell 3 rfl
  have y4 := HR5.out.cell 4 rfl
  have y5 := HR5.out.cell 5 rfl
  have y6 := HR5.out.cell 6 rfl
  have y7 := HR5.out.cell 7 rfl
  have y8 := HR5.out.cell 8 rfl
  have y9 := HR5.out.cell 9 rfl
  have y10 := HR5.out.cell 10 rfl
  refine bodyPost_ret (v := .tuple #[.agg #[.int .i64 v, .int .i64 mh, .int .i64 mr, .int .i64 ms, .string mi, .int .i64 mh, .int .i64 mr, .int .i64 ms, .string mi, .bool false, .slice qa o.length qc], .bool true]) (by simp [results, Try.results16, go_sem, y0, y1, y2, y3, y4, y5, y6, y7, y8, y9, y10]) rfl ⟨_, _, rfl, own_less HQ5.out (by omega), HB5.out⟩
set_option maxHeartbeats 12800000 in
set_option maxRecDepth 100000 in
theorem sync_room (x : Sg) (a : Option Addr) (cap : Nat) (w : World) (hl : YO w a x.o) (hz : a = none → cap = 0) (hfit : x.o.length ≤ cap ∧ cap ≤ 9223372036854775807) (hs : sOk x = true) (hp : x.p = true) (h60 : x.o.length < 60) :
    Calls Try.prog 16 #[sV x a cap] w fun e w' => ∃ qa qc, e = .returned (.tuple #[sQ (⟨x.v, x.m, x.m, false, x.o ++ [gvo x.m x.v]⟩ : Sg) (.slice qa (x.o ++ [gvo x.m x.v]).length qc), .bool true]) ∧ Hid (OwnY w' w.heap.size (.slice qa (x.o ++ [gvo x.m x.v]).length qc) (x.o ++ [gvo x.m x.v])) ∧ Below w.heap.size w w' := by
  have HY : Hid (YO w a x.o) := hl
  have kS := fun W (h : YO W a x.o) => impl_sok x a cap W h (by omega)
  have HSM : Hid (SmS x ∧ x.o.length ≤ 60) := sOk_sm hs
  simp only [hs] at kS
  obtain ⟨v, ⟨dh, dr, ds, di⟩, ⟨mh, mr, ms, mi⟩, p, o⟩ := x
  unfold sV sQ at *
  simp only at *
  rw [show gvo (⟨mh, mr, ms, mi⟩ : Gt) v = ⟨mh, mr, ms, mi, v⟩ from rfl]
  subst hp
  have hlo : o.length ≤ 60 := HSM.out.2
  have hacts : acts ⟨v, ⟨dh, dr, ds, di⟩, ⟨mh, mr, ms, mi⟩, true, o⟩ [.sync, .tell ⟨mh, mr, ms, mi, v⟩] = ⟨v, ⟨mh, mr, ms, mi⟩, ⟨mh, mr, ms, mi⟩, false, o ++ [(⟨mh, mr, ms, mi, v⟩ : Vt)]⟩ := rfl
  have kA : ∀ (W : World) (hY : YO W a o) (da : Option Addr) (dc : Nat) (hd : DAt W da [.sync, .tell ⟨mh, mr, ms, mi, v⟩]), Calls Try.prog 38 #[.agg #[.int .i64 v, .int .i64 dh, .int .i64 dr, .int .i64 ds, .string di, .int .i64 mh, .int .i64 mr, .int .i64 ms, .string mi, .bool true, .slice a o.length cap], .slice da 2 dc] W fun e w' => ∃ qa qc, e = .returned (.agg #[.int .i64 v, .int .i64 mh, .int .i64 mr, .int .i64 ms, .string mi, .int .i64 mh, .int .i64 mr, .int .i64 ms, .string mi, .bool false, .slice qa (o ++ [(⟨mh, mr, ms, mi, v⟩ : Vt)]).length qc]) ∧ Hid (OwnY w' W.heap.size (.slice qa (o ++ [(⟨mh, mr, ms, mi, v⟩ : Vt)]).length qc) (o ++ [(⟨mh, mr, ms, mi, v⟩ : Vt)])) ∧ Below W.heap.size W w' := by
    intro W hY da dc hd
    have h := after_any ⟨v, ⟨dh, dr, ds, di⟩, ⟨mh, mr, ms, mi⟩, true, o⟩ a cap da [.sync, .tell ⟨mh, mr, ms, mi, v⟩] dc W hY hz hfit (by simp only; omega) hd (show 2 ≤ 1000 by omega) HSM.out.1 (fun d h => by simp only [List.mem_cons, List.not_mem_nil, or_false] at h; rcases h with rfl | rfl; trivial; exact HSM.out.1.2.1)
    rw [hacts] at h
    exact h
  clear hacts
  generalize o ++ [(⟨mh, mr, ms, mi, v⟩ : Vt)] = oo at *
  have kF : ∀ W, Calls Try.prog 39 #[.agg #[.int .i64 v, .int .i64 dh, .int .i64 dr, .int .i64 ds, .string di, .int .i64 mh, .int .i64 mr, .int .i64 ms, .string mi, .bool true, .slice a o.length cap]] W fun e w' => e = .returned (.bool false) ∧ Below W.heap.size W w' := fun W => (impl_full ⟨v, ⟨dh, dr, ds, di⟩, ⟨mh, mr, ms, mi⟩, true, o⟩ a cap W (by simp only; omega)).mono (fun e w' h => ⟨by rw [h.1, decide_eq_false (show ¬ 60 ≤ o.length by omega)], h.2⟩)
  have kG : ∀ W, Calls Try.prog 42 #[.agg #[.int .i64 mh, .int .i64 mr, .int .i64 ms, .string mi], .int .i64 v] W fun e w' => e = .returned (.agg #[.int .i64 mh, .int .i64 mr, .int .i64 ms, .string mi, .int .i64 v]) ∧ Below W.heap.size W w' := fun W => impl_gvo ⟨mh, mr, ms, mi⟩ v W
  obtain ⟨iD, hi, hz0, hz1, hz2⟩ := infoD
  clear hl hs hfit HSM
  obtain ⟨W0, hW0⟩ : ∃ W, (w.alloc (.cells #[.int .i64 v, .int .i64 dh, .int .i64 dr, .int .i64 ds, .string di, .int .i64 mh, .int .i64 mr, .int .i64 ms, .string mi, .bool true, .slice a o.length cap] 29)).alloc (.cells #[.int .i64 0, .int .i64 0, .int .i64 0, .int .i64 0, .string ⟨#[]⟩, .int .i64 0, .int .i64 0, .int .i64 0, .string ⟨#[]⟩, .bool false, .slice none 0 0] 29) = W := ⟨_, rfl⟩
  have HX0 : Hid (Blk W0 w.heap.size [.int .i64 v, .int .i64 dh, .int .i64 dr, .int .i64 ds, .string di, .int .i64 mh, .int .i64 mr, .int .i64 ms, .string mi, .bool true, .slice a o.length cap] 29) := by
    rw [← hW0]
    have hnew := blk_new (w) [.int .i64 v, .int .i64 dh, .int .i64 dr, .int .i64 ds, .string di, .int .i64 mh, .int .i64 mr, .int .i64 ms, .string mi, .bool true, .slice a o.length cap] 29
    exact (hnew.alloc _)
  have HR0 : Hid (Blk W0 (w.heap.size + 1) [.int .i64 0, .int .i64 0, .int .i64 0, .int .i64 0, .string ⟨#[]⟩, .int .i64 0, .int .i64 0, .int .i64 0, .string ⟨#[]⟩, .bool false, .slice none 0 0] 29) := by
    rw [← hW0]
    have hnew := blk_new (w.alloc (.cells #[.int .i64 v, .int .i64 dh, .int .i64 dr, .int .i64 ds, .string di, .int .i64 mh, .int .i64 mr, .int .i64 ms, .string mi, .bool true, .slice a o.length cap] 29)) [.int .i64 0, .int .i64 0, .int .i64 0, .int .i64 0, .string ⟨#[]⟩, .int .i64 0, .int .i64 0, .int .i64 0, .string ⟨#[]⟩, .bool false, .slice none 0 0] 29
    rw [show (w.alloc (.cells #[.int .i64 v, .int .i64 dh, .int .i64 dr, .int .i64 ds, .string di, .int .i64 mh, .int .i64 mr, .int .i64 ms, .string mi, .bool true, .slice a o.length cap] 29)).heap.size = w.heap.size + 1 from by simp] at hnew
    exact hnew
  have HB0 : Hid (Below w.heap.size w W0) := by rw [← hW0]; exact ((Below.refl w.heap.size w).alloc (Nat.le_refl _) _).alloc (by simp; try omega) _
  go_enter Try.func16, Try.ntmps16
  have cX_0_0 := HX0.out.cell 0 rfl
  have cX_1_0 := HX0.out.cell 1 rfl
  have cX_2_0 := HX0.out.cell 2 rfl
  have cX_3_0 := HX0.out.cell 3 rfl
  have cX_4_0 := HX0.out.cell 4 rfl
  have cX_5_0 := HX0.out.cell 5 rfl
  have cX_6_0 := HX0.out.cell 6 rfl
  have cX_7_0 := HX0.out.cell 7 rfl
  have cX_8_0 := HX0.out.cell 8 rfl
  have cX_9_0 := HX0.out.cell 9 rfl
  have cX_10_0 := HX0.out.cell 10 rfl
  go_wp2_with fail
  clear hW0 cX_0_0 cX_1_0 cX_2_0 cX_3_0 cX_4_0 cX_5_0 cX_6_0 cX_7_0 cX_8_0 cX_9_0 cX_10_0
  refine (kS _ (HY.out.below HB0.out)).mono ?_
  rintro e w1 ⟨rfl, bb⟩
  have HX1 : Hid (Blk w1 w.heap.size [.int .i64 v, .int .i64 dh, .int .i64 dr, .int .i64 ds, .string di, .int .i64 mh, .int .i64 mr, .int .i64 ms, .string mi, .bool true, .slice a o.length cap] 29) := HX0.out.below bb HX0.out.lt
  have HR1 : Hid (Blk w1 (w.heap.size + 1) [.int .i64 0, .int .i64 0, .int .i64 0, .int .i64 0, .string ⟨#[]⟩, .int .i64 0, .int .i64 0, .int .i64 0, .string ⟨#[]⟩, .bool false, .slice none 0 0] 29) := HR0.out.below bb HR0.out.lt
  have HB1 : Hid (Below w.heap.size w w1) := HB0.out.trans (bb.mono HB0.out.size)
  clear HX0 HR0 HB0
  clear bb
  clear kS
  have cX_0_1 := HX1.out.cell 0 rfl
  have cX_1_1 := HX1.out.cell 1 rfl
  have cX_2_1 := HX1.out.cell 2 rfl
  have cX_3_1 := HX1.out.cell 3 rfl
  have cX_4_1 := HX1.out.cell 4 rfl
  have cX_5_1 := HX1.out.cell 5 rfl
  have cX_6_1 := HX1.out.cell 6 rfl
  have cX_7_1 := HX1.out.cell 7 rfl
  have cX_8_1 := HX1.out.cell 8 rfl
  have cX_9_1 := HX1.out.cell 9 rfl
  have cX_10_1 := HX1.out.cell 10 rfl
  obtain ⟨wa2, hwa2⟩ : ∃ W, w1.alloc (.cells #[.iface 69 (.agg #[])] 95) = W := ⟨_, rfl⟩
  obtain ⟨nD, hnD⟩ : ∃ n, w1.heap.size = n := ⟨_, rfl⟩
  have hnDX : w.heap.size < nD := by rw [← hnD]; exact HX1.out.lt
  have hnDR : (w.heap.size + 1) < nD := by rw [← hnD]; exact HR1.out.lt
  have HAnD : Hid (Below w1.heap.size w1 wa2) := by rw [← hwa2]; exact below_one _ _
  have HX2 : Hid (Blk wa2 w.heap.size [.int .i64 v, .int .i64 dh, .int .i64 dr, .int .i64 ds, .string di, .int .i64 mh, .int .i64 mr, .int .i64 ms, .string mi, .bool true, .slice a o.length cap] 29) := HX1.out.below HAnD.out HX1.out.lt
  have HR2 : Hid (Blk wa2 (w.heap.size + 1) [.int .i64 0, .int .i64 0, .int .i64 0, .int .i64 0, .string ⟨#[]⟩, .int .i64 0, .int .i64 0, .int .i64 0, .string ⟨#[]⟩, .bool false, .slice none 0 0] 29) := HR1.out.below HAnD.out HR1.out.lt
  have HB2 : Hid (Below w.heap.size w wa2) := HB1.out.trans (HAnD.out.mono HB1.out.size)
  have HD2 : Hid (Blk wa2 nD [.iface 69 (.agg #[])] 95) := by rw [← hwa2, ← hnD]; exact blk_new _ _ _
  clear HAnD HX1 HR1 HB1
  have cX_0_2 := HX2.out.cell 0 rfl
  have cX_1_2 := HX2.out.cell 1 rfl
  have cX_2_2 := HX2.out.cell 2 rfl
  have cX_3_2 := HX2.out.cell 3 rfl
  have cX_4_2 := HX2.out.cell 4 rfl
  have cX_5_2 := HX2.out.cell 5 rfl
  have cX_6_2 := HX2.out.cell 6 rfl
  have cX_7_2 := HX2.out.cell 7 rfl
  have cX_8_2 := HX2.out.cell 8 rfl
  have cX_9_2 := HX2.out.cell 9 rfl
  have cX_10_2 := HX2.out.cell 10 rfl
  go_wp2_with fail
  clear cX_0_1 cX_1_1 cX_2_1 cX_3_1 cX_4_1 cX_5_1 cX_6_1 cX_7_1 cX_8_1 cX_9_1 cX_10_1 hwa2 hnD cX_0_2 cX_1_2 cX_2_2 cX_3_2 cX_4_2 cX_5_2 cX_6_2 cX_7_2 cX_8_2 cX_9_2 cX_10_2
  refine (kF _).mono ?_
  rintro e w3 ⟨rfl, bb⟩
  have HX3 : Hid (Blk w3 w.heap.size [.int .i64 v, .int .i64 dh, .int .i64 dr, .int .i64 ds, .string di, .int .i64 mh, .int .i64 mr, .int .i64 ms, .string mi, .bool true, .slice a o.length cap] 29) := HX2.out.below bb HX2.out.lt
  have HR3 : Hid (Blk w3 (w.heap.size + 1) [.int .i64 0, .int .i64 0, .int .i64 0, .int .i64 0, .string ⟨#[]⟩, .int .i64 0, .int .i64 0, .int .i64 0, .string ⟨#[]⟩, .bool false, .slice none 0 0] 29) := HR2.out.below bb HR2.out.lt
  have HD3 : Hid (Blk w3 nD [.iface 69 (.agg #[])] 95) := HD2.out.below bb HD2.out.lt
  have HB3 : Hid (Below w.heap.size w w3) := HB2.out.trans (bb.mono HB2.out.size)
  clear HX2 HR2 HD2 HB2
  clear bb
  have cX_0_3 := HX3.out.cell 0 rfl
  have cX_1_3 := HX3.out.cell 1 rfl
  have cX_2_3 := HX3.out.cell 2 rfl
  have cX_3_3 := HX3.out.cell 3 rfl
  have cX_4_3 := HX3.out.cell 4 rfl
  have cX_5_3 := HX3.out.cell 5 rfl
  have cX_6_3 := HX3.out.cell 6 rfl
  have cX_7_3 := HX3.out.cell 7 rfl
  have cX_8_3 := HX3.out.cell 8 rfl
  have cX_9_3 := HX3.out.cell 9 rfl
  have cX_10_3 := HX3.out.cell 10 rfl
  go_wp2_with fail
  clear cX_0_3 cX_1_3 cX_2_3 cX_3_3 cX_4_3 cX_5_3 cX_6_3 cX_7_3 cX_8_3 cX_9_3 cX_10_3
  refine (kG _).mono ?_
  rintro e w4 ⟨rfl, bb⟩
  have HX4 : Hid (Blk w4 w.heap.size [.int .i64 v, .int .i64 dh, .int .i64 dr, .int .i64 ds, .string di, .int .i64 mh, .int .i64 mr, .int .i64 ms, .string mi, .bool true, .slice a o.length cap] 29) := HX3.out.below bb HX3.out.lt
  have HR4 : Hid (Blk w4 (w.heap.size + 1) [.int .i64 0, .int .i64 0, .int .i64 0, .int .i64 0, .string ⟨#[]⟩, .int .i64 0, .int .i64 0, .int .i64 0, .string ⟨#[]⟩, .bool false, .slice none 0 0] 29) := HR3.out.below bb HR3.out.lt
  have HD4 : Hid (Blk w4 nD [.iface 69 (.agg #[])] 95) := HD3.out.below bb HD3.out.lt
  have HB4 : Hid (Below w.heap.size w w4) := HB3.out.trans (bb.mono HB3.out.size)
  clear HX3 HR3 HD3 HB3
  clear bb
  have cX_0_4 := HX4.out.cell 0 rfl
  have cX_1_4 := HX4.out.cell 1 rfl
  have cX_2_4 := HX4.out.cell 2 rfl
  have cX_3_4 := HX4.out.cell 3 rfl
  have cX_4_4 := HX4.out.cell 4 rfl
  have cX_5_4 := HX4.out.cell 5 rfl
  have cX_6_4 := HX4.out.cell 6 rfl
  have cX_7_4 := HX4.out.cell 7 rfl
  have cX_8_4 := HX4.out.cell 8 rfl
  have cX_9_4 := HX4.out.cell 9 rfl
  have cX_10_4 := HX4.out.cell 10 rfl
  have cD_0_4 := HD4.out.cell 0 rfl
  obtain ⟨wa5, hwa5⟩ : ∃ W, w4.alloc (.cells #[.iface 65 (.agg #[.int .i64 mh, .int .i64 mr, .int .i64 ms, .string mi, .int .i64 v])] 95) = W := ⟨_, rfl⟩
  obtain ⟨nE, hnE⟩ : ∃ n, w4.heap.size = n := ⟨_, rfl⟩
  have hnEX : w.heap.size < nE := by rw [← hnE]; exact HX4.out.lt
  have hnER : (w.heap.size + 1) < nE := by rw [← hnE]; exact HR4.out.lt
  have hnED : nD < nE := by rw [← hnE]; exact HD4.out.lt
  have HAnE : Hid (Below w4.heap.size w4 wa5) := by rw [← hwa5]; exact below_one _ _
  have HX5 : Hid (Blk wa5 w.heap.size [.int .i64 v, .int .i64 dh, .int .i64 dr, .int .i64 ds, .string di, .int .i64 mh, .int .i64 mr, .int .i64 ms, .string mi, .bool true, .slice a o.length cap] 29) := HX4.out.below HAnE.out HX4.out.lt
  have HR5 : Hid (Blk wa5 (w.heap.size + 1) [.int .i64 0, .int .i64 0, .int .i64 0, .int .i64 0, .string ⟨#[]⟩, .int .i64 0, .int .i64 0, .int .i64 0, .string ⟨#[]⟩, .bool false, .slice none 0 0] 29) := HR4.out.below HAnE.out HR4.out.lt
  have HD5 : Hid (Blk wa5 nD [.iface 69 (.agg #[])] 95) := HD4.out.below HAnE.out HD4.out.lt
  have HB5 : Hid (Below w.heap.size w wa5) := HB4.out.trans (HAnE.out.mono HB4.out.size)
  have HE5 : Hid (Blk wa5 nE [.iface 65 (.agg #[.int .i64 mh, .int .i64 mr, .int .i64 ms, .string mi, .int .i64 v])] 95) := by rw [← hwa5, ← hnE]; exact blk_new _ _ _
  clear HAnE HX4 HR4 HD4 HB4
  have cX_0_5 := HX5.out.cell 0 rfl
  have cX_1_5 := HX5.out.cell 1 rfl
  have cX_2_5 := HX5.out.cell 2 rfl
  have cX_3_5 := HX5.out.cell 3 rfl
  have cX_4_5 := HX5.out.cell 4 rfl
  have cX_5_5 := HX5.out.cell 5 rfl
  have cX_6_5 := HX5.out.cell 6 rfl
  have cX_7_5 := HX5.out.cell 7 rfl
  have cX_8_5 := HX5.out.cell 8 rfl
  have cX_9_5 := HX5.out.cell 9 rfl
  have cX_10_5 := HX5.out.cell 10 rfl
  have cD_0_5 := HD5.out.cell 0 rfl
  have cE_0_5 := HE5.out.cell 0 rfl
  have hWs : nE < wa5.heap.size := HE5.out.lt
  go_wp2_with (at_builtin; refine wpList_append_own _ rfl _ _ 70 rfl nD 95 iD .nilIface 1 16 Try.underlying70 hi hz0 hz1 hz2 rfl (by decide) _ 1 [.iface 69 (.agg #[])] rfl (own_d1 (d := .sync) HD5.out) ⟨nE, 0, none⟩ 1 1 [.iface 65 (.agg #[.int .i64 mh, .int .i64 mr, .int .i64 ms, .string mi, .int .i64 v])] rfl rfl (fun j u hj => (by rw [add_offY, Nat.zero_add]; exact HE5.out.cell j hj)) (fun u hu => by rw [List.mem_singleton.1 hu]; rfl) (by unfold maxLen; omega) (by omega) (by omega) ?_)
  intro v2 w9 hown hgr _
  obtain ⟨da, dc, rfl⟩ := own_shape hown
  have HDD : Hid (DAt w9 da [.sync, .tell ⟨mh, mr, ms, mi, v⟩]) := dat_two (n := 0) hown
  have HX9 : Hid (Blk w9 w.heap.size [.int .i64 v, .int .i64 dh, .int .i64 dr, .int .i64 ds, .string di, .int .i64 mh, .int .i64 mr, .int .i64 ms, .string mi, .bool true, .slice a o.length cap] 29) := HX5.out.grown hgr (by simp [Value.ownBlock]; omega)
  have HR9 : Hid (Blk w9 (w.heap.size + 1) [.int .i64 0, .int .i64 0, .int .i64 0, .int .i64 0, .string ⟨#[]⟩, .int .i64 0, .int .i64 0, .int .i64 0, .string ⟨#[]⟩, .bool false, .slice none 0 0] 29) := HR5.out.grown hgr (by simp [Value.ownBlock]; omega)
  have HB9 : Hid (Below w.heap.size w w9) := HB5.out.grown hgr HB5.out.size (fun j hj => by simp [Value.ownBlock] at hj; omega)
  clear cX_0_4 cX_1_4 cX_2_4 cX_3_4 cX_4_4 cX_5_4 cX_6_4 cX_7_4 cX_8_4 cX_9_4 cX_10_4 cD_0_4 hwa5 hnE cX_0_5 cX_1_5 cX_2_5 cX_3_5 cX_4_5 cX_5_5 cX_6_5 cX_7_5 cX_8_5 cX_9_5 cX_10_5 cD_0_5 cE_0_5
  clear hown hgr hWs HX5 HR5 HD5 HE5 HB5
  have cX_0_5 := HX9.out.cell 0 rfl
  have cX_1_5 := HX9.out.cell 1 rfl
  have cX_2_5 := HX9.out.cell 2 rfl
  have cX_3_5 := HX9.out.cell 3 rfl
  have cX_4_5 := HX9.out.cell 4 rfl
  have cX_5_5 := HX9.out.cell 5 rfl
  have cX_6_5 := HX9.out.cell 6 rfl
  have cX_7_5 := HX9.out.cell 7 rfl
  have cX_8_5 := HX9.out.cell 8 rfl
  have cX_9_5 := HX9.out.cell 9 rfl
  have cX_10_5 := HX9.out.cell 10 rfl
  go_wp2_with fail
  clear cX_0_5 cX_1_5 cX_2_5 cX_3_5 cX_4_5 cX_5_5 cX_6_5 cX_7_5 cX_8_5 cX_9_5 cX_10_5
  obtain ⟨NB, hNB⟩ : ∃ n, w9.heap.size = n := ⟨_, rfl⟩
  have HNB : Hid (w9.heap.size = NB) := hNB
  have hlt1 : w.heap.size + 1 < NB := by rw [← hNB]; exact HR9.out.lt
  clear hNB
  refine (kA _ (HY.out.below HB9.out) da dc HDD.out).mono ?_
  rintro e w6 ⟨qa, qc, rfl, HQ, bb⟩
  rw [HNB.out] at HQ
  have HQ0 : Hid (OwnY w6 NB (.slice qa oo.length qc) oo) := HQ
  clear HQ HNB
  have HX6 : Hid (Blk w6 w.heap.size [.int .i64 v, .int .i64 dh, .int .i64 dr, .int .i64 ds, .string di, .int .i64 mh, .int .i64 mr, .int .i64 ms, .string mi, .bool true, .slice a o.length cap] 29) := HX9.out.below bb HX9.out.lt
  have HR6 : Hid (Blk w6 (w.heap.size + 1) [.int .i64 0, .int .i64 0, .int .i64 0, .int .i64 0, .string ⟨#[]⟩, .int .i64 0, .int .i64 0, .int .i64 0, .string ⟨#[]⟩, .bool false, .slice none 0 0] 29) := HR9.out.below bb HR9.out.lt
  have HB6 : Hid (Below w.heap.size w w6) := HB9.out.trans (bb.mono HB9.out.size)
  clear HX9 HR9 HB9
  clear bb
  clear HDD kF kG
  clear kA HY
  have cR_0_6 := HR6.out.cell 0 rfl
  have cR_1_6 := HR6.out.cell 1 rfl
  have cR_2_6 := HR6.out.cell 2 rfl
  have cR_3_6 := HR6.out.cell 3 rfl
  have cR_4_6 := HR6.out.cell 4 rfl
  have cR_5_6 := HR6.out.cell 5 rfl
  have cR_6_6 := HR6.out.cell 6 rfl
  have cR_7_6 := HR6.out.cell 7 rfl
  have cR_8_6 := HR6.out.cell 8 rfl
  have cR_9_6 := HR6.out.cell 9 rfl
  have cR_10_6 := HR6.out.cell 10 rfl
  have zR_6 := fun j => HR6.out.frozen j
  have KX := (((((((((((HX6.out.other 0 (.int .i64 v) (show w.heap.size ≠ (w.heap.size + 1) by omega)).other 1 (.int .i64 mh) (show w.heap.size ≠ (w.heap.size + 1) by omega)).other 2 (.int .i64 mr) (show w.heap.size ≠ (w.heap.size + 1) by omega)).other 3 (.int .i64 ms) (show w.heap.size ≠ (w.heap.size + 1) by omega)).other 4 (.string mi) (show w.heap.size ≠ (w.heap.size + 1) by omega)).other 5 (.int .i64 mh) (show w.heap.size ≠ (w.heap.size + 1) by omega)).other 6 (.int .i64 mr) (show w.heap.size ≠ (w.heap.size + 1) by omega)).other 7 (.int .i64 ms) (show w.heap.size ≠ (w.heap.size + 1) by omega)).other 8 (.string mi) (show w.heap.size ≠ (w.heap.size + 1) by omega)).other 9 (.bool false) (show w.heap.size ≠ (w.heap.size + 1) by omega)).other 10 (.slice qa oo.length qc) (show w.heap.size ≠ (w.heap.size + 1) by omega))
  have KR := (((((((((((HR6.out.set 0 (.int .i64 v)).set 1 (.int .i64 mh)).set 2 (.int .i64 mr)).set 3 (.int .i64 ms)).set 4 (.string mi)).set 5 (.int .i64 mh)).set 6 (.int .i64 mr)).set 7 (.int .i64 ms)).set 8 (.string mi)).set 9 (.bool false)).set 10 (.slice qa oo.length qc))
  have KB := (((((((((((HB6.out.setCell (p := ⟨(w.heap.size + 1), 0, none⟩) (show w.heap.size ≤ (w.heap.size + 1) by omega) (.int .i64 v)).setCell (p := ⟨(w.heap.size + 1), 1, none⟩) (show w.heap.size ≤ (w.heap.size + 1) by omega) (.int .i64 mh)).setCell (p := ⟨(w.heap.size + 1), 2, none⟩) (show w.heap.size ≤ (w.heap.size + 1) by omega) (.int .i64 mr)).setCell (p := ⟨(w.heap.size + 1), 3, none⟩) (show w.heap.size ≤ (w.heap.size + 1) by omega) (.int .i64 ms)).setCell (p := ⟨(w.heap.size + 1), 4, none⟩) (show w.heap.size ≤ (w.heap.size + 1) by omega) (.string mi)).setCell (p := ⟨(w.heap.size + 1), 5, none⟩) (show w.heap.size ≤ (w.heap.size + 1) by omega) (.int .i64 mh)).setCell (p := ⟨(w.heap.size + 1), 6, none⟩) (show w.heap.size ≤ (w.heap.size + 1) by omega) (.int .i64 mr)).setCell (p := ⟨(w.heap.size + 1), 7, none⟩) (show w.heap.size ≤ (w.heap.size + 1) by omega) (.int .i64 ms)).setCell (p := ⟨(w.heap.size + 1), 8, none⟩) (show w.heap.size ≤ (w.heap.size + 1) by omega) (.string mi)).setCell (p := ⟨(w.heap.size + 1), 9, none⟩) (show w.heap.size ≤ (w.heap.size + 1) by omega) (.bool false)).setCell (p := ⟨(w.heap.size + 1), 10, none⟩) (show w.heap.size ≤ (w.heap.size + 1) by omega) (.slice qa oo.length qc))
  have KG : Hid (w6.grownBy (((((((((((w6.setCell ⟨(w.heap.size + 1), 0, none⟩ (.int .i64 v)).setCell ⟨(w.heap.size + 1), 1, none⟩ (.int .i64 mh)).setCell ⟨(w.heap.size + 1), 2, none⟩ (.int .i64 mr)).setCell ⟨(w.heap.size + 1), 3, none⟩ (.int .i64 ms)).setCell ⟨(w.heap.size + 1), 4, none⟩ (.string mi)).setCell ⟨(w.heap.size + 1), 5, none⟩ (.int .i64 mh)).setCell ⟨(w.heap.size + 1), 6, none⟩ (.int .i64 mr)).setCell ⟨(w.heap.size + 1), 7, none⟩ (.int .i64 ms)).setCell ⟨(w.heap.size + 1), 8, none⟩ (.string mi)).setCell ⟨(w.heap.size + 1), 9, none⟩ (.bool false)).setCell ⟨(w.heap.size + 1), 10, none⟩ (.slice qa oo.length qc)) (some (w.heap.size + 1))) := grown_set (grown_set (grown_set (grown_set (grown_set (grown_set (grown_set (grown_set (grown_set (grown_set (grown_set (grown_refl _ _) _) _) _) _) _) _) _) _) _) _) _
  have KQ : Hid (OwnY (((((((((((w6.setCell ⟨(w.heap.size + 1), 0, none⟩ (.int .i64 v)).setCell ⟨(w.heap.size + 1), 1, none⟩ (.int .i64 mh)).setCell ⟨(w.heap.size + 1), 2, none⟩ (.int .i64 mr)).setCell ⟨(w.heap.size + 1), 3, none⟩ (.int .i64 ms)).setCell ⟨(w.heap.size + 1), 4, none⟩ (.string mi)).setCell ⟨(w.heap.size + 1), 5, none⟩ (.int .i64 mh)).setCell ⟨(w.heap.size + 1), 6, none⟩ (.int .i64 mr)).setCell ⟨(w.heap.size + 1), 7, none⟩ (.int .i64 ms)).setCell ⟨(w.heap.size + 1), 8, none⟩ (.string mi)).setCell ⟨(w.heap.size + 1), 9, none⟩ (.bool false)).setCell ⟨(w.heap.size + 1), 10, none⟩ (.slice qa oo.length qc)) NB (.slice qa oo.length qc) oo) := own_still HQ0.out KG.out (fun j e => by injection e with e; omega)
  go_wp2_with fail
  clear cR_0_6 cR_1_6 cR_2_6 cR_3_6 cR_4_6 cR_5_6 cR_6_6 cR_7_6 cR_8_6 cR_9_6 cR_10_6 zR_6
  generalize ((((((((((((w6.setCell _ _).setCell _ _).setCell _ _).setCell _ _).setCell _ _).setCell _ _).setCell _ _).setCell _ _).setCell _ _).setCell _ _).setCell _ _) : World) = w7 at *
  have HX7 : Hid (Blk w7 w.heap.size [.int .i64 v, .int .i64 dh, .int .i64 dr, .int .i64 ds, .string di, .int .i64 mh, .int .i64 mr, .int .i64 ms, .string mi, .bool true, .slice a o.length cap] 29) := KX
  have HR7 : Hid (Blk w7 (w.heap.size + 1) [.int .i64 v, .int .i64 mh, .int .i64 mr, .int .i64 ms, .string mi, .int .i64 mh, .int .i64 mr, .int .i64 ms, .string mi, .bool false, .slice qa oo.length qc] 29) := KR
  have HQ7 : Hid (OwnY w7 NB (.slice qa oo.length qc) oo) := KQ
  have HB7 : Hid (Below w.heap.size w w7) := KB
  clear KX KR KB KG KQ HX6 HR6 HB6 HQ0
  have y0 := HR7.out.cell 0 rfl
  have y1 := HR7.out.cell 1 rfl
  have y2 := HR7.out.cell 2 rfl
  have y3 := HR7.out.cell 3 rfl
  have y4 := HR7.out.cell 4 rfl
  have y5 := HR7.out.cell 5 rfl
  have y6 := HR7.out.cell 6 rfl
  have y7 := HR7.out.cell 7 rfl
  have y8 := HR7.out.cell 8 rfl
  have y9 := HR7.out.cell 9 rfl
  have y10 := HR7.out.cell 10 rfl
  refine bodyPost_ret (v := .tuple #[.agg #[.int .i64 v, .int .i64 mh, .int .i64 mr, .int .i64 ms, .string mi, .int .i64 mh, .int .i64 mr, .int .i64 ms, .string mi, .bool false, .slice qa oo.length qc], .bool true]) (by simp [results, Try.results16, go_sem, y0, y1, y2, y3, y4, y5, y6, y7, y8, y9, y10]) rfl ⟨_, _, rfl, own_less HQ7.out (by omega), HB7.out⟩
set_option maxHeartbeats 12800000 in
set_option maxRecDepth 100000 in
theorem fall_no (x : Sg) (a : Option Addr) (cap : Nat) (w : World) (hl : YO w a x.o) (hz : a = none → cap = 0) (hfit : x.o.length ≤ cap ∧ cap ≤ 9223372036854775807) (hs : sOk x = false) :
    Calls Try.prog 17 #[sV x a cap] w fun e w' => ∃ qa qc, e = .returned (.tuple #[sQ zSg (.slice qa 0 qc), .bool false]) ∧ Hid (OwnY w' w.heap.size (.slice qa ([] : List Vt).length qc) ([] : List Vt)) ∧ Below w.heap.size w w' := by
  have HY : Hid (YO w a x.o) := hl
  have kS := fun W (h : YO W a x.o) => impl_sok x a cap W h (by omega)
  simp only [hs] at kS
  obtain ⟨v, ⟨dh, dr, ds, di⟩, ⟨mh, mr, ms, mi⟩, p, o⟩ := x
  unfold sV sQ at *
  simp only at *
  clear hl hs hfit
  obtain ⟨W0, hW0⟩ : ∃ W, (w.alloc (.cells #[.int .i64 v, .int .i64 dh, .int .i64 dr, .int .i64 ds, .string di, .int .i64 mh, .int .i64 mr, .int .i64 ms, .string mi, .bool p, .slice a o.length cap] 29)).alloc (.cells #[.int .i64 0, .int .i64 0, .int .i64 0, .int .i64 0, .string ⟨#[]⟩, .int .i64 0, .int .i64 0, .int .i64 0, .string ⟨#[]⟩, .bool false, .slice none 0 0] 29) = W := ⟨_, rfl⟩
  have HX0 : Hid (Blk W0 w.heap.size [.int .i64 v, .int .i64 dh, .int .i64 dr, .int .i64 ds, .string di, .int .i64 mh, .int .i64 mr, .int .i64 ms, .string mi, .bool p, .slice a o.length cap] 29) := by
    rw [← hW0]
    have hnew := blk_new (w) [.int .i64 v, .int .i64 dh, .int .i64 dr, .int .i64 ds, .string di, .int .i64 mh, .int .i64 mr, .int .i64 ms, .string mi, .bool p, .slice a o.length cap] 29
    exact (hnew.alloc _)
  have HR0 : Hid (Blk W0 (w.heap.size + 1) [.int .i64 0, .int .i64 0, .int .i64 0, .int .i64 0, .string ⟨#[]⟩, .int .i64 0, .int .i64 0, .int .i64 0, .string ⟨#[]⟩, .bool false, .slice none 0 0] 29) := by
    rw [← hW0]
    have hnew := blk_new (w.alloc (.cells #[.int .i64 v, .int .i64 dh, .int .i64 dr, .int .i64 ds, .string di, .int .i64 mh, .int .i64 mr, .int .i64 ms, .string mi, .bool p, .slice a o.length cap] 29)) [.int .i64 0, .int .i64 0, .int .i64 0, .int .i64 0, .string ⟨#[]⟩, .int .i64 0, .int .i64 0, .int .i64 0, .string ⟨#[]⟩, .bool false, .slice none 0 0] 29
    rw [show (w.alloc (.cells #[.int .i64 v, .int .i64 dh, .int .i64 dr, .int .i64 ds, .string di, .int .i64 mh, .int .i64 mr, .int .i64 ms, .string mi, .bool p, .slice a o.length cap] 29)).heap.size = w.heap.size + 1 from by simp] at hnew
    exact hnew
  have HB0 : Hid (Below w.heap.size w W0) := by rw [← hW0]; exact ((Below.refl w.heap.size w).alloc (Nat.le_refl _) _).alloc (by simp; try omega) _
  go_enter Try.func17, Try.ntmps17
  have cX_0_0 := HX0.out.cell 0 rfl
  have cX_1_0 := HX0.out.cell 1 rfl
  have cX_2_0 := HX0.out.cell 2 rfl
  have cX_3_0 := HX0.out.cell 3 rfl
  have cX_4_0 := HX0.out.cell 4 rfl
  have cX_5_0 := HX0.out.cell 5 rfl
  have cX_6_0 := HX0.out.cell 6 rfl
  have cX_7_0 := HX0.out.cell 7 rfl
  have cX_8_0 := HX0.out.cell 8 rfl
  have cX_9_0 := HX0.out.cell 9 rfl
  have cX_10_0 := HX0.out.cell 10 rfl
  go_wp2_with fail
  clear hW0 cX_0_0 cX_1_0 cX_2_0 cX_3_0 cX_4_0 cX_5_0 cX_6_0 cX_7_0 cX_8_0 cX_9_0 cX_10_0
  refine (kS _ (HY.out.below HB0.out)).mono ?_
  rintro e w1 ⟨rfl, bb⟩
  have HX1 : Hid (Blk w1 w.heap.size [.int .i64 v, .int .i64 dh, .int .i64 dr, .int .i64 ds, .string di, .int .i64 mh, .int .i64 mr, .int .i64 ms, .string mi, .bool p, .slice a o.length cap] 29) := HX0.out.below bb HX0.out.lt
  have HR1 : Hid (Blk w1 (w.heap.size + 1) [.int .i64 0, .int .i64 0, .int .i64 0, .int .i64 0, .string ⟨#[]⟩, .int .i64 0, .int .i64 0, .int .i64 0, .string ⟨#[]⟩, .bool false, .slice none 0 0] 29) := HR0.out.below bb HR0.out.lt
  have HB1 : Hid (Below w.heap.size w w1) := HB0.out.trans (bb.mono HB0.out.size)
  clear HX0 HR0 HB0
  clear bb
  clear kS
  have cR_0_1 := HR1.out.cell 0 rfl
  have cR_1_1 := HR1.out.cell 1 rfl
  have cR_2_1 := HR1.out.cell 2 rfl
  have cR_3_1 := HR1.out.cell 3 rfl
  have cR_4_1 := HR1.out.cell 4 rfl
  have cR_5_1 := HR1.out.cell 5 rfl
  have cR_6_1 := HR1.out.cell 6 rfl
  have cR_7_1 := HR1.out.cell 7 rfl
  have cR_8_1 := HR1.out.cell 8 rfl
  have cR_9_1 := HR1.out.cell 9 rfl
  have cR_10_1 := HR1.out.cell 10 rfl
  have zR_1 := fun j => HR1.out.frozen j
  have KX := (((((((((((HX1.out.other 0 (.int .i64 0) (show w.heap.size ≠ (w.heap.size + 1) by omega)).other 1 (.int .i64 0) (show w.heap.size ≠ (w.heap.size + 1) by omega)).other 2 (.int .i64 0) (show w.heap.size ≠ (w.heap.size + 1) by omega)).other 3 (.int .i64 0) (show w.heap.size ≠ (w.heap.size + 1) by omega)).other 4 (.string ⟨#[]⟩) (show w.heap.size ≠ (w.heap.size + 1) by omega)).other 5 (.int .i64 0) (show w.heap.size ≠ (w.heap.size + 1) by omega)).other 6 (.int .i64 0) (show w.heap.size ≠ (w.heap.size + 1) by omega)).other 7 (.int .i64 0) (show w.heap.size ≠ (w.heap.size + 1) by omega)).other 8 (.string ⟨#[]⟩) (show w.heap.size ≠ (w.heap.size + 1) by omega)).other 9 (.bool false) (show w.heap.size ≠ (w.heap.size + 1) by omega)).other 10 (.slice none 0 0) (show w.heap.size ≠ (w.heap.size + 1) by omega))
  have KR := (((((((((((HR1.out.set 0 (.int .i64 0)).set 1 (.int .i64 0)).set 2 (.int .i64 0)).set 3 (.int .i64 0)).set 4 (.string ⟨#[]⟩)).set 5 (.int .i64 0)).set 6 (.int .i64 0)).set 7 (.int .i64 0)).set 8 (.string ⟨#[]⟩)).set 9 (.bool false)).set 10 (.slice none 0 0))
  have KB := (((((((((((HB1.out.setCell (p := ⟨(w.heap.size + 1), 0, none⟩) (show w.heap.size ≤ (w.heap.size + 1) by omega) (.int .i64 0)).setCell (p := ⟨(w.heap.size + 1), 1, none⟩) (show w.heap.size ≤ (w.heap.size + 1) by omega) (.int .i64 0)).setCell (p := ⟨(w.heap.size + 1), 2, none⟩) (show w.heap.size ≤ (w.heap.size + 1) by omega) (.int .i64 0)).setCell (p := ⟨(w.heap.size + 1), 3, none⟩) (show w.heap.size ≤ (w.heap.size + 1) by omega) (.int .i64 0)).setCell (p := ⟨(w.heap.size + 1), 4, none⟩) (show w.heap.size ≤ (w.heap.size + 1) by omega) (.string ⟨#[]⟩)).setCell (p := ⟨(w.heap.size + 1), 5, none⟩) (show w.heap.size ≤ (w.heap.size + 1) by omega) (.int .i64 0)).setCell (p := ⟨(w.heap.size + 1), 6, none⟩) (show w.heap.size ≤ (w.heap.size + 1) by omega) (.int .i64 0)).setCell (p := ⟨(w.heap.size + 1), 7, none⟩) (show w.heap.size ≤ (w.heap.size + 1) by omega) (.int .i64 0)).setCell (p := ⟨(w.heap.size + 1), 8, none⟩) (show w.heap.size ≤ (w.heap.size + 1) by omega) (.string ⟨#[]⟩)).setCell (p := ⟨(w.heap.size + 1), 9, none⟩) (show w.heap.size ≤ (w.heap.size + 1) by omega) (.bool false)).setCell (p := ⟨(w.heap.size + 1), 10, none⟩) (show w.heap.size ≤ (w.heap.size + 1) by omega) (.slice none 0 0))
  go_wp2_with fail
  clear cR_0_1 cR_1_1 cR_2_1 cR_3_1 cR_4_1 cR_5_1 cR_6_1 cR_7_1 cR_8_1 cR_9_1 cR_10_1 zR_1
  generalize ((((((((((((w1.setCell _ _).setCell _ _).setCell _ _).setCell _ _).setCell _ _).setCell _ _).setCell _ _).setCell _ _).setCell _ _).setCell _ _).setCell _ _) : World) = w2 at *
  have HX2 : Hid (Blk w2 w.heap.size [.int .i64 v, .int .i64 dh, .int .i64 dr, .int .i64 ds, .string di, .int .i64 mh, .int .i64 mr, .int .i64 ms, .string mi, .bool p, .slice a o.length cap] 29) := KX
  have HR2 : Hid (Blk w2 (w.heap.size + 1) [.int .i64 0, .int .i64 0, .int .i64 0, .int .i64 0, .string ⟨#[]⟩, .int .i64 0, .int .i64 0, .int .i64 0, .string ⟨#[]⟩, .bool false, .slice none 0 0] 29) := KR
  have HB2 : Hid (Below w.heap.size w w2) := KB
  clear KX KR KB HX1 HR1 HB1
  have y0 := HR2.out.cell 0 rfl
  have y1 := HR2.out.cell 1 rfl
  have y2 := HR2.out.cell 2 rfl
  have y3 := HR2.out.cell 3 rfl
  have y4 := HR2.out.cell 4 rfl
  have y5 := HR2.out.cell 5 rfl
  have y6 := HR2.out.cell 6 rfl
  have y7 := HR2.out.cell 7 rfl
  have y8 := HR2.out.cell 8 rfl
  have y9 := HR2.out.cell 9 rfl
  have y10 := HR2.out.cell 10 rfl
  refine bodyPost_ret (v := .tuple #[.agg #[.int .i64 0, .int .i64 0, .int .i64 0, .int .i64 0, .string ⟨#[]⟩, .int .i64 0, .int .i64 0, .int .i64 0, .string ⟨#[]⟩, .bool false, .slice none 0 0], .bool false]) (by simp [results, Try.results17, go_sem, y0, y1, y2, y3, y4, y5, y6, y7, y8, y9, y10]) rfl ⟨none, 0, rfl, OwnY.nil _ _, HB2.out⟩
set_option maxHeartbeats 12800000 in
set_option maxRecDepth 100000 in
theorem fall_yes (x : Sg) (a : Option Addr) (cap : Nat) (w : World) (hl : YO w a x.o) (hz : a = none → cap = 0) (hfit : x.o.length ≤ cap ∧ cap ≤ 9223372036854775807) (hs : sOk x = true) :
    Calls Try.prog 17 #[sV x a cap] w fun e w' => ∃ qa qc, e = .returned (.tuple #[sQ (⟨x.v, x.d, x.d, false, x.o⟩ : Sg) (.slice qa x.o.length qc), .bool true]) ∧ Hid (OwnY w' w.heap.size (.slice qa x.o.length qc) x.o) ∧ Below w.heap.size w w' := by
  have HY : Hid (YO w a x.o) := hl
  have kS := fun W (h : YO W a x.o) => impl_sok x a cap W h (by omega)
  have HSM : Hid (SmS x ∧ x.o.length ≤ 60) := sOk_sm hs
  simp only [hs] at kS
  obtain ⟨v, ⟨dh, dr, ds, di⟩, ⟨mh, mr, ms, mi⟩, p, o⟩ := x
  unfold sV sQ at *
  simp only at *
  have hlo : o.length ≤ 60 := HSM.out.2
  have hacts : acts ⟨v, ⟨dh, dr, ds, di⟩, ⟨mh, mr, ms, mi⟩, p, o⟩ [.fall] = ⟨v, ⟨dh, dr, ds, di⟩, ⟨dh, dr, ds, di⟩, false, o⟩ := rfl
  have kA : ∀ (W : World) (hY : YO W a o) (nD : Nat) (hd : DAt W (some ⟨nD, 0, none⟩) [.fall]), Calls Try.prog 38 #[.agg #[.int .i64 v, .int .i64 dh, .int .i64 dr, .int .i64 ds, .string di, .int .i64 mh, .int .i64 mr, .int .i64 ms, .string mi, .bool p, .slice a o.length cap], .slice (some ⟨nD, 0, none⟩) 1 1] W fun e w' => ∃ qa qc, e = .returned (.agg #[.int .i64 v, .int .i64 dh, .int .i64 dr, .int .i64 ds, .string di, .int .i64 dh, .int .i64 dr, .int .i64 ds, .string di, .bool false, .slice qa o.length qc]) ∧ Hid (OwnY w' W.heap.size (.slice qa o.length qc) o) ∧ Below W.heap.size W w' := by
    intro W hY nD hd
    have h := after_any ⟨v, ⟨dh, dr, ds, di⟩, ⟨mh, mr, ms, mi⟩, p, o⟩ a cap (some ⟨nD, 0, none⟩) [.fall] 1 W hY hz hfit (by simp only; omega) hd (show 1 ≤ 1000 by omega) HSM.out.1 (fun d h => by rw [List.mem_singleton.1 h]; trivial)
    rw [hacts] at h
    exact h
  clear hacts
  clear hl hs hfit HSM
  obtain ⟨W0, hW0⟩ : ∃ W, (w.alloc (.cells #[.int .i64 v, .int .i64 dh, .int .i64 dr, .int .i64 ds, .string di, .int .i64 mh, .int .i64 mr, .int .i64 ms, .string mi, .bool p, .slice a o.length cap] 29)).alloc (.cells #[.int .i64 0, .int .i64 0, .int .i64 0, .int .i64 0, .string ⟨#[]⟩, .int .i64 0, .int .i64 0, .int .i64 0, .string ⟨#[]⟩, .bool false, .slice none 0 0] 29) = W := ⟨_, rfl⟩
  have HX0 : Hid (Blk W0 w.heap.size [.int .i64 v, .int .i64 dh, .int .i64 dr, .int .i64 ds, .string di, .int .i64 mh, .int .i64 mr, .int .i64 ms, .string mi, .bool p, .slice a o.length cap] 29) := by
    rw [← hW0]
    have hnew := blk_new (w) [.int .i64 v, .int .i64 dh, .int .i64 dr, .int .i64 ds, .string di, .int .i64 mh, .int .i64 mr, .int .i64 ms, .string mi, .bool p, .slice a o.length cap] 29
    exact (hnew.alloc _)
  have HR0 : Hid (Blk W0 (w.heap.size + 1) [.int .i64 0, .int .i64 0, .int .i64 0, .int .i64 0, .string ⟨#[]⟩, .int .i64 0, .int .i64 0, .int .i64 0, .string ⟨#[]⟩, .bool false, .slice none 0 0] 29) := by
    rw [← hW0]
    have hnew := blk_new (w.alloc (.cells #[.int .i64 v, .int .i64 dh, .int .i64 dr, .int .i64 ds, .string di, .int .i64 mh, .int .i64 mr, .int .i64 ms, .string mi, .bool p, .slice a o.length cap] 29)) [.int .i64 0, .int .i64 0, .int .i64 0, .int .i64 0, .string ⟨#[]⟩, .int .i64 0, .int .i64 0, .int .i64 0, .string ⟨#[]⟩, .bool false, .slice none 0 0] 29
    rw [show (w.alloc (.cells #[.int .i64 v, .int .i64 dh, .int .i64 dr, .int .i64 ds, .string di, .int .i64 mh, .int .i64 mr, .int .i64 ms, .string mi, .bool p, .slice a o.length cap] 29)).heap.size = w.heap.size + 1 from by simp] at hnew
    exact hnew
  have HB0 : Hid (Below w.heap.size w W0) := by rw [← hW0]; exact ((Below.refl w.heap.size w).alloc (Nat.le_refl _) _).alloc (by simp; try omega) _
  go_enter Try.func17, Try.ntmps17
  have cX_0_0 := HX0.out.cell 0 rfl
  have cX_1_0 := HX0.out.cell 1 rfl
  have cX_2_0 := HX0.out.cell 2 rfl
  have cX_3_0 := HX0.out.cell 3 rfl
  have cX_4_0 := HX0.out.cell 4 rfl
  have cX_5_0 := HX0.out.cell 5 rfl
  have cX_6_0 := HX0.out.cell 6 rfl
  have cX_7_0 := HX0.out.cell 7 rfl
  have cX_8_0 := HX0.out.cell 8 rfl
  have cX_9_0 := HX0.out.cell 9 rfl
  have cX_10_0 := HX0.out.cell 10 rfl
  go_wp2_with fail
  clear hW0 cX_0_0 cX_1_0 cX_2_0 cX_3_0 cX_4_0 cX_5_0 cX_6_0 cX_7_0 cX_8_0 cX_9_0 cX_10_0
  refine (kS _ (HY.out.below HB0.out)).mono ?_
  rintro e w1 ⟨rfl, bb⟩
  have HX1 : Hid (Blk w1 w.heap.size [.int .i64 v, .int .i64 dh, .int .i64 dr, .int .i64 ds, .string di, .int .i64 mh, .int .i64 mr, .int .i64 ms, .string mi, .bool p, .slice a o.length cap] 29) := HX0.out.below bb HX0.out.lt
  have HR1 : Hid (Blk w1 (w.heap.size + 1) [.int .i64 0, .int .i64 0, .int .i64 0, .int .i64 0, .string ⟨#[]⟩, .int .i64 0, .int .i64 0, .int .i64 0, .string ⟨#[]⟩, .bool false, .slice none 0 0] 29) := HR0.out.below bb HR0.out.lt
  have HB1 : Hid (Below w.heap.size w w1) := HB0.out.trans (bb.mono HB0.out.size)
  clear HX0 HR0 HB0
  clear bb
  clear kS
  have cX_0_1 := HX1.out.cell 0 rfl
  have cX_1_1 := HX1.out.cell 1 rfl
  have cX_2_1 := HX1.out.cell 2 rfl
  have cX_3_1 := HX1.out.cell 3 rfl
  have cX_4_1 := HX1.out.cell 4 rfl
  have cX_5_1 := HX1.out.cell 5 rfl
  have cX_6_1 := HX1.out.cell 6 rfl
  have cX_7_1 := HX1.out.cell 7 rfl
  have cX_8_1 := HX1.out.cell 8 rfl
  have cX_9_1 := HX1.out.cell 9 rfl
  have cX_10_1 := HX1.out.cell 10 rfl
  obtain ⟨wa2, hwa2⟩ : ∃ W, w1.alloc (.cells #[.iface 72 (.agg #[])] 95) = W := ⟨_, rfl⟩
  obtain ⟨nD, hnD⟩ : ∃ n, w1.heap.size = n := ⟨_, rfl⟩
  have hnDX : w.heap.size < nD := by rw [← hnD]; exact HX1.out.lt
  have hnDR : (w.heap.size + 1) < nD := by rw [← hnD]; exact HR1.out.lt
  have HAnD : Hid (Below w1.heap.size w1 wa2) := by rw [← hwa2]; exact below_one _ _
  have HX2 : Hid (Blk wa2 w.heap.size [.int .i64 v, .int .i64 dh, .int .i64 dr, .int .i64 ds, .string di, .int .i64 mh, .int .i64 mr, .int .i64 ms, .string mi, .bool p, .slice a o.length cap] 29) := HX1.out.below HAnD.out HX1.out.lt
  have HR2 : Hid (Blk wa2 (w.heap.size + 1) [.int .i64 0, .int .i64 0, .int .i64 0, .int .i64 0, .string ⟨#[]⟩, .int .i64 0, .int .i64 0, .int .i64 0, .string ⟨#[]⟩, .bool false, .slice none 0 0] 29) := HR1.out.below HAnD.out HR1.out.lt
  have HB2 : Hid (Below w.heap.size w wa2) := HB1.out.trans (HAnD.out.mono HB1.out.size)
  have HD2 : Hid (Blk wa2 nD [.iface 72 (.agg #[])] 95) := by rw [← hwa2, ← hnD]; exact blk_new _ _ _
  clear HAnD HX1 HR1 HB1
  have cX_0_2 := HX2.out.cell 0 rfl
  have cX_1_2 := HX2.out.cell 1 rfl
  have cX_2_2 := HX2.out.cell 2 rfl
  have cX_3_2 := HX2.out.cell 3 rfl
  have cX_4_2 := HX2.out.cell 4 rfl
  have cX_5_2 := HX2.out.cell 5 rfl
  have cX_6_2 := HX2.out.cell 6 rfl
  have cX_7_2 := HX2.out.cell 7 rfl
  have cX_8_2 := HX2.out.cell 8 rfl
  have cX_9_2 := HX2.out.cell 9 rfl
  have cX_10_2 := HX2.out.cell 10 rfl
  go_wp2_with fail
  clear cX_0_1 cX_1_1 cX_2_1 cX_3_1 cX_4_1 cX_5_1 cX_6_1 cX_7_1 cX_8_1 cX_9_1 cX_10_1 hwa2 hnD cX_0_2 cX_1_2 cX_2_2 cX_3_2 cX_4_2 cX_5_2 cX_6_2 cX_7_2 cX_8_2 cX_9_2 cX_10_2
  obtain ⟨NB, hNB⟩ : ∃ n, wa2.heap.size = n := ⟨_, rfl⟩
  have HNB : Hid (wa2.heap.size = NB) := hNB
  have hlt1 : w.heap.size + 1 < NB := by rw [← hNB]; exact HR2.out.lt
  clear hNB
  refine (kA _ (HY.out.below HB2.out) nD (dat_one HD2.out)).mono ?_
  rintro e w3 ⟨qa, qc, rfl, HQ, bb⟩
  rw [HNB.out] at HQ
  have HQ0 : Hid (OwnY w3 NB (.slice qa o.length qc) o) := HQ
  clear HQ HNB
  have HX3 : Hid (Blk w3 w.heap.size [.int .i64 v, .int .i64 dh, .int .i64 dr, .int .i64 ds, .string di, .int .i64 mh, .int .i64 mr, .int .i64 ms, .string mi, .bool p, .slice a o.length cap] 29) := HX2.out.below bb HX2.out.lt
  have HR3 : Hid (Blk w3 (w.heap.size + 1) [.int .i64 0, .int .i64 0, .int .i64 0, .int .i64 0, .string ⟨#[]⟩, .int .i64 0, .int .i64 0, .int .i64 0, .string ⟨#[]⟩, .bool false, .slice none 0 0] 29) := HR2.out.below bb HR2.out.lt
  have HD3 : Hid (Blk w3 nD [.iface 72 (.agg #[])] 95) := HD2.out.below bb HD2.out.lt
  have HB3 : Hid (Below w.heap.size w w3) := HB2.out.trans (bb.mono HB2.out.size)
  clear HX2 HR2 HD2 HB2
  clear bb
  clear kA HY
  have cR_0_3 := HR3.out.cell 0 rfl
  have cR_1_3 := HR3.out.cell 1 rfl
  have cR_2_3 := HR3.out.cell 2 rfl
  have cR_3_3 := HR3.out.cell 3 rfl
  have cR_4_3 := HR3.out.cell 4 rfl
  have cR_5_3 := HR3.out.cell 5 rfl
  have cR_6_3 := HR3.out.cell 6 rfl
  have cR_7_3 := HR3.out.cell 7 rfl
  have cR_8_3 := HR3.out.cell 8 rfl
  have cR_9_3 := HR3.out.cell 9 rfl
  have cR_10_3 := HR3.out.cell 10 rfl
  have zR_3 := fun j => HR3.out.frozen j
  have KX := (((((((((((HX3.out.other 0 (.int .i64 v) (show w.heap.size ≠ (w.heap.size + 1) by omega)).other 1 (.int .i64 dh) (show w.heap.size ≠ (w.heap.size + 1) by omega)).other 2 (.int .i64 dr) (show w.heap.size ≠ (w.heap.size + 1) by omega)).other 3 (.int .i64 ds) (show w.heap.size ≠ (w.heap.size + 1) by omega)).other 4 (.string di) (show w.heap.size ≠ (w.heap.size + 1) by omega)).other 5 (.int .i64 dh) (show w.heap.size ≠ (w.heap.size + 1) by omega)).other 6 (.int .i64 dr) (show w.heap.size ≠ (w.heap.size + 1) by omega)).other 7 (.int .i64 ds) (show w.heap.size ≠ (w.heap.size + 1) by omega)).other 8 (.string di) (show w.heap.size ≠ (w.heap.size + 1) by omega)).other 9 (.bool false) (show w.heap.size ≠ (w.heap.size + 1) by omega)).other 10 (.slice qa o.length qc) (show w.heap.size ≠ (w.heap.size + 1) by omega))
  have KR := (((((((((((HR3.out.set 0 (.int .i64 v)).set 1 (.int .i64 dh)).set 2 (.int .i64 dr)).set 3 (.int .i64 ds)).set 4 (.string di)).set 5 (.int .i64 dh)).set 6 (.int .i64 dr)).set 7 (.int .i64 ds)).set 8 (.string di)).set 9 (.bool false)).set 10 (.slice qa o.length qc))
  have KD := (((((((((((HD3.out.other 0 (.int .i64 v) (show nD ≠ (w.heap.size + 1) by omega)).other 1 (.int .i64 dh) (show nD ≠ (w.heap.size + 1) by omega)).other 2 (.int .i64 dr) (show nD ≠ (w.heap.size + 1) by omega)).other 3 (.int .i64 ds) (show nD ≠ (w.heap.size + 1) by omega)).other 4 (.string di) (show nD ≠ (w.heap.size + 1) by omega)).other 5 (.int .i64 dh) (show nD ≠ (w.heap.size + 1) by omega)).other 6 (.int .i64 dr) (show nD ≠ (w.heap.size + 1) by omega)).other 7 (.int .i64 ds) (show nD ≠ (w.heap.size + 1) by omega)).other 8 (.string di) (show nD ≠ (w.heap.size + 1) by omega)).other 9 (.bool false) (show nD ≠ (w.heap.size + 1) by omega)).other 10 (.slice qa o.length qc) (show nD ≠ (w.heap.size + 1) by omega))
  have KB := (((((((((((HB3.out.setCell (p := ⟨(w.heap.size + 1), 0, none⟩) (show w.heap.size ≤ (w.heap.size + 1) by omega) (.int .i64 v)).setCell (p := ⟨(w.heap.size + 1), 1, none⟩) (show w.heap.size ≤ (w.heap.size + 1) by omega) (.int .i64 dh)).setCell (p := ⟨(w.heap.size + 1), 2, none⟩) (show w.heap.size ≤ (w.heap.size + 1) by omega) (.int .i64 dr)).setCell (p := ⟨(w.heap.size + 1), 3, none⟩) (show w.heap.size ≤ (w.heap.size + 1) by omega) (.int .i64 ds)).setCell (p := ⟨(w.heap.size + 1), 4, none⟩) (show w.heap.size ≤ (w.heap.size + 1) by omega) (.string di)).setCell (p := ⟨(w.heap.size + 1), 5, none⟩) (show w.heap.size ≤ (w.heap.size + 1) by omega) (.int .i64 dh)).setCell (p := ⟨(w.heap.size + 1), 6, none⟩) (show w.heap.size ≤ (w.heap.size + 1) by omega) (.int .i64 dr)).setCell (p := ⟨(w.heap.size + 1), 7, none⟩) (show w.heap.size ≤ (w.heap.size + 1) by omega) (.int .i64 ds)).setCell (p := ⟨(w.heap.size + 1), 8, none⟩) (show w.heap.size ≤ (w.heap.size + 1) by omega) (.string di)).setCell (p := ⟨(w.heap.size + 1), 9, none⟩) (show w.heap.size ≤ (w.heap.size + 1) by omega) (.bool false)).setCell (p := ⟨(w.heap.size + 1), 10, none⟩) (show w.heap.size ≤ (w.heap.size + 1) by omega) (.slice qa o.length qc))
  have KG : Hid (w3.grownBy (((((((((((w3.setCell ⟨(w.heap.size + 1), 0, none⟩ (.int .i64 v)).setCell ⟨(w.heap.size + 1), 1, none⟩ (.int .i64 dh)).setCell ⟨(w.heap.size + 1), 2, none⟩ (.int .i64 dr)).setCell ⟨(w.heap.size + 1), 3, none⟩ (.int .i64 ds)).setCell ⟨(w.heap.size + 1), 4, none⟩ (.string di)).setCell ⟨(w.heap.size + 1), 5, none⟩ (.int .i64 dh)).setCell ⟨(w.heap.size + 1), 6, none⟩ (.int .i64 dr)).setCell ⟨(w.heap.size + 1), 7, none⟩ (.int .i64 ds)).setCell ⟨(w.heap.size + 1), 8, none⟩ (.string di)).setCell ⟨(w.heap.size + 1), 9, none⟩ (.bool false)).setCell ⟨(w.heap.size + 1), 10, none⟩ (.slice qa o.length qc)) (some (w.heap.size + 1))) := grown_set (grown_set (grown_set (grown_set (grown_set (grown_set (grown_set (grown_set (grown_set (grown_set (grown_set (grown_refl _ _) _) _) _) _) _) _) _) _) _) _) _
  have KQ : Hid (OwnY (((((((((((w3.setCell ⟨(w.heap.size + 1), 0, none⟩ (.int .i64 v)).setCell ⟨(w.heap.size + 1), 1, none⟩ (.int .i64 dh)).setCell ⟨(w.heap.size + 1), 2, none⟩ (.int .i64 dr)).setCell ⟨(w.heap.size + 1), 3, none⟩ (.int .i64 ds)).setCell ⟨(w.heap.size + 1), 4, none⟩ (.string di)).setCell ⟨(w.heap.size + 1), 5, none⟩ (.int .i64 dh)).setCell ⟨(w.heap.size + 1), 6, none⟩ (.int .i64 dr)).setCell ⟨(w.heap.size + 1), 7, none⟩ (.int .i64 ds)).setCell ⟨(w.heap.size + 1), 8, none⟩ (.string di)).setCell ⟨(w.heap.size + 1), 9, none⟩ (.bool false)).setCell ⟨(w.heap.size + 1), 10, none⟩ (.slice qa o.length qc)) NB (.slice qa o.length qc) o) := own_still HQ0.out KG.out (fun j e => by injection e with e; omega)
  go_wp2_with fail
  clear cR_0_3 cR_1_3 cR_2_3 cR_3_3 cR_4_3 cR_5_3 cR_6_3 cR_7_3 cR_8_3 cR_9_3 cR_10_3 zR_3
  generalize ((((((((((((w3.setCell _ _).setCell _ _).setCell _ _).setCell _ _).setCell _ _).setCell _ _).setCell _ _).setCell _ _).setCell _ _).setCell _ _).setCell _ _) : World) = w4 at *
  have HX4 : Hid (Blk w4 w.heap.size [.int .i64 v, .int .i64 dh, .int .i64 dr, .int .i64 ds, .string di, .int .i64 mh, .int .i64 mr, .int .i64 ms, .string mi, .bool p, .slice a o.length cap] 29) := KX
  have HR4 : Hid (Blk w4 (w.heap.size + 1) [.int .i64 v, .int .i64 dh, .int .i64 dr, .int .i64 ds, .string di, .int .i64 dh, .int .i64 dr, .int .i64 ds, .string di, .bool false, .slice qa o.length qc] 29) := KR
  have HD4 : Hid (Blk w4 nD [.iface 72 (.agg #[])] 95) := KD
  have HQ4 : Hid (OwnY w4 NB (.slice qa o.length qc) o) := KQ
  have HB4 : Hid (Below w.heap.size w w4) := KB
  clear KX KR KD KB KG KQ HX3 HR3 HD3 HB3 HQ0
  have y0 := HR4.out.cell 0 rfl
  have y1 := HR4.out.cell 1 rfl
  have y2 := HR4.out.cell 2 rfl
  have y3 := HR4.out.cell 3 rfl
  have y4 := HR4.out.cell 4 rfl
  have y5 := HR4.out.cell 5 rfl
  have y6 := HR4.out.cell 6 rfl
  have y7 := HR4.out.cell 7 rfl
  have y8 := HR4.out.cell 8 rfl
  have y9 := HR4.out.cell 9 rfl
  have y10 := HR4.out.cell 10 rfl
  refine bodyPost_ret (v := .tuple #[.agg #[.int .i64 v, .int .i64 dh, .int .i64 dr, .int .i64 ds, .string di, .int .i64 dh, .int .i64 dr, .int .i64 ds, .string di, .bool false, .slice qa o.length qc], .bool true]) (by simp [results, Try.results17, go_sem, y0, y1, y2, y3, y4, y5, y6, y7, y8, y9, y10]) rfl ⟨_, _, rfl, own_less HQ4.out (by omega), HB4.out⟩
theorem impl_sync (x : Sg) (a : Option Addr) (cap : Nat) (w : World) (hl : YO w a x.o) (hz : a = none → cap = 0) (hfit : x.o.length ≤ cap ∧ cap ≤ 9223372036854775807) :
    Calls Try.prog 16 #[sV x a cap] w fun e w' => ∃ qa qc, e = .returned (.tuple #[sQ (synS x).1 (.slice qa (synS x).1.o.length qc), .bool (synS x).2]) ∧ Hid (OwnY w' w.heap.size (.slice qa (synS x).1.o.length qc) (synS x).1.o) ∧ Below w.heap.size w w' := by
  cases hs : sOk x
  · have e : synS x = (zSg, false) := by unfold synS; rw [hs]; rfl
    rw [e]; exact sync_no x a cap w hl hz hfit hs
  · cases hp : x.p
    · have e : synS x = (x, false) := by unfold synS; rw [hs, hp]; rfl
      rw [e]; exact sync_np x a cap w hl hz hfit hs hp
    · by_cases h60 : x.o.length < 60
      · have e : synS x = (⟨x.v, x.m, x.m, false, x.o ++ [gvo x.m x.v]⟩, true) := by unfold synS synO; rw [hs, hp, if_pos h60]; rfl
        rw [e]; exact sync_room x a cap w hl hz hfit hs hp h60
      · have e : synS x = (⟨x.v, x.m, x.m, false, x.o⟩, true) := by unfold synS synO; rw [hs, hp, if_neg h60]; rfl
        rw [e]; exact sync_full x a cap w hl hz hfit hs hp h60
theorem impl_fall (x : Sg) (a : Option Addr) (cap : Nat) (w : World) (hl : YO w a x.o) (hz : a = none → cap = 0) (hfit : x.o.length ≤ cap ∧ cap ≤ 9223372036854775807) :
    Calls Try.prog 17 #[sV x a cap] w fun e w' => ∃ qa qc, e = .returned (.tuple #[sQ (fallS x).1 (.slice qa (fallS x).1.o.length qc), .bool (fallS x).2]) ∧ Hid (OwnY w' w.heap.size (.slice qa (fallS x).1.o.length qc) (fallS x).1.o) ∧ Below w.heap.size w w' := by
  cases hs : sOk x
  · have e : fallS x = (zSg, false) := by unfold fallS; rw [hs]; rfl
    rw [e]; exact fall_no x a cap w hl hz hfit hs
  · have e : fallS x = (⟨x.v, x.d, x.d, false, x.o⟩, true) := by unfold fallS; rw [hs]; rfl
    rw [e]; exact fall_yes x a cap w hl hz hfit hs
end Go.Proofs.Ytmjlpdmdpagggaa
