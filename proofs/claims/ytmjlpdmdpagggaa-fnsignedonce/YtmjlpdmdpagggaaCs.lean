/- What copyOfSigner and isFull answer; old memory stays. Conditions: small texts, a row of at most 2 to the 20 votes. -/
import Derived.Test.YtmjlpdmdpagggaaCy
namespace Go.Proofs.Ytmjlpdmdpagggaa
open Go.RowKit
open Num
set_option linter.unusedVariables false
theorem OwnY.same {w : World} {B g cap : Nat} {l : List Vt} (h : OwnY w B (.slice (some ⟨g, 0, none⟩) l.length cap) l) (k : Nat) (u : Value) (hu : (ycs l)[k]? = some u) : OwnY (w.setCell ⟨g, k, none⟩ u) B (.slice (some ⟨g, 0, none⟩) l.length cap) l := by
  have h0 : w.ownsRow B 31 5 (.slice (some ⟨g, 0, none⟩) l.length cap) l.length (ycs l) := h
  have h1 := (h0.stored k u).1
  obtain ⟨hk, e⟩ := List.getElem?_eq_some_iff.1 hu
  subst e
  rw [List.set_getElem_self] at h1
  exact h1
theorem OwnY.row {w : World} {B qc : Nat} {qa : Option Addr} {l : List Vt} (h : OwnY w B (.slice qa l.length qc) l) (h0 : 0 < l.length) : ∃ g, qa = some ⟨g, 0, none⟩ ∧ B ≤ g ∧ g < w.heap.size ∧ YAt w g 0 l ∧ ∀ j, w.frozen? ⟨g, j, none⟩ = false := by
  have h' : w.ownsRow B 31 5 (.slice qa l.length qc) l.length (ycs l) := h
  rcases h.2 with ⟨e, hn⟩ | ⟨g, cap, cur, e, hB, hg, hnc, hcm, _⟩
  · omega
  · simp only [Value.slice.injEq] at e
    obtain ⟨rfl, _, rfl⟩ := e
    refine ⟨g, rfl, hB, (Array.getElem?_eq_some_iff.1 hg).1, fun j hj c hc => ?_, fun j => h'.frozenAt j⟩
    rw [Nat.zero_add, h'.cellAt (j * 5 + c) (by omega)]
    exact flat_at yLs 5 (fun _ => rfl) l j hj c hc
theorem ycs_at (l : List Vt) (j : Nat) (hj : j < l.length) (c : Nat) (hc : c < 5) : (ycs l)[j * 5 + c]? = (yLs l[j])[c]? := flat_at yLs 5 (fun _ => rfl) l j hj c hc
set_option maxHeartbeats 400000 in
set_option maxRecDepth 100000 in
theorem impl_full (x : Sg) (a : Option Addr) (cap : Nat) (w : World) (hlen : x.o.length ≤ 9223372036854775807) :
    Calls Try.prog 39 #[sV x a cap] w fun e w' => e = .returned (.bool (decide (60 ≤ x.o.length))) ∧ Below w.heap.size w w' := by
  obtain ⟨v, ⟨dh, dr, ds, di⟩, ⟨mh, mr, ms, mi⟩, p, o⟩ := x
  unfold sV sQ
  simp only at *
  have HB : Hid (Below w.heap.size w (w.alloc (.cells #[.int .i64 v, .int .i64 dh, .int .i64 dr, .int .i64 ds, .string di, .int .i64 mh, .int .i64 mr, .int .i64 ms, .string mi, .bool p, .slice a o.length cap] 29))) := below_one _ _
  by_cases h60 : (60 : Int) ≤ (o.length : Int)
  · have HD : Hid (decide (60 ≤ o.length) = true) := by show _ = _; rw [decide_eq_true_eq]; omega
    go_enter Try.func39, Try.ntmps39
    go_wp2
    go_ret
    exact ⟨by rw [HD.out]; rfl, HB.out⟩
  · have HD : Hid (decide (60 ≤ o.length) = false) := by show _ = _; rw [decide_eq_false_iff_not]; omega
    go_enter Try.func39, Try.ntmps39
    go_wp2
    go_ret
    exact ⟨by rw [HD.out]; rfl, HB.out⟩
set_option maxHeartbeats 3200000 in
set_option maxRecDepth 100000 in
theorem copy_sg (x : Sg) (a : Option Addr) (cap : Nat) (w : World) (hl : YO w a x.o) (hz : a = none → cap = 0) (hlen : x.o.length ≤ 1048576) (hd : x.d.i.size ≤ 1048576) (hm : x.m.i.size ≤ 1048576) (hs : ∀ y ∈ x.o, SmV y) :
    Calls Try.prog 68 #[sV x a cap] w fun e w' => ∃ qa qc, e = .returned (sQ x (.slice qa x.o.length qc)) ∧ Hid (OwnY w' w.heap.size (.slice qa x.o.length qc) x.o) ∧ Below w.heap.size w w' := by
  have kD := fun W => impl_clone x.d.i W hd
  have kM := fun W => impl_clone x.m.i W hm
  have kY := fun W (h : YO W a x.o) => impl_clone_y a x.o cap W h hz hlen
  have kC := fun (y : Vt) W (h : SmV y) => impl_clone y.i W h
  have HS : Hid (∀ y ∈ x.o, SmV y) := hs
  clear hs hd hm
  obtain ⟨v, ⟨dh, dr, ds, di⟩, ⟨mh, mr, ms, mi⟩, p, o⟩ := x
  unfold sV sQ
  simp only at *
  have HY : Hid (YO w a o) := hl
  clear hl
  obtain ⟨W0, hW0⟩ : ∃ W, (w.alloc (.cells #[.int .i64 v, .int .i64 dh, .int .i64 dr, .int .i64 ds, .string di, .int .i64 mh, .int .i64 mr, .int .i64 ms, .string mi, .bool p, .slice a o.length cap] 29)).alloc (.cells #[.int .i64 0, .int .i64 0, .int .i64 0, .int .i64 0, .string ⟨#[]⟩, .int .i64 0, .int .i64 0, .int .i64 0, .string ⟨#[]⟩, .bool false, .slice none 0 0] 29) = W := ⟨_, rfl⟩
  have HX0 : Hid (Blk W0 w.heap.size [.int .i64 v, .int .i64 dh, .int .i64 dr, .int .i64 ds, .string di, .int .i64 mh, .int .i64 mr, .int .i64 ms, .string mi, .bool p, .slice a o.length cap] 29) := by
    rw [← hW0]
    have hnew := blk_new (w) [.int .i64 v, .int .i64 dh, .int .i64 dr, .int .i64 ds, .string di, .int .i64 mh, .int .i64 mr, .int .i64 ms, .string mi, .bool p, .slice a o.length cap] 29
    exact (hnew.alloc _)
  have HR0 : Hid (Blk W0 (w.heap.size + 1) [.int .i64 0, .int .i64 0, .int .i64 0, .int .i64 0, .string ⟨#[]⟩, .int .i64 0, .int .i64 0, .int .i64 0, .string ⟨#[]⟩, .bool false, .slice none 0 0] 29) := by
    rw [← hW0]
    have hnew := blk_new (w.alloc (.cells #[.int .i64 v, .int .i64 dh, .int .i64 dr, .int .i64 ds, .string di, .int .i64 mh, .int .i64 mr, .int .i64 ms, .string mi, .bool p, .slice a o.length cap] 29)) [.int .i64 0, .int .i64 0, .int .i64 0, .int .i64 0, .string ⟨#[]⟩, .int .i64 0, .int .i64 0, .int .i64 0, .string ⟨#[]⟩, .bool false, .slice none 0 0] 29
    rw [show (w.alloc (.cells #[.int .i64 v, .int .i64 dh, .int .i64 dr, .int .i64 ds, .string di, .int .i64 mh, .int .i64 mr, .int .i64 ms, .string mi, .bool p, .slice a o.length cap] 29)).heap.size = w.heap.size + 1 from by simp] at hnew
    exact hnew
  have HB0 : Hid (Below w.heap.size w W0) := by rw [← hW0]; exact ((Below.refl w.heap.size w).alloc (Nat.le_refl _) _).alloc (by simp; try omega) _
  go_enter Try.func68, Try.ntmps68
  have cX_0 := HX0.out.cell 0 rfl
  have cX_1 := HX0.out.cell 1 rfl
  have cX_2 := HX0.out.cell 2 rfl
  have cX_3 := HX0.out.cell 3 rfl
  have cX_4 := HX0.out.cell 4 rfl
  have cX_5 := HX0.out.cell 5 rfl
  have cX_6 := HX0.out.cell 6 rfl
  have cX_7 := HX0.out.cell 7 rfl
  have cX_8 := HX0.out.cell 8 rfl
  have cX_9 := HX0.out.cell 9 rfl
  have cX_10 := HX0.out.cell 10 rfl
  go_wp2_with fail
  clear hW0 cX_0 cX_1 cX_2 cX_3 cX_4 cX_5 cX_6 cX_7 cX_8 cX_9 cX_10
  refine (kD _).mono ?_
  rintro e w1 ⟨rfl, bb⟩
  have HX1 : Hid (Blk w1 w.heap.size [.int .i64 v, .int .i64 dh, .int .i64 dr, .int .i64 ds, .string di, .int .i64 mh, .int .i64 mr, .int .i64 ms, .string mi, .bool p, .slice a o.length cap] 29) := HX0.out.below bb HX0.out.lt
  have HR1 : Hid (Blk w1 (w.heap.size + 1) [.int .i64 0, .int .i64 0, .int .i64 0, .int .i64 0, .string ⟨#[]⟩, .int .i64 0, .int .i64 0, .int .i64 0, .string ⟨#[]⟩, .bool false, .slice none 0 0] 29) := HR0.out.below bb HR0.out.lt
  have HB1 : Hid (Below w.heap.size w w1) := HB0.out.trans (bb.mono HB0.out.size)
  clear HX0 HR0 HB0
  clear bb
  have cX_0 := HX1.out.cell 0 rfl
  have cX_1 := HX1.out.cell 1 rfl
  have cX_2 := HX1.out.cell 2 rfl
  have cX_3 := HX1.out.cell 3 rfl
  have cX_4 := HX1.out.cell 4 rfl
  have cX_5 := HX1.out.cell 5 rfl
  have cX_6 := HX1.out.cell 6 rfl
  have cX_7 := HX1.out.cell 7 rfl
  have cX_8 := HX1.out.cell 8 rfl
  have cX_9 := HX1.out.cell 9 rfl
  have cX_10 := HX1.out.cell 10 rfl
  have zX := fun j => HX1.out.frozen j
  have KX := (HX1.out.set 4 (.string di))
  have KR := (HR1.out.other 4 (.string di) (show (w.heap.size + 1) ≠ w.heap.size by omega))
  have KB := (HB1.out.setCell (p := ⟨w.heap.size, 4, none⟩) (show w.heap.size ≤ w.heap.size by omega) (.string di))
  go_upto_region 2 with fail
  clear cX_0 cX_1 cX_2 cX_3 cX_4 cX_5 cX_6 cX_7 cX_8 cX_9 cX_10 zX
  generalize ((w1.setCell _ _) : World) = w2 at *
  have HX2 : Hid (Blk w2 w.heap.size [.int .i64 v, .int .i64 dh, .int .i64 dr, .int .i64 ds, .string di, .int .i64 mh, .int .i64 mr, .int .i64 ms, .string mi, .bool p, .slice a o.length cap] 29) := KX
  have HR2 : Hid (Blk w2 (w.heap.size + 1) [.int .i64 0, .int .i64 0, .int .i64 0, .int .i64 0, .string ⟨#[]⟩, .int .i64 0, .int .i64 0, .int .i64 0, .string ⟨#[]⟩, .bool false, .slice none 0 0] 29) := KR
  have HB2 : Hid (Below w.heap.size w w2) := KB
  clear KX KR KB HX1 HR1 HB1
  have cX_0 := HX2.out.cell 0 rfl
  have cX_1 := HX2.out.cell 1 rfl
  have cX_2 := HX2.out.cell 2 rfl
  have cX_3 := HX2.out.cell 3 rfl
  have cX_4 := HX2.out.cell 4 rfl
  have cX_5 := HX2.out.cell 5 rfl
  have cX_6 := HX2.out.cell 6 rfl
  have cX_7 := HX2.out.cell 7 rfl
  have cX_8 := HX2.out.cell 8 rfl
  have cX_9 := HX2.out.cell 9 rfl
  have cX_10 := HX2.out.cell 10 rfl
  go_wp2_with fail
  clear cX_0 cX_1 cX_2 cX_3 cX_4 cX_5 cX_6 cX_7 cX_8 cX_9 cX_10
  refine (kM _).mono ?_
  rintro e w3 ⟨rfl, bb⟩
  have HX3 : Hid (Blk w3 w.heap.size [.int .i64 v, .int .i64 dh, .int .i64 dr, .int .i64 ds, .string di, .int .i64 mh, .int .i64 mr, .int .i64 ms, .string mi, .bool p, .slice a o.length cap] 29) := HX2.out.below bb HX2.out.lt
  have HR3 : Hid (Blk w3 (w.heap.size + 1) [.int .i64 0, .int .i64 0, .int .i64 0, .int .i64 0, .string ⟨#[]⟩, .int .i64 0, .int .i64 0, .int .i64 0, .string ⟨#[]⟩, .bool false, .slice none 0 0] 29) := HR2.out.below bb HR2.out.lt
  have HB3 : Hid (Below w.heap.size w w3) := HB2.out.trans (bb.mono HB2.out.size)
  clear HX2 HR2 HB2
  clear bb
  have cX_0 := HX3.out.cell 0 rfl
  have cX_1 := HX3.out.cell 1 rfl
  have cX_2 := HX3.out.cell 2 rfl
  have cX_3 := HX3.out.cell 3 rfl
  have cX_4 := HX3.out.cell 4 rfl
  have cX_5 := HX3.out.cell 5 rfl
  have cX_6 := HX3.out.cell 6 rfl
  have cX_7 := HX3.out.cell 7 rfl
  have cX_8 := HX3.out.cell 8 rfl
  have cX_9 := HX3.out.cell 9 rfl
  have cX_10 := HX3.out.cell 10 rfl
  have zX := fun j => HX3.out.frozen j
  have KX := (HX3.out.set 8 (.string mi))
  have KR := (HR3.out.other 8 (.string mi) (show (w.heap.size + 1) ≠ w.heap.size by omega))
  have KB := (HB3.out.setCell (p := ⟨w.heap.size, 8, none⟩) (show w.heap.size ≤ w.heap.size by omega) (.string mi))
  go_upto_region 3 with fail
  clear cX_0 cX_1 cX_2 cX_3 cX_4 cX_5 cX_6 cX_7 cX_8 cX_9 cX_10 zX
  generalize ((w3.setCell _ _) : World) = w4 at *
  have HX4 : Hid (Blk w4 w.heap.size [.int .i64 v, .int .i64 dh, .int .i64 dr, .int .i64 ds, .string di, .int .i64 mh, .int .i64 mr, .int .i64 ms, .string mi, .bool p, .slice a o.length cap] 29) := KX
  have HR4 : Hid (Blk w4 (w.heap.size + 1) [.int .i64 0, .int .i64 0, .int .i64 0, .int .i64 0, .string ⟨#[]⟩, .int .i64 0, .int .i64 0, .int .i64 0, .string ⟨#[]⟩, .bool false, .slice none 0 0] 29) := KR
  have HB4 : Hid (Below w.heap.size w w4) := KB
  clear KX KR KB HX3 HR3 HB3
  have cX_0 := HX4.out.cell 0 rfl
  have cX_1 := HX4.out.cell 1 rfl
  have cX_2 := HX4.out.cell 2 rfl
  have cX_3 := HX4.out.cell 3 rfl
  have cX_4 := HX4.out.cell 4 rfl
  have cX_5 := HX4.out.cell 5 rfl
  have cX_6 := HX4.out.cell 6 rfl
  have cX_7 := HX4.out.cell 7 rfl
  have cX_8 := HX4.out.cell 8 rfl
  have cX_9 := HX4.out.cell 9 rfl
  have cX_10 := HX4.out.cell 10 rfl
  have hsz : w.heap.size + 1 < w4.heap.size := HR4.out.lt
  obtain ⟨NB, hNB⟩ : ∃ n, w4.heap.size = n := ⟨_, rfl⟩
  have HNB : Hid (w4.heap.size = NB) := hNB
  rw [hNB] at hsz
  clear hNB
  go_wp2_with fail
  clear cX_0 cX_1 cX_2 cX_3 cX_4 cX_5 cX_6 cX_7 cX_8 cX_9 cX_10 kD kM
  refine (kY _ (HY.out.below HB4.out)).mono ?_
  rintro e w5 ⟨q, rfl, HQ, bb⟩
  obtain ⟨qa, qc, rfl⟩ := own_shape HQ.out
  rw [HNB.out] at HQ
  have HQ0 : Hid (OwnY w5 NB (.slice qa o.length qc) o) := HQ
  have HX5 : Hid (Blk w5 w.heap.size [.int .i64 v, .int .i64 dh, .int .i64 dr, .int .i64 ds, .string di, .int .i64 mh, .int .i64 mr, .int .i64 ms, .string mi, .bool p, .slice a o.length cap] 29) := HX4.out.below bb HX4.out.lt
  have HR5 : Hid (Blk w5 (w.heap.size + 1) [.int .i64 0, .int .i64 0, .int .i64 0, .int .i64 0, .string ⟨#[]⟩, .int .i64 0, .int .i64 0, .int .i64 0, .string ⟨#[]⟩, .bool false, .slice none 0 0] 29) := HR4.out.below bb HR4.out.lt
  have HB5 : Hid (Below w.heap.size w w5) := HB4.out.trans (bb.mono HB4.out.size)
  clear HX4 HR4 HB4
  clear bb kY HQ HNB
  have cX_0 := HX5.out.cell 0 rfl
  have cX_1 := HX5.out.cell 1 rfl
  have cX_2 := HX5.out.cell 2 rfl
  have cX_3 := HX5.out.cell 3 rfl
  have cX_4 := HX5.out.cell 4 rfl
  have cX_5 := HX5.out.cell 5 rfl
  have cX_6 := HX5.out.cell 6 rfl
  have cX_7 := HX5.out.cell 7 rfl
  have cX_8 := HX5.out.cell 8 rfl
  have cX_9 := HX5.out.cell 9 rfl
  have cX_10 := HX5.out.cell 10 rfl
  have zX := fun j => HX5.out.frozen j
  have KX := (HX5.out.set 10 (.slice qa o.length qc))
  have KR := (HR5.out.other 10 (.slice qa o.length qc) (show (w.heap.size + 1) ≠ w.heap.size by omega))
  have KB := (HB5.out.setCell (p := ⟨w.heap.size, 10, none⟩) (show w.heap.size ≤ w.heap.size by omega) (.slice qa o.length qc))
  have KG : Hid (w5.grownBy (w5.setCell ⟨w.heap.size, 10, none⟩ (.slice qa o.length qc)) (some w.heap.size)) := grown_set (grown_refl _ _) _
  have KQ : Hid (OwnY (w5.setCell ⟨w.heap.size, 10, none⟩ (.slice qa o.length qc)) NB (.slice qa o.length qc) o) := own_still HQ0.out KG.out (fun j e => by injection e with e; omega)
  go_upto_region 4 with fail
  clear cX_0 cX_1 cX_2 cX_3 cX_4 cX_5 cX_6 cX_7 cX_8 cX_9 cX_10 zX
  generalize ((w5.setCell _ _) : World) = w6 at *
  have HX6 : Hid (Blk w6 w.heap.size [.int .i64 v, .int .i64 dh, .int .i64 dr, .int .i64 ds, .string di, .int .i64 mh, .int .i64 mr, .int .i64 ms, .string mi, .bool p, .slice qa o.length qc] 29) := KX
  have HR6 : Hid (Blk w6 (w.heap.size + 1) [.int .i64 0, .int .i64 0, .int .i64 0, .int .i64 0, .string ⟨#[]⟩, .int .i64 0, .int .i64 0, .int .i64 0, .string ⟨#[]⟩, .bool false, .slice none 0 0] 29) := KR
  have HQ6 : Hid (OwnY w6 NB (.slice qa o.length qc) o) := KQ
  have HB6 : Hid (Below w.heap.size w w6) := KB
  clear KX KR KB KG KQ HX5 HR5 HB5 HQ0
  have cX_0 := HX6.out.cell 0 rfl
  have cX_1 := HX6.out.cell 1 rfl
  have cX_2 := HX6.out.cell 2 rfl
  have cX_3 := HX6.out.cell 3 rfl
  have cX_4 := HX6.out.cell 4 rfl
  have cX_5 := HX6.out.cell 5 rfl
  have cX_6 := HX6.out.cell 6 rfl
  have cX_7 := HX6.out.cell 7 rfl
  have cX_8 := HX6.out.cell 8 rfl
  have cX_9 := HX6.out.cell 9 rfl
  have cX_10 := HX6.out.cell 10 rfl
  go_wp2
  clear cX_0 cX_1 cX_2 cX_3 cX_4 cX_5 cX_6 cX_7 cX_8 cX_9 cX_10
  go_loopw [24] (fun iv wr => ∃ j : Nat, j ≤ o.length ∧ iv = .int .i64 j ∧ Hid (OwnY wr NB (.slice qa o.length qc) o) ∧ Hid (Blk wr w.heap.size [.int .i64 v, .int .i64 dh, .int .i64 dr, .int .i64 ds, .string di, .int .i64 mh, .int .i64 mr, .int .i64 ms, .string mi, .bool p, .slice qa o.length qc] 29) ∧ Hid (Blk wr (w.heap.size + 1) [.int .i64 0, .int .i64 0, .int .i64 0, .int .i64 0, .string ⟨#[]⟩, .int .i64 0, .int .i64 0, .int .i64 0, .string ⟨#[]⟩, .bool false, .slice none 0 0] 29) ∧ Hid (Below w.heap.size w wr)) (fun iv _ => o.length - (intOf iv).toNat)
  case atStart => exact ⟨0, Nat.zero_le _, rfl, HQ6, HX6, HR6, HB6⟩
  case round =>
    obtain ⟨j, hj, rfl, HQ, HX, HR, HB⟩ := hrel
    clear HX6 HR6 HB6 HQ6
    by_cases hlt : j < o.length
    · have hltz : (j : Int) < (o.length : Int) := by omega
      obtain ⟨g, rfl, hgB, hgs, hat, hfr⟩ := HQ.out.row (by omega)
      have hc5 := hat.five j hlt
      rw [Nat.zero_add] at hc5
      have HC3 : Hid ((ycs o)[j * 5 + 3]? = some (.string o[j].i)) := ycs_at o j hlt 3 (by omega)
      have kCj := fun W => kC o[j] W (HS.out _ (List.getElem_mem hlt))
      clear kC hat hfr
      generalize o[j] = y at *
      obtain ⟨yh, yr, ys, yi, yv⟩ := y
      simp only at kCj hc5 HC3
      obtain ⟨c0, c1, c2, c3, c4⟩ := hc5
      obtain ⟨wv, hwv⟩ : ∃ W, wr.alloc (.cells #[.int .i64 yh, .int .i64 yr, .int .i64 ys, .string yi, .int .i64 yv] 31) = W := ⟨_, rfl⟩
      obtain ⟨nb, hnb⟩ : ∃ n, wr.heap.size = n := ⟨_, rfl⟩
      have HV : Hid (Blk wv nb [.int .i64 yh, .int .i64 yr, .int .i64 ys, .string yi, .int .i64 yv] 31) := by rw [← hwv, ← hnb]; exact blk_new _ _ _
      have HW : Hid (Below wr.heap.size wr wv.drew) := by rw [← hwv]; exact (below_one _ _).drew
      have HQ2 : Hid (OwnY wv.drew NB (.slice (some ⟨g, 0, none⟩) o.length qc) o) := own_keep HQ.out HW.out
      have HX2 : Hid (Blk wv.drew w.heap.size [.int .i64 v, .int .i64 dh, .int .i64 dr, .int .i64 ds, .string di, .int .i64 mh, .int .i64 mr, .int .i64 ms, .string mi, .bool p, .slice (some ⟨g, 0, none⟩) o.length qc] 29) := HX.out.below HW.out HX.out.lt
      have HR2 : Hid (Blk wv.drew (w.heap.size + 1) [.int .i64 0, .int .i64 0, .int .i64 0, .int .i64 0, .string ⟨#[]⟩, .int .i64 0, .int .i64 0, .int .i64 0, .string ⟨#[]⟩, .bool false, .slice none 0 0] 29) := HR.out.below HW.out HR.out.lt
      have HV2 : Hid (Blk wv.drew nb [.int .i64 yh, .int .i64 yr, .int .i64 ys, .string yi, .int .i64 yv] 31) := HV.out.below (Below.refl _ _).drew HV.out.lt
      have HB2 : Hid (Below w.heap.size w wv.drew) := HB.out.trans (HW.out.mono HB.out.size)
      clear HQ HX HR HB HW
      go_wp2_with fail
      clear hwv hnb c0 c1 c2 c3 c4
      have x10 : wv.cell? ⟨w.heap.size, 10, none⟩ = some (.slice (some ⟨g, 0, none⟩) o.length qc) := HX2.out.cell 10 rfl
      have v3 : wv.cell? ⟨nb, 3, none⟩ = some (.string yi) := HV2.out.cell 3 rfl
      go_region_law (refine step_call1 (by rfl) 82 _ _ (by rfl) Try.f82 Try.func82 (by kernel_rfl) (by kernel_rfl) _ _ (by rfl) _ (kCj _) ?_; intro w1 b1; have HX3 : Hid (Blk w1 w.heap.size [.int .i64 v, .int .i64 dh, .int .i64 dr, .int .i64 ds, .string di, .int .i64 mh, .int .i64 mr, .int .i64 ms, .string mi, .bool p, .slice (some ⟨g, 0, none⟩) o.length qc] 29) := HX2.out.below b1 HX2.out.lt; have HR3 : Hid (Blk w1 (w.heap.size + 1) [.int .i64 0, .int .i64 0, .int .i64 0, .int .i64 0, .string ⟨#[]⟩, .int .i64 0, .int .i64 0, .int .i64 0, .string ⟨#[]⟩, .bool false, .slice none 0 0] 29) := HR2.out.below b1 HR2.out.lt; have HQ3 : Hid (OwnY w1 NB (.slice (some ⟨g, 0, none⟩) o.length qc) o) := own_keep HQ2.out b1; have HV3 : Hid (Blk w1 nb [.int .i64 yh, .int .i64 yr, .int .i64 ys, .string yi, .int .i64 yv] 31) := HV2.out.below b1 HV2.out.lt; have HB3 : Hid (Below w.heap.size w w1) := HB2.out.trans (b1.mono HB2.out.size); have y10 := HX3.out.cell 10 rfl; have z3 := HV3.out.cell 3 rfl; have hq3 : w1.cell? ⟨g, j * 5 + 3, none⟩ = some (.string yi) := (World.ownsRow.cellAt (show w1.ownsRow NB 31 5 (.slice (some ⟨g, 0, none⟩) o.length qc) o.length (ycs o) from HQ3.out) (j * 5 + 3) (by omega)).trans HC3.out; have hf3 := fun q => World.ownsRow.frozenAt (show w1.ownsRow NB 31 5 (.slice (some ⟨g, 0, none⟩) o.length qc) o.length (ycs o) from HQ3.out) q)
      all_goals
        have HQ4 : Hid (OwnY (w1.setCell ⟨g, j * 5 + 3, none⟩ (.string yi)) NB (.slice (some ⟨g, 0, none⟩) o.length qc) o) := HQ3.out.same _ _ HC3.out
        have HX4 : Hid (Blk (w1.setCell ⟨g, j * 5 + 3, none⟩ (.string yi)) w.heap.size [.int .i64 v, .int .i64 dh, .int .i64 dr, .int .i64 ds, .string di, .int .i64 mh, .int .i64 mr, .int .i64 ms, .string mi, .bool p, .slice (some ⟨g, 0, none⟩) o.length qc] 29) := HX3.out.other _ _ (by omega)
        have HR4 : Hid (Blk (w1.setCell ⟨g, j * 5 + 3, none⟩ (.string yi)) (w.heap.size + 1) [.int .i64 0, .int .i64 0, .int .i64 0, .int .i64 0, .string ⟨#[]⟩, .int .i64 0, .int .i64 0, .int .i64 0, .string ⟨#[]⟩, .bool false, .slice none 0 0] 29) := HR3.out.other _ _ (by omega)
        have HB4 : Hid (Below w.heap.size w (w1.setCell ⟨g, j * 5 + 3, none⟩ (.string yi))) := HB3.out.setCell (p := ⟨g, j * 5 + 3, none⟩) (show w.heap.size ≤ g by omega) _
        clear HQ3 HX3 HR3 HV3 HB3 y10 z3 hq3 hf3 x10 v3 HQ2 HX2 HR2 HV2 HB2 HV
        go_wp2
        go_roundw
        case rel => exact ⟨j + 1, by omega, by go_num, HQ4, HX4, HR4, HB4⟩
        case measure => simp [intOf]; omega
    · have hltz : ¬ (j : Int) < (o.length : Int) := by omega
      have cX_0 := HX.out.cell 0 rfl
      have cX_1 := HX.out.cell 1 rfl
      have cX_2 := HX.out.cell 2 rfl
      have cX_3 := HX.out.cell 3 rfl
      have cX_4 := HX.out.cell 4 rfl
      have cX_5 := HX.out.cell 5 rfl
      have cX_6 := HX.out.cell 6 rfl
      have cX_7 := HX.out.cell 7 rfl
      have cX_8 := HX.out.cell 8 rfl
      have cX_9 := HX.out.cell 9 rfl
      have cX_10 := HX.out.cell 10 rfl
      have cR_0 := HR.out.cell 0 rfl
      have cR_1 := HR.out.cell 1 rfl
      have cR_2 := HR.out.cell 2 rfl
      have cR_3 := HR.out.cell 3 rfl
      have cR_4 := HR.out.cell 4 rfl
      have cR_5 := HR.out.cell 5 rfl
      have cR_6 := HR.out.cell 6 rfl
      have cR_7 := HR.out.cell 7 rfl
      have cR_8 := HR.out.cell 8 rfl
      have cR_9 := HR.out.cell 9 rfl
      have cR_10 := HR.out.cell 10 rfl
      have zR := fun j => HR.out.frozen j
      have KX := (((((((((((HX.out.other 0 (.int .i64 v) (show w.heap.size ≠ (w.heap.size + 1) by omega)).other 1 (.int .i64 dh) (show w.heap.size ≠ (w.heap.size + 1) by omega)).other 2 (.int .i64 dr) (show w.heap.size ≠ (w.heap.size + 1) by omega)).other 3 (.int .i64 ds) (show w.heap.size ≠ (w.heap.size + 1) by omega)).other 4 (.string di) (show w.heap.size ≠ (w.heap.size + 1) by omega)).other 5 (.int .i64 mh) (show w.heap.size ≠ (w.heap.size + 1) by omega)).other 6 (.int .i64 mr) (show w.heap.size ≠ (w.heap.size + 1) by omega)).other 7 (.int .i64 ms) (show w.heap.size ≠ (w.heap.size + 1) by omega)).other 8 (.string mi) (show w.heap.size ≠ (w.heap.size + 1) by omega)).other 9 (.bool p) (show w.heap.size ≠ (w.heap.size + 1) by omega)).other 10 (.slice qa o.length qc) (show w.heap.size ≠ (w.heap.size + 1) by omega))
      have KR := (((((((((((HR.out.set 0 (.int .i64 v)).set 1 (.int .i64 dh)).set 2 (.int .i64 dr)).set 3 (.int .i64 ds)).set 4 (.string di)).set 5 (.int .i64 mh)).set 6 (.int .i64 mr)).set 7 (.int .i64 ms)).set 8 (.string mi)).set 9 (.bool p)).set 10 (.slice qa o.length qc))
      have KB := (((((((((((HB.out.setCell (p := ⟨(w.heap.size + 1), 0, none⟩) (show w.heap.size ≤ (w.heap.size + 1) by omega) (.int .i64 v)).setCell (p := ⟨(w.heap.size + 1), 1, none⟩) (show w.heap.size ≤ (w.heap.size + 1) by omega) (.int .i64 dh)).setCell (p := ⟨(w.heap.size + 1), 2, none⟩) (show w.heap.size ≤ (w.heap.size + 1) by omega) (.int .i64 dr)).setCell (p := ⟨(w.heap.size + 1), 3, none⟩) (show w.heap.size ≤ (w.heap.size + 1) by omega) (.int .i64 ds)).setCell (p := ⟨(w.heap.size + 1), 4, none⟩) (show w.heap.size ≤ (w.heap.size + 1) by omega) (.string di)).setCell (p := ⟨(w.heap.size + 1), 5, none⟩) (show w.heap.size ≤ (w.heap.size + 1) by omega) (.int .i64 mh)).setCell (p := ⟨(w.heap.size + 1), 6, none⟩) (show w.heap.size ≤ (w.heap.size + 1) by omega) (.int .i64 mr)).setCell (p := ⟨(w.heap.size + 1), 7, none⟩) (show w.heap.size ≤ (w.heap.size + 1) by omega) (.int .i64 ms)).setCell (p := ⟨(w.heap.size + 1), 8, none⟩) (show w.heap.size ≤ (w.heap.size + 1) by omega) (.string mi)).setCell (p := ⟨(w.heap.size + 1), 9, none⟩) (show w.heap.size ≤ (w.heap.size + 1) by omega) (.bool p)).setCell (p := ⟨(w.heap.size + 1), 10, none⟩) (show w.heap.size ≤ (w.heap.size + 1) by omega) (.slice qa o.length qc))
      have KG : Hid (wr.grownBy (((((((((((wr.setCell ⟨(w.heap.size + 1), 0, none⟩ (.int .i64 v)).setCell ⟨(w.heap.size + 1), 1, none⟩ (.int .i64 dh)).setCell ⟨(w.heap.size + 1), 2, none⟩ (.int .i64 dr)).setCell ⟨(w.heap.size + 1), 3, none⟩ (.int .i64 ds)).setCell ⟨(w.heap.size + 1), 4, none⟩ (.string di)).setCell ⟨(w.heap.size + 1), 5, none⟩ (.int .i64 mh)).setCell ⟨(w.heap.size + 1), 6, none⟩ (.int .i64 mr)).setCell ⟨(w.heap.size + 1), 7, none⟩ (.int .i64 ms)).setCell ⟨(w.heap.size + 1), 8, none⟩ (.string mi)).setCell ⟨(w.heap.size + 1), 9, none⟩ (.bool p)).setCell ⟨(w.heap.size + 1), 10, none⟩ (.slice qa o.length qc)) (some (w.heap.size + 1))) := grown_set (grown_set (grown_set (grown_set (grown_set (grown_set (grown_set (grown_set (grown_set (grown_set (grown_set (grown_refl _ _) _) _) _) _) _) _) _) _) _) _) _
      have KQ : Hid (OwnY (((((((((((wr.setCell ⟨(w.heap.size + 1), 0, none⟩ (.int .i64 v)).setCell ⟨(w.heap.size + 1), 1, none⟩ (.int .i64 dh)).setCell ⟨(w.heap.size + 1), 2, none⟩ (.int .i64 dr)).setCell ⟨(w.heap.size + 1), 3, none⟩ (.int .i64 ds)).setCell ⟨(w.heap.size + 1), 4, none⟩ (.string di)).setCell ⟨(w.heap.size + 1), 5, none⟩ (.int .i64 mh)).setCell ⟨(w.heap.size + 1), 6, none⟩ (.int .i64 mr)).setCell ⟨(w.heap.size + 1), 7, none⟩ (.int .i64 ms)).setCell ⟨(w.heap.size + 1), 8, none⟩ (.string mi)).setCell ⟨(w.heap.size + 1), 9, none⟩ (.bool p)).setCell ⟨(w.heap.size + 1), 10, none⟩ (.slice qa o.length qc)) NB (.slice qa o.length qc) o) := own_still HQ.out KG.out (fun j e => by injection e with e; omega)
      go_wp2_with fail
      clear cX_0 cX_1 cX_2 cX_3 cX_4 cX_5 cX_6 cX_7 cX_8 cX_9 cX_10 cR_0 cR_1 cR_2 cR_3 cR_4 cR_5 cR_6 cR_7 cR_8 cR_9 cR_10 zR
      generalize ((((((((((((wr.setCell _ _).setCell _ _).setCell _ _).setCell _ _).setCell _ _).setCell _ _).setCell _ _).setCell _ _).setCell _ _).setCell _ _).setCell _ _) : World) = w101 at *
      have HX101 : Hid (Blk w101 w.heap.size [.int .i64 v, .int .i64 dh, .int .i64 dr, .int .i64 ds, .string di, .int .i64 mh, .int .i64 mr, .int .i64 ms, .string mi, .bool p, .slice qa o.length qc] 29) := KX
      have HR101 : Hid (Blk w101 (w.heap.size + 1) [.int .i64 v, .int .i64 dh, .int .i64 dr, .int .i64 ds, .string di, .int .i64 mh, .int .i64 mr, .int .i64 ms, .string mi, .bool p, .slice qa o.length qc] 29) := KR
      have HQ101 : Hid (OwnY w101 NB (.slice qa o.length qc) o) := KQ
      have HB101 : Hid (Below w.heap.size w w101) := KB
      clear KX KR KB KG KQ HX HR HB HQ
      have y0 := HR101.out.cell 0 rfl
      have y1 := HR101.out.cell 1 rfl
      have y2 := HR101.out.cell 2 rfl
      have y3 := HR101.out.cell 3 rfl
      have y4 := HR101.out.cell 4 rfl
      have y5 := HR101.out.cell 5 rfl
      have y6 := HR101.out.cell 6 rfl
      have y7 := HR101.out.cell 7 rfl
      have y8 := HR101.out.cell 8 rfl
      have y9 := HR101.out.cell 9 rfl
      have y10 := HR101.out.cell 10 rfl
      refine bodyPost_ret (v := .agg #[.int .i64 v, .int .i64 dh, .int .i64 dr, .int .i64 ds, .string di, .int .i64 mh, .int .i64 mr, .int .i64 ms, .string mi, .bool p, .slice qa o.length qc]) (by simp [results, Try.results68, go_sem, y0, y1, y2, y3, y4, y5, y6, y7, y8, y9, y10]) rfl ⟨_, _, rfl, own_less HQ101.out (by omega), HB101.out⟩
end Go.Proofs.Ytmjlpdmdpagggaa
