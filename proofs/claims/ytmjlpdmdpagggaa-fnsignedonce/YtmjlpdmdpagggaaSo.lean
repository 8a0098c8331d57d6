/- What the two SignerOk answer; old memory stays. Conditions: a row that a machine can hold. -/
import Derived.Test.YtmjlpdmdpagggaaSn
namespace Go.Proofs.Ytmjlpdmdpagggaa
open Go.RowKit
open Num
set_option linter.unusedVariables false
theorem all_no {v : Int} {l : List Vt} {j : Nat} (hj : j < l.length) (h : outB v l[j] = false) : l.all (outB v) = false := by
  rw [← Bool.not_eq_true, List.all_eq_true]
  intro hh
  have := hh _ (List.getElem_mem hj)
  rw [h] at this; cases this
theorem all_yes {v : Int} {l : List Vt} (h : ∀ j (hj : j < l.length), outB v l[j] = true) : l.all (outB v) = true := by
  rw [List.all_eq_true]
  intro y hy
  obtain ⟨j, hj, rfl⟩ := List.getElem_of_mem hy
  exact h j hj
theorem any_not (v : Int) (l : List Vt) : l.any (fun y => !(outB v y)) = !(l.all (outB v)) := by
  rw [List.all_eq_not_any_not, Bool.not_not]
set_option maxHeartbeats 3200000 in
set_option maxRecDepth 100000 in
theorem spec_sok (x : Sg) (a : Option Addr) (cap : Nat) (w : World) (hl : YO w a x.o) (hlen : x.o.length ≤ 9223372036854775807) :
    Calls Try.prog 18 #[sV x a cap] w fun e w' => e = .returned (.bool (sOk x)) ∧ Below w.heap.size w w' := by
  have HO : Hid (sOk x = (inIs x.v 1 99 && (gOk x.d && (gOk x.m && ((x.p || geB x.d x.m) && ((!x.p || !(geB x.m gz)) && (decide (x.o.length ≤ 60) && x.o.all (outB x.v)))))))) := rfl
  generalize sOk x = R at *
  have kI := fun W => spec_in x.v 1 99 W
  have kD := fun W => spec_gok x.d W
  have kM := fun W => spec_gok x.m W
  have hN := fun W => run_neG x.d x.m W
  have hE := fun W => run_eqG x.m gz W
  have kV := fun (y : Vt) W => spec_vok y W
  have HF : Hid (∀ j (hj : j < x.o.length), outB x.v x.o[j] = false → x.o.all (outB x.v) = false) := fun j hj h => all_no hj h
  have HT : Hid ((∀ j (hj : j < x.o.length), outB x.v x.o[j] = true) → x.o.all (outB x.v) = true) := all_yes
  have HY : Hid (YO w a x.o) := hl
  clear hl
  unfold gz at hE
  simp only at hE
  have HEz : Hid (geB x.m gz = geB x.m ⟨0, 0, 0, ⟨#[]⟩⟩) := rfl
  rw [HEz.out] at HO
  clear HEz
  have hg := guardG
  generalize x.o.all (outB x.v) = A at *
  generalize inIs x.v 1 99 = t0 at *
  generalize gOk x.d = t1 at *
  generalize gOk x.m = t2 at *
  generalize geB x.d x.m = t3 at *
  generalize geB x.m ⟨0, 0, 0, ⟨#[]⟩⟩ = t4 at *
  obtain ⟨v, ⟨dh, dr, ds, di⟩, ⟨mh, mr, ms, mi⟩, p, o⟩ := x
  unfold sV sQ
  unfold gV at *
  simp only at *
  cases t0
  · obtain ⟨W0, hW0⟩ : ∃ W, w.alloc (.cells #[.int .i64 v, .int .i64 dh, .int .i64 dr, .int .i64 ds, .string di, .int .i64 mh, .int .i64 mr, .int .i64 ms, .string mi, .bool p, .slice a o.length cap] 29) = W := ⟨_, rfl⟩
    have HX0 : Hid (Blk W0 w.heap.size [.int .i64 v, .int .i64 dh, .int .i64 dr, .int .i64 ds, .string di, .int .i64 mh, .int .i64 mr, .int .i64 ms, .string mi, .bool p, .slice a o.length cap] 29) := by
      rw [← hW0]
      have hnew := blk_new (w) [.int .i64 v, .int .i64 dh, .int .i64 dr, .int .i64 ds, .string di, .int .i64 mh, .int .i64 mr, .int .i64 ms, .string mi, .bool p, .slice a o.length cap] 29
      exact hnew
    have HB0 : Hid (Below w.heap.size w W0) := by rw [← hW0]; exact (Below.refl w.heap.size w).alloc (Nat.le_refl _) _
    go_enter Try.func18, Try.ntmps18
    have cX_0 := HX0.out.cell 0 rfl
    have cX_1 := HX0.out.cell 1 rfl
    have cX_2 := HX0.out.cell 2 rfl
    have cX_3 := HX0.out.cell 3 rfl
    have cX_4 := HX0.out.cell 4 rfl
    have cX_5 := HX0.out.cell 5 rfl
    have cX_6 := HX0.out.cell 6 rfl
    have cX_7 := HX0.out.cell 7 rfl
    have cX_8 := HX0.out.cell 8 rfl
    have cX_9 := HX0.out.cell 9 rfl
    have cX_10 := HX0.out.cell 10 rfl
    go_wp2_with fail
    clear hW0 cX_0 cX_1 cX_2 cX_3 cX_4 cX_5 cX_6 cX_7 cX_8 cX_9 cX_10
    refine (kI _).mono ?_
    rintro e w1 ⟨rfl, rfl⟩
    have cX_0 := HX0.out.cell 0 rfl
    have cX_1 := HX0.out.cell 1 rfl
    have cX_2 := HX0.out.cell 2 rfl
    have cX_3 := HX0.out.cell 3 rfl
    have cX_4 := HX0.out.cell 4 rfl
    have cX_5 := HX0.out.cell 5 rfl
    have cX_6 := HX0.out.cell 6 rfl
    have cX_7 := HX0.out.cell 7 rfl
    have cX_8 := HX0.out.cell 8 rfl
    have cX_9 := HX0.out.cell 9 rfl
    have cX_10 := HX0.out.cell 10 rfl
    go_wp2
    go_ret
    exact ⟨by rw [HO.out]; rfl, HB0.out⟩
  cases t1
  · obtain ⟨W0, hW0⟩ : ∃ W, w.alloc (.cells #[.int .i64 v, .int .i64 dh, .int .i64 dr, .int .i64 ds, .string di, .int .i64 mh, .int .i64 mr, .int .i64 ms, .string mi, .bool p, .slice a o.length cap] 29) = W := ⟨_, rfl⟩
    have HX0 : Hid (Blk W0 w.heap.size [.int .i64 v, .int .i64 dh, .int .i64 dr, .int .i64 ds, .string di, .int .i64 mh, .int .i64 mr, .int .i64 ms, .string mi, .bool p, .slice a o.length cap] 29) := by
      rw [← hW0]
      have hnew := blk_new (w) [.int .i64 v, .int .i64 dh, .int .i64 dr, .int .i64 ds, .string di, .int .i64 mh, .int .i64 mr, .int .i64 ms, .string mi, .bool p, .slice a o.length cap] 29
      exact hnew
    have HB0 : Hid (Below w.heap.size w W0) := by rw [← hW0]; exact (Below.refl w.heap.size w).alloc (Nat.le_refl _) _
    go_enter Try.func18, Try.ntmps18
    have cX_0 := HX0.out.cell 0 rfl
    have cX_1 := HX0.out.cell 1 rfl
    have cX_2 := HX0.out.cell 2 rfl
    have cX_3 := HX0.out.cell 3 rfl
    have cX_4 := HX0.out.cell 4 rfl
    have cX_5 := HX0.out.cell 5 rfl
    have cX_6 := HX0.out.cell 6 rfl
    have cX_7 := HX0.out.cell 7 rfl
    have cX_8 := HX0.out.cell 8 rfl
    have cX_9 := HX0.out.cell 9 rfl
    have cX_10 := HX0.out.cell 10 rfl
    go_wp2_with fail
    clear hW0 cX_0 cX_1 cX_2 cX_3 cX_4 cX_5 cX_6 cX_7 cX_8 cX_9 cX_10
    refine (kI _).mono ?_
    rintro e w1 ⟨rfl, rfl⟩
    have cX_0 := HX0.out.cell 0 rfl
    have cX_1 := HX0.out.cell 1 rfl
    have cX_2 := HX0.out.cell 2 rfl
    have cX_3 := HX0.out.cell 3 rfl
    have cX_4 := HX0.out.cell 4 rfl
    have cX_5 := HX0.out.cell 5 rfl
    have cX_6 := HX0.out.cell 6 rfl
    have cX_7 := HX0.out.cell 7 rfl
    have cX_8 := HX0.out.cell 8 rfl
    have cX_9 := HX0.out.cell 9 rfl
    have cX_10 := HX0.out.cell 10 rfl
    go_wp2_with fail
    clear cX_0 cX_1 cX_2 cX_3 cX_4 cX_5 cX_6 cX_7 cX_8 cX_9 cX_10
    refine (kD _).mono ?_
    rintro e w2 ⟨rfl, bb⟩
    have HX1 : Hid (Blk w2 w.heap.size [.int .i64 v, .int .i64 dh, .int .i64 dr, .int .i64 ds, .string di, .int .i64 mh, .int .i64 mr, .int .i64 ms, .string mi, .bool p, .slice a o.length cap] 29) := HX0.out.below bb HX0.out.lt
    have HB1 : Hid (Below w.heap.size w w2) := HB0.out.trans (bb.mono HB0.out.size)
    clear HX0 HB0
    clear bb
    have cX_0 := HX1.out.cell 0 rfl
    have cX_1 := HX1.out.cell 1 rfl
    have cX_2 := HX1.out.cell 2 rfl
    have cX_3 := HX1.out.cell 3 rfl
    have cX_4 := HX1.out.cell 4 rfl
    have cX_5 := HX1.out.cell 5 rfl
    have cX_6 := HX1.out.cell 6 rfl
    have cX_7 := HX1.out.cell 7 rfl
    have cX_8 := HX1.out.cell 8 rfl
    have cX_9 := HX1.out.cell 9 rfl
    have cX_10 := HX1.out.cell 10 rfl
    go_wp2
    go_ret
    exact ⟨by rw [HO.out]; rfl, HB1.out⟩
  cases t2
  · obtain ⟨W0, hW0⟩ : ∃ W, w.alloc (.cells #[.int .i64 v, .int .i64 dh, .int .i64 dr, .int .i64 ds, .string di, .int .i64 mh, .int .i64 mr, .int .i64 ms, .string mi, .bool p, .slice a o.length cap] 29) = W := ⟨_, rfl⟩
    have HX0 : Hid (Blk W0 w.heap.size [.int .i64 v, .int .i64 dh, .int .i64 dr, .int .i64 ds, .string di, .int .i64 mh, .int .i64 mr, .int .i64 ms, .string mi, .bool p, .slice a o.length cap] 29) := by
      rw [← hW0]
      have hnew := blk_new (w) [.int .i64 v, .int .i64 dh, .int .i64 dr, .int .i64 ds, .string di, .int .i64 mh, .int .i64 mr, .int .i64 ms, .string mi, .bool p, .slice a o.length cap] 29
      exact hnew
    have HB0 : Hid (Below w.heap.size w W0) := by rw [← hW0]; exact (Below.refl w.heap.size w).alloc (Nat.le_refl _) _
    go_enter Try.func18, Try.ntmps18
    have cX_0 := HX0.out.cell 0 rfl
    have cX_1 := HX0.out.cell 1 rfl
    have cX_2 := HX0.out.cell 2 rfl
    have cX_3 := HX0.out.cell 3 rfl
    have cX_4 := HX0.out.cell 4 rfl
    have cX_5 := HX0.out.cell 5 rfl
    have cX_6 := HX0.out.cell 6 rfl
    have cX_7 := HX0.out.cell 7 rfl
    have cX_8 := HX0.out.cell 8 rfl
    have cX_9 := HX0.out.cell 9 rfl
    have cX_10 := HX0.out.cell 10 rfl
    go_wp2_with fail
    clear hW0 cX_0 cX_1 cX_2 cX_3 cX_4 cX_5 cX_6 cX_7 cX_8 cX_9 cX_10
    refine (kI _).mono ?_
    rintro e w1 ⟨rfl, rfl⟩
    have cX_0 := HX0.out.cell 0 rfl
    have cX_1 := HX0.out.cell 1 rfl
    have cX_2 := HX0.out.cell 2 rfl
    have cX_3 := HX0.out.cell 3 rfl
    have cX_4 := HX0.out.cell 4 rfl
    have cX_5 := HX0.out.cell 5 rfl
    have cX_6 := HX0.out.cell 6 rfl
    have cX_7 := HX0.out.cell 7 rfl
    have cX_8 := HX0.out.cell 8 rfl
    have cX_9 := HX0.out.cell 9 rfl
    have cX_10 := HX0.out.cell 10 rfl
    go_wp2_with fail
    clear cX_0 cX_1 cX_2 cX_3 cX_4 cX_5 cX_6 cX_7 cX_8 cX_9 cX_10
    refine (kD _).mono ?_
    rintro e w2 ⟨rfl, bb⟩
    have HX1 : Hid (Blk w2 w.heap.size [.int .i64 v, .int .i64 dh, .int .i64 dr, .int .i64 ds, .string di, .int .i64 mh, .int .i64 mr, .int .i64 ms, .string mi, .bool p, .slice a o.length cap] 29) := HX0.out.below bb HX0.out.lt
    have HB1 : Hid (Below w.heap.size w w2) := HB0.out.trans (bb.mono HB0.out.size)
    clear HX0 HB0
    clear bb
    have cX_0 := HX1.out.cell 0 rfl
    have cX_1 := HX1.out.cell 1 rfl
    have cX_2 := HX1.out.cell 2 rfl
    have cX_3 := HX1.out.cell 3 rfl
    have cX_4 := HX1.out.cell 4 rfl
    have cX_5 := HX1.out.cell 5 rfl
    have cX_6 := HX1.out.cell 6 rfl
    have cX_7 := HX1.out.cell 7 rfl
    have cX_8 := HX1.out.cell 8 rfl
    have cX_9 := HX1.out.cell 9 rfl
    have cX_10 := HX1.out.cell 10 rfl
    go_wp2_with fail
    clear cX_0 cX_1 cX_2 cX_3 cX_4 cX_5 cX_6 cX_7 cX_8 cX_9 cX_10
    refine (kM _).mono ?_
    rintro e w3 ⟨rfl, bb⟩
    have HX2 : Hid (Blk w3 w.heap.size [.int .i64 v, .int .i64 dh, .int .i64 dr, .int .i64 ds, .string di, .int .i64 mh, .int .i64 mr, .int .i64 ms, .string mi, .bool p, .slice a o.length cap] 29) := HX1.out.below bb HX1.out.lt
    have HB2 : Hid (Below w.heap.size w w3) := HB1.out.trans (bb.mono HB1.out.size)
    clear HX1 HB1
    clear bb
    have cX_0 := HX2.out.cell 0 rfl
    have cX_1 := HX2.out.cell 1 rfl
    have cX_2 := HX2.out.cell 2 rfl
    have cX_3 := HX2.out.cell 3 rfl
    have cX_4 := HX2.out.cell 4 rfl
    have cX_5 := HX2.out.cell 5 rfl
    have cX_6 := HX2.out.cell 6 rfl
    have cX_7 := HX2.out.cell 7 rfl
    have cX_8 := HX2.out.cell 8 rfl
    have cX_9 := HX2.out.cell 9 rfl
    have cX_10 := HX2.out.cell 10 rfl
    go_wp2
    go_ret
    exact ⟨by rw [HO.out]; rfl, HB2.out⟩
  by_cases h60 : 60 < (o.length : Int)
  · have HL60 : Hid (decide (o.length ≤ 60) = false) := by show _ = _; rw [decide_eq_false_iff_not]; omega
    have HR0 : Hid (R = false) := by show _ = _; rw [HO.out, HL60.out]; cases t3 <;> cases t4 <;> cases p <;> rfl
    cases p
    · cases t3 <;> cases t4
      all_goals
        obtain ⟨W0, hW0⟩ : ∃ W, w.alloc (.cells #[.int .i64 v, .int .i64 dh, .int .i64 dr, .int .i64 ds, .string di, .int .i64 mh, .int .i64 mr, .int .i64 ms, .string mi, .bool false, .slice a o.length cap] 29) = W := ⟨_, rfl⟩
        have HX0 : Hid (Blk W0 w.heap.size [.int .i64 v, .int .i64 dh, .int .i64 dr, .int .i64 ds, .string di, .int .i64 mh, .int .i64 mr, .int .i64 ms, .string mi, .bool false, .slice a o.length cap] 29) := by
          rw [← hW0]
          have hnew := blk_new (w) [.int .i64 v, .int .i64 dh, .int .i64 dr, .int .i64 ds, .string di, .int .i64 mh, .int .i64 mr, .int .i64 ms, .string mi, .bool false, .slice a o.length cap] 29
          exact hnew
        have HB0 : Hid (Below w.heap.size w W0) := by rw [← hW0]; exact (Below.refl w.heap.size w).alloc (Nat.le_refl _) _
        go_enter Try.func18, Try.ntmps18
        have cX_0 := HX0.out.cell 0 rfl
        have cX_1 := HX0.out.cell 1 rfl
        have cX_2 := HX0.out.cell 2 rfl
        have cX_3 := HX0.out.cell 3 rfl
        have cX_4 := HX0.out.cell 4 rfl
        have cX_5 := HX0.out.cell 5 rfl
        have cX_6 := HX0.out.cell 6 rfl
        have cX_7 := HX0.out.cell 7 rfl
        have cX_8 := HX0.out.cell 8 rfl
        have cX_9 := HX0.out.cell 9 rfl
        have cX_10 := HX0.out.cell 10 rfl
        go_wp2_with fail
        clear hW0 cX_0 cX_1 cX_2 cX_3 cX_4 cX_5 cX_6 cX_7 cX_8 cX_9 cX_10
        refine (kI _).mono ?_
        rintro e w1 ⟨rfl, rfl⟩
        have cX_0 := HX0.out.cell 0 rfl
        have cX_1 := HX0.out.cell 1 rfl
        have cX_2 := HX0.out.cell 2 rfl
        have cX_3 := HX0.out.cell 3 rfl
        have cX_4 := HX0.out.cell 4 rfl
        have cX_5 := HX0.out.cell 5 rfl
        have cX_6 := HX0.out.cell 6 rfl
        have cX_7 := HX0.out.cell 7 rfl
        have cX_8 := HX0.out.cell 8 rfl
        have cX_9 := HX0.out.cell 9 rfl
        have cX_10 := HX0.out.cell 10 rfl
        go_wp2_with fail
        clear cX_0 cX_1 cX_2 cX_3 cX_4 cX_5 cX_6 cX_7 cX_8 cX_9 cX_10
        refine (kD _).mono ?_
        rintro e w2 ⟨rfl, bb⟩
        have HX1 : Hid (Blk w2 w.heap.size [.int .i64 v, .int .i64 dh, .int .i64 dr, .int .i64 ds, .string di, .int .i64 mh, .int .i64 mr, .int .i64 ms, .string mi, .bool false, .slice a o.length cap] 29) := HX0.out.below bb HX0.out.lt
        have HB1 : Hid (Below w.heap.size w w2) := HB0.out.trans (bb.mono HB0.out.size)
        clear HX0 HB0
        clear bb
        have cX_0 := HX1.out.cell 0 rfl
        have cX_1 := HX1.out.cell 1 rfl
        have cX_2 := HX1.out.cell 2 rfl
        have cX_3 := HX1.out.cell 3 rfl
        have cX_4 := HX1.out.cell 4 rfl
        have cX_5 := HX1.out.cell 5 rfl
        have cX_6 := HX1.out.cell 6 rfl
        have cX_7 := HX1.out.cell 7 rfl
        have cX_8 := HX1.out.cell 8 rfl
        have cX_9 := HX1.out.cell 9 rfl
        have cX_10 := HX1.out.cell 10 rfl
        go_wp2_with fail
        clear cX_0 cX_1 cX_2 cX_3 cX_4 cX_5 cX_6 cX_7 cX_8 cX_9 cX_10
        refine (kM _).mono ?_
        rintro e w3 ⟨rfl, bb⟩
        have HX2 : Hid (Blk w3 w.heap.size [.int .i64 v, .int .i64 dh, .int .i64 dr, .int .i64 ds, .string di, .int .i64 mh, .int .i64 mr, .int .i64 ms, .string mi, .bool false, .slice a o.length cap] 29) := HX1.out.below bb HX1.out.lt
        have HB2 : Hid (Below w.heap.size w w3) := HB1.out.trans (bb.mono HB1.out.size)
        clear HX1 HB1
        clear bb
        have cX_0 := HX2.out.cell 0 rfl
        have cX_1 := HX2.out.cell 1 rfl
        have cX_2 := HX2.out.cell 2 rfl
        have cX_3 := HX2.out.cell 3 rfl
        have cX_4 := HX2.out.cell 4 rfl
        have cX_5 := HX2.out.cell 5 rfl
        have cX_6 := HX2.out.cell 6 rfl
        have cX_7 := HX2.out.cell 7 rfl
        have cX_8 := HX2.out.cell 8 rfl
        have cX_9 := HX2.out.cell 9 rfl
        have cX_10 := HX2.out.cell 10 rfl
        go_wp2
        go_ret
        exact ⟨by rw [HR0.out]; rfl, HB2.out⟩
    · cases t3 <;> cases t4
      all_goals
        obtain ⟨W0, hW0⟩ : ∃ W, w.alloc (.cells #[.int .i64 v, .int .i64 dh, .int .i64 dr, .int .i64 ds, .string di, .int .i64 mh, .int .i64 mr, .int .i64 ms, .string mi, .bool true, .slice a o.length cap] 29) = W := ⟨_, rfl⟩
        have HX0 : Hid (Blk W0 w.heap.size [.int .i64 v, .int .i64 dh, .int .i64 dr, .int .i64 ds, .string di, .int .i64 mh, .int .i64 mr, .int .i64 ms, .string mi, .bool true, .slice a o.length cap] 29) := by
          rw [← hW0]
          have hnew := blk_new (w) [.int .i64 v, .int .i64 dh, .int .i64 dr, .int .i64 ds, .string di, .int .i64 mh, .int .i64 mr, .int .i64 ms, .string mi, .bool true, .slice a o.length cap] 29
          exact hnew
        have HB0 : Hid (Below w.heap.size w W0) := by rw [← hW0]; exact (Below.refl w.heap.size w).alloc (Nat.le_refl _) _
        go_enter Try.func18, Try.ntmps18
        have cX_0 := HX0.out.cell 0 rfl
        have cX_1 := HX0.out.cell 1 rfl
        have cX_2 := HX0.out.cell 2 rfl
        have cX_3 := HX0.out.cell 3 rfl
        have cX_4 := HX0.out.cell 4 rfl
        have cX_5 := HX0.out.cell 5 rfl
        have cX_6 := HX0.out.cell 6 rfl
        have cX_7 := HX0.out.cell 7 rfl
        have cX_8 := HX0.out.cell 8 rfl
        have cX_9 := HX0.out.cell 9 rfl
        have cX_10 := HX0.out.cell 10 rfl
        go_wp2_with fail
        clear hW0 cX_0 cX_1 cX_2 cX_3 cX_4 cX_5 cX_6 cX_7 cX_8 cX_9 cX_10
        refine (kI _).mono ?_
        rintro e w1 ⟨rfl, rfl⟩
        have cX_0 := HX0.out.cell 0 rfl
        have cX_1 := HX0.out.cell 1 rfl
        have cX_2 := HX0.out.cell 2 rfl
        have cX_3 := HX0.out.cell 3 rfl
        have cX_4 := HX0.out.cell 4 rfl
        have cX_5 := HX0.out.cell 5 rfl
        have cX_6 := HX0.out.cell 6 rfl
        have cX_7 := HX0.out.cell 7 rfl
        have cX_8 := HX0.out.cell 8 rfl
        have cX_9 := HX0.out.cell 9 rfl
        have cX_10 := HX0.out.cell 10 rfl
        go_wp2_with fail
        clear cX_0 cX_1 cX_2 cX_3 cX_4 cX_5 cX_6 cX_7 cX_8 cX_9 cX_10
        refine (kD _).mono ?_
        rintro e w2 ⟨rfl, bb⟩
        have HX1 : Hid (Blk w2 w.heap.size [.int .i64 v, .int .i64 dh, .int .i64 dr, .int .i64 ds, .string di, .int .i64 mh, .int .i64 mr, .int .i64 ms, .string mi, .bool true, .slice a o.length cap] 29) := HX0.out.below bb HX0.out.lt
        have HB1 : Hid (Below w.heap.size w w2) := HB0.out.trans (bb.mono HB0.out.size)
        clear HX0 HB0
        clear bb
        have cX_0 := HX1.out.cell 0 rfl
        have cX_1 := HX1.out.cell 1 rfl
        have cX_2 := HX1.out.cell 2 rfl
        have cX_3 := HX1.out.cell 3 rfl
        have cX_4 := HX1.out.cell 4 rfl
        have cX_5 := HX1.out.cell 5 rfl
        have cX_6 := HX1.out.cell 6 rfl
        have cX_7 := HX1.out.cell 7 rfl
        have cX_8 := HX1.out.cell 8 rfl
        have cX_9 := HX1.out.cell 9 rfl
        have cX_10 := HX1.out.cell 10 rfl
        go_wp2_with fail
        clear cX_0 cX_1 cX_2 cX_3 cX_4 cX_5 cX_6 cX_7 cX_8 cX_9 cX_10
        refine (kM _).mono ?_
        rintro e w3 ⟨rfl, bb⟩
        have HX2 : Hid (Blk w3 w.heap.size [.int .i64 v, .int .i64 dh, .int .i64 dr, .int .i64 ds, .string di, .int .i64 mh, .int .i64 mr, .int .i64 ms, .string mi, .bool true, .slice a o.length cap] 29) := HX1.out.below bb HX1.out.lt
        have HB2 : Hid (Below w.heap.size w w3) := HB1.out.trans (bb.mono HB1.out.size)
        clear HX1 HB1
        clear bb
        have cX_0 := HX2.out.cell 0 rfl
        have cX_1 := HX2.out.cell 1 rfl
        have cX_2 := HX2.out.cell 2 rfl
        have cX_3 := HX2.out.cell 3 rfl
        have cX_4 := HX2.out.cell 4 rfl
        have cX_5 := HX2.out.cell 5 rfl
        have cX_6 := HX2.out.cell 6 rfl
        have cX_7 := HX2.out.cell 7 rfl
        have cX_8 := HX2.out.cell 8 rfl
        have cX_9 := HX2.out.cell 9 rfl
        have cX_10 := HX2.out.cell 10 rfl
        go_wp2
        go_ret
        exact ⟨by rw [HR0.out]; rfl, HB2.out⟩
  have HL60 : Hid (decide (o.length ≤ 60) = true) := by show _ = _; rw [decide_eq_true_eq]; omega
  cases p
  · cases t3
    · obtain ⟨W0, hW0⟩ : ∃ W, w.alloc (.cells #[.int .i64 v, .int .i64 dh, .int .i64 dr, .int .i64 ds, .string di, .int .i64 mh, .int .i64 mr, .int .i64 ms, .string mi, .bool false, .slice a o.length cap] 29) = W := ⟨_, rfl⟩
      have HX0 : Hid (Blk W0 w.heap.size [.int .i64 v, .int .i64 dh, .int .i64 dr, .int .i64 ds, .string di, .int .i64 mh, .int .i64 mr, .int .i64 ms, .string mi, .bool false, .slice a o.length cap] 29) := by
        rw [← hW0]
        have hnew := blk_new (w) [.int .i64 v, .int .i64 dh, .int .i64 dr, .int .i64 ds, .string di, .int .i64 mh, .int .i64 mr, .int .i64 ms, .string mi, .bool false, .slice a o.length cap] 29
        exact hnew
      have HB0 : Hid (Below w.heap.size w W0) := by rw [← hW0]; exact (Below.refl w.heap.size w).alloc (Nat.le_refl _) _
      go_enter Try.func18, Try.ntmps18
      have cX_0 := HX0.out.cell 0 rfl
      have cX_1 := HX0.out.cell 1 rfl
      have cX_2 := HX0.out.cell 2 rfl
      have cX_3 := HX0.out.cell 3 rfl
      have cX_4 := HX0.out.cell 4 rfl
      have cX_5 := HX0.out.cell 5 rfl
      have cX_6 := HX0.out.cell 6 rfl
      have cX_7 := HX0.out.cell 7 rfl
      have cX_8 := HX0.out.cell 8 rfl
      have cX_9 := HX0.out.cell 9 rfl
      have cX_10 := HX0.out.cell 10 rfl
      go_wp2_with fail
      clear hW0 cX_0 cX_1 cX_2 cX_3 cX_4 cX_5 cX_6 cX_7 cX_8 cX_9 cX_10
      refine (kI _).mono ?_
      rintro e w1 ⟨rfl, rfl⟩
      have cX_0 := HX0.out.cell 0 rfl
      have cX_1 := HX0.out.cell 1 rfl
      have cX_2 := HX0.out.cell 2 rfl
      have cX_3 := HX0.out.cell 3 rfl
      have cX_4 := HX0.out.cell 4 rfl
      have cX_5 := HX0.out.cell 5 rfl
      have cX_6 := HX0.out.cell 6 rfl
      have cX_7 := HX0.out.cell 7 rfl
      have cX_8 := HX0.out.cell 8 rfl
      have cX_9 := HX0.out.cell 9 rfl
      have cX_10 := HX0.out.cell 10 rfl
      go_wp2_with fail
      clear cX_0 cX_1 cX_2 cX_3 cX_4 cX_5 cX_6 cX_7 cX_8 cX_9 cX_10
      refine (kD _).mono ?_
      rintro e w2 ⟨rfl, bb⟩
      have HX1 : Hid (Blk w2 w.heap.size [.int .i64 v, .int .i64 dh, .int .i64 dr, .int .i64 ds, .string di, .int .i64 mh, .int .i64 mr, .int .i64 ms, .string mi, .bool false, .slice a o.length cap] 29) := HX0.out.below bb HX0.out.lt
      have HB1 : Hid (Below w.heap.size w w2) := HB0.out.trans (bb.mono HB0.out.size)
      clear HX0 HB0
      clear bb
      have cX_0 := HX1.out.cell 0 rfl
      have cX_1 := HX1.out.cell 1 rfl
      have cX_2 := HX1.out.cell 2 rfl
      have cX_3 := HX1.out.cell 3 rfl
      have cX_4 := HX1.out.cell 4 rfl
      have cX_5 := HX1.out.cell 5 rfl
      have cX_6 := HX1.out.cell 6 rfl
      have cX_7 := HX1.out.cell 7 rfl
      have cX_8 := HX1.out.cell 8 rfl
      have cX_9 := HX1.out.cell 9 rfl
      have cX_10 := HX1.out.cell 10 rfl
      go_wp2_with fail
      clear cX_0 cX_1 cX_2 cX_3 cX_4 cX_5 cX_6 cX_7 cX_8 cX_9 cX_10
      refine (kM _).mono ?_
      rintro e w3 ⟨rfl, bb⟩
      have HX2 : Hid (Blk w3 w.heap.size [.int .i64 v, .int .i64 dh, .int .i64 dr, .int .i64 ds, .string di, .int .i64 mh, .int .i64 mr, .int .i64 ms, .string mi, .bool false, .slice a o.length cap] 29) := HX1.out.below bb HX1.out.lt
      have HB2 : Hid (Below w.heap.size w w3) := HB1.out.trans (bb.mono HB1.out.size)
      clear HX1 HB1
      clear bb
      have cX_0 := HX2.out.cell 0 rfl
      have cX_1 := HX2.out.cell 1 rfl
      have cX_2 := HX2.out.cell 2 rfl
      have cX_3 := HX2.out.cell 3 rfl
      have cX_4 := HX2.out.cell 4 rfl
      have cX_5 := HX2.out.cell 5 rfl
      have cX_6 := HX2.out.cell 6 rfl
      have cX_7 := HX2.out.cell 7 rfl
      have cX_8 := HX2.out.cell 8 rfl
      have cX_9 := HX2.out.cell 9 rfl
      have cX_10 := HX2.out.cell 10 rfl
      go_wp2
      go_ret
      exact ⟨by rw [HO.out]; rfl, HB2.out⟩
    · obtain ⟨W0, hW0⟩ : ∃ W, w.alloc (.cells #[.int .i64 v, .int .i64 dh, .int .i64 dr, .int .i64 ds, .string di, .int .i64 mh, .int .i64 mr, .int .i64 ms, .string mi, .bool false, .slice a o.length cap] 29) = W := ⟨_, rfl⟩
      have HX0 : Hid (Blk W0 w.heap.size [.int .i64 v, .int .i64 dh, .int .i64 dr, .int .i64 ds, .string di, .int .i64 mh, .int .i64 mr, .int .i64 ms, .string mi, .bool false, .slice a o.length cap] 29) := by
        rw [← hW0]
        have hnew := blk_new (w) [.int .i64 v, .int .i64 dh, .int .i64 dr, .int .i64 ds, .string di, .int .i64 mh, .int .i64 mr, .int .i64 ms, .string mi, .bool false, .slice a o.length cap] 29
        exact hnew
      have HB0 : Hid (Below w.heap.size w W0) := by rw [← hW0]; exact (Below.refl w.heap.size w).alloc (Nat.le_refl _) _
      go_enter Try.func18, Try.ntmps18
      have cX_0 := HX0.out.cell 0 rfl
      have cX_1 := HX0.out.cell 1 rfl
      have cX_2 := HX0.out.cell 2 rfl
      have cX_3 := HX0.out.cell 3 rfl
      have cX_4 := HX0.out.cell 4 rfl
      have cX_5 := HX0.out.cell 5 rfl
      have cX_6 := HX0.out.cell 6 rfl
      have cX_7 := HX0.out.cell 7 rfl
      have cX_8 := HX0.out.cell 8 rfl
      have cX_9 := HX0.out.cell 9 rfl
      have cX_10 := HX0.out.cell 10 rfl
      go_wp2_with fail
      clear hW0 cX_0 cX_1 cX_2 cX_3 cX_4 cX_5 cX_6 cX_7 cX_8 cX_9 cX_10
      refine (kI _).mono ?_
      rintro e w1 ⟨rfl, rfl⟩
      have cX_0 := HX0.out.cell 0 rfl
      have cX_1 := HX0.out.cell 1 rfl
      have cX_2 := HX0.out.cell 2 rfl
      have cX_3 := HX0.out.cell 3 rfl
      have cX_4 := HX0.out.cell 4 rfl
      have cX_5 := HX0.out.cell 5 rfl
      have cX_6 := HX0.out.cell 6 rfl
      have cX_7 := HX0.out.cell 7 rfl
      have cX_8 := HX0.out.cell 8 rfl
      have cX_9 := HX0.out.cell 9 rfl
      have cX_10 := HX0.out.cell 10 rfl
      go_wp2_with fail
      clear cX_0 cX_1 cX_2 cX_3 cX_4 cX_5 cX_6 cX_7 cX_8 cX_9 cX_10
      refine (kD _).mono ?_
      rintro e w2 ⟨rfl, bb⟩
      have HX1 : Hid (Blk w2 w.heap.size [.int .i64 v, .int .i64 dh, .int .i64 dr, .int .i64 ds, .string di, .int .i64 mh, .int .i64 mr, .int .i64 ms, .string mi, .bool false, .slice a o.length cap] 29) := HX0.out.below bb HX0.out.lt
      have HB1 : Hid (Below w.heap.size w w2) := HB0.out.trans (bb.mono HB0.out.size)
      clear HX0 HB0
      clear bb
      have cX_0 := HX1.out.cell 0 rfl
      have cX_1 := HX1.out.cell 1 rfl
      have cX_2 := HX1.out.cell 2 rfl
      have cX_3 := HX1.out.cell 3 rfl
      have cX_4 := HX1.out.cell 4 rfl
      have cX_5 := HX1.out.cell 5 rfl
      have cX_6 := HX1.out.cell 6 rfl
      have cX_7 := HX1.out.cell 7 rfl
      have cX_8 := HX1.out.cell 8 rfl
      have cX_9 := HX1.out.cell 9 rfl
      have cX_10 := HX1.out.cell 10 rfl
      go_wp2_with fail
      clear cX_0 cX_1 cX_2 cX_3 cX_4 cX_5 cX_6 cX_7 cX_8 cX_9 cX_10
      refine (kM _).mono ?_
      rintro e w3 ⟨rfl, bb⟩
      have HX2 : Hid (Blk w3 w.heap.size [.int .i64 v, .int .i64 dh, .int .i64 dr, .int .i64 ds, .string di, .int .i64 mh, .int .i64 mr, .int .i64 ms, .string mi, .bool false, .slice a o.length cap] 29) := HX1.out.below bb HX1.out.lt
      have HB2 : Hid (Below w.heap.size w w3) := HB1.out.trans (bb.mono HB1.out.size)
      clear HX1 HB1
      clear bb
      have cX_0 := HX2.out.cell 0 rfl
      have cX_1 := HX2.out.cell 1 rfl
      have cX_2 := HX2.out.cell 2 rfl
      have cX_3 := HX2.out.cell 3 rfl
      have cX_4 := HX2.out.cell 4 rfl
      have cX_5 := HX2.out.cell 5 rfl
      have cX_6 := HX2.out.cell 6 rfl
      have cX_7 := HX2.out.cell 7 rfl
      have cX_8 := HX2.out.cell 8 rfl
      have cX_9 := HX2.out.cell 9 rfl
      have cX_10 := HX2.out.cell 10 rfl
      go_wp2
      clear cX_0 cX_1 cX_2 cX_3 cX_4 cX_5 cX_6 cX_7 cX_8 cX_9 cX_10
      go_loopw [3] (fun iv wr => ∃ j : Nat, j ≤ o.length ∧ iv = .int .i64 j ∧ Hid (∀ i (hi : i < o.length), i < j → outB v o[i] = true) ∧ Hid (Below w.heap.size w wr) ∧ Hid (Blk wr w.heap.size [.int .i64 v, .int .i64 dh, .int .i64 dr, .int .i64 ds, .string di, .int .i64 mh, .int .i64 mr, .int .i64 ms, .string mi, .bool false, .slice a o.length cap] 29)) (fun iv _ => o.length - (intOf iv).toNat)
      case atStart => exact ⟨0, Nat.zero_le _, rfl, (fun i hi h => absurd h (by omega)), HB2, HX2⟩
      case round =>
        obtain ⟨j, hj, rfl, HJ, HB, HX⟩ := hrel
        clear HB2 HX2
        have x10 := HX.out.cell 10 rfl
        by_cases hlt : j < o.length
        · have hltz : (j : Int) < (o.length : Int) := by omega
          rcases HY.out with h0 | ⟨b, off, rfl, hv0⟩
          · omega
          have hc5 := (hv0.below HB.out (hv0.lt (by omega))).five j hlt
          have HFj : Hid (outB v o[j] = false → A = false) := HF.out j hlt
          have HTj : Hid (outB v o[j] = true → ∀ i (hi : i < o.length), i < j + 1 → outB v o[i] = true) := fun h i hi hij => by
            by_cases e : i = j
            · subst e; exact h
            · exact HJ.out i hi (by omega)
          have kVj := fun W => kV o[j] W
          have HU : Hid (outB v o[j] = (voB o[j] && decide (o[j].v = v))) := rfl
          clear hv0 kV
          generalize outB v o[j] = u at *
          generalize voB o[j] = t at *
          generalize o[j] = y at *
          obtain ⟨yh, yr, ys, yi, yv⟩ := y
          unfold tV at kVj
          simp only at kVj hc5 HU
          obtain ⟨c0, c1, c2, c3, c4⟩ := hc5
          have x0 := HX.out.cell 0 rfl
          have hn := bel_some wr
          have p0 := fun p : Bel wr => p.cell c0
          have p1 := fun p : Bel wr => p.cell c1
          have p2 := fun p : Bel wr => p.cell c2
          have p3 := fun p : Bel wr => p.cell c3
          have p4 := fun p : Bel wr => p.cell c4
          have px0 := fun p : Bel wr => p.cell x0
          have px10 := fun p : Bel wr => p.cell x10
          cases t
          · have HFF : Hid (A = false) := HFj.out HU.out
            go_wp2_with fail
            refine wp_region_below (by kernel_rfl) (by kernel_rfl) ?_
            repeat (go_big_quiet_step ((go_at_call 44; exact bel_of (kVj _))))
            refine wpQuiet_nil ?_
            intro _ hw'
            obtain ⟨pq, hw''⟩ := hw'
            subst hw''
            have HB3 : Hid (Below w.heap.size w pq.W) := HB.out.trans (pq.h.mono HB.out.size)
            clear c0 c1 c2 c3 c4 p0 p1 p2 p3 p4 px0 px10 x0 x10
            go_wp2
            go_ret
            exact ⟨by rw [HO.out, HL60.out, HFF.out]; rfl, HB3.out⟩
          · by_cases hv : yv = v
            · have HTT : Hid (∀ i (hi : i < o.length), i < j + 1 → outB v o[i] = true) := HTj.out (by rw [HU.out, hv]; simp)
              subst hv
              go_wp2_with fail
              refine wp_region_below (by kernel_rfl) (by kernel_rfl) ?_
              repeat (go_big_quiet_step ((go_at_call 44; exact bel_of (kVj _))))
              refine wpQuiet_nil ?_
              intro _ hw'
              obtain ⟨pq, hw''⟩ := hw'
              subst hw''
              have HB3 : Hid (Below w.heap.size w pq.W) := HB.out.trans (pq.h.mono HB.out.size)
              have HX3 : Hid (Blk pq.W w.heap.size [.int .i64 yv, .int .i64 dh, .int .i64 dr, .int .i64 ds, .string di, .int .i64 mh, .int .i64 mr, .int .i64 ms, .string mi, .bool false, .slice (some ⟨b, off, none⟩) o.length cap] 29) := HX.out.below pq.h HX.out.lt
              clear c0 c1 c2 c3 c4 p0 p1 p2 p3 p4 px0 px10 x0 x10
              go_wp2
              go_roundw
              case rel => exact ⟨j + 1, by omega, by go_num, HTT, HB3, HX3⟩
              case measure => simp [intOf]; omega
            · have HFF : Hid (A = false) := HFj.out (by rw [HU.out, decide_eq_false hv]; rfl)
              go_wp2_with fail
              refine wp_region_below (by kernel_rfl) (by kernel_rfl) ?_
              repeat (go_big_quiet_step ((go_at_call 44; exact bel_of (kVj _))))
              refine wpQuiet_nil ?_
              intro _ hw'
              obtain ⟨pq, hw''⟩ := hw'
              subst hw''
              have HB3 : Hid (Below w.heap.size w pq.W) := HB.out.trans (pq.h.mono HB.out.size)
              clear c0 c1 c2 c3 c4 p0 p1 p2 p3 p4 px0 px10 x0 x10
              go_wp2
              go_ret
              exact ⟨by rw [HO.out, HL60.out, HFF.out]; rfl, HB3.out⟩
        · have hltz : ¬ (j : Int) < (o.length : Int) := by omega
          have HTT : Hid (A = true) := HT.out (fun i hi => HJ.out i hi (by omega))
          go_wp2
          go_ret
          exact ⟨by rw [HO.out, HL60.out, HTT.out]; rfl, HB.out⟩
  · cases t4
    · obtain ⟨W0, hW0⟩ : ∃ W, w.alloc (.cells #[.int .i64 v, .int .i64 dh, .int .i64 dr, .int .i64 ds, .string di, .int .i64 mh, .int .i64 mr, .int .i64 ms, .string mi, .bool true, .slice a o.length cap] 29) = W := ⟨_, rfl⟩
      have HX0 : Hid (Blk W0 w.heap.size [.int .i64 v, .int .i64 dh, .int .i64 dr, .int .i64 ds, .string di, .int .i64 mh, .int .i64 mr, .int .i64 ms, .string mi, .bool true, .slice a o.length cap] 29) := by
        rw [← hW0]
        have hnew := blk_new (w) [.int .i64 v, .int .i64 dh, .int .i64 dr, .int .i64 ds, .string di, .int .i64 mh, .int .i64 mr, .int .i64 ms, .string mi, .bool true, .slice a o.length cap] 29
        exact hnew
      have HB0 : Hid (Below w.heap.size w W0) := by rw [← hW0]; exact (Below.refl w.heap.size w).alloc (Nat.le_refl _) _
      go_enter Try.func18, Try.ntmps18
      have cX_0 := HX0.out.cell 0 rfl
      have cX_1 := HX0.out.cell 1 rfl
      have cX_2 := HX0.out.cell 2 rfl
      have cX_3 := HX0.out.cell 3 rfl
      have cX_4 := HX0.out.cell 4 rfl
      have cX_5 := HX0.out.cell 5 rfl
      have cX_6 := HX0.out.cell 6 rfl
      have cX_7 := HX0.out.cell 7 rfl
      have cX_8 := HX0.out.cell 8 rfl
      have cX_9 := HX0.out.cell 9 rfl
      have cX_10 := HX0.out.cell 10 rfl
      go_wp2_with fail
      clear hW0 cX_0 cX_1 cX_2 cX_3 cX_4 cX_5 cX_6 cX_7 cX_8 cX_9 cX_10
      refine (kI _).mono ?_
      rintro e w1 ⟨rfl, rfl⟩
      have cX_0 := HX0.out.cell 0 rfl
      have cX_1 := HX0.out.cell 1 rfl
      have cX_2 := HX0.out.cell 2 rfl
      have cX_3 := HX0.out.cell 3 rfl
      have cX_4 := HX0.out.cell 4 rfl
      have cX_5 := HX0.out.cell 5 rfl
      have cX_6 := HX0.out.cell 6 rfl
      have cX_7 := HX0.out.cell 7 rfl
      have cX_8 := HX0.out.cell 8 rfl
      have cX_9 := HX0.out.cell 9 rfl
      have cX_10 := HX0.out.cell 10 rfl
      go_wp2_with fail
      clear cX_0 cX_1 cX_2 cX_3 cX_4 cX_5 cX_6 cX_7 cX_8 cX_9 cX_10
      refine (kD _).mono ?_
      rintro e w2 ⟨rfl, bb⟩
      have HX1 : Hid (Blk w2 w.heap.size [.int .i64 v, .int .i64 dh, .int .i64 dr, .int .i64 ds, .string di, .int .i64 mh, .int .i64 mr, .int .i64 ms, .string mi, .bool true, .slice a o.length cap] 29) := HX0.out.below bb HX0.out.lt
      have HB1 : Hid (Below w.heap.size w w2) := HB0.out.trans (bb.mono HB0.out.size)
      clear HX0 HB0
      clear bb
      have cX_0 := HX1.out.cell 0 rfl
      have cX_1 := HX1.out.cell 1 rfl
      have cX_2 := HX1.out.cell 2 rfl
      have cX_3 := HX1.out.cell 3 rfl
      have cX_4 := HX1.out.cell 4 rfl
      have cX_5 := HX1.out.cell 5 rfl
      have cX_6 := HX1.out.cell 6 rfl
      have cX_7 := HX1.out.cell 7 rfl
      have cX_8 := HX1.out.cell 8 rfl
      have cX_9 := HX1.out.cell 9 rfl
      have cX_10 := HX1.out.cell 10 rfl
      go_wp2_with fail
      clear cX_0 cX_1 cX_2 cX_3 cX_4 cX_5 cX_6 cX_7 cX_8 cX_9 cX_10
      refine (kM _).mono ?_
      rintro e w3 ⟨rfl, bb⟩
      have HX2 : Hid (Blk w3 w.heap.size [.int .i64 v, .int .i64 dh, .int .i64 dr, .int .i64 ds, .string di, .int .i64 mh, .int .i64 mr, .int .i64 ms, .string mi, .bool true, .slice a o.length cap] 29) := HX1.out.below bb HX1.out.lt
      have HB2 : Hid (Below w.heap.size w w3) := HB1.out.trans (bb.mono HB1.out.size)
      clear HX1 HB1
      clear bb
      have cX_0 := HX2.out.cell 0 rfl
      have cX_1 := HX2.out.cell 1 rfl
      have cX_2 := HX2.out.cell 2 rfl
      have cX_3 := HX2.out.cell 3 rfl
      have cX_4 := HX2.out.cell 4 rfl
      have cX_5 := HX2.out.cell 5 rfl
      have cX_6 := HX2.out.cell 6 rfl
      have cX_7 := HX2.out.cell 7 rfl
      have cX_8 := HX2.out.cell 8 rfl
      have cX_9 := HX2.out.cell 9 rfl
      have cX_10 := HX2.out.cell 10 rfl
      go_wp2
      clear cX_0 cX_1 cX_2 cX_3 cX_4 cX_5 cX_6 cX_7 cX_8 cX_9 cX_10
      go_loopw [3] (fun iv wr => ∃ j : Nat, j ≤ o.length ∧ iv = .int .i64 j ∧ Hid (∀ i (hi : i < o.length), i < j → outB v o[i] = true) ∧ Hid (Below w.heap.size w wr) ∧ Hid (Blk wr w.heap.size [.int .i64 v, .int .i64 dh, .int .i64 dr, .int .i64 ds, .string di, .int .i64 mh, .int .i64 mr, .int .i64 ms, .string mi, .bool true, .slice a o.length cap] 29)) (fun iv _ => o.length - (intOf iv).toNat)
      case atStart => exact ⟨0, Nat.zero_le _, rfl, (fun i hi h => absurd h (by omega)), HB2, HX2⟩
      case round =>
        obtain ⟨j, hj, rfl, HJ, HB, HX⟩ := hrel
        clear HB2 HX2
        have x10 := HX.out.cell 10 rfl
        by_cases hlt : j < o.length
        · have hltz : (j : Int) < (o.length : Int) := by omega
          rcases HY.out with h0 | ⟨b, off, rfl, hv0⟩
          · omega
          have hc5 := (hv0.below HB.out (hv0.lt (by omega))).five j hlt
          have HFj : Hid (outB v o[j] = false → A = false) := HF.out j hlt
          have HTj : Hid (outB v o[j] = true → ∀ i (hi : i < o.length), i < j + 1 → outB v o[i] = true) := fun h i hi hij => by
            by_cases e : i = j
            · subst e; exact h
            · exact HJ.out i hi (by omega)
          have kVj := fun W => kV o[j] W
          have HU : Hid (outB v o[j] = (voB o[j] && decide (o[j].v = v))) := rfl
          clear hv0 kV
          generalize outB v o[j] = u at *
          generalize voB o[j] = t at *
          generalize o[j] = y at *
          obtain ⟨yh, yr, ys, yi, yv⟩ := y
          unfold tV at kVj
          simp only at kVj hc5 HU
          obtain ⟨c0, c1, c2, c3, c4⟩ := hc5
          have x0 := HX.out.cell 0 rfl
          have hn := bel_some wr
          have p0 := fun p : Bel wr => p.cell c0
          have p1 := fun p : Bel wr => p.cell c1
          have p2 := fun p : Bel wr => p.cell c2
          have p3 := fun p : Bel wr => p.cell c3
          have p4 := fun p : Bel wr => p.cell c4
          have px0 := fun p : Bel wr => p.cell x0
          have px10 := fun p : Bel wr => p.cell x10
          cases t
          · have HFF : Hid (A = false) := HFj.out HU.out
            go_wp2_with fail
            refine wp_region_below (by kernel_rfl) (by kernel_rfl) ?_
            repeat (go_big_quiet_step ((go_at_call 44; exact bel_of (kVj _))))
            refine wpQuiet_nil ?_
            intro _ hw'
            obtain ⟨pq, hw''⟩ := hw'
            subst hw''
            have HB3 : Hid (Below w.heap.size w pq.W) := HB.out.trans (pq.h.mono HB.out.size)
            clear c0 c1 c2 c3 c4 p0 p1 p2 p3 p4 px0 px10 x0 x10
            go_wp2
            go_ret
            exact ⟨by rw [HO.out, HL60.out, HFF.out]; rfl, HB3.out⟩
          · by_cases hv : yv = v
            · have HTT : Hid (∀ i (hi : i < o.length), i < j + 1 → outB v o[i] = true) := HTj.out (by rw [HU.out, hv]; simp)
              subst hv
              go_wp2_with fail
              refine wp_region_below (by kernel_rfl) (by kernel_rfl) ?_
              repeat (go_big_quiet_step ((go_at_call 44; exact bel_of (kVj _))))
              refine wpQuiet_nil ?_
              intro _ hw'
              obtain ⟨pq, hw''⟩ := hw'
              subst hw''
              have HB3 : Hid (Below w.heap.size w pq.W) := HB.out.trans (pq.h.mono HB.out.size)
              have HX3 : Hid (Blk pq.W w.heap.size [.int .i64 yv, .int .i64 dh, .int .i64 dr, .int .i64 ds, .string di, .int .i64 mh, .int .i64 mr, .int .i64 ms, .string mi, .bool true, .slice (some ⟨b, off, none⟩) o.length cap] 29) := HX.out.below pq.h HX.out.lt
              clear c0 c1 c2 c3 c4 p0 p1 p2 p3 p4 px0 px10 x0 x10
              go_wp2
              go_roundw
              case rel => exact ⟨j + 1, by omega, by go_num, HTT, HB3, HX3⟩
              case measure => simp [intOf]; omega
            · have HFF : Hid (A = false) := HFj.out (by rw [HU.out, decide_eq_false hv]; rfl)
              go_wp2_with fail
              refine wp_region_below (by kernel_rfl) (by kernel_rfl) ?_
              repeat (go_big_quiet_step ((go_at_call 44; exact bel_of (kVj _))))
              refine wpQuiet_nil ?_
              intro _ hw'
              obtain ⟨pq, hw''⟩ := hw'
              subst hw''
              have HB3 : Hid (Below w.heap.size w pq.W) := HB.out.trans (pq.h.mono HB.out.size)
              clear c0 c1 c2 c3 c4 p0 p1 p2 p3 p4 px0 px10 x0 x10
              go_wp2
              go_ret
              exact ⟨by rw [HO.out, HL60.out, HFF.out]; rfl, HB3.out⟩
        · have hltz : ¬ (j : Int) < (o.length : Int) := by omega
          have HTT : Hid (A = true) := HT.out (fun i hi => HJ.out i hi (by omega))
          go_wp2
          go_ret
          exact ⟨by rw [HO.out, HL60.out, HTT.out]; rfl, HB.out⟩
    · obtain ⟨W0, hW0⟩ : ∃ W, w.alloc (.cells #[.int .i64 v, .int .i64 dh, .int .i64 dr, .int .i64 ds, .string di, .int .i64 mh, .int .i64 mr, .int .i64 ms, .string mi, .bool true, .slice a o.length cap] 29) = W := ⟨_, rfl⟩
      have HX0 : Hid (Blk W0 w.heap.size [.int .i64 v, .int .i64 dh, .int .i64 dr, .int .i64 ds, .string di, .int .i64 mh, .int .i64 mr, .int .i64 ms, .string mi, .bool true, .slice a o.length cap] 29) := by
        rw [← hW0]
        have hnew := blk_new (w) [.int .i64 v, .int .i64 dh, .int .i64 dr, .int .i64 ds, .string di, .int .i64 mh, .int .i64 mr, .int .i64 ms, .string mi, .bool true, .slice a o.length cap] 29
        exact hnew
      have HB0 : Hid (Below w.heap.size w W0) := by rw [← hW0]; exact (Below.refl w.heap.size w).alloc (Nat.le_refl _) _
      go_enter Try.func18, Try.ntmps18
      have cX_0 := HX0.out.cell 0 rfl
      have cX_1 := HX0.out.cell 1 rfl
      have cX_2 := HX0.out.cell 2 rfl
      have cX_3 := HX0.out.cell 3 rfl
      have cX_4 := HX0.out.cell 4 rfl
      have cX_5 := HX0.out.cell 5 rfl
      have cX_6 := HX0.out.cell 6 rfl
      have cX_7 := HX0.out.cell 7 rfl
      have cX_8 := HX0.out.cell 8 rfl
      have cX_9 := HX0.out.cell 9 rfl
      have cX_10 := HX0.out.cell 10 rfl
      go_wp2_with fail
      clear hW0 cX_0 cX_1 cX_2 cX_3 cX_4 cX_5 cX_6 cX_7 cX_8 cX_9 cX_10
      refine (kI _).mono ?_
      rintro e w1 ⟨rfl, rfl⟩
      have cX_0 := HX0.out.cell 0 rfl
      have cX_1 := HX0.out.cell 1 rfl
      have cX_2 := HX0.out.cell 2 rfl
      have cX_3 := HX0.out.cell 3 rfl
      have cX_4 := HX0.out.cell 4 rfl
      have cX_5 := HX0.out.cell 5 rfl
      have cX_6 := HX0.out.cell 6 rfl
      have cX_7 := HX0.out.cell 7 rfl
      have cX_8 := HX0.out.cell 8 rfl
      have cX_9 := HX0.out.cell 9 rfl
      have cX_10 := HX0.out.cell 10 rfl
      go_wp2_with fail
      clear cX_0 cX_1 cX_2 cX_3 cX_4 cX_5 cX_6 cX_7 cX_8 cX_9 cX_10
      refine (kD _).mono ?_
      rintro e w2 ⟨rfl, bb⟩
      have HX1 : Hid (Blk w2 w.heap.size [.int .i64 v, .int .i64 dh, .int .i64 dr, .int .i64 ds, .string di, .int .i64 mh, .int .i64 mr, .int .i64 ms, .string mi, .bool true, .slice a o.length cap] 29) := HX0.out.below bb HX0.out.lt
      have HB1 : Hid (Below w.heap.size w w2) := HB0.out.trans (bb.mono HB0.out.size)
      clear HX0 HB0
      clear bb
      have cX_0 := HX1.out.cell 0 rfl
      have cX_1 := HX1.out.cell 1 rfl
      have cX_2 := HX1.out.cell 2 rfl
      have cX_3 := HX1.out.cell 3 rfl
      have cX_4 := HX1.out.cell 4 rfl
      have cX_5 := HX1.out.cell 5 rfl
      have cX_6 := HX1.out.cell 6 rfl
      have cX_7 := HX1.out.cell 7 rfl
      have cX_8 := HX1.out.cell 8 rfl
      have cX_9 := HX1.out.cell 9 rfl
      have cX_10 := HX1.out.cell 10 rfl
      go_wp2_with fail
      clear cX_0 cX_1 cX_2 cX_3 cX_4 cX_5 cX_6 cX_7 cX_8 cX_9 cX_10
      refine (kM _).mono ?_
      rintro e w3 ⟨rfl, bb⟩
      have HX2 : Hid (Blk w3 w.heap.size [.int .i64 v, .int .i64 dh, .int .i64 dr, .int .i64 ds, .string di, .int .i64 mh, .int .i64 mr, .int .i64 ms, .string mi, .bool true, .slice a o.length cap] 29) := HX1.out.below bb HX1.out.lt
      have HB2 : Hid (Below w.heap.size w w3) := HB1.out.trans (bb.mono HB1.out.size)
      clear HX1 HB1
      clear bb
      have cX_0 := HX2.out.cell 0 rfl
      have cX_1 := HX2.out.cell 1 rfl
      have cX_2 := HX2.out.cell 2 rfl
      have cX_3 := HX2.out.cell 3 rfl
      have cX_4 := HX2.out.cell 4 rfl
      have cX_5 := HX2.out.cell 5 rfl
      have cX_6 := HX2.out.cell 6 rfl
      have cX_7 := HX2.out.cell 7 rfl
      have cX_8 := HX2.out.cell 8 rfl
      have cX_9 := HX2.out.cell 9 rfl
      have cX_10 := HX2.out.cell 10 rfl
      go_wp2
      go_ret
      exact ⟨by rw [HO.out]; cases t3 <;> rfl, HB2.out⟩
set_option maxHeartbeats 800000 in
/-- The program's own test of one vote of a signer. -/
theorem cl_any (y : Vt) (v : Int) (b : Nat) (w : World) (hc : w.cell? ⟨b, 0, none⟩ = some (.int .i64 v)) :
    Calls Try.prog 59 #[tV y, .pointer (some ⟨b, 0, none⟩)] w fun e w' => e = .returned (.bool (!(outB v y))) ∧ Below w.heap.size w w' := by
  have HU : Hid (outB v y = (voB y && decide (y.v = v))) := rfl
  have kV := fun W => impl_vok y W
  generalize outB v y = R at *
  generalize voB y = t at *
  have hb : b < w.heap.size := World.block_lt_of_cell? w _ hc
  obtain ⟨yh, yr, ys, yi, yv⟩ := y
  unfold tV at *
  simp only at *
  obtain ⟨W0, hW0⟩ : ∃ W, w.alloc (.cells #[.int .i64 yh, .int .i64 yr, .int .i64 ys, .string yi, .int .i64 yv] 31) = W := ⟨_, rfl⟩
  have HY0 : Hid (Blk W0 w.heap.size [.int .i64 yh, .int .i64 yr, .int .i64 ys, .string yi, .int .i64 yv] 31) := by
    rw [← hW0]
    have hnew := blk_new (w) [.int .i64 yh, .int .i64 yr, .int .i64 ys, .string yi, .int .i64 yv] 31
    exact hnew
  have HB0 : Hid (Below w.heap.size w W0) := by rw [← hW0]; exact (Below.refl w.heap.size w).alloc (Nat.le_refl _) _
  have hc0 : W0.cell? ⟨b, 0, none⟩ = some (.int .i64 v) := (HB0.out.cell (p := ⟨b, 0, none⟩) hb).trans hc
  by_cases hv : yv = v
  · have HU1 : Hid (R = (t && true)) := by show _ = _; rw [HU.out, decide_eq_true hv]
    clear HU
    subst hv
    go_enter Try.func59, Try.ntmps59
    have cY_0 := HY0.out.cell 0 rfl
    have cY_1 := HY0.out.cell 1 rfl
    have cY_2 := HY0.out.cell 2 rfl
    have cY_3 := HY0.out.cell 3 rfl
    have cY_4 := HY0.out.cell 4 rfl
    go_wp2_with fail
    clear hW0 cY_0 cY_1 cY_2 cY_3 cY_4 hc0
    refine (kV _).mono ?_
    rintro e w1 ⟨rfl, bb⟩
    have HY1 : Hid (Blk w1 w.heap.size [.int .i64 yh, .int .i64 yr, .int .i64 ys, .string yi, .int .i64 yv] 31) := HY0.out.below bb HY0.out.lt
    have HB1 : Hid (Below w.heap.size w w1) := HB0.out.trans (bb.mono HB0.out.size)
    clear HY0 HB0
    clear bb
    go_wp2
    go_ret
    exact ⟨by rw [HU1.out]; cases t <;> rfl, HB1.out⟩
  · have HR0 : Hid (R = false) := by show _ = _; rw [HU.out, decide_eq_false hv, Bool.and_false]
    go_enter Try.func59, Try.ntmps59
    have c0 := HY0.out.cell 0 rfl
    have c1 := HY0.out.cell 1 rfl
    have c2 := HY0.out.cell 2 rfl
    have c3 := HY0.out.cell 3 rfl
    have c4 := HY0.out.cell 4 rfl
    go_wp2
    go_ret
    exact ⟨by rw [HR0.out]; rfl, HB0.out⟩
set_option maxHeartbeats 1600000 in
set_option maxRecDepth 100000 in
theorem index_v (a : Option Addr) (l : List Vt) (cap : Nat) (v : Int) (b : Nat) (w : World) (hl : YO w a l) (hlen : l.length ≤ 9223372036854775807) (hc : w.cell? ⟨b, 0, none⟩ = some (.int .i64 v)) :
    Calls Try.prog 77 #[.slice a l.length cap, .func (.func 59) #[] #[.pointer (some ⟨b, 0, none⟩)]] w fun e w' => ∃ r : Int, e = .returned (.int .i64 r) ∧ Hid ((r = -1 ∧ l.all (outB v) = true) ∨ (0 ≤ r ∧ l.all (outB v) = false)) ∧ Below w.heap.size w w' := by
  have HY : Hid (YO w a l) := hl
  have HC : Hid (w.cell? ⟨b, 0, none⟩ = some (.int .i64 v)) := hc
  have hb : b < w.heap.size := World.block_lt_of_cell? w _ hc
  have HF : Hid (∀ j (hj : j < l.length), outB v l[j] = false → l.all (outB v) = false) := fun j hj h => all_no hj h
  have HT : Hid ((∀ j (hj : j < l.length), outB v l[j] = true) → l.all (outB v) = true) := all_yes
  have kC := fun (y : Vt) W h => cl_any y v b W h
  generalize l.all (outB v) = A at *
  clear hl hc
  go_enter Try.func77, Try.ntmps77
  go_wp2
  go_loopw [8] (fun iv wr => ∃ j : Nat, j ≤ l.length ∧ iv = .int .i64 j ∧ Hid (∀ i (hi : i < l.length), i < j → outB v l[i] = true) ∧ Hid (Below w.heap.size w wr)) (fun iv _ => l.length - (intOf iv).toNat)
  case atStart => exact ⟨0, Nat.zero_le _, rfl, (fun i hi h => absurd h (by omega)), Below.refl _ _⟩
  case round =>
    obtain ⟨j, hj, rfl, HJ, HB⟩ := hrel
    by_cases hlt : j < l.length
    · have hltz : (j : Int) < (l.length : Int) := by omega
      rcases HY.out with h0 | ⟨bb, off, rfl, hv0⟩
      · omega
      have hc5 := (hv0.below HB.out (hv0.lt (by omega))).five j hlt
      have HFj : Hid (outB v l[j] = false → A = false) := HF.out j hlt
      have HTj : Hid (outB v l[j] = true → ∀ i (hi : i < l.length), i < j + 1 → outB v l[i] = true) := fun h i hi hij => by
        by_cases e : i = j
        · subst e; exact h
        · exact HJ.out i hi (by omega)
      have kCj := kC l[j] wr ((HB.out.cell (p := ⟨b, 0, none⟩) hb).trans HC.out)
      clear hv0 kC
      generalize outB v l[j] = u at *
      generalize l[j] = y at *
      obtain ⟨yh, yr, ys, yi, yv⟩ := y
      unfold tV at kCj
      simp only at kCj hc5
      obtain ⟨c0, c1, c2, c3, c4⟩ := hc5
      go_wp2_with fail
      refine kCj.mono ?_
      rintro e w2 ⟨rfl, b2⟩
      have HB2 : Hid (Below w.heap.size w w2) := HB.out.trans (b2.mono HB.out.size)
      clear c0 c1 c2 c3 c4 b2 kCj
      cases u
      · have HFF : Hid (A = false) := HFj.out rfl
        go_wp2
        go_ret
        exact ⟨_, rfl, .inr ⟨by omega, HFF.out⟩, HB2.out⟩
      · have HTT : Hid (∀ i (hi : i < l.length), i < j + 1 → outB v l[i] = true) := HTj.out rfl
        go_wp2
        go_roundw
        case rel => exact ⟨j + 1, by omega, by go_num, HTT, HB2⟩
        case measure => simp [intOf]; omega
    · have hltz : ¬ (j : Int) < (l.length : Int) := by omega
      have HTT : Hid (A = true) := HT.out (fun i hi => HJ.out i hi (by omega))
      go_wp2
      go_ret
      exact ⟨_, rfl, .inl ⟨rfl, HTT.out⟩, HB.out⟩
set_option maxHeartbeats 800000 in
set_option maxRecDepth 100000 in
theorem contains_v (a : Option Addr) (l : List Vt) (cap : Nat) (v : Int) (b : Nat) (w : World) (hl : YO w a l) (hlen : l.length ≤ 9223372036854775807) (hc : w.cell? ⟨b, 0, none⟩ = some (.int .i64 v)) :
    Calls Try.prog 58 #[.slice a l.length cap, .func (.func 59) #[] #[.pointer (some ⟨b, 0, none⟩)]] w fun e w' => e = .returned (.bool (!(l.all (outB v)))) ∧ Below w.heap.size w w' := by
  have kI := index_v a l cap v b w hl hlen hc
  generalize l.all (outB v) = A at *
  clear hl hc
  go_enter Try.func58, Try.ntmps58
  go_wp2_with fail
  refine kI.mono ?_
  rintro e w2 ⟨r, rfl, HR, b2⟩
  have HB2 : Hid (Below w.heap.size w w2) := b2
  clear b2 kI
  rcases HR.out with ⟨rfl, hA⟩ | ⟨hr, hA⟩
  · have HA : Hid (A = true) := hA
    clear hA HR
    go_wp2
    go_ret
    exact ⟨by rw [HA.out]; rfl, HB2.out⟩
  · have HA : Hid (A = false) := hA
    clear hA HR
    go_wp2
    go_ret
    exact ⟨by rw [HA.out]; rfl, HB2.out⟩
set_option maxHeartbeats 3200000 in
set_option maxRecDepth 100000 in
theorem impl_sok (x : Sg) (a : Option Addr) (cap : Nat) (w : World) (hl : YO w a x.o) (hlen : x.o.length ≤ 9223372036854775807) :
    Calls Try.prog 29 #[sV x a cap] w fun e w' => e = .returned (.bool (sOk x)) ∧ Below w.heap.size w w' := by
  have HO : Hid (sOk x = (inIs x.v 1 99 && (gOk x.d && (gOk x.m && ((x.p || geB x.d x.m) && ((!x.p || !(geB x.m gz)) && (decide (x.o.length ≤ 60) && x.o.all (outB x.v)))))))) := rfl
  generalize sOk x = R at *
  have kI := fun W => impl_isV x.v W
  have kD := fun W => impl_gok x.d W
  have kM := fun W => impl_gok x.m W
  have hN := fun W => run_neG x.m x.d W
  have kF := fun W => impl_free x.m W
  have kC := fun (b : Nat) W h h' => contains_v a x.o cap x.v b W h hlen h'
  have HY : Hid (YO w a x.o) := hl
  clear hl
  rw [geB_comm x.m x.d] at hN
  have hg := guardG
  generalize x.o.all (outB x.v) = A at *
  generalize inIs x.v 1 99 = t0 at *
  generalize gOk x.d = t1 at *
  generalize gOk x.m = t2 at *
  generalize geB x.d x.m = t3 at *
  generalize geB x.m gz = t4 at *
  obtain ⟨v, ⟨dh, dr, ds, di⟩, ⟨mh, mr, ms, mi⟩, p, o⟩ := x
  unfold sV sQ
  unfold gV at *
  simp only at *
  cases t0
  · obtain ⟨W0, hW0⟩ : ∃ W, w.alloc (.cells #[.int .i64 v, .int .i64 dh, .int .i64 dr, .int .i64 ds, .string di, .int .i64 mh, .int .i64 mr, .int .i64 ms, .string mi, .bool p, .slice a o.length cap] 29) = W := ⟨_, rfl⟩
    have HX0 : Hid (Blk W0 w.heap.size [.int .i64 v, .int .i64 dh, .int .i64 dr, .int .i64 ds, .string di, .int .i64 mh, .int .i64 mr, .int .i64 ms, .string mi, .bool p, .slice a o.length cap] 29) := by
      rw [← hW0]
      have hnew := blk_new (w) [.int .i64 v, .int .i64 dh, .int .i64 dr, .int .i64 ds, .string di, .int .i64 mh, .int .i64 mr, .int .i64 ms, .string mi, .bool p, .slice a o.length cap] 29
      exact hnew
    have HB0 : Hid (Below w.heap.size w W0) := by rw [← hW0]; exact (Below.refl w.heap.size w).alloc (Nat.le_refl _) _
    go_enter Try.func29, Try.ntmps29
    have cX_0 := HX0.out.cell 0 rfl
    have cX_1 := HX0.out.cell 1 rfl
    have cX_2 := HX0.out.cell 2 rfl
    have cX_3 := HX0.out.cell 3 rfl
    have cX_4 := HX0.out.cell 4 rfl
    have cX_5 := HX0.out.cell 5 rfl
    have cX_6 := HX0.out.cell 6 rfl
    have cX_7 := HX0.out.cell 7 rfl
    have cX_8 := HX0.out.cell 8 rfl
    have cX_9 := HX0.out.cell 9 rfl
    have cX_10 := HX0.out.cell 10 rfl
    go_wp2_with fail
    clear hW0 cX_0 cX_1 cX_2 cX_3 cX_4 cX_5 cX_6 cX_7 cX_8 cX_9 cX_10
    refine (kI _).mono ?_
    rintro e w1 ⟨rfl, rfl⟩
    have cX_0 := HX0.out.cell 0 rfl
    have cX_1 := HX0.out.cell 1 rfl
    have cX_2 := HX0.out.cell 2 rfl
    have cX_3 := HX0.out.cell 3 rfl
    have cX_4 := HX0.out.cell 4 rfl
    have cX_5 := HX0.out.cell 5 rfl
    have cX_6 := HX0.out.cell 6 rfl
    have cX_7 := HX0.out.cell 7 rfl
    have cX_8 := HX0.out.cell 8 rfl
    have cX_9 := HX0.out.cell 9 rfl
    have cX_10 := HX0.out.cell 10 rfl
    go_wp2
    go_ret
    exact ⟨by rw [HO.out]; rfl, HB0.out⟩
  cases t1
  · obtain ⟨W0, hW0⟩ : ∃ W, w.alloc (.cells #[.int .i64 v, .int .i64 dh, .int .i64 dr, .int .i64 ds, .string di, .int .i64 mh, .int .i64 mr, .int .i64 ms, .string mi, .bool p, .slice a o.length cap] 29) = W := ⟨_, rfl⟩
    have HX0 : Hid (Blk W0 w.heap.size [.int .i64 v, .int .i64 dh, .int .i64 dr, .int .i64 ds, .string di, .int .i64 mh, .int .i64 mr, .int .i64 ms, .string mi, .bool p, .slice a o.length cap] 29) := by
      rw [← hW0]
      have hnew := blk_new (w) [.int .i64 v, .int .i64 dh, .int .i64 dr, .int .i64 ds, .string di, .int .i64 mh, .int .i64 mr, .int .i64 ms, .string mi, .bool p, .slice a o.length cap] 29
      exact hnew
    have HB0 : Hid (Below w.heap.size w W0) := by rw [← hW0]; exact (Below.refl w.heap.size w).alloc (Nat.le_refl _) _
    go_enter Try.func29, Try.ntmps29
    have cX_0 := HX0.out.cell 0 rfl
    have cX_1 := HX0.out.cell 1 rfl
    have cX_2 := HX0.out.cell 2 rfl
    have cX_3 := HX0.out.cell 3 rfl
    have cX_4 := HX0.out.cell 4 rfl
    have cX_5 := HX0.out.cell 5 rfl
    have cX_6 := HX0.out.cell 6 rfl
    have cX_7 := HX0.out.cell 7 rfl
    have cX_8 := HX0.out.cell 8 rfl
    have cX_9 := HX0.out.cell 9 rfl
    have cX_10 := HX0.out.cell 10 rfl
    go_wp2_with fail
    clear hW0 cX_0 cX_1 cX_2 cX_3 cX_4 cX_5 cX_6 cX_7 cX_8 cX_9 cX_10
    refine (kI _).mono ?_
    rintro e w1 ⟨rfl, rfl⟩
    have cX_0 := HX0.out.cell 0 rfl
    have cX_1 := HX0.out.cell 1 rfl
    have cX_2 := HX0.out.cell 2 rfl
    have cX_3 := HX0.out.cell 3 rfl
    have cX_4 := HX0.out.cell 4 rfl
    have cX_5 := HX0.out.cell 5 rfl
    have cX_6 := HX0.out.cell 6 rfl
    have cX_7 := HX0.out.cell 7 rfl
    have cX_8 := HX0.out.cell 8 rfl
    have cX_9 := HX0.out.cell 9 rfl
    have cX_10 := HX0.out.cell 10 rfl
    go_wp2_with fail
    clear cX_0 cX_1 cX_2 cX_3 cX_4 cX_5 cX_6 cX_7 cX_8 cX_9 cX_10
    refine (kD _).mono ?_
    rintro e w2 ⟨rfl, bb⟩
    have HX1 : Hid (Blk w2 w.heap.size [.int .i64 v, .int .i64 dh, .int .i64 dr, .int .i64 ds, .string di, .int .i64 mh, .int .i64 mr, .int .i64 ms, .string mi, .bool p, .slice a o.length cap] 29) := HX0.out.below bb HX0.out.lt
    have HB1 : Hid (Below w.heap.size w w2) := HB0.out.trans (bb.mono HB0.out.size)
    clear HX0 HB0
    clear bb
    have cX_0 := HX1.out.cell 0 rfl
    have cX_1 := HX1.out.cell 1 rfl
    have cX_2 := HX1.out.cell 2 rfl
    have cX_3 := HX1.out.cell 3 rfl
    have cX_4 := HX1.out.cell 4 rfl
    have cX_5 := HX1.out.cell 5 rfl
    have cX_6 := HX1.out.cell 6 rfl
    have cX_7 := HX1.out.cell 7 rfl
    have cX_8 := HX1.out.cell 8 rfl
    have cX_9 := HX1.out.cell 9 rfl
    have cX_10 := HX1.out.cell 10 rfl
    go_wp2
    go_ret
    exact ⟨by rw [HO.out]; rfl, HB1.out⟩
  cases t2
  · obtain ⟨W0, hW0⟩ : ∃ W, w.alloc (.cells #[.int .i64 v, .int .i64 dh, .int .i64 dr, .int .i64 ds, .string di, .int .i64 mh, .int .i64 mr, .int .i64 ms, .string mi, .bool p, .slice a o.length cap] 29) = W := ⟨_, rfl⟩
    have HX0 : Hid (Blk W0 w.heap.size [.int .i64 v, .int .i64 dh, .int .i64 dr, .int .i64 ds, .string di, .int .i64 mh, .int .i64 mr, .int .i64 ms, .string mi, .bool p, .slice a o.length cap] 29) := by
      rw [← hW0]
      have hnew := blk_new (w) [.int .i64 v, .int .i64 dh, .int .i64 dr, .int .i64 ds, .string di, .int .i64 mh, .int .i64 mr, .int .i64 ms, .string mi, .bool p, .slice a o.length cap] 29
      exact hnew
    have HB0 : Hid (Below w.heap.size w W0) := by rw [← hW0]; exact (Below.refl w.heap.size w).alloc (Nat.le_refl _) _
    go_enter Try.func29, Try.ntmps29
    have cX_0 := HX0.out.cell 0 rfl
    have cX_1 := HX0.out.cell 1 rfl
    have cX_2 := HX0.out.cell 2 rfl
    have cX_3 := HX0.out.cell 3 rfl
    have cX_4 := HX0.out.cell 4 rfl
    have cX_5 := HX0.out.cell 5 rfl
    have cX_6 := HX0.out.cell 6 rfl
    have cX_7 := HX0.out.cell 7 rfl
    have cX_8 := HX0.out.cell 8 rfl
    have cX_9 := HX0.out.cell 9 rfl
    have cX_10 := HX0.out.cell 10 rfl
    go_wp2_with fail
    clear hW0 cX_0 cX_1 cX_2 cX_3 cX_4 cX_5 cX_6 cX_7 cX_8 cX_9 cX_10
    refine (kI _).mono ?_
    rintro e w1 ⟨rfl, rfl⟩
    have cX_0 := HX0.out.cell 0 rfl
    have cX_1 := HX0.out.cell 1 rfl
    have cX_2 := HX0.out.cell 2 rfl
    have cX_3 := HX0.out.cell 3 rfl
    have cX_4 := HX0.out.cell 4 rfl
    have cX_5 := HX0.out.cell 5 rfl
    have cX_6 := HX0.out.cell 6 rfl
    have cX_7 := HX0.out.cell 7 rfl
    have cX_8 := HX0.out.cell 8 rfl
    have cX_9 := HX0.out.cell 9 rfl
    have cX_10 := HX0.out.cell 10 rfl
    go_wp2_with fail
    clear cX_0 cX_1 cX_2 cX_3 cX_4 cX_5 cX_6 cX_7 cX_8 cX_9 cX_10
    refine (kD _).mono ?_
    rintro e w2 ⟨rfl, bb⟩
    have HX1 : Hid (Blk w2 w.heap.size [.int .i64 v, .int .i64 dh, .int .i64 dr, .int .i64 ds, .string di, .int .i64 mh, .int .i64 mr, .int .i64 ms, .string mi, .bool p, .slice a o.length cap] 29) := HX0.out.below bb HX0.out.lt
    have HB1 : Hid (Below w.heap.size w w2) := HB0.out.trans (bb.mono HB0.out.size)
    clear HX0 HB0
    clear bb
    have cX_0 := HX1.out.cell 0 rfl
    have cX_1 := HX1.out.cell 1 rfl
    have cX_2 := HX1.out.cell 2 rfl
    have cX_3 := HX1.out.cell 3 rfl
    have cX_4 := HX1.out.cell 4 rfl
    have cX_5 := HX1.out.cell 5 rfl
    have cX_6 := HX1.out.cell 6 rfl
    have cX_7 := HX1.out.cell 7 rfl
    have cX_8 := HX1.out.cell 8 rfl
    have cX_9 := HX1.out.cell 9 rfl
    have cX_10 := HX1.out.cell 10 rfl
    go_wp2_with fail
    clear cX_0 cX_1 cX_2 cX_3 cX_4 cX_5 cX_6 cX_7 cX_8 cX_9 cX_10
    refine (kM _).mono ?_
    rintro e w3 ⟨rfl, bb⟩
    have HX2 : Hid (Blk w3 w.heap.size [.int .i64 v, .int .i64 dh, .int .i64 dr, .int .i64 ds, .string di, .int .i64 mh, .int .i64 mr, .int .i64 ms, .string mi, .bool p, .slice a o.length cap] 29) := HX1.out.below bb HX1.out.lt
    have HB2 : Hid (Below w.heap.size w w3) := HB1.out.trans (bb.mono HB1.out.size)
    clear HX1 HB1
    clear bb
    have cX_0 := HX2.out.cell 0 rfl
    have cX_1 := HX2.out.cell 1 rfl
    have cX_2 := HX2.out.cell 2 rfl
    have cX_3 := HX2.out.cell 3 rfl
    have cX_4 := HX2.out.cell 4 rfl
    have cX_5 := HX2.out.cell 5 rfl
    have cX_6 := HX2.out.cell 6 rfl
    have cX_7 := HX2.out.cell 7 rfl
    have cX_8 := HX2.out.cell 8 rfl
    have cX_9 := HX2.out.cell 9 rfl
    have cX_10 := HX2.out.cell 10 rfl
    go_wp2
    go_ret
    exact ⟨by rw [HO.out]; rfl, HB2.out⟩
  by_cases h60 : 60 < (o.length : Int)
  · have HL60 : Hid (decide (o.length ≤ 60) = false) := by show _ = _; rw [decide_eq_false_iff_not]; omega
    have HR0 : Hid (R = false) := by show _ = _; rw [HO.out, HL60.out]; cases t3 <;> cases t4 <;> cases p <;> rfl
    obtain ⟨W0, hW0⟩ : ∃ W, w.alloc (.cells #[.int .i64 v, .int .i64 dh, .int .i64 dr, .int .i64 ds, .string di, .int .i64 mh, .int .i64 mr, .int .i64 ms, .string mi, .bool p, .slice a o.length cap] 29) = W := ⟨_, rfl⟩
    have HX0 : Hid (Blk W0 w.heap.size [.int .i64 v, .int .i64 dh, .int .i64 dr, .int .i64 ds, .string di, .int .i64 mh, .int .i64 mr, .int .i64 ms, .string mi, .bool p, .slice a o.length cap] 29) := by
      rw [← hW0]
      have hnew := blk_new (w) [.int .i64 v, .int .i64 dh, .int .i64 dr, .int .i64 ds, .string di, .int .i64 mh, .int .i64 mr, .int .i64 ms, .string mi, .bool p, .slice a o.length cap] 29
      exact hnew
    have HB0 : Hid (Below w.heap.size w W0) := by rw [← hW0]; exact (Below.refl w.heap.size w).alloc (Nat.le_refl _) _
    go_enter Try.func29, Try.ntmps29
    have cX_0 := HX0.out.cell 0 rfl
    have cX_1 := HX0.out.cell 1 rfl
    have cX_2 := HX0.out.cell 2 rfl
    have cX_3 := HX0.out.cell 3 rfl
    have cX_4 := HX0.out.cell 4 rfl
    have cX_5 := HX0.out.cell 5 rfl
    have cX_6 := HX0.out.cell 6 rfl
    have cX_7 := HX0.out.cell 7 rfl
    have cX_8 := HX0.out.cell 8 rfl
    have cX_9 := HX0.out.cell 9 rfl
    have cX_10 := HX0.out.cell 10 rfl
    go_wp2_with fail
    clear hW0 cX_0 cX_1 cX_2 cX_3 cX_4 cX_5 cX_6 cX_7 cX_8 cX_9 cX_10
    refine (kI _).mono ?_
    rintro e w1 ⟨rfl, rfl⟩
    have cX_0 := HX0.out.cell 0 rfl
    have cX_1 := HX0.out.cell 1 rfl
    have cX_2 := HX0.out.cell 2 rfl
    have cX_3 := HX0.out.cell 3 rfl
    have cX_4 := HX0.out.cell 4 rfl
    have cX_5 := HX0.out.cell 5 rfl
    have cX_6 := HX0.out.cell 6 rfl
    have cX_7 := HX0.out.cell 7 rfl
    have cX_8 := HX0.out.cell 8 rfl
    have cX_9 := HX0.out.cell 9 rfl
    have cX_10 := HX0.out.cell 10 rfl
    go_wp2_with fail
    clear cX_0 cX_1 cX_2 cX_3 cX_4 cX_5 cX_6 cX_7 cX_8 cX_9 cX_10
    refine (kD _).mono ?_
    rintro e w2 ⟨rfl, bb⟩
    have HX1 : Hid (Blk w2 w.heap.size [.int .i64 v, .int .i64 dh, .int .i64 dr, .int .i64 ds, .string di, .int .i64 mh, .int .i64 mr, .int .i64 ms, .string mi, .bool p, .slice a o.length cap] 29) := HX0.out.below bb HX0.out.lt
    have HB1 : Hid (Below w.heap.size w w2) := HB0.out.trans (bb.mono HB0.out.size)
    clear HX0 HB0
    clear bb
    have cX_0 := HX1.out.cell 0 rfl
    have cX_1 := HX1.out.cell 1 rfl
    have cX_2 := HX1.out.cell 2 rfl
    have cX_3 := HX1.out.cell 3 rfl
    have cX_4 := HX1.out.cell 4 rfl
    have cX_5 := HX1.out.cell 5 rfl
    have cX_6 := HX1.out.cell 6 rfl
    have cX_7 := HX1.out.cell 7 rfl
    have cX_8 := HX1.out.cell 8 rfl
    have cX_9 := HX1.out.cell 9 rfl
    have cX_10 := HX1.out.cell 10 rfl
    go_wp2_with fail
    clear cX_0 cX_1 cX_2 cX_3 cX_4 cX_5 cX_6 cX_7 cX_8 cX_9 cX_10
    refine (kM _).mono ?_
    rintro e w3 ⟨rfl, bb⟩
    have HX2 : Hid (Blk w3 w.heap.size [.int .i64 v, .int .i64 dh, .int .i64 dr, .int .i64 ds, .string di, .int .i64 mh, .int .i64 mr, .int .i64 ms, .string mi, .bool p, .slice a o.length cap] 29) := HX1.out.below bb HX1.out.lt
    have HB2 : Hid (Below w.heap.size w w3) := HB1.out.trans (bb.mono HB1.out.size)
    clear HX1 HB1
    clear bb
    have cX_0 := HX2.out.cell 0 rfl
    have cX_1 := HX2.out.cell 1 rfl
    have cX_2 := HX2.out.cell 2 rfl
    have cX_3 := HX2.out.cell 3 rfl
    have cX_4 := HX2.out.cell 4 rfl
    have cX_5 := HX2.out.cell 5 rfl
    have cX_6 := HX2.out.cell 6 rfl
    have cX_7 := HX2.out.cell 7 rfl
    have cX_8 := HX2.out.cell 8 rfl
    have cX_9 := HX2.out.cell 9 rfl
    have cX_10 := HX2.out.cell 10 rfl
    go_wp2
    go_ret
    exact ⟨by rw [HR0.out]; rfl, HB2.out⟩
  have HL60 : Hid (decide (o.length ≤ 60) = true) := by show _ = _; rw [decide_eq_true_eq]; omega
  cases p
  · cases t3
    · obtain ⟨W0, hW0⟩ : ∃ W, w.alloc (.cells #[.int .i64 v, .int .i64 dh, .int .i64 dr, .int .i64 ds, .string di, .int .i64 mh, .int .i64 mr, .int .i64 ms, .string mi, .bool false, .slice a o.length cap] 29) = W := ⟨_, rfl⟩
      have HX0 : Hid (Blk W0 w.heap.size [.int .i64 v, .int .i64 dh, .int .i64 dr, .int .i64 ds, .string di, .int .i64 mh, .int .i64 mr, .int .i64 ms, .string mi, .bool false, .slice a o.length cap] 29) := by
        rw [← hW0]
        have hnew := blk_new (w) [.int .i64 v, .int .i64 dh, .int .i64 dr, .int .i64 ds, .string di, .int .i64 mh, .int .i64 mr, .int .i64 ms, .string mi, .bool false, .slice a o.length cap] 29
        exact hnew
      have HB0 : Hid (Below w.heap.size w W0) := by rw [← hW0]; exact (Below.refl w.heap.size w).alloc (Nat.le_refl _) _
      go_enter Try.func29, Try.ntmps29
      have cX_0 := HX0.out.cell 0 rfl
      have cX_1 := HX0.out.cell 1 rfl
      have cX_2 := HX0.out.cell 2 rfl
      have cX_3 := HX0.out.cell 3 rfl
      have cX_4 := HX0.out.cell 4 rfl
      have cX_5 := HX0.out.cell 5 rfl
      have cX_6 := HX0.out.cell 6 rfl
      have cX_7 := HX0.out.cell 7 rfl
      have cX_8 := HX0.out.cell 8 rfl
      have cX_9 := HX0.out.cell 9 rfl
      have cX_10 := HX0.out.cell 10 rfl
      go_wp2_with fail
      clear hW0 cX_0 cX_1 cX_2 cX_3 cX_4 cX_5 cX_6 cX_7 cX_8 cX_9 cX_10
      refine (kI _).mono ?_
      rintro e w1 ⟨rfl, rfl⟩
      have cX_0 := HX0.out.cell 0 rfl
      have cX_1 := HX0.out.cell 1 rfl
      have cX_2 := HX0.out.cell 2 rfl
      have cX_3 := HX0.out.cell 3 rfl
      have cX_4 := HX0.out.cell 4 rfl
      have cX_5 := HX0.out.cell 5 rfl
      have cX_6 := HX0.out.cell 6 rfl
      have cX_7 := HX0.out.cell 7 rfl
      have cX_8 := HX0.out.cell 8 rfl
      have cX_9 := HX0.out.cell 9 rfl
      have cX_10 := HX0.out.cell 10 rfl
      go_wp2_with fail
      clear cX_0 cX_1 cX_2 cX_3 cX_4 cX_5 cX_6 cX_7 cX_8 cX_9 cX_10
      refine (kD _).mono ?_
      rintro e w2 ⟨rfl, bb⟩
      have HX1 : Hid (Blk w2 w.heap.size [.int .i64 v, .int .i64 dh, .int .i64 dr, .int .i64 ds, .string di, .int .i64 mh, .int .i64 mr, .int .i64 ms, .string mi, .bool false, .slice a o.length cap] 29) := HX0.out.below bb HX0.out.lt
      have HB1 : Hid (Below w.heap.size w w2) := HB0.out.trans (bb.mono HB0.out.size)
      clear HX0 HB0
      clear bb
      have cX_0 := HX1.out.cell 0 rfl
      have cX_1 := HX1.out.cell 1 rfl
      have cX_2 := HX1.out.cell 2 rfl
      have cX_3 := HX1.out.cell 3 rfl
      have cX_4 := HX1.out.cell 4 rfl
      have cX_5 := HX1.out.cell 5 rfl
      have cX_6 := HX1.out.cell 6 rfl
      have cX_7 := HX1.out.cell 7 rfl
      have cX_8 := HX1.out.cell 8 rfl
      have cX_9 := HX1.out.cell 9 rfl
      have cX_10 := HX1.out.cell 10 rfl
      go_wp2_with fail
      clear cX_0 cX_1 cX_2 cX_3 cX_4 cX_5 cX_6 cX_7 cX_8 cX_9 cX_10
      refine (kM _).mono ?_
      rintro e w3 ⟨rfl, bb⟩
      have HX2 : Hid (Blk w3 w.heap.size [.int .i64 v, .int .i64 dh, .int .i64 dr, .int .i64 ds, .string di, .int .i64 mh, .int .i64 mr, .int .i64 ms, .string mi, .bool false, .slice a o.length cap] 29) := HX1.out.below bb HX1.out.lt
      have HB2 : Hid (Below w.heap.size w w3) := HB1.out.trans (bb.mono HB1.out.size)
      clear HX1 HB1
      clear bb
      have cX_0 := HX2.out.cell 0 rfl
      have cX_1 := HX2.out.cell 1 rfl
      have cX_2 := HX2.out.cell 2 rfl
      have cX_3 := HX2.out.cell 3 rfl
      have cX_4 := HX2.out.cell 4 rfl
      have cX_5 := HX2.out.cell 5 rfl
      have cX_6 := HX2.out.cell 6 rfl
      have cX_7 := HX2.out.cell 7 rfl
      have cX_8 := HX2.out.cell 8 rfl
      have cX_9 := HX2.out.cell 9 rfl
      have cX_10 := HX2.out.cell 10 rfl
      go_wp2
      go_ret
      exact ⟨by rw [HO.out]; rfl, HB2.out⟩
    · obtain ⟨W0, hW0⟩ : ∃ W, w.alloc (.cells #[.int .i64 v, .int .i64 dh, .int .i64 dr, .int .i64 ds, .string di, .int .i64 mh, .int .i64 mr, .int .i64 ms, .string mi, .bool false, .slice a o.length cap] 29) = W := ⟨_, rfl⟩
      have HX0 : Hid (Blk W0 w.heap.size [.int .i64 v, .int .i64 dh, .int .i64 dr, .int .i64 ds, .string di, .int .i64 mh, .int .i64 mr, .int .i64 ms, .string mi, .bool false, .slice a o.length cap] 29) := by
        rw [← hW0]
        have hnew := blk_new (w) [.int .i64 v, .int .i64 dh, .int .i64 dr, .int .i64 ds, .string di, .int .i64 mh, .int .i64 mr, .int .i64 ms, .string mi, .bool false, .slice a o.length cap] 29
        exact hnew
      have HB0 : Hid (Below w.heap.size w W0) := by rw [← hW0]; exact (Below.refl w.heap.size w).alloc (Nat.le_refl _) _
      go_enter Try.func29, Try.ntmps29
      have cX_0 := HX0.out.cell 0 rfl
      have cX_1 := HX0.out.cell 1 rfl
      have cX_2 := HX0.out.cell 2 rfl
      have cX_3 := HX0.out.cell 3 rfl
      have cX_4 := HX0.out.cell 4 rfl
      have cX_5 := HX0.out.cell 5 rfl
      have cX_6 := HX0.out.cell 6 rfl
      have cX_7 := HX0.out.cell 7 rfl
      have cX_8 := HX0.out.cell 8 rfl
      have cX_9 := HX0.out.cell 9 rfl
      have cX_10 := HX0.out.cell 10 rfl
      go_wp2_with fail
      clear hW0 cX_0 cX_1 cX_2 cX_3 cX_4 cX_5 cX_6 cX_7 cX_8 cX_9 cX_10
      refine (kI _).mono ?_
      rintro e w1 ⟨rfl, rfl⟩
      have cX_0 := HX0.out.cell 0 rfl
      have cX_1 := HX0.out.cell 1 rfl
      have cX_2 := HX0.out.cell 2 rfl
      have cX_3 := HX0.out.cell 3 rfl
      have cX_4 := HX0.out.cell 4 rfl
      have cX_5 := HX0.out.cell 5 rfl
      have cX_6 := HX0.out.cell 6 rfl
      have cX_7 := HX0.out.cell 7 rfl
      have cX_8 := HX0.out.cell 8 rfl
      have cX_9 := HX0.out.cell 9 rfl
      have cX_10 := HX0.out.cell 10 rfl
      go_wp2_with fail
      clear cX_0 cX_1 cX_2 cX_3 cX_4 cX_5 cX_6 cX_7 cX_8 cX_9 cX_10
      refine (kD _).mono ?_
      rintro e w2 ⟨rfl, bb⟩
      have HX1 : Hid (Blk w2 w.heap.size [.int .i64 v, .int .i64 dh, .int .i64 dr, .int .i64 ds, .string di, .int .i64 mh, .int .i64 mr, .int .i64 ms, .string mi, .bool false, .slice a o.length cap] 29) := HX0.out.below bb HX0.out.lt
      have HB1 : Hid (Below w.heap.size w w2) := HB0.out.trans (bb.mono HB0.out.size)
      clear HX0 HB0
      clear bb
      have cX_0 := HX1.out.cell 0 rfl
      have cX_1 := HX1.out.cell 1 rfl
      have cX_2 := HX1.out.cell 2 rfl
      have cX_3 := HX1.out.cell 3 rfl
      have cX_4 := HX1.out.cell 4 rfl
      have cX_5 := HX1.out.cell 5 rfl
      have cX_6 := HX1.out.cell 6 rfl
      have cX_7 := HX1.out.cell 7 rfl
      have cX_8 := HX1.out.cell 8 rfl
      have cX_9 := HX1.out.cell 9 rfl
      have cX_10 := HX1.out.cell 10 rfl
      go_wp2_with fail
      clear cX_0 cX_1 cX_2 cX_3 cX_4 cX_5 cX_6 cX_7 cX_8 cX_9 cX_10
      refine (kM _).mono ?_
      rintro e w3 ⟨rfl, bb⟩
      have HX2 : Hid (Blk w3 w.heap.size [.int .i64 v, .int .i64 dh, .int .i64 dr, .int .i64 ds, .string di, .int .i64 mh, .int .i64 mr, .int .i64 ms, .string mi, .bool false, .slice a o.length cap] 29) := HX1.out.below bb HX1.out.lt
      have HB2 : Hid (Below w.heap.size w w3) := HB1.out.trans (bb.mono HB1.out.size)
      clear HX1 HB1
      clear bb
      have cX_0 := HX2.out.cell 0 rfl
      have cX_1 := HX2.out.cell 1 rfl
      have cX_2 := HX2.out.cell 2 rfl
      have cX_3 := HX2.out.cell 3 rfl
      have cX_4 := HX2.out.cell 4 rfl
      have cX_5 := HX2.out.cell 5 rfl
      have cX_6 := HX2.out.cell 6 rfl
      have cX_7 := HX2.out.cell 7 rfl
      have cX_8 := HX2.out.cell 8 rfl
      have cX_9 := HX2.out.cell 9 rfl
      have cX_10 := HX2.out.cell 10 rfl
      have kCc := kC w.heap.size w3 (HY.out.below HB2.out) (HX2.out.cell 0 rfl)
      go_wp2_with fail
      clear cX_0 cX_1 cX_2 cX_3 cX_4 cX_5 cX_6 cX_7 cX_8 cX_9 cX_10
      refine (kCc).mono ?_
      rintro e w4 ⟨rfl, bb⟩
      have HX3 : Hid (Blk w4 w.heap.size [.int .i64 v, .int .i64 dh, .int .i64 dr, .int .i64 ds, .string di, .int .i64 mh, .int .i64 mr, .int .i64 ms, .string mi, .bool false, .slice a o.length cap] 29) := HX2.out.below bb HX2.out.lt
      have HB3 : Hid (Below w.heap.size w w4) := HB2.out.trans (bb.mono HB2.out.size)
      clear HX2 HB2
      clear bb
      go_wp2
      go_ret
      exact ⟨by rw [HO.out, HL60.out]; cases A <;> first | rfl | (cases t3 <;> rfl) | (cases t4 <;> rfl), HB3.out⟩
  · cases t4
    · obtain ⟨W0, hW0⟩ : ∃ W, w.alloc (.cells #[.int .i64 v, .int .i64 dh, .int .i64 dr, .int .i64 ds, .string di, .int .i64 mh, .int .i64 mr, .int .i64 ms, .string mi, .bool true, .slice a o.length cap] 29) = W := ⟨_, rfl⟩
      have HX0 : Hid (Blk W0 w.heap.size [.int .i64 v, .int .i64 dh, .int .i64 dr, .int .i64 ds, .string di, .int .i64 mh, .int .i64 mr, .int .i64 ms, .string mi, .bool true, .slice a o.length cap] 29) := by
        rw [← hW0]
        have hnew := blk_new (w) [.int .i64 v, .int .i64 dh, .int .i64 dr, .int .i64 ds, .string di, .int .i64 mh, .int .i64 mr, .int .i64 ms, .string mi, .bool true, .slice a o.length cap] 29
        exact hnew
      have HB0 : Hid (Below w.heap.size w W0) := by rw [← hW0]; exact (Below.refl w.heap.size w).alloc (Nat.le_refl _) _
      go_enter Try.func29, Try.ntmps29
      have cX_0 := HX0.out.cell 0 rfl
      have cX_1 := HX0.out.cell 1 rfl
      have cX_2 := HX0.out.cell 2 rfl
      have cX_3 := HX0.out.cell 3 rfl
      have cX_4 := HX0.out.cell 4 rfl
      have cX_5 := HX0.out.cell 5 rfl
      have cX_6 := HX0.out.cell 6 rfl
      have cX_7 := HX0.out.cell 7 rfl
      have cX_8 := HX0.out.cell 8 rfl
      have cX_9 := HX0.out.cell 9 rfl
      have cX_10 := HX0.out.cell 10 rfl
      go_wp2_with fail
      clear hW0 cX_0 cX_1 cX_2 cX_3 cX_4 cX_5 cX_6 cX_7 cX_8 cX_9 cX_10
      refine (kI _).mono ?_
      rintro e w1 ⟨rfl, rfl⟩
      have cX_0 := HX0.out.cell 0 rfl
      have cX_1 := HX0.out.cell 1 rfl
      have cX_2 := HX0.out.cell 2 rfl
      have cX_3 := HX0.out.cell 3 rfl
      have cX_4 := HX0.out.cell 4 rfl
      have cX_5 := HX0.out.cell 5 rfl
      have cX_6 := HX0.out.cell 6 rfl
      have cX_7 := HX0.out.cell 7 rfl
      have cX_8 := HX0.out.cell 8 rfl
      have cX_9 := HX0.out.cell 9 rfl
      have cX_10 := HX0.out.cell 10 rfl
      go_wp2_with fail
      clear cX_0 cX_1 cX_2 cX_3 cX_4 cX_5 cX_6 cX_7 cX_8 cX_9 cX_10
      refine (kD _).mono ?_
      rintro e w2 ⟨rfl, bb⟩
      have HX1 : Hid (Blk w2 w.heap.size [.int .i64 v, .int .i64 dh, .int .i64 dr, .int .i64 ds, .string di, .int .i64 mh, .int .i64 mr, .int .i64 ms, .string mi, .bool true, .slice a o.length cap] 29) := HX0.out.below bb HX0.out.lt
      have HB1 : Hid (Below w.heap.size w w2) := HB0.out.trans (bb.mono HB0.out.size)
      clear HX0 HB0
      clear bb
      have cX_0 := HX1.out.cell 0 rfl
      have cX_1 := HX1.out.cell 1 rfl
      have cX_2 := HX1.out.cell 2 rfl
      have cX_3 := HX1.out.cell 3 rfl
      have cX_4 := HX1.out.cell 4 rfl
      have cX_5 := HX1.out.cell 5 rfl
      have cX_6 := HX1.out.cell 6 rfl
      have cX_7 := HX1.out.cell 7 rfl
      have cX_8 := HX1.out.cell 8 rfl
      have cX_9 := HX1.out.cell 9 rfl
      have cX_10 := HX1.out.cell 10 rfl
      go_wp2_with fail
      clear cX_0 cX_1 cX_2 cX_3 cX_4 cX_5 cX_6 cX_7 cX_8 cX_9 cX_10
      refine (kM _).mono ?_
      rintro e w3 ⟨rfl, bb⟩
      have HX2 : Hid (Blk w3 w.heap.size [.int .i64 v, .int .i64 dh, .int .i64 dr, .int .i64 ds, .string di, .int .i64 mh, .int .i64 mr, .int .i64 ms, .string mi, .bool true, .slice a o.length cap] 29) := HX1.out.below bb HX1.out.lt
      have HB2 : Hid (Below w.heap.size w w3) := HB1.out.trans (bb.mono HB1.out.size)
      clear HX1 HB1
      clear bb
      have cX_0 := HX2.out.cell 0 rfl
      have cX_1 := HX2.out.cell 1 rfl
      have cX_2 := HX2.out.cell 2 rfl
      have cX_3 := HX2.out.cell 3 rfl
      have cX_4 := HX2.out.cell 4 rfl
      have cX_5 := HX2.out.cell 5 rfl
      have cX_6 := HX2.out.cell 6 rfl
      have cX_7 := HX2.out.cell 7 rfl
      have cX_8 := HX2.out.cell 8 rfl
      have cX_9 := HX2.out.cell 9 rfl
      have cX_10 := HX2.out.cell 10 rfl
      go_wp2_with fail
      clear cX_0 cX_1 cX_2 cX_3 cX_4 cX_5 cX_6 cX_7 cX_8 cX_9 cX_10
      refine (kF _).mono ?_
      rintro e w4 ⟨rfl, bb⟩
      have HX3 : Hid (Blk w4 w.heap.size [.int .i64 v, .int .i64 dh, .int .i64 dr, .int .i64 ds, .string di, .int .i64 mh, .int .i64 mr, .int .i64 ms, .string mi, .bool true, .slice a o.length cap] 29) := HX2.out.below bb HX2.out.lt
      have HB3 : Hid (Below w.heap.size w w4) := HB2.out.trans (bb.mono HB2.out.size)
      clear HX2 HB2
      clear bb
      have cX_0 := HX3.out.cell 0 rfl
      have cX_1 := HX3.out.cell 1 rfl
      have cX_2 := HX3.out.cell 2 rfl
      have cX_3 := HX3.out.cell 3 rfl
      have cX_4 := HX3.out.cell 4 rfl
      have cX_5 := HX3.out.cell 5 rfl
      have cX_6 := HX3.out.cell 6 rfl
      have cX_7 := HX3.out.cell 7 rfl
      have cX_8 := HX3.out.cell 8 rfl
      have cX_9 := HX3.out.cell 9 rfl
      have cX_10 := HX3.out.cell 10 rfl
      have kCc := kC w.heap.size w4 (HY.out.below HB3.out) (HX3.out.cell 0 rfl)
      go_wp2_with fail
      clear cX_0 cX_1 cX_2 cX_3 cX_4 cX_5 cX_6 cX_7 cX_8 cX_9 cX_10
      refine (kCc).mono ?_
      rintro e w5 ⟨rfl, bb⟩
      have HX4 : Hid (Blk w5 w.heap.size [.int .i64 v, .int .i64 dh, .int .i64 dr, .int .i64 ds, .string di, .int .i64 mh, .int .i64 mr, .int .i64 ms, .string mi, .bool true, .slice a o.length cap] 29) := HX3.out.below bb HX3.out.lt
      have HB4 : Hid (Below w.heap.size w w5) := HB3.out.trans (bb.mono HB3.out.size)
      clear HX3 HB3
      clear bb
      go_wp2
      go_ret
      exact ⟨by rw [HO.out, HL60.out]; cases A <;> first | rfl | (cases t3 <;> rfl) | (cases t4 <;> rfl), HB4.out⟩
    · obtain ⟨W0, hW0⟩ : ∃ W, w.alloc (.cells #[.int .i64 v, .int .i64 dh, .int .i64 dr, .int .i64 ds, .string di, .int .i64 mh, .int .i64 mr, .int .i64 ms, .string mi, .bool true, .slice a o.length cap] 29) = W := ⟨_, rfl⟩
      have HX0 : Hid (Blk W0 w.heap.size [.int .i64 v, .int .i64 dh, .int .i64 dr, .int .i64 ds, .string di, .int .i64 mh, .int .i64 mr, .int .i64 ms, .string mi, .bool true, .slice a o.length cap] 29) := by
        rw [← hW0]
        have hnew := blk_new (w) [.int .i64 v, .int .i64 dh, .int .i64 dr, .int .i64 ds, .string di, .int .i64 mh, .int .i64 mr, .int .i64 ms, .string mi, .bool true, .slice a o.length cap] 29
        exact hnew
      have HB0 : Hid (Below w.heap.size w W0) := by rw [← hW0]; exact (Below.refl w.heap.size w).alloc (Nat.le_refl _) _
      go_enter Try.func29, Try.ntmps29
      have cX_0 := HX0.out.cell 0 rfl
      have cX_1 := HX0.out.cell 1 rfl
      have cX_2 := HX0.out.cell 2 rfl
      have cX_3 := HX0.out.cell 3 rfl
      have cX_4 := HX0.out.cell 4 rfl
      have cX_5 := HX0.out.cell 5 rfl
      have cX_6 := HX0.out.cell 6 rfl
      have cX_7 := HX0.out.cell 7 rfl
      have cX_8 := HX0.out.cell 8 rfl
      have cX_9 := HX0.out.cell 9 rfl
      have cX_10 := HX0.out.cell 10 rfl
      go_wp2_with fail
      clear hW0 cX_0 cX_1 cX_2 cX_3 cX_4 cX_5 cX_6 cX_7 cX_8 cX_9 cX_10
      refine (kI _).mono ?_
      rintro e w1 ⟨rfl, rfl⟩
      have cX_0 := HX0.out.cell 0 rfl
      have cX_1 := HX0.out.cell 1 rfl
      have cX_2 := HX0.out.cell 2 rfl
      have cX_3 := HX0.out.cell 3 rfl
      have cX_4 := HX0.out.cell 4 rfl
      have cX_5 := HX0.out.cell 5 rfl
      have cX_6 := HX0.out.cell 6 rfl
      have cX_7 := HX0.out.cell 7 rfl
      have cX_8 := HX0.out.cell 8 rfl
      have cX_9 := HX0.out.cell 9 rfl
      have cX_10 := HX0.out.cell 10 rfl
      go_wp2_with fail
      clear cX_0 cX_1 cX_2 cX_3 cX_4 cX_5 cX_6 cX_7 cX_8 cX_9 cX_10
      refine (kD _).mono ?_
      rintro e w2 ⟨rfl, bb⟩
      have HX1 : Hid (Blk w2 w.heap.size [.int .i64 v, .int .i64 dh, .int .i64 dr, .int .i64 ds, .string di, .int .i64 mh, .int .i64 mr, .int .i64 ms, .string mi, .bool true, .slice a o.length cap] 29) := HX0.out.below bb HX0.out.lt
      have HB1 : Hid (Below w.heap.size w w2) := HB0.out.trans (bb.mono HB0.out.size)
      clear HX0 HB0
      clear bb
      have cX_0 := HX1.out.cell 0 rfl
      have cX_1 := HX1.out.cell 1 rfl
      have cX_2 := HX1.out.cell 2 rfl
      have cX_3 := HX1.out.cell 3 rfl
      have cX_4 := HX1.out.cell 4 rfl
      have cX_5 := HX1.out.cell 5 rfl
      have cX_6 := HX1.out.cell 6 rfl
      have cX_7 := HX1.out.cell 7 rfl
      have cX_8 := HX1.out.cell 8 rfl
      have cX_9 := HX1.out.cell 9 rfl
      have cX_10 := HX1.out.cell 10 rfl
      go_wp2_with fail
      clear cX_0 cX_1 cX_2 cX_3 cX_4 cX_5 cX_6 cX_7 cX_8 cX_9 cX_10
      refine (kM _).mono ?_
      rintro e w3 ⟨rfl, bb⟩
      have HX2 : Hid (Blk w3 w.heap.size [.int .i64 v, .int .i64 dh, .int .i64 dr, .int .i64 ds, .string di, .int .i64 mh, .int .i64 mr, .int .i64 ms, .string mi, .bool true, .slice a o.length cap] 29) := HX1.out.below bb HX1.out.lt
      have HB2 : Hid (Below w.heap.size w w3) := HB1.out.trans (bb.mono HB1.out.size)
      clear HX1 HB1
      clear bb
      have cX_0 := HX2.out.cell 0 rfl
      have cX_1 := HX2.out.cell 1 rfl
      have cX_2 := HX2.out.cell 2 rfl
      have cX_3 := HX2.out.cell 3 rfl
      have cX_4 := HX2.out.cell 4 rfl
      have cX_5 := HX2.out.cell 5 rfl
      have cX_6 := HX2.out.cell 6 rfl
      have cX_7 := HX2.out.cell 7 rfl
      have cX_8 := HX2.out.cell 8 rfl
      have cX_9 := HX2.out.cell 9 rfl
      have cX_10 := HX2.out.cell 10 rfl
      go_wp2_with fail
      clear cX_0 cX_1 cX_2 cX_3 cX_4 cX_5 cX_6 cX_7 cX_8 cX_9 cX_10
      refine (kF _).mono ?_
      rintro e w4 ⟨rfl, bb⟩
      have HX3 : Hid (Blk w4 w.heap.size [.int .i64 v, .int .i64 dh, .int .i64 dr, .int .i64 ds, .string di, .int .i64 mh, .int .i64 mr, .int .i64 ms, .string mi, .bool true, .slice a o.length cap] 29) := HX2.out.below bb HX2.out.lt
      have HB3 : Hid (Below w.heap.size w w4) := HB2.out.trans (bb.mono HB2.out.size)
      clear HX2 HB2
      clear bb
      have cX_0 := HX3.out.cell 0 rfl
      have cX_1 := HX3.out.cell 1 rfl
      have cX_2 := HX3.out.cell 2 rfl
      have cX_3 := HX3.out.cell 3 rfl
      have cX_4 := HX3.out.cell 4 rfl
      have cX_5 := HX3.out.cell 5 rfl
      have cX_6 := HX3.out.cell 6 rfl
      have cX_7 := HX3.out.cell 7 rfl
      have cX_8 := HX3.out.cell 8 rfl
      have cX_9 := HX3.out.cell 9 rfl
      have cX_10 := HX3.out.cell 10 rfl
      go_wp2
      go_ret
      exact ⟨by rw [HO.out]; cases t3 <;> rfl, HB3.out⟩
end Go.Proofs.Ytmjlpdmdpagggaa
