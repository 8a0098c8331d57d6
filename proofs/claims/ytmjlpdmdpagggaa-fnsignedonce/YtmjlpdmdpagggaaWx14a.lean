/- The walk of the exact law of SignerOk: it answers true, old memory stays. Conditions: what a machine can hold. -/
import Derived.Test.YtmjlpdmdpagggaaLs
import Derived.Test.YtmjlpdmdpagggaaSo
import Derived.Test.YtmjlpdmdpagggaaCy
namespace Go.Proofs.Ytmjlpdmdpagggaa
open Go.RowKit
open Num
set_option linter.unusedVariables false
theorem Rdd.below {W W' : World} {B C : Nat} {l : List Vt} {a : Option Addr} (h : Rdd W B C l a) (hb : Below W.heap.size W W') : Rdd W' B C l a :=
  ⟨h.1.below hb, h.2.1, h.2.2.below hb⟩
theorem Rdd.grown {W W' : World} {B C : Nat} {l : List Vt} {a : Option Addr} {r : Option Nat} (h : Rdd W B C l a) (hg : W.grownBy W' r) (hr : ∀ j, r = some j → j < B ∨ C ≤ j) : Rdd W' B C l a := by
  obtain ⟨h1, h2, h3⟩ := h
  rcases h3 with h0 | ⟨b, rfl, hB, hlt, hrm⟩
  · exact ⟨.inl h0, h2, .inl h0⟩
  · have hC := h2 b 0 rfl
    have hne : r ≠ some b := fun e => by rcases hr b e with h | h <;> omega
    refine ⟨?_, h2, .inr ⟨b, rfl, hB, by have := hg.size; omega, hrm.grown hg hne hlt⟩⟩
    rcases h1 with h0 | ⟨b', o', e, hv⟩
    · exact .inl h0
    · injection e with e; injection e with e1 e2 e3; subst e1; subst e2
      exact .inr ⟨b, 0, rfl, hv.grown hg hne⟩
theorem Mk.less {w : World} {B B' n : Nat} {a : Option Addr} (h : Mk w B a n) (hB : B' ≤ B) : Mk w B' a n := by
  rcases h with h | ⟨b, h1, h2, h3⟩
  · exact .inl h
  · exact .inr ⟨b, h1, by omega, h3⟩
theorem Rdd.less {W : World} {B B' C : Nat} {l : List Vt} {a : Option Addr} (h : Rdd W B C l a) (hB : B' ≤ B) : Rdd W B' C l a := ⟨h.1, h.2.1, h.2.2.less hB⟩
theorem OwnY.rdd2 {W : World} {B n qc : Nat} {l : List Vt} {qa : Option Addr} (h : OwnY W B (.slice qa n qc) l) : Rdd W B W.heap.size l qa := by
  obtain ⟨a, c, e, hr⟩ := OwnY.rdd h
  injection e with e1 _ _
  subst e1; exact hr
theorem Yop.rdd2 {W : World} {B : Nat} {l : List Vt} {a : Option Addr} (h : Yop W B l a) : Rdd W B W.heap.size l a := by
  obtain ⟨b, rfl, h0, h1, h2, h3⟩ := h
  exact ⟨.inr ⟨b, 0, rfl, h2⟩, fun b' o' e => by injection e with e; injection e with e1; omega, .inr ⟨b, rfl, h0, h1, h3⟩⟩
theorem YO.nz {W : World} {l : List Vt} {a : Option Addr} (h : YO W a l) : a = none → l.length = 0 := fun e => by subst e; rw [h.none_nil]; rfl
set_option maxHeartbeats 1600000 in
set_option maxRecDepth 100000 in
theorem w_signerok (x : Sg) (a : Option Addr) (cap : Nat) (w : World) (hl : YO w a x.o) (hd : x.d.i.size ≤ 9223372036854775807) (hm : x.m.i.size ≤ 9223372036854775807) (hlen : x.o.length ≤ 9223372036854775807) (hs : ∀ y ∈ x.o, SzV y) :
    Calls Try.prog 6 #[sV x a cap] w fun e w' => e = .returned (.bool true) ∧ Below w.heap.size w w' := by
  have kZ := fun W (h : YO W a x.o) => sz_sg x a cap W h hd hm hlen hs
  have kT := fun W (h : YO W a x.o) (h2 : x.o.length ≤ 1048576) => to_sg x a cap W h h2
  have kA := fun u W (h : YO W u x.o) => spec_sok x u x.o.length W h hlen
  have kB := fun u W (h : YO W u x.o) => impl_sok x u x.o.length W h hlen
  have kE := fun u u' W (h : YO W u x.o) (h' : YO W u' x.o) (h2 : x.o.length ≤ 1048576) => eq_sg x u u' x.o.length x.o.length W h h' (by omega)
  generalize sOk x = t at *
  have HY : Hid (YO w a x.o) := hl
  clear hl hd hm hs
  obtain ⟨v, ⟨dh, dr, ds, di⟩, ⟨mh, mr, ms, mi⟩, p, o⟩ := x
  unfold sV sQ at *
  simp only at *
  obtain ⟨W0, hW0⟩ : ∃ W, w.alloc (.cells #[.int .i64 v, .int .i64 dh, .int .i64 dr, .int .i64 ds, .string di, .int .i64 mh, .int .i64 mr, .int .i64 ms, .string mi, .bool p, .slice a o.length cap] 50) = W := ⟨_, rfl⟩
  have HX0 : Hid (Blk W0 w.heap.size [.int .i64 v, .int .i64 dh, .int .i64 dr, .int .i64 ds, .string di, .int .i64 mh, .int .i64 mr, .int .i64 ms, .string mi, .bool p, .slice a o.length cap] 50) := by
    rw [← hW0]
    have hnew := blk_new (w) [.int .i64 v, .int .i64 dh, .int .i64 dr, .int .i64 ds, .string di, .int .i64 mh, .int .i64 mr, .int .i64 ms, .string mi, .bool p, .slice a o.length cap] 50
    exact hnew
  have HB0 : Hid (Below w.heap.size w W0) := by rw [← hW0]; exact (Below.refl w.heap.size w).alloc (Nat.le_refl _) _
  go_enter Try.func6, Try.ntmps6
  have cX_0_0 := HX0.out.cell 0 rfl
  have cX_1_0 := HX0.out.cell 1 rfl
  have cX_2_0 := HX0.out.cell 2 rfl
  have cX_3_0 := HX0.out.cell 3 rfl
  have cX_4_0 := HX0.out.cell 4 rfl
  have cX_5_0 := HX0.out.cell 5 rfl
  have cX_6_0 := HX0.out.cell 6 rfl
  have cX_7_0 := HX0.out.cell 7 rfl
  have cX_8_0 := HX0.out.cell 8 rfl
  have cX_9_0 := HX0.out.cell 9 rfl
  have cX_10_0 := HX0.out.cell 10 rfl
  go_wp2_with fail
  clear hW0 cX_0_0 cX_1_0 cX_2_0 cX_3_0 cX_4_0 cX_5_0 cX_6_0 cX_7_0 cX_8_0 cX_9_0 cX_10_0
  refine (kZ _ (HY.out.below HB0.out)).mono ?_
  rintro e w1 ⟨q, rfl, HQ, bb⟩
  have HX1 : Hid (Blk w1 w.heap.size [.int .i64 v, .int .i64 dh, .int .i64 dr, .int .i64 ds, .string di, .int .i64 mh, .int .i64 mr, .int .i64 ms, .string mi, .bool p, .slice a o.length cap] 50) := HX0.out.below bb HX0.out.lt
  have HB1 : Hid (Below w.heap.size w w1) := HB0.out.trans (bb.mono HB0.out.size)
  clear HX0 HB0
  clear bb
  clear kZ
  by_cases hq : q < 0
  · go_wp2
    go_ret
    exact ⟨rfl, HB1.out⟩
  have h20 : o.length ≤ 1048576 := (HQ.out (by omega)).2.2.1
  clear HQ
  have cX_0_1 := HX1.out.cell 0 rfl
  have cX_1_1 := HX1.out.cell 1 rfl
  have cX_2_1 := HX1.out.cell 2 rfl
  have cX_3_1 := HX1.out.cell 3 rfl
  have cX_4_1 := HX1.out.cell 4 rfl
  have cX_5_1 := HX1.out.cell 5 rfl
  have cX_6_1 := HX1.out.cell 6 rfl
  have cX_7_1 := HX1.out.cell 7 rfl
  have cX_8_1 := HX1.out.cell 8 rfl
  have cX_9_1 := HX1.out.cell 9 rfl
  have cX_10_1 := HX1.out.cell 10 rfl
  go_wp2_with fail
  clear cX_0_1 cX_1_1 cX_2_1 cX_3_1 cX_4_1 cX_5_1 cX_6_1 cX_7_1 cX_8_1 cX_9_1 cX_10_1
  refine (kT _ (HY.out.below HB1.out) h20).mono ?_
  rintro e w2 ⟨u1, rfl, HU, bb⟩
  have HX2 : Hid (Blk w2 w.heap.size [.int .i64 v, .int .i64 dh, .int .i64 dr, .int .i64 ds, .string di, .int .i64 mh, .int .i64 mr, .int .i64 ms, .string mi, .bool p, .slice a o.length cap] 50) := HX1.out.below bb HX1.out.lt
  have HB2 : Hid (Below w.heap.size w w2) := HB1.out.trans (bb.mono HB1.out.size)
  clear HX1 HB1
  clear bb
  go_wp2_with fail
  refine (kA u1 _ HU.out.o).mono ?_
  rintro e w3 ⟨rfl, bb⟩
  have HX3 : Hid (Blk w3 w.heap.size [.int .i64 v, .int .i64 dh, .int .i64 dr, .int .i64 ds, .string di, .int .i64 mh, .int .i64 mr, .int .i64 ms, .string mi, .bool p, .slice a o.length cap] 50) := HX2.out.below bb HX2.out.lt
  have HB3 : Hid (Below w.heap.size w w3) := HB2.out.trans (bb.mono HB2.out.size)
  clear HX2 HB2
  clear bb
  clear HU kA
  have cX_0_3 := HX3.out.cell 0 rfl
  have cX_1_3 := HX3.out.cell 1 rfl
  have cX_2_3 := HX3.out.cell 2 rfl
  have cX_3_3 := HX3.out.cell 3 rfl
  have cX_4_3 := HX3.out.cell 4 rfl
  have cX_5_3 := HX3.out.cell 5 rfl
  have cX_6_3 := HX3.out.cell 6 rfl
  have cX_7_3 := HX3.out.cell 7 rfl
  have cX_8_3 := HX3.out.cell 8 rfl
  have cX_9_3 := HX3.out.cell 9 rfl
  have cX_10_3 := HX3.out.cell 10 rfl
  go_wp2_with fail
  clear cX_0_3 cX_1_3 cX_2_3 cX_3_3 cX_4_3 cX_5_3 cX_6_3 cX_7_3 cX_8_3 cX_9_3 cX_10_3
  refine (kT _ (HY.out.below HB3.out) h20).mono ?_
  rintro e w4 ⟨u2, rfl, HU, bb⟩
  have HU2 : Hid (Yop w4 w.heap.size o u2) := HU.out.less HB3.out.size
  clear HU
  have HX4 : Hid (Blk w4 w.heap.size [.int .i64 v, .int .i64 dh, .int .i64 dr, .int .i64 ds, .string di, .int .i64 mh, .int .i64 mr, .int .i64 ms, .string mi, .bool p, .slice a o.length cap] 50) := HX3.out.below bb HX3.out.lt
  have HB4 : Hid (Below w.heap.size w w4) := HB3.out.trans (bb.mono HB3.out.size)
  clear HX3 HB3
  clear bb
  obtain ⟨nP, hnP⟩ : ∃ n, w4.heap.size = n := ⟨_, rfl⟩
  have hnPX : w.heap.size < nP := by rw [← hnP]; exact HX4.out.lt
  obtain ⟨wa5, hwa5⟩ : ∃ W, w4.alloc (.cells #[.int .i64 v, .int .i64 dh, .int .i64 dr, .int .i64 ds, .string di, .int .i64 mh, .int .i64 mr, .int .i64 ms, .string mi, .bool p, .slice u2 o.length o.length] 29) = W := ⟨_, rfl⟩
  have HAnP : Hid (Below w4.heap.size w4 wa5) := by rw [← hwa5]; exact below_one _ _
  have HX5 : Hid (Blk wa5 w.heap.size [.int .i64 v, .int .i64 dh, .int .i64 dr, .int .i64 ds, .string di, .int .i64 mh, .int .i64 mr, .int .i64 ms, .string mi, .bool p, .slice a o.length cap] 50) := HX4.out.below HAnP.out HX4.out.lt
  have HU5 : Hid (Yop wa5 w.heap.size o u2) := HU2.out.below HAnP.out
  have HB5 : Hid (Below w.heap.size w wa5) := HB4.out.trans (HAnP.out.mono HB4.out.size)
  have HP5 : Hid (Blk wa5 nP [.int .i64 v, .int .i64 dh, .int .i64 dr, .int .i64 ds, .string di, .int .i64 mh, .int .i64 mr, .int .i64 ms, .string mi, .bool p, .slice u2 o.length o.length] 29) := by rw [← hwa5, ← hnP]; exact blk_new _ _ _
  clear HAnP HX4 HB4 HU2
  have cP_0_5 := HP5.out.cell 0 rfl
  have cP_1_5 := HP5.out.cell 1 rfl
  have cP_2_5 := HP5.out.cell 2 rfl
  have cP_3_5 := HP5.out.cell 3 rfl
  have cP_4_5 := HP5.out.cell 4 rfl
  have cP_5_5 := HP5.out.cell 5 rfl
  have cP_6_5 := HP5.out.cell 6 rfl
  have cP_7_5 := HP5.out.cell 7 rfl
  have cP_8_5 := HP5.out.cell 8 rfl
  have cP_9_5 := HP5.out.cell 9 rfl
  have cP_10_5 := HP5.out.cell 10 rfl
  go_wp2_with fail
  clear hwa5 hnP cP_0_5 cP_1_5 cP_2_5 cP_3_5 cP_4_5 cP_5_5 cP_6_5 cP_7_5 cP_8_5 cP_9_5 cP_10_5
  refine (kB u2 _ HU5.out.o).mono ?_
  rintro e w6 ⟨rfl, bb⟩
  have HX6 : Hid (Blk w6 w.heap.size [.int .i64 v, .int .i64 dh, .int .i64 dr, .int .i64 ds, .string di, .int .i64 mh, .int .i64 mr, .int .i64 ms, .string mi, .bool p, .slice a o.length cap] 50) := HX5.out.below bb HX5.out.lt
  have HP6 : Hid (Blk w6 nP [.int .i64 v, .int .i64 dh, .int .i64 dr, .int .i64 ds, .string di, .int .i64 mh, .int .i64 mr, .int .i64 ms, .string mi, .bool p, .slice u2 o.length o.length] 29) := HP5.out.below bb HP5.out.lt
  have HU6 : Hid (Yop w6 w.heap.size o u2) := HU5.out.below bb
  have HB6 : Hid (Below w.heap.size w w6) := HB5.out.trans (bb.mono HB5.out.size)
  clear HX5 HP5 HB5 HU5
  clear bb
  clear kB
  have htt : (t != t) = false := by simp
  have cX_0_6 := HX6.out.cell 0 rfl
  have cX_1_6 := HX6.out.cell 1 rfl
  have cX_2_6 := HX6.out.cell 2 rfl
  have cX_3_6 := HX6.out.cell 3 rfl
  have cX_4_6 := HX6.out.cell 4 rfl
  have cX_5_6 := HX6.out.cell 5 rfl
  have cX_6_6 := HX6.out.cell 6 rfl
  have cX_7_6 := HX6.out.cell 7 rfl
  have cX_8_6 := HX6.out.cell 8 rfl
  have cX_9_6 := HX6.out.cell 9 rfl
  have cX_10_6 := HX6.out.cell 10 rfl
  have cP_0_6 := HP6.out.cell 0 rfl
  have cP_1_6 := HP6.out.cell 1 rfl
  have cP_2_6 := HP6.out.cell 2 rfl
  have cP_3_6 := HP6.out.cell 3 rfl
  have cP_4_6 := HP6.out.cell 4 rfl
  have cP_5_6 := HP6.out.cell 5 rfl
  have cP_6_6 := HP6.out.cell 6 rfl
  have cP_7_6 := HP6.out.cell 7 rfl
  have cP_8_6 := HP6.out.cell 8 rfl
  have cP_9_6 := HP6.out.cell 9 rfl
  have cP_10_6 := HP6.out.cell 10 rfl
  go_wp2_with fail
  clear cX_0_6 cX_1_6 cX_2_6 cX_3_6 cX_4_6 cX_5_6 cX_6_6 cX_7_6 cX_8_6 cX_9_6 cX_10_6 cP_0_6 cP_1_6 cP_2_6 cP_3_6 cP_4_6 cP_5_6 cP_6_6 cP_7_6 cP_8_6 cP_9_6 cP_10_6
  have HX7 : Hid (Blk w6.drew w.heap.size [.int .i64 v, .int .i64 dh, .int .i64 dr, .int .i64 ds, .string di, .int .i64 mh, .int .i64 mr, .int .i64 ms, .string mi, .bool p, .slice a o.length cap] 50) := HX6.out.below (Below.refl _ _).drew HX6.out.lt
  have HP7 : Hid (Blk w6.drew nP [.int .i64 v, .int .i64 dh, .int .i64 dr, .int .i64 ds, .string di, .int .i64 mh, .int .i64 mr, .int .i64 ms, .string mi, .bool p, .slice u2 o.length o.length] 29) := HP6.out.below (Below.refl _ _).drew HP6.out.lt
  have HU7 : Hid (Yop w6.drew w.heap.size o u2) := HU6.out.below (Below.refl _ _).drew
  have HB7 : Hid (Below w.heap.size w w6.drew) := HB6.out.trans (((Below.refl _ _).drew).mono HB6.out.size)
  clear HX6 HP6 HB6 HU6
  go_region_held3 (fun W : World => W.cell? ⟨w.heap.size, 0, none⟩ = some (.int .i64 v) ∧ W.cell? ⟨w.heap.size, 1, none⟩ = some (.int .i64 dh) ∧ W.cell? ⟨w.heap.size, 2, none⟩ = some (.int .i64 dr) ∧ W.cell? ⟨w.heap.size, 3, none⟩ = some (.int .i64 ds) ∧ W.cell? ⟨w.heap.size, 4, none⟩ = some (.string di) ∧ W.cell? ⟨w.heap.size, 5, none⟩ = some (.int .i64 mh) ∧ W.cell? ⟨w.heap.size, 6, none⟩ = some (.int .i64 mr) ∧ W.cell? ⟨w.heap.size, 7, none⟩ = some (.int .i64 ms) ∧ W.cell? ⟨w.heap.size, 8, none⟩ = some (.string mi) ∧ W.cell? ⟨w.heap.size, 9, none⟩ = some (.bool p) ∧ W.cell? ⟨w.heap.size, 10, none⟩ = some (.slice a o.length cap) ∧ W.cell? ⟨nP, 0, none⟩ = some (.int .i64 v) ∧ W.cell? ⟨nP, 1, none⟩ = some (.int .i64 dh) ∧ W.cell? ⟨nP, 2, none⟩ = some (.int .i64 dr) ∧ W.cell? ⟨nP, 3, none⟩ = some (.int .i64 ds) ∧ W.cell? ⟨nP, 4, none⟩ = some (.string di) ∧ W.cell? ⟨nP, 5, none⟩ = some (.int .i64 mh) ∧ W.cell? ⟨nP, 6, none⟩ = some (.int .i64 mr) ∧ W.cell? ⟨nP, 7, none⟩ = some (.int .i64 ms) ∧ W.cell? ⟨nP, 8, none⟩ = some (.string mi) ∧ W.cell? ⟨nP, 9, none⟩ = some (.bool p) ∧ W.cell? ⟨nP, 10, none⟩ = some (.slice u2 o.length o.length)) (first | assumption | exact ⟨HX9.out.cell 0 rfl, HX9.out.cell 1 rfl, HX9.out.cell 2 rfl, HX9.out.cell 3 rfl, HX9.out.cell 4 rfl, HX9.out.cell 5 rfl, HX9.out.cell 6 rfl, HX9.out.cell 7 rfl, HX9.out.cell 8 rfl, HX9.out.cell 9 rfl, HX9.out.cell 10 rfl, HP9.out.cell 0 rfl, HP9.out.cell 1 rfl, HP9.out.cell 2 rfl, HP9.out.cell 3 rfl, HP9.out.cell 4 rfl, HP9.out.cell 5 rfl, HP9.out.cell 6 rfl, HP9.out.cell 7 rfl, HP9.out.cell 8 rfl, HP9.out.cell 9 rfl, HP9.out.cell 10 rfl⟩ | exact ⟨HX8.out.cell 0 rfl, HX8.out.cell 1 rfl, HX8.out.cell 2 rfl, HX8.out.cell 3 rfl, HX8.out.cell 4 rfl, HX8.out.cell 5 rfl, HX8.out.cell 6 rfl, HX8.out.cell 7 rfl, HX8.out.cell 8 rfl, HX8.out.cell 9 rfl, HX8.out.cell 10 rfl, HP8.out.cell 0 rfl, HP8.out.cell 1 rfl, HP8.out.cell 2 rfl, HP8.out.cell 3 rfl, HP8.out.cell 4 rfl, HP8.out.cell 5 rfl, HP8.out.cell 6 rfl, HP8.out.cell 7 rfl, HP8.out.cell 8 rfl, HP8.out.cell 9 rfl, HP8.out.cell 10 rfl⟩ | exact ⟨HX7.out.cell 0 rfl, HX7.out.cell 1 rfl, HX7.out.cell 2 rfl, HX7.out.cell 3 rfl, HX7.out.cell 4 rfl, HX7.out.cell 5 rfl, HX7.out.cell 6 rfl, HX7.out.cell 7 rfl, HX7.out.cell 8 rfl, HX7.out.cell 9 rfl, HX7.out.cell 10 rfl, HP7.out.cell 0 rfl, HP7.out.cell 1 rfl, HP7.out.cell 2 rfl, HP7.out.cell 3 rfl, HP7.out.cell 4 rfl, HP7.out.cell 5 rfl, HP7.out.cell 6 rfl, HP7.out.cell 7 rfl, HP7.out.cell 8 rfl, HP7.out.cell 9 rfl, HP7.out.cell 10 rfl⟩) (first | (go_at_call 28; refine (kT _ (HY.out.below HB7.out) h20).mono ?_; rintro e w7 ⟨u3, rfl, HU3, bb7⟩; have HX8 : Hid (Blk w7 w.heap.size [.int .i64 v, .int .i64 dh, .int .i64 dr, .int .i64 ds, .string di, .int .i64 mh, .int .i64 mr, .int .i64 ms, .string mi, .bool p, .slice a o.length cap] 50) := HX7.out.below bb7 HX7.out.lt; have HP8 : Hid (Blk w7 nP [.int .i64 v, .int .i64 dh, .int .i64 dr, .int .i64 ds, .string di, .int .i64 mh, .int .i64 mr, .int .i64 ms, .string mi, .bool p, .slice u2 o.length o.length] 29) := HP7.out.below bb7 HP7.out.lt; have HU8 : Hid (Yop w7 w.heap.size o u2) := HU7.out.below bb7; have HB8 : Hid (Below w.heap.size w w7) := HB7.out.trans (bb7.mono HB7.out.size)) | (go_at_call 30; refine (kE u2 u3 _ HU8.out.o HU3.out.o h20).mono ?_; rintro e w8 ⟨rfl, bb8⟩; have HX9 : Hid (Blk w8 w.heap.size [.int .i64 v, .int .i64 dh, .int .i64 dr, .int .i64 ds, .string di, .int .i64 mh, .int .i64 mr, .int .i64 ms, .string mi, .bool p, .slice a o.length cap] 50) := HX8.out.below bb8 HX8.out.lt; have HP9 : Hid (Blk w8 nP [.int .i64 v, .int .i64 dh, .int .i64 dr, .int .i64 ds, .string di, .int .i64 mh, .int .i64 mr, .int .i64 ms, .string mi, .bool p, .slice u2 o.length o.length] 29) := HP8.out.below bb8 HP8.out.lt; have HU9 : Hid (Yop w8 w.heap.size o u2) := HU8.out.below bb8; have HV9 : Hid (Yop w8 w6.drew.heap.size o u3) := HU3.out.below bb8; have HB9 : Hid (Below w.heap.size w w8) := HB8.out.trans (bb8.mono HB8.out.size)))
  clear HX7 HP7 HB7 HU7 bb7 HX8 HP8 HB8 HU8 HU3 bb8
  go_wp2
  go_ret
  exact ⟨rfl, HB9.out⟩
end Go.Proofs.Ytmjlpdmdpagggaa
