/- The walk of the exact law of SignFall: it answers true, old memory stays. Conditions: what a machine can hold. -/
import Derived.Test.YtmjlpdmdpagggaaLs
import Derived.Test.YtmjlpdmdpagggaaWx14a
import Derived.Test.YtmjlpdmdpagggaaSi14
import Derived.Test.YtmjlpdmdpagggaaSs14
namespace Go.Proofs.Ytmjlpdmdpagggaa
open Go.RowKit
open Num
set_option linter.unusedVariables false
set_option maxHeartbeats 3200000 in
set_option maxRecDepth 100000 in
theorem w_fall (x : Sg) (a : Option Addr) (cap : Nat) (w : World) (hl : YO w a x.o) (hd : x.d.i.size ≤ 9223372036854775807) (hm : x.m.i.size ≤ 9223372036854775807) (hlen : x.o.length ≤ 9223372036854775807) (hs : ∀ y ∈ x.o, SzV y) :
    Calls Try.prog 10 #[sV x a cap] w fun e w' => e = .returned (.bool true) ∧ Below w.heap.size w w' := by
  have kZ := fun W (h : YO W a x.o) => sz_sg x a cap W h hd hm hlen hs
  have kT := fun W (h : YO W a x.o) (h2 : x.o.length ≤ 1048576) => to_sg x a cap W h h2
  have kA := fun u W (h : YO W u x.o) => spec_fall x u x.o.length W h h.nz hlen
  have kB := fun u W (h : YO W u x.o) => impl_fall x u x.o.length W h h.nz ⟨Nat.le_refl _, hlen⟩
  have kEx := fun u u' W (h : YO W u x.o) (h' : YO W u' x.o) (h2 : x.o.length ≤ 1048576) => eq_sg x u u' x.o.length x.o.length W h h' (by omega)
  have kMx := fun u B W (h : Mk W B u x.o.length) (h2 : x.o.length ≤ 1048576) (hB : B ≤ W.heap.size) => mark_sg x u x.o.length 1 B W h h2 (by decide) hB
  have hz20 : (fallS x).1.o.length ≤ 1048576 := by have := fallS_len x; omega
  have kE := fun u u' c c' W (h : YO W u (fallS x).1.o) (h' : YO W u' (fallS x).1.o) => eq_sg (fallS x).1 u u' c c' W h h' (by omega)
  have kM := fun u c B W (h : Mk W B u (fallS x).1.o.length) (hB : B ≤ W.heap.size) => mark_sg (fallS x).1 u c 1 B W h hz20 (by decide) hB
  have kH := fun u c W (h : YO W u (marks 1 (fallS x).1.o.length)) => held_sg (fallS x).1 u c 1 W h hz20 (by decide)
  generalize (fallS x).1 = z at *
  generalize (fallS x).2 = t at *
  have HY : Hid (YO w a x.o) := hl
  clear hl hd hm hs
  obtain ⟨v, ⟨dh, dr, ds, di⟩, ⟨mh, mr, ms, mi⟩, p, o⟩ := x
  obtain ⟨zv, ⟨zdh, zdr, zds, zdi⟩, ⟨zmh, zmr, zms, zmi⟩, zp, zo⟩ := z
  unfold sV sQ at *
  simp only at *
  have htt : (t != t) = false := by simp
  obtain ⟨R, hR⟩ : ∃ R : Int, ((1 + 5 * zo.length : Nat) : Int) = R := ⟨_, rfl⟩
  have hR0 : ¬ R < 0 := by omega
  rw [hR] at kM kH
  obtain ⟨RX, hRX⟩ : ∃ R : Int, ((1 + 5 * o.length : Nat) : Int) = R := ⟨_, rfl⟩
  have hRX0 : ¬ RX < 0 := by omega
  rw [hRX] at kMx
  have k1 : ((1 : Nat) : Int) = 1 := rfl
  rw [k1] at kM kH kMx
  clear k1 hR hRX
  obtain ⟨W0, hW0⟩ : ∃ W, w.alloc (.cells #[.int .i64 v, .int .i64 dh, .int .i64 dr, .int .i64 ds, .string di, .int .i64 mh, .int .i64 mr, .int .i64 ms, .string mi, .bool p, .slice a o.length cap] 50) = W := ⟨_, rfl⟩
  have HX0 : Hid (Blk W0 w.heap.size [.int .i64 v, .int .i64 dh, .int .i64 dr, .int .i64 ds, .string di, .int .i64 mh, .int .i64 mr, .int .i64 ms, .string mi, .bool p, .slice a o.length cap] 50) := by
    rw [← hW0]
    have hnew := blk_new (w) [.int .i64 v, .int .i64 dh, .int .i64 dr, .int .i64 ds, .string di, .int .i64 mh, .int .i64 mr, .int .i64 ms, .string mi, .bool p, .slice a o.length cap] 50
    exact hnew
  have HB0 : Hid (Below w.heap.size w W0) := by rw [← hW0]; exact (Below.refl w.heap.size w).alloc (Nat.le_refl _) _
  go_enter Try.func10, Try.ntmps10
  have cX_0_0 := HX0.out.cell 0 rfl
  have cX_1_0 := HX0.out.cell 1 rfl
  have cX_2_0 := HX0.out.cell 2 rfl
  have cX_3_0 := HX0.out.cell 3 rfl
  have cX_4_0 := HX0.out.cell 4 rfl
  have cX_5_0 := HX0.out.cell 5 rfl
  have cX_6_0 := HX0.out.cell 6 rfl
  have cX_7_0 := HX0.out.cell 7 rfl
  have cX_8_0 := HX0.out.cell 8 rfl
  have cX_9_0 := HX0.out.cell 9 rfl
  have cX_10_0 := HX0.out.cell 10 rfl
  go_wp2_with fail
  clear hW0 cX_0_0 cX_1_0 cX_2_0 cX_3_0 cX_4_0 cX_5_0 cX_6_0 cX_7_0 cX_8_0 cX_9_0 cX_10_0
  refine (kZ _ (HY.out.below HB0.out)).mono ?_
  rintro e w1 ⟨q, rfl, HQ, bb⟩
  have HX1 : Hid (Blk w1 w.heap.size [.int .i64 v, .int .i64 dh, .int .i64 dr, .int .i64 ds, .string di, .int .i64 mh, .int .i64 mr, .int .i64 ms, .string mi, .bool p, .slice a o.length cap] 50) := HX0.out.below bb HX0.out.lt
  have HB1 : Hid (Below w.heap.size w w1) := HB0.out.trans (bb.mono HB0.out.size)
  clear HX0 HB0
  clear bb
  clear kZ
  by_cases hq : q < 0
  · go_wp2
    go_ret
    exact ⟨rfl, HB1.out⟩
  have h20 : o.length ≤ 1048576 := (HQ.out (by omega)).2.2.1
  clear HQ
  have cX_0_1 := HX1.out.cell 0 rfl
  have cX_1_1 := HX1.out.cell 1 rfl
  have cX_2_1 := HX1.out.cell 2 rfl
  have cX_3_1 := HX1.out.cell 3 rfl
  have cX_4_1 := HX1.out.cell 4 rfl
  have cX_5_1 := HX1.out.cell 5 rfl
  have cX_6_1 := HX1.out.cell 6 rfl
  have cX_7_1 := HX1.out.cell 7 rfl
  have cX_8_1 := HX1.out.cell 8 rfl
  have cX_9_1 := HX1.out.cell 9 rfl
  have cX_10_1 := HX1.out.cell 10 rfl
  go_wp2_with fail
  clear cX_0_1 cX_1_1 cX_2_1 cX_3_1 cX_4_1 cX_5_1 cX_6_1 cX_7_1 cX_8_1 cX_9_1 cX_10_1
  refine (kT _ (HY.out.below HB1.out) h20).mono ?_
  rintro e w2 ⟨u1, rfl, HU, bb⟩
  have HX2 : Hid (Blk w2 w.heap.size [.int .i64 v, .int .i64 dh, .int .i64 dr, .int .i64 ds, .string di, .int .i64 mh, .int .i64 mr, .int .i64 ms, .string mi, .bool p, .slice a o.length cap] 50) := HX1.out.below bb HX1.out.lt
  have HB2 : Hid (Below w.heap.size w w2) := HB1.out.trans (bb.mono HB1.out.size)
  clear HX1 HB1
  clear bb
  go_wp2_with fail
  refine (kA u1 _ HU.out.o).mono ?_
  rintro e w3 ⟨a1, c1, rfl, HQ, bb⟩
  have HQ1 : Hid (Rdd w3 w.heap.size w3.heap.size zo a1) := OwnY.rdd2 (own_less HQ.out HB2.out.size)
  clear HQ
  have HX3 : Hid (Blk w3 w.heap.size [.int .i64 v, .int .i64 dh, .int .i64 dr, .int .i64 ds, .string di, .int .i64 mh, .int .i64 mr, .int .i64 ms, .string mi, .bool p, .slice a o.length cap] 50) := HX2.out.below bb HX2.out.lt
  have HB3 : Hid (Below w.heap.size w w3) := HB2.out.trans (bb.mono HB2.out.size)
  clear HX2 HB2
  clear bb
  clear HU kA
  obtain ⟨nW, hnW⟩ : ∃ n, w3.heap.size = n := ⟨_, rfl⟩
  have hnWX : w.heap.size < nW := by rw [← hnW]; exact HX3.out.lt
  have HA0 : Hid (Rdd w3 w.heap.size nW zo a1) := by rw [← hnW]; exact HQ1.out
  clear HQ1
  obtain ⟨wa4, hwa4⟩ : ∃ W, w3.alloc (.cells #[.int .i64 zv, .int .i64 zdh, .int .i64 zdr, .int .i64 zds, .string zdi, .int .i64 zmh, .int .i64 zmr, .int .i64 zms, .string zmi, .bool zp, .slice a1 zo.length c1] 29) = W := ⟨_, rfl⟩
  have HAnW : Hid (Below w3.heap.size w3 wa4) := by rw [← hwa4]; exact below_one _ _
  have HX4 : Hid (Blk wa4 w.heap.size [.int .i64 v, .int .i64 dh, .int .i64 dr, .int .i64 ds, .string di, .int .i64 mh, .int .i64 mr, .int .i64 ms, .string mi, .bool p, .slice a o.length cap] 50) := HX3.out.below HAnW.out HX3.out.lt
  have HA4 : Hid (Rdd wa4 w.heap.size nW zo a1) := HA0.out.below HAnW.out
  have HB4 : Hid (Below w.heap.size w wa4) := HB3.out.trans (HAnW.out.mono HB3.out.size)
  have HW4 : Hid (Blk wa4 nW [.int .i64 zv, .int .i64 zdh, .int .i64 zdr, .int .i64 zds, .string zdi, .int .i64 zmh, .int .i64 zmr, .int .i64 zms, .string zmi, .bool zp, .slice a1 zo.length c1] 29) := by rw [← hwa4, ← hnW]; exact blk_new _ _ _
  clear HAnW HX3 HB3 HA0
  have cX_0_4 := HX4.out.cell 0 rfl
  have cX_1_4 := HX4.out.cell 1 rfl
  have cX_2_4 := HX4.out.cell 2 rfl
  have cX_3_4 := HX4.out.cell 3 rfl
  have cX_4_4 := HX4.out.cell 4 rfl
  have cX_5_4 := HX4.out.cell 5 rfl
  have cX_6_4 := HX4.out.cell 6 rfl
  have cX_7_4 := HX4.out.cell 7 rfl
  have cX_8_4 := HX4.out.cell 8 rfl
  have cX_9_4 := HX4.out.cell 9 rfl
  have cX_10_4 := HX4.out.cell 10 rfl
  go_wp2_with fail
  clear hwa4 hnW cX_0_4 cX_1_4 cX_2_4 cX_3_4 cX_4_4 cX_5_4 cX_6_4 cX_7_4 cX_8_4 cX_9_4 cX_10_4
  refine (kT _ (HY.out.below HB4.out) h20).mono ?_
  rintro e w5 ⟨u2, rfl, HU, bb⟩
  have HU2 : Hid (Rdd w5 (nW + 1) w5.heap.size o u2) := HU.out.rdd2.less (show nW + 1 ≤ _ from HW4.out.lt)
  clear HU
  have HX5 : Hid (Blk w5 w.heap.size [.int .i64 v, .int .i64 dh, .int .i64 dr, .int .i64 ds, .string di, .int .i64 mh, .int .i64 mr, .int .i64 ms, .string mi, .bool p, .slice a o.length cap] 50) := HX4.out.below bb HX4.out.lt
  have HW5 : Hid (Blk w5 nW [.int .i64 zv, .int .i64 zdh, .int .i64 zdr, .int .i64 zds, .string zdi, .int .i64 zmh, .int .i64 zmr, .int .i64 zms, .string zmi, .bool zp, .slice a1 zo.length c1] 29) := HW4.out.below bb HW4.out.lt
  have HA5 : Hid (Rdd w5 w.heap.size nW zo a1) := HA4.out.below bb
  have HB5 : Hid (Below w.heap.size w w5) := HB4.out.trans (bb.mono HB4.out.size)
  clear HX4 HW4 HB4 HA4
  clear bb
  obtain ⟨nX, hnX⟩ : ∃ n, w5.heap.size = n := ⟨_, rfl⟩
  have hnXX : w.heap.size < nX := by rw [← hnX]; exact HX5.out.lt
  have hnXW : nW < nX := by rw [← hnX]; exact HW5.out.lt
  have HU0 : Hid (Rdd w5 (nW + 1) nX o u2) := by rw [← hnX]; exact HU2.out
  clear HU2
  obtain ⟨wa6, hwa6⟩ : ∃ W, w5.alloc (.cells #[.int .i64 v, .int .i64 dh, .int .i64 dr, .int .i64 ds, .string di, .int .i64 mh, .int .i64 mr, .int .i64 ms, .string mi, .bool p, .slice u2 o.length o.length] 29) = W := ⟨_, rfl⟩
  have HAnX : Hid (Below w5.heap.size w5 wa6) := by rw [← hwa6]; exact below_one _ _
  have HX6 : Hid (Blk wa6 w.heap.size [.int .i64 v, .int .i64 dh, .int .i64 dr, .int .i64 ds, .string di, .int .i64 mh, .int .i64 mr, .int .i64 ms, .string mi, .bool p, .slice a o.length cap] 50) := HX5.out.below HAnX.out HX5.out.lt
  have HW6 : Hid (Blk wa6 nW [.int .i64 zv, .int .i64 zdh, .int .i64 zdr, .int .i64 zds, .string zdi, .int .i64 zmh, .int .i64 zmr, .int .i64 zms, .string zmi, .bool zp, .slice a1 zo.length c1] 29) := HW5.out.below HAnX.out HW5.out.lt
  have HA6 : Hid (Rdd wa6 w.heap.size nW zo a1) := HA5.out.below HAnX.out
  have HU6 : Hid (Rdd wa6 (nW + 1) nX o u2) := HU0.out.below HAnX.out
  have HB6 : Hid (Below w.heap.size w wa6) := HB5.out.trans (HAnX.out.mono HB5.out.size)
  have HP6 : Hid (Blk wa6 nX [.int .i64 v, .int .i64 dh, .int .i64 dr, .int .i64 ds, .string di, .int .i64 mh, .int .i64 mr, .int .i64 ms, .string mi, .bool p, .slice u2 o.length o.length] 29) := by rw [← hwa6, ← hnX]; exact blk_new _ _ _
  clear HAnX HX5 HW5 HB5 HA5 HU0
  have cP_0_6 := HP6.out.cell 0 rfl
  have cP_1_6 := HP6.out.cell 1 rfl
  have cP_2_6 := HP6.out.cell 2 rfl
  have cP_3_6 := HP6.out.cell 3 rfl
  have cP_4_6 := HP6.out.cell 4 rfl
  have cP_5_6 := HP6.out.cell 5 rfl
  have cP_6_6 := HP6.out.cell 6 rfl
  have cP_7_6 := HP6.out.cell 7 rfl
  have cP_8_6 := HP6.out.cell 8 rfl
  have cP_9_6 := HP6.out.cell 9 rfl
  have cP_10_6 := HP6.out.cell 10 rfl
  go_wp2_with fail
  clear hwa6 hnX cP_0_6 cP_1_6 cP_2_6 cP_3_6 cP_4_6 cP_5_6 cP_6_6 cP_7_6 cP_8_6 cP_9_6 cP_10_6
  refine (kB u2 _ HU6.out.1).mono ?_
  rintro e w7 ⟨a3, c3, rfl, HQ, bb⟩
  have HQ3 : Hid (Rdd w7 (nX + 1) w7.heap.size zo a3) := OwnY.rdd2 (own_less HQ.out (show nX + 1 ≤ _ from HP6.out.lt))
  clear HQ
  have HX7 : Hid (Blk w7 w.heap.size [.int .i64 v, .int .i64 dh, .int .i64 dr, .int .i64 ds, .string di, .int .i64 mh, .int .i64 mr, .int .i64 ms, .string mi, .bool p, .slice a o.length cap] 50) := HX6.out.below bb HX6.out.lt
  have HW7 : Hid (Blk w7 nW [.int .i64 zv, .int .i64 zdh, .int .i64 zdr, .int .i64 zds, .string zdi, .int .i64 zmh, .int .i64 zmr, .int .i64 zms, .string zmi, .bool zp, .slice a1 zo.length c1] 29) := HW6.out.below bb HW6.out.lt
  have HP7 : Hid (Blk w7 nX [.int .i64 v, .int .i64 dh, .int .i64 dr, .int .i64 ds, .string di, .int .i64 mh, .int .i64 mr, .int .i64 ms, .string mi, .bool p, .slice u2 o.length o.length] 29) := HP6.out.below bb HP6.out.lt
  have HA7 : Hid (Rdd w7 w.heap.size nW zo a1) := HA6.out.below bb
  have HU7 : Hid (Rdd w7 (nW + 1) nX o u2) := HU6.out.below bb
  have HB7 : Hid (Below w.heap.size w w7) := HB6.out.trans (bb.mono HB6.out.size)
  clear HX6 HW6 HP6 HB6 HA6 HU6
  clear bb
  obtain ⟨nG, hnG⟩ : ∃ n, w7.heap.size = n := ⟨_, rfl⟩
  have hnGX : w.heap.size < nG := by rw [← hnG]; exact HX7.out.lt
  have hnGW : nW < nG := by rw [← hnG]; exact HW7.out.lt
  have hnGP : nX < nG := by rw [← hnG]; exact HP7.out.lt
  have HC0 : Hid (Rdd w7 (nX + 1) nG zo a3) := by rw [← hnG]; exact HQ3.out
  clear HQ3
  obtain ⟨wa8, hwa8⟩ : ∃ W, w7.alloc (.cells #[.int .i64 zv, .int .i64 zdh, .int .i64 zdr, .int .i64 zds, .string zdi, .int .i64 zmh, .int .i64 zmr, .int .i64 zms, .string zmi, .bool zp, .slice a3 zo.length c3] 29) = W := ⟨_, rfl⟩
  have HAnG : Hid (Below w7.heap.size w7 wa8) := by rw [← hwa8]; exact below_one _ _
  have HX8 : Hid (Blk wa8 w.heap.size [.int .i64 v, .int .i64 dh, .int .i64 dr, .int .i64 ds, .string di, .int .i64 mh, .int .i64 mr, .int .i64 ms, .string mi, .bool p, .slice a o.length cap] 50) := HX7.out.below HAnG.out HX7.out.lt
  have HW8 : Hid (Blk wa8 nW [.int .i64 zv, .int .i64 zdh, .int .i64 zdr, .int .i64 zds, .string zdi, .int .i64 zmh, .int .i64 zmr, .int .i64 zms, .string zmi, .bool zp, .slice a1 zo.length c1] 29) := HW7.out.below HAnG.out HW7.out.lt
  have HP8 : Hid (Blk wa8 nX [.int .i64 v, .int .i64 dh, .int .i64 dr, .int .i64 ds, .string di, .int .i64 mh, .int .i64 mr, .int .i64 ms, .string mi, .bool p, .slice u2 o.length o.length] 29) := HP7.out.below HAnG.out HP7.out.lt
  have HA8 : Hid (Rdd wa8 w.heap.size nW zo a1) := HA7.out.below HAnG.out
  have HU8 : Hid (Rdd wa8 (nW + 1) nX o u2) := HU7.out.below HAnG.out
  have HC8 : Hid (Rdd wa8 (nX + 1) nG zo a3) := HC0.out.below HAnG.out
  have HB8 : Hid (Below w.heap.size w wa8) := HB7.out.trans (HAnG.out.mono HB7.out.size)
  have HG8 : Hid (Blk wa8 nG [.int .i64 zv, .int .i64 zdh, .int .i64 zdr, .int .i64 zds, .string zdi, .int .i64 zmh, .int .i64 zmr, .int .i64 zms, .string zmi, .bool zp, .slice a3 zo.length c3] 29) := by rw [← hwa8, ← hnG]; exact blk_new _ _ _
  clear HAnG HX7 HW7 HP7 HB7 HA7 HU7 HC0
  have cW_0_8 := HW8.out.cell 0 rfl
  have cW_1_8 := HW8.out.cell 1 rfl
  have cW_2_8 := HW8.out.cell 2 rfl
  have cW_3_8 := HW8.out.cell 3 rfl
  have cW_4_8 := HW8.out.cell 4 rfl
  have cW_5_8 := HW8.out.cell 5 rfl
  have cW_6_8 := HW8.out.cell 6 rfl
  have cW_7_8 := HW8.out.cell 7 rfl
  have cW_8_8 := HW8.out.cell 8 rfl
  have cW_9_8 := HW8.out.cell 9 rfl
  have cW_10_8 := HW8.out.cell 10 rfl
  have cG_0_8 := HG8.out.cell 0 rfl
  have cG_1_8 := HG8.out.cell 1 rfl
  have cG_2_8 := HG8.out.cell 2 rfl
  have cG_3_8 := HG8.out.cell 3 rfl
  have cG_4_8 := HG8.out.cell 4 rfl
  have cG_5_8 := HG8.out.cell 5 rfl
  have cG_6_8 := HG8.out.cell 6 rfl
  have cG_7_8 := HG8.out.cell 7 rfl
  have cG_8_8 := HG8.out.cell 8 rfl
  have cG_9_8 := HG8.out.cell 9 rfl
  have cG_10_8 := HG8.out.cell 10 rfl
  go_wp2_with fail
  clear hwa8 hnG cW_0_8 cW_1_8 cW_2_8 cW_3_8 cW_4_8 cW_5_8 cW_6_8 cW_7_8 cW_8_8 cW_9_8 cW_10_8 cG_0_8 cG_1_8 cG_2_8 cG_3_8 cG_4_8 cG_5_8 cG_6_8 cG_7_8 cG_8_8 cG_9_8 cG_10_8
  refine (kE a3 a1 c3 c1 _ HC8.out.1 HA8.out.1).mono ?_
  rintro e w9 ⟨rfl, bb⟩
  have HX9 : Hid (Blk w9 w.heap.size [.int .i64 v, .int .i64 dh, .int .i64 dr, .int .i64 ds, .string di, .int .i64 mh, .int .i64 mr, .int .i64 ms, .string mi, .bool p, .slice a o.length cap] 50) := HX8.out.below bb HX8.out.lt
  have HW9 : Hid (Blk w9 nW [.int .i64 zv, .int .i64 zdh, .int .i64 zdr, .int .i64 zds, .string zdi, .int .i64 zmh, .int .i64 zmr, .int .i64 zms, .string zmi, .bool zp, .slice a1 zo.length c1] 29) := HW8.out.below bb HW8.out.lt
  have HP9 : Hid (Blk w9 nX [.int .i64 v, .int .i64 dh, .int .i64 dr, .int .i64 ds, .string di, .int .i64 mh, .int .i64 mr, .int .i64 ms, .string mi, .bool p, .slice u2 o.length o.length] 29) := HP8.out.below bb HP8.out.lt
  have HG9 : Hid (Blk w9 nG [.int .i64 zv, .int .i64 zdh, .int .i64 zdr, .int .i64 zds, .string zdi, .int .i64 zmh, .int .i64 zmr, .int .i64 zms, .string zmi, .bool zp, .slice a3 zo.length c3] 29) := HG8.out.below bb HG8.out.lt
  have HA9 : Hid (Rdd w9 w.heap.size nW zo a1) := HA8.out.below bb
  have HU9 : Hid (Rdd w9 (nW + 1) nX o u2) := HU8.out.below bb
  have HC9 : Hid (Rdd w9 (nX + 1) nG zo a3) := HC8.out.below bb
  have HB9 : Hid (Below w.heap.size w w9) := HB8.out.trans (bb.mono HB8.out.size)
  clear HX8 HW8 HP8 HG8 HB8 HA8 HU8 HC8
  clear bb
  have cX_0_9 := HX9.out.cell 0 rfl
  have cX_1_9 := HX9.out.cell 1 rfl
  have cX_2_9 := HX9.out.cell 2 rfl
  have cX_3_9 := HX9.out.cell 3 rfl
  have cX_4_9 := HX9.out.cell 4 rfl
  have cX_5_9 := HX9.out.cell 5 rfl
  have cX_6_9 := HX9.out.cell 6 rfl
  have cX_7_9 := HX9.out.cell 7 rfl
  have cX_8_9 := HX9.out.cell 8 rfl
  have cX_9_9 := HX9.out.cell 9 rfl
  have cX_10_9 := HX9.out.cell 10 rfl
  have cP_0_9 := HP9.out.cell 0 rfl
  have cP_1_9 := HP9.out.cell 1 rfl
  have cP_2_9 := HP9.out.cell 2 rfl
  have cP_3_9 := HP9.out.cell 3 rfl
  have cP_4_9 := HP9.out.cell 4 rfl
  have cP_5_9 := HP9.out.cell 5 rfl
  have cP_6_9 := HP9.out.cell 6 rfl
  have cP_7_9 := HP9.out.cell 7 rfl
  have cP_8_9 := HP9.out.cell 8 rfl
  have cP_9_9 := HP9.out.cell 9 rfl
  have cP_10_9 := HP9.out.cell 10 rfl
  go_wp2_with fail
  clear cX_0_9 cX_1_9 cX_2_9 cX_3_9 cX_4_9 cX_5_9 cX_6_9 cX_7_9 cX_8_9 cX_9_9 cX_10_9 cP_0_9 cP_1_9 cP_2_9 cP_3_9 cP_4_9 cP_5_9 cP_6_9 cP_7_9 cP_8_9 cP_9_9 cP_10_9
  have HX10 : Hid (Blk w9.drew w.heap.size [.int .i64 v, .int .i64 dh, .int .i64 dr, .int .i64 ds, .string di, .int .i64 mh, .int .i64 mr, .int .i64 ms, .string mi, .bool p, .slice a o.length cap] 50) := HX9.out.below (Below.refl _ _).drew HX9.out.lt
  have HW10 : Hid (Blk w9.drew nW [.int .i64 zv, .int .i64 zdh, .int .i64 zdr, .int .i64 zds, .string zdi, .int .i64 zmh, .int .i64 zmr, .int .i64 zms, .string zmi, .bool zp, .slice a1 zo.length c1] 29) := HW9.out.below (Below.refl _ _).drew HW9.out.lt
  have HP10 : Hid (Blk w9.drew nX [.int .i64 v, .int .i64 dh, .int .i64 dr, .int .i64 ds, .string di, .int .i64 mh, .int .i64 mr, .int .i64 ms, .string mi, .bool p, .slice u2 o.length o.length] 29) := HP9.out.below (Below.refl _ _).drew HP9.out.lt
  have HG10 : Hid (Blk w9.drew nG [.int .i64 zv, .int .i64 zdh, .int .i64 zdr, .int .i64 zds, .string zdi, .int .i64 zmh, .int .i64 zmr, .int .i64 zms, .string zmi, .bool zp, .slice a3 zo.length c3] 29) := HG9.out.below (Below.refl _ _).drew HG9.out.lt
  have HA10 : Hid (Rdd w9.drew w.heap.size nW zo a1) := HA9.out.below (Below.refl _ _).drew
  have HU10 : Hid (Rdd w9.drew (nW + 1) nX o u2) := HU9.out.below (Below.refl _ _).drew
  have HC10 : Hid (Rdd w9.drew (nX + 1) nG zo a3) := HC9.out.below (Below.refl _ _).drew
  have HB10 : Hid (Below w.heap.size w w9.drew) := HB9.out.trans (((Below.refl _ _).drew).mono HB9.out.size)
  clear HX9 HW9 HP9 HG9 HB9 HA9 HU9 HC9
  go_region_held3 (fun W : World => W.cell? ⟨w.heap.size, 0, none⟩ = some (.int .i64 v) ∧ W.cell? ⟨w.heap.size, 1, none⟩ = some (.int .i64 dh) ∧ W.cell? ⟨w.heap.size, 2, none⟩ = some (.int .i64 dr) ∧ W.cell? ⟨w.heap.size, 3, none⟩ = some (.int .i64 ds) ∧ W.cell? ⟨w.heap.size, 4, none⟩ = some (.string di) ∧ W.cell? ⟨w.heap.size, 5, none⟩ = some (.int .i64 mh) ∧ W.cell? ⟨w.heap.size, 6, none⟩ = some (.int .i64 mr) ∧ W.cell? ⟨w.heap.size, 7, none⟩ = some (.int .i64 ms) ∧ W.cell? ⟨w.heap.size, 8, none⟩ = some (.string mi) ∧ W.cell? ⟨w.heap.size, 9, none⟩ = some (.bool p) ∧ W.cell? ⟨w.heap.size, 10, none⟩ = some (.slice a o.length cap) ∧ W.cell? ⟨nW, 0, none⟩ = some (.int .i64 zv) ∧ W.cell? ⟨nW, 1, none⟩ = some (.int .i64 zdh) ∧ W.cell? ⟨nW, 2, none⟩ = some (.int .i64 zdr) ∧ W.cell? ⟨nW, 3, none⟩ = some (.int .i64 zds) ∧ W.cell? ⟨nW, 4, none⟩ = some (.string zdi) ∧ W.cell? ⟨nW, 5, none⟩ = some (.int .i64 zmh) ∧ W.cell? ⟨nW, 6, none⟩ = some (.int .i64 zmr) ∧ W.cell? ⟨nW, 7, none⟩ = some (.int .i64 zms) ∧ W.cell? ⟨nW, 8, none⟩ = some (.string zmi) ∧ W.cell? ⟨nW, 9, none⟩ = some (.bool zp) ∧ W.cell? ⟨nW, 10, none⟩ = some (.slice a1 zo.length c1) ∧ W.cell? ⟨nX, 0, none⟩ = some (.int .i64 v) ∧ W.cell? ⟨nX, 1, none⟩ = some (.int .i64 dh) ∧ W.cell? ⟨nX, 2, none⟩ = some (.int .i64 dr) ∧ W.cell? ⟨nX, 3, none⟩ = some (.int .i64 ds) ∧ W.cell? ⟨nX, 4, none⟩ = some (.string di) ∧ W.cell? ⟨nX, 5, none⟩ = some (.int .i64 mh) ∧ W.cell? ⟨nX, 6, none⟩ = some (.int .i64 mr) ∧ W.cell? ⟨nX, 7, none⟩ = some (.int .i64 ms) ∧ W.cell? ⟨nX, 8, none⟩ = some (.string mi) ∧ W.cell? ⟨nX, 9, none⟩ = some (.bool p) ∧ W.cell? ⟨nX, 10, none⟩ = some (.slice u2 o.length o.length) ∧ W.cell? ⟨nG, 0, none⟩ = some (.int .i64 zv) ∧ W.cell? ⟨nG, 1, none⟩ = some (.int .i64 zdh) ∧ W.cell? ⟨nG, 2, none⟩ = some (.int .i64 zdr) ∧ W.cell? ⟨nG, 3, none⟩ = some (.int .i64 zds) ∧ W.cell? ⟨nG, 4, none⟩ = some (.string zdi) ∧ W.cell? ⟨nG, 5, none⟩ = some (.int .i64 zmh) ∧ W.cell? ⟨nG, 6, none⟩ = some (.int .i64 zmr) ∧ W.cell? ⟨nG, 7, none⟩ = some (.int .i64 zms) ∧ W.cell? ⟨nG, 8, none⟩ = some (.string zmi) ∧ W.cell? ⟨nG, 9, none⟩ = some (.bool zp) ∧ W.cell? ⟨nG, 10, none⟩ = some (.slice a3 zo.length c3)) (first | assumption | exact ⟨HX12.out.cell 0 rfl, HX12.out.cell 1 rfl, HX12.out.cell 2 rfl, HX12.out.cell 3 rfl, HX12.out.cell 4 rfl, HX12.out.cell 5 rfl, HX12.out.cell 6 rfl, HX12.out.cell 7 rfl, HX12.out.cell 8 rfl, HX12.out.cell 9 rfl, HX12.out.cell 10 rfl, HW12.out.cell 0 rfl, HW12.out.cell 1 rfl, HW12.out.cell 2 rfl, HW12.out.cell 3 rfl, HW12.out.cell 4 rfl, HW12.out.cell 5 rfl, HW12.out.cell 6 rfl, HW12.out.cell 7 rfl, HW12.out.cell 8 rfl, HW12.out.cell 9 rfl, HW12.out.cell 10 rfl, HP12.out.cell 0 rfl, HP12.out.cell 1 rfl, HP12.out.cell 2 rfl, HP12.out.cell 3 rfl, HP12.out.cell 4 rfl, HP12.out.cell 5 rfl, HP12.out.cell 6 rfl, HP12.out.cell 7 rfl, HP12.out.cell 8 rfl, HP12.out.cell 9 rfl, HP12.out.cell 10 rfl, HG12.out.cell 0 rfl, HG12.out.cell 1 rfl, HG12.out.cell 2 rfl, HG12.out.cell 3 rfl, HG12.out.cell 4 rfl, HG12.out.cell 5 rfl, HG12.out.cell 6 rfl, HG12.out.cell 7 rfl, HG12.out.cell 8 rfl, HG12.out.cell 9 rfl, HG12.out.cell 10 rfl⟩ | exact ⟨HX11.out.cell 0 rfl, HX11.out.cell 1 rfl, HX11.out.cell 2 rfl, HX11.out.cell 3 rfl, HX11.out.cell 4 rfl, HX11.out.cell 5 rfl, HX11.out.cell 6 rfl, HX11.out.cell 7 rfl, HX11.out.cell 8 rfl, HX11.out.cell 9 rfl, HX11.out.cell 10 rfl, HW11.out.cell 0 rfl, HW11.out.cell 1 rfl, HW11.out.cell 2 rfl, HW11.out.cell 3 rfl, HW11.out.cell 4 rfl, HW11.out.cell 5 rfl, HW11.out.cell 6 rfl, HW11.out.cell 7 rfl, HW11.out.cell 8 rfl, HW11.out.cell 9 rfl, HW11.out.cell 10 rfl, HP11.out.cell 0 rfl, HP11.out.cell 1 rfl, HP11.out.cell 2 rfl, HP11.out.cell 3 rfl, HP11.out.cell 4 rfl, HP11.out.cell 5 rfl, HP11.out.cell 6 rfl, HP11.out.cell 7 rfl, HP11.out.cell 8 rfl, HP11.out.cell 9 rfl, HP11.out.cell 10 rfl, HG11.out.cell 0 rfl, HG11.out.cell 1 rfl, HG11.out.cell 2 rfl, HG11.out.cell 3 rfl, HG11.out.cell 4 rfl, HG11.out.cell 5 rfl, HG11.out.cell 6 rfl, HG11.out.cell 7 rfl, HG11.out.cell 8 rfl, HG11.out.cell 9 rfl, HG11.out.cell 10 rfl⟩ | exact ⟨HX10.out.cell 0 rfl, HX10.out.cell 1 rfl, HX10.out.cell 2 rfl, HX10.out.cell 3 rfl, HX10.out.cell 4 rfl, HX10.out.cell 5 rfl, HX10.out.cell 6 rfl, HX10.out.cell 7 rfl, HX10.out.cell 8 rfl, HX10.out.cell 9 rfl, HX10.out.cell 10 rfl, HW10.out.cell 0 rfl, HW10.out.cell 1 rfl, HW10.out.cell 2 rfl, HW10.out.cell 3 rfl, HW10.out.cell 4 rfl, HW10.out.cell 5 rfl, HW10.out.cell 6 rfl, HW10.out.cell 7 rfl, HW10.out.cell 8 rfl, HW10.out.cell 9 rfl, HW10.out.cell 10 rfl, HP10.out.cell 0 rfl, HP10.out.cell 1 rfl, HP10.out.cell 2 rfl, HP10.out.cell 3 rfl, HP10.out.cell 4 rfl, HP10.out.cell 5 rfl, HP10.out.cell 6 rfl, HP10.out.cell 7 rfl, HP10.out.cell 8 rfl, HP10.out.cell 9 rfl, HP10.out.cell 10 rfl, HG10.out.cell 0 rfl, HG10.out.cell 1 rfl, HG10.out.cell 2 rfl, HG10.out.cell 3 rfl, HG10.out.cell 4 rfl, HG10.out.cell 5 rfl, HG10.out.cell 6 rfl, HG10.out.cell 7 rfl, HG10.out.cell 8 rfl, HG10.out.cell 9 rfl, HG10.out.cell 10 rfl⟩) (first | (go_at_call 28; refine (kT _ (HY.out.below HB10.out) h20).mono ?_; rintro e w10 ⟨u3, rfl, HU3, bb10⟩; have HX11 : Hid (Blk w10 w.heap.size [.int .i64 v, .int .i64 dh, .int .i64 dr, .int .i64 ds, .string di, .int .i64 mh, .int .i64 mr, .int .i64 ms, .string mi, .bool p, .slice a o.length cap] 50) := HX10.out.below bb10 HX10.out.lt; have HW11 : Hid (Blk w10 nW [.int .i64 zv, .int .i64 zdh, .int .i64 zdr, .int .i64 zds, .string zdi, .int .i64 zmh, .int .i64 zmr, .int .i64 zms, .string zmi, .bool zp, .slice a1 zo.length c1] 29) := HW10.out.below bb10 HW10.out.lt; have HP11 : Hid (Blk w10 nX [.int .i64 v, .int .i64 dh, .int .i64 dr, .int .i64 ds, .string di, .int .i64 mh, .int .i64 mr, .int .i64 ms, .string mi, .bool p, .slice u2 o.length o.length] 29) := HP10.out.below bb10 HP10.out.lt; have HG11 : Hid (Blk w10 nG [.int .i64 zv, .int .i64 zdh, .int .i64 zdr, .int .i64 zds, .string zdi, .int .i64 zmh, .int .i64 zmr, .int .i64 zms, .string zmi, .bool zp, .slice a3 zo.length c3] 29) := HG10.out.below bb10 HG10.out.lt; have HA11 : Hid (Rdd w10 w.heap.size nW zo a1) := HA10.out.below bb10; have HU11 : Hid (Rdd w10 (nW + 1) nX o u2) := HU10.out.below bb10; have HC11 : Hid (Rdd w10 (nX + 1) nG zo a3) := HC10.out.below bb10; have HB11 : Hid (Below w.heap.size w w10) := HB10.out.trans (bb10.mono HB10.out.size)) | (go_at_call 30; refine (kEx u2 u3 _ HU11.out.1 HU3.out.o h20).mono ?_; rintro e w11 ⟨rfl, bb11⟩; have HX12 : Hid (Blk w11 w.heap.size [.int .i64 v, .int .i64 dh, .int .i64 dr, .int .i64 ds, .string di, .int .i64 mh, .int .i64 mr, .int .i64 ms, .string mi, .bool p, .slice a o.length cap] 50) := HX11.out.below bb11 HX11.out.lt; have HW12 : Hid (Blk w11 nW [.int .i64 zv, .int .i64 zdh, .int .i64 zdr, .int .i64 zds, .string zdi, .int .i64 zmh, .int .i64 zmr, .int .i64 zms, .string zmi, .bool zp, .slice a1 zo.length c1] 29) := HW11.out.below bb11 HW11.out.lt; have HP12 : Hid (Blk w11 nX [.int .i64 v, .int .i64 dh, .int .i64 dr, .int .i64 ds, .string di, .int .i64 mh, .int .i64 mr, .int .i64 ms, .string mi, .bool p, .slice u2 o.length o.length] 29) := HP11.out.below bb11 HP11.out.lt; have HG12 : Hid (Blk w11 nG [.int .i64 zv, .int .i64 zdh, .int .i64 zdr, .int .i64 zds, .string zdi, .int .i64 zmh, .int .i64 zmr, .int .i64 zms, .string zmi, .bool zp, .slice a3 zo.length c3] 29) := HG11.out.below bb11 HG11.out.lt; have HA12 : Hid (Rdd w11 w.heap.size nW zo a1) := HA11.out.below bb11; have HU12 : Hid (Rdd w11 (nW + 1) nX o u2) := HU11.out.below bb11; have HC12 : Hid (Rdd w11 (nX + 1) nG zo a3) := HC11.out.below bb11; have HV12 : Hid (Yop w11 w9.drew.heap.size o u3) := HU3.out.below bb11; have HB12 : Hid (Below w.heap.size w w11) := HB11.out.trans (bb11.mono HB11.out.size)))
  clear HX10 HW10 HP10 HG10 HB10 HA10 HU10 HC10 bb10 HX11 HW11 HP11 HG11 HB11 HA11 HU11 HC11 HU3 bb11
  clear kEx
  have cP_0_12 := HP12.out.cell 0 rfl
  have cP_1_12 := HP12.out.cell 1 rfl
  have cP_2_12 := HP12.out.cell 2 rfl
  have cP_3_12 := HP12.out.cell 3 rfl
  have cP_4_12 := HP12.out.cell 4 rfl
  have cP_5_12 := HP12.out.cell 5 rfl
  have cP_6_12 := HP12.out.cell 6 rfl
  have cP_7_12 := HP12.out.cell 7 rfl
  have cP_8_12 := HP12.out.cell 8 rfl
  have cP_9_12 := HP12.out.cell 9 rfl
  have cP_10_12 := HP12.out.cell 10 rfl
  go_wp2_with fail
  clear cP_0_12 cP_1_12 cP_2_12 cP_3_12 cP_4_12 cP_5_12 cP_6_12 cP_7_12 cP_8_12 cP_9_12 cP_10_12
  refine (kMx u2 (nW + 1) _ HU12.out.2.2 h20 (by have := HP12.out.lt; omega)).mono ?_
  rintro e w12 ⟨rfl, hs6, r, hr, hgr⟩
  have hrj : ∀ j, r = some j → nW + 1 ≤ j ∧ j < nX := fun j e => ⟨(hr j e).1, HU12.out.2.1 j 0 (hr j e).2⟩
  have HX13 : Hid (Blk w12 w.heap.size [.int .i64 v, .int .i64 dh, .int .i64 dr, .int .i64 ds, .string di, .int .i64 mh, .int .i64 mr, .int .i64 ms, .string mi, .bool p, .slice a o.length cap] 50) := HX12.out.grown hgr (fun e => by have := hrj _ e; omega)
  have HW13 : Hid (Blk w12 nW [.int .i64 zv, .int .i64 zdh, .int .i64 zdr, .int .i64 zds, .string zdi, .int .i64 zmh, .int .i64 zmr, .int .i64 zms, .string zmi, .bool zp, .slice a1 zo.length c1] 29) := HW12.out.grown hgr (fun e => by have := hrj _ e; omega)
  have HP13 : Hid (Blk w12 nX [.int .i64 v, .int .i64 dh, .int .i64 dr, .int .i64 ds, .string di, .int .i64 mh, .int .i64 mr, .int .i64 ms, .string mi, .bool p, .slice u2 o.length o.length] 29) := HP12.out.grown hgr (fun e => by have := hrj _ e; omega)
  have HG13 : Hid (Blk w12 nG [.int .i64 zv, .int .i64 zdh, .int .i64 zdr, .int .i64 zds, .string zdi, .int .i64 zmh, .int .i64 zmr, .int .i64 zms, .string zmi, .bool zp, .slice a3 zo.length c3] 29) := HG12.out.grown hgr (fun e => by have := hrj _ e; omega)
  have HA13 : Hid (Rdd w12 w.heap.size nW zo a1) := HA12.out.grown hgr (fun j e => by have := hrj j e; omega)
  have HC13 : Hid (Rdd w12 (nX + 1) nG zo a3) := HC12.out.grown hgr (fun j e => by have := hrj j e; omega)
  have HB13 : Hid (Below w.heap.size w w12) := HB12.out.grown hgr HB12.out.size (fun j e => by have := hrj j e; omega)
  clear hs6 hr hgr hrj HX12 HW12 HP12 HG12 HB12 HA12 HU12 HC12
  clear kMx
  have cW_0_13 := HW13.out.cell 0 rfl
  have cW_1_13 := HW13.out.cell 1 rfl
  have cW_2_13 := HW13.out.cell 2 rfl
  have cW_3_13 := HW13.out.cell 3 rfl
  have cW_4_13 := HW13.out.cell 4 rfl
  have cW_5_13 := HW13.out.cell 5 rfl
  have cW_6_13 := HW13.out.cell 6 rfl
  have cW_7_13 := HW13.out.cell 7 rfl
  have cW_8_13 := HW13.out.cell 8 rfl
  have cW_9_13 := HW13.out.cell 9 rfl
  have cW_10_13 := HW13.out.cell 10 rfl
  have cG_0_13 := HG13.out.cell 0 rfl
  have cG_1_13 := HG13.out.cell 1 rfl
  have cG_2_13 := HG13.out.cell 2 rfl
  have cG_3_13 := HG13.out.cell 3 rfl
  have cG_4_13 := HG13.out.cell 4 rfl
  have cG_5_13 := HG13.out.cell 5 rfl
  have cG_6_13 := HG13.out.cell 6 rfl
  have cG_7_13 := HG13.out.cell 7 rfl
  have cG_8_13 := HG13.out.cell 8 rfl
  have cG_9_13 := HG13.out.cell 9 rfl
  have cG_10_13 := HG13.out.cell 10 rfl
  go_wp2_with fail
  clear cW_0_13 cW_1_13 cW_2_13 cW_3_13 cW_4_13 cW_5_13 cW_6_13 cW_7_13 cW_8_13 cW_9_13 cW_10_13 cG_0_13 cG_1_13 cG_2_13 cG_3_13 cG_4_13 cG_5_13 cG_6_13 cG_7_13 cG_8_13 cG_9_13 cG_10_13
  refine (kE a3 a1 c3 c1 _ HC13.out.1 HA13.out.1).mono ?_
  rintro e w13 ⟨rfl, bb⟩
  have HX14 : Hid (Blk w13 w.heap.size [.int .i64 v, .int .i64 dh, .int .i64 dr, .int .i64 ds, .string di, .int .i64 mh, .int .i64 mr, .int .i64 ms, .string mi, .bool p, .slice a o.length cap] 50) := HX13.out.below bb HX13.out.lt
  have HW14 : Hid (Blk w13 nW [.int .i64 zv, .int .i64 zdh, .int .i64 zdr, .int .i64 zds, .string zdi, .int .i64 zmh, .int .i64 zmr, .int .i64 zms, .string zmi, .bool zp, .slice a1 zo.length c1] 29) := HW13.out.below bb HW13.out.lt
  have HP14 : Hid (Blk w13 nX [.int .i64 v, .int .i64 dh, .int .i64 dr, .int .i64 ds, .string di, .int .i64 mh, .int .i64 mr, .int .i64 ms, .string mi, .bool p, .slice u2 o.length o.length] 29) := HP13.out.below bb HP13.out.lt
  have HG14 : Hid (Blk w13 nG [.int .i64 zv, .int .i64 zdh, .int .i64 zdr, .int .i64 zds, .string zdi, .int .i64 zmh, .int .i64 zmr, .int .i64 zms, .string zmi, .bool zp, .slice a3 zo.length c3] 29) := HG13.out.below bb HG13.out.lt
  have HA14 : Hid (Rdd w13 w.heap.size nW zo a1) := HA13.out.below bb
  have HC14 : Hid (Rdd w13 (nX + 1) nG zo a3) := HC13.out.below bb
  have HB14 : Hid (Below w.heap.size w w13) := HB13.out.trans (bb.mono HB13.out.size)
  clear HX13 HW13 HP13 HG13 HB13 HA13 HC13
  clear bb
  have cG_0_14 := HG14.out.cell 0 rfl
  have cG_1_14 := HG14.out.cell 1 rfl
  have cG_2_14 := HG14.out.cell 2 rfl
  have cG_3_14 := HG14.out.cell 3 rfl
  have cG_4_14 := HG14.out.cell 4 rfl
  have cG_5_14 := HG14.out.cell 5 rfl
  have cG_6_14 := HG14.out.cell 6 rfl
  have cG_7_14 := HG14.out.cell 7 rfl
  have cG_8_14 := HG14.out.cell 8 rfl
  have cG_9_14 := HG14.out.cell 9 rfl
  have cG_10_14 := HG14.out.cell 10 rfl
  go_wp2_with fail
  clear cG_0_14 cG_1_14 cG_2_14 cG_3_14 cG_4_14 cG_5_14 cG_6_14 cG_7_14 cG_8_14 cG_9_14 cG_10_14
  refine (kM a3 c3 (nX + 1) _ HC14.out.2.2 (by have := HG14.out.lt; omega)).mono ?_
  rintro e w14 ⟨rfl, hs6, r, hr, hgr⟩
  have hrj : ∀ j, r = some j → nX + 1 ≤ j ∧ j < nG := fun j e => ⟨(hr j e).1, HC14.out.2.1 j 0 (hr j e).2⟩
  have HX15 : Hid (Blk w14 w.heap.size [.int .i64 v, .int .i64 dh, .int .i64 dr, .int .i64 ds, .string di, .int .i64 mh, .int .i64 mr, .int .i64 ms, .string mi, .bool p, .slice a o.length cap] 50) := HX14.out.grown hgr (fun e => by have := hrj _ e; omega)
  have HW15 : Hid (Blk w14 nW [.int .i64 zv, .int .i64 zdh, .int .i64 zdr, .int .i64 zds, .string zdi, .int .i64 zmh, .int .i64 zmr, .int .i64 zms, .string zmi, .bool zp, .slice a1 zo.length c1] 29) := HW14.out.grown hgr (fun e => by have := hrj _ e; omega)
  have HP15 : Hid (Blk w14 nX [.int .i64 v, .int .i64 dh, .int .i64 dr, .int .i64 ds, .string di, .int .i64 mh, .int .i64 mr, .int .i64 ms, .string mi, .bool p, .slice u2 o.length o.length] 29) := HP14.out.grown hgr (fun e => by have := hrj _ e; omega)
  have HG15 : Hid (Blk w14 nG [.int .i64 zv, .int .i64 zdh, .int .i64 zdr, .int .i64 zds, .string zdi, .int .i64 zmh, .int .i64 zmr, .int .i64 zms, .string zmi, .bool zp, .slice a3 zo.length c3] 29) := HG14.out.grown hgr (fun e => by have := hrj _ e; omega)
  have HA15 : Hid (Rdd w14 w.heap.size nW zo a1) := HA14.out.grown hgr (fun j e => by have := hrj j e; omega)
  have HB15 : Hid (Below w.heap.size w w14) := HB14.out.grown hgr HB14.out.size (fun j e => by have := hrj j e; omega)
  have HK0 : Hid (YO w14 a3 (marks 1 zo.length)) := hs6
  clear hs6 hr hgr hrj HX14 HW14 HP14 HG14 HB14 HA14 HC14
  clear kM
  have cG_0_15 := HG15.out.cell 0 rfl
  have cG_1_15 := HG15.out.cell 1 rfl
  have cG_2_15 := HG15.out.cell 2 rfl
  have cG_3_15 := HG15.out.cell 3 rfl
  have cG_4_15 := HG15.out.cell 4 rfl
  have cG_5_15 := HG15.out.cell 5 rfl
  have cG_6_15 := HG15.out.cell 6 rfl
  have cG_7_15 := HG15.out.cell 7 rfl
  have cG_8_15 := HG15.out.cell 8 rfl
  have cG_9_15 := HG15.out.cell 9 rfl
  have cG_10_15 := HG15.out.cell 10 rfl
  go_wp2_with fail
  clear cG_0_15 cG_1_15 cG_2_15 cG_3_15 cG_4_15 cG_5_15 cG_6_15 cG_7_15 cG_8_15 cG_9_15 cG_10_15
  refine (kH a3 c3 _ HK0.out).mono ?_
  rintro e w15 ⟨rfl, bb⟩
  have HX16 : Hid (Blk w15 w.heap.size [.int .i64 v, .int .i64 dh, .int .i64 dr, .int .i64 ds, .string di, .int .i64 mh, .int .i64 mr, .int .i64 ms, .string mi, .bool p, .slice a o.length cap] 50) := HX15.out.below bb HX15.out.lt
  have HW16 : Hid (Blk w15 nW [.int .i64 zv, .int .i64 zdh, .int .i64 zdr, .int .i64 zds, .string zdi, .int .i64 zmh, .int .i64 zmr, .int .i64 zms, .string zmi, .bool zp, .slice a1 zo.length c1] 29) := HW15.out.below bb HW15.out.lt
  have HP16 : Hid (Blk w15 nX [.int .i64 v, .int .i64 dh, .int .i64 dr, .int .i64 ds, .string di, .int .i64 mh, .int .i64 mr, .int .i64 ms, .string mi, .bool p, .slice u2 o.length o.length] 29) := HP15.out.below bb HP15.out.lt
  have HG16 : Hid (Blk w15 nG [.int .i64 zv, .int .i64 zdh, .int .i64 zdr, .int .i64 zds, .string zdi, .int .i64 zmh, .int .i64 zmr, .int .i64 zms, .string zmi, .bool zp, .slice a3 zo.length c3] 29) := HG15.out.below bb HG15.out.lt
  have HA16 : Hid (Rdd w15 w.heap.size nW zo a1) := HA15.out.below bb
  have HK16 : Hid (YO w15 a3 (marks 1 zo.length)) := HK0.out.below bb
  have HB16 : Hid (Below w.heap.size w w15) := HB15.out.trans (bb.mono HB15.out.size)
  clear HX15 HW15 HP15 HG15 HB15 HA15 HK0
  clear bb
  have cX_0_16 := HX16.out.cell 0 rfl
  have cX_1_16 := HX16.out.cell 1 rfl
  have cX_2_16 := HX16.out.cell 2 rfl
  have cX_3_16 := HX16.out.cell 3 rfl
  have cX_4_16 := HX16.out.cell 4 rfl
  have cX_5_16 := HX16.out.cell 5 rfl
  have cX_6_16 := HX16.out.cell 6 rfl
  have cX_7_16 := HX16.out.cell 7 rfl
  have cX_8_16 := HX16.out.cell 8 rfl
  have cX_9_16 := HX16.out.cell 9 rfl
  have cX_10_16 := HX16.out.cell 10 rfl
  go_wp2_with fail
  clear cX_0_16 cX_1_16 cX_2_16 cX_3_16 cX_4_16 cX_5_16 cX_6_16 cX_7_16 cX_8_16 cX_9_16 cX_10_16
  refine (kT _ (HY.out.below HB16.out) h20).mono ?_
  rintro e w16 ⟨u4, rfl, HU, bb⟩
  have HX17 : Hid (Blk w16 w.heap.size [.int .i64 v, .int .i64 dh, .int .i64 dr, .int .i64 ds, .string di, .int .i64 mh, .int .i64 mr, .int .i64 ms, .string mi, .bool p, .slice a o.length cap] 50) := HX16.out.below bb HX16.out.lt
  have HW17 : Hid (Blk w16 nW [.int .i64 zv, .int .i64 zdh, .int .i64 zdr, .int .i64 zds, .string zdi, .int .i64 zmh, .int .i64 zmr, .int .i64 zms, .string zmi, .bool zp, .slice a1 zo.length c1] 29) := HW16.out.below bb HW16.out.lt
  have HP17 : Hid (Blk w16 nX [.int .i64 v, .int .i64 dh, .int .i64 dr, .int .i64 ds, .string di, .int .i64 mh, .int .i64 mr, .int .i64 ms, .string mi, .bool p, .slice u2 o.length o.length] 29) := HP16.out.below bb HP16.out.lt
  have HG17 : Hid (Blk w16 nG [.int .i64 zv, .int .i64 zdh, .int .i64 zdr, .int .i64 zds, .string zdi, .int .i64 zmh, .int .i64 zmr, .int .i64 zms, .string zmi, .bool zp, .slice a3 zo.length c3] 29) := HG16.out.below bb HG16.out.lt
  have HA17 : Hid (Rdd w16 w.heap.size nW zo a1) := HA16.out.below bb
  have HK17 : Hid (YO w16 a3 (marks 1 zo.length)) := HK16.out.below bb
  have HB17 : Hid (Below w.heap.size w w16) := HB16.out.trans (bb.mono HB16.out.size)
  clear HX16 HW16 HP16 HG16 HB16 HA16 HK16
  clear bb
  go_wp2_with fail
  refine (kB u4 _ HU.out.o).mono ?_
  rintro e w17 ⟨a5, c5, rfl, HQ, bb⟩
  have HQ5 : Hid (Rdd w17 0 w17.heap.size zo a5) := OwnY.rdd2 (own_less HQ.out (Nat.zero_le _))
  clear HQ
  have HX18 : Hid (Blk w17 w.heap.size [.int .i64 v, .int .i64 dh, .int .i64 dr, .int .i64 ds, .string di, .int .i64 mh, .int .i64 mr, .int .i64 ms, .string mi, .bool p, .slice a o.length cap] 50) := HX17.out.below bb HX17.out.lt
  have HW18 : Hid (Blk w17 nW [.int .i64 zv, .int .i64 zdh, .int .i64 zdr, .int .i64 zds, .string zdi, .int .i64 zmh, .int .i64 zmr, .int .i64 zms, .string zmi, .bool zp, .slice a1 zo.length c1] 29) := HW17.out.below bb HW17.out.lt
  have HP18 : Hid (Blk w17 nX [.int .i64 v, .int .i64 dh, .int .i64 dr, .int .i64 ds, .string di, .int .i64 mh, .int .i64 mr, .int .i64 ms, .string mi, .bool p, .slice u2 o.length o.length] 29) := HP17.out.below bb HP17.out.lt
  have HG18 : Hid (Blk w17 nG [.int .i64 zv, .int .i64 zdh, .int .i64 zdr, .int .i64 zds, .string zdi, .int .i64 zmh, .int .i64 zmr, .int .i64 zms, .string zmi, .bool zp, .slice a3 zo.length c3] 29) := HG17.out.below bb HG17.out.lt
  have HA18 : Hid (Rdd w17 w.heap.size nW zo a1) := HA17.out.below bb
  have HK18 : Hid (YO w17 a3 (marks 1 zo.length)) := HK17.out.below bb
  have HB18 : Hid (Below w.heap.size w w17) := HB17.out.trans (bb.mono HB17.out.size)
  clear HX17 HW17 HP17 HG17 HB17 HA17 HK17
  clear bb
  clear HU kB kT
  obtain ⟨nH, hnH⟩ : ∃ n, w17.heap.size = n := ⟨_, rfl⟩
  have hnHX : w.heap.size < nH := by rw [← hnH]; exact HX18.out.lt
  have hnHW : nW < nH := by rw [← hnH]; exact HW18.out.lt
  have hnHP : nX < nH := by rw [← hnH]; exact HP18.out.lt
  have hnHG : nG < nH := by rw [← hnH]; exact HG18.out.lt
  have HE0 : Hid (Rdd w17 0 nH zo a5) := by rw [← hnH]; exact HQ5.out
  clear HQ5
  obtain ⟨wa18, hwa18⟩ : ∃ W, w17.alloc (.cells #[.int .i64 zv, .int .i64 zdh, .int .i64 zdr, .int .i64 zds, .string zdi, .int .i64 zmh, .int .i64 zmr, .int .i64 zms, .string zmi, .bool zp, .slice a5 zo.length c5] 29) = W := ⟨_, rfl⟩
  have HAnH : Hid (Below w17.heap.size w17 wa18) := by rw [← hwa18]; exact below_one _ _
  have HX19 : Hid (Blk wa18 w.heap.size [.int .i64 v, .int .i64 dh, .int .i64 dr, .int .i64 ds, .string di, .int .i64 mh, .int .i64 mr, .int .i64 ms, .string mi, .bool p, .slice a o.length cap] 50) := HX18.out.below HAnH.out HX18.out.lt
  have HW19 : Hid (Blk wa18 nW [.int .i64 zv, .int .i64 zdh, .int .i64 zdr, .int .i64 zds, .string zdi, .int .i64 zmh, .int .i64 zmr, .int .i64 zms, .string zmi, .bool zp, .slice a1 zo.length c1] 29) := HW18.out.below HAnH.out HW18.out.lt
  have HP19 : Hid (Blk wa18 nX [.int .i64 v, .int .i64 dh, .int .i64 dr, .int .i64 ds, .string di, .int .i64 mh, .int .i64 mr, .int .i64 ms, .string mi, .bool p, .slice u2 o.length o.length] 29) := HP18.out.below HAnH.out HP18.out.lt
  have HG19 : Hid (Blk wa18 nG [.int .i64 zv, .int .i64 zdh, .int .i64 zdr, .int .i64 zds, .string zdi, .int .i64 zmh, .int .i64 zmr, .int .i64 zms, .string zmi, .bool zp, .slice a3 zo.length c3] 29) := HG18.out.below HAnH.out HG18.out.lt
  have HA19 : Hid (Rdd wa18 w.heap.size nW zo a1) := HA18.out.below HAnH.out
  have HK19 : Hid (YO wa18 a3 (marks 1 zo.length)) := HK18.out.below HAnH.out
  have HE19 : Hid (Rdd wa18 0 nH zo a5) := HE0.out.below HAnH.out
  have HB19 : Hid (Below w.heap.size w wa18) := HB18.out.trans (HAnH.out.mono HB18.out.size)
  have HH19 : Hid (Blk wa18 nH [.int .i64 zv, .int .i64 zdh, .int .i64 zdr, .int .i64 zds, .string zdi, .int .i64 zmh, .int .i64 zmr, .int .i64 zms, .string zmi, .bool zp, .slice a5 zo.length c5] 29) := by rw [← hwa18, ← hnH]; exact blk_new _ _ _
  clear HAnH HX18 HW18 HP18 HG18 HB18 HA18 HK18 HE0
  have cW_0_19 := HW19.out.cell 0 rfl
  have cW_1_19 := HW19.out.cell 1 rfl
  have cW_2_19 := HW19.out.cell 2 rfl
  have cW_3_19 := HW19.out.cell 3 rfl
  have cW_4_19 := HW19.out.cell 4 rfl
  have cW_5_19 := HW19.out.cell 5 rfl
  have cW_6_19 := HW19.out.cell 6 rfl
  have cW_7_19 := HW19.out.cell 7 rfl
  have cW_8_19 := HW19.out.cell 8 rfl
  have cW_9_19 := HW19.out.cell 9 rfl
  have cW_10_19 := HW19.out.cell 10 rfl
  have cH_0_19 := HH19.out.cell 0 rfl
  have cH_1_19 := HH19.out.cell 1 rfl
  have cH_2_19 := HH19.out.cell 2 rfl
  have cH_3_19 := HH19.out.cell 3 rfl
  have cH_4_19 := HH19.out.cell 4 rfl
  have cH_5_19 := HH19.out.cell 5 rfl
  have cH_6_19 := HH19.out.cell 6 rfl
  have cH_7_19 := HH19.out.cell 7 rfl
  have cH_8_19 := HH19.out.cell 8 rfl
  have cH_9_19 := HH19.out.cell 9 rfl
  have cH_10_19 := HH19.out.cell 10 rfl
  go_wp2_with fail
  clear hwa18 hnH cW_0_19 cW_1_19 cW_2_19 cW_3_19 cW_4_19 cW_5_19 cW_6_19 cW_7_19 cW_8_19 cW_9_19 cW_10_19 cH_0_19 cH_1_19 cH_2_19 cH_3_19 cH_4_19 cH_5_19 cH_6_19 cH_7_19 cH_8_19 cH_9_19 cH_10_19
  refine (kE a5 a1 c5 c1 _ HE19.out.1 HA19.out.1).mono ?_
  rintro e w19 ⟨rfl, bb⟩
  have HX20 : Hid (Blk w19 w.heap.size [.int .i64 v, .int .i64 dh, .int .i64 dr, .int .i64 ds, .string di, .int .i64 mh, .int .i64 mr, .int .i64 ms, .string mi, .bool p, .slice a o.length cap] 50) := HX19.out.below bb HX19.out.lt
  have HW20 : Hid (Blk w19 nW [.int .i64 zv, .int .i64 zdh, .int .i64 zdr, .int .i64 zds, .string zdi, .int .i64 zmh, .int .i64 zmr, .int .i64 zms, .string zmi, .bool zp, .slice a1 zo.length c1] 29) := HW19.out.below bb HW19.out.lt
  have HP20 : Hid (Blk w19 nX [.int .i64 v, .int .i64 dh, .int .i64 dr, .int .i64 ds, .string di, .int .i64 mh, .int .i64 mr, .int .i64 ms, .string mi, .bool p, .slice u2 o.length o.length] 29) := HP19.out.below bb HP19.out.lt
  have HG20 : Hid (Blk w19 nG [.int .i64 zv, .int .i64 zdh, .int .i64 zdr, .int .i64 zds, .string zdi, .int .i64 zmh, .int .i64 zmr, .int .i64 zms, .string zmi, .bool zp, .slice a3 zo.length c3] 29) := HG19.out.below bb HG19.out.lt
  have HH20 : Hid (Blk w19 nH [.int .i64 zv, .int .i64 zdh, .int .i64 zdr, .int .i64 zds, .string zdi, .int .i64 zmh, .int .i64 zmr, .int .i64 zms, .string zmi, .bool zp, .slice a5 zo.length c5] 29) := HH19.out.below bb HH19.out.lt
  have HA20 : Hid (Rdd w19 w.heap.size nW zo a1) := HA19.out.below bb
  have HK20 : Hid (YO w19 a3 (marks 1 zo.length)) := HK19.out.below bb
  have HE20 : Hid (Rdd w19 0 nH zo a5) := HE19.out.below bb
  have HB20 : Hid (Below w.heap.size w w19) := HB19.out.trans (bb.mono HB19.out.size)
  clear HX19 HW19 HP19 HG19 HH19 HB19 HA19 HK19 HE19
  clear bb
  clear kE
  have cG_0_20 := HG20.out.cell 0 rfl
  have cG_1_20 := HG20.out.cell 1 rfl
  have cG_2_20 := HG20.out.cell 2 rfl
  have cG_3_20 := HG20.out.cell 3 rfl
  have cG_4_20 := HG20.out.cell 4 rfl
  have cG_5_20 := HG20.out.cell 5 rfl
  have cG_6_20 := HG20.out.cell 6 rfl
  have cG_7_20 := HG20.out.cell 7 rfl
  have cG_8_20 := HG20.out.cell 8 rfl
  have cG_9_20 := HG20.out.cell 9 rfl
  have cG_10_20 := HG20.out.cell 10 rfl
  go_wp2_with fail
  clear cG_0_20 cG_1_20 cG_2_20 cG_3_20 cG_4_20 cG_5_20 cG_6_20 cG_7_20 cG_8_20 cG_9_20 cG_10_20
  refine (kH a3 c3 _ HK20.out).mono ?_
  rintro e w20 ⟨rfl, bb⟩
  have HX21 : Hid (Blk w20 w.heap.size [.int .i64 v, .int .i64 dh, .int .i64 dr, .int .i64 ds, .string di, .int .i64 mh, .int .i64 mr, .int .i64 ms, .string mi, .bool p, .slice a o.length cap] 50) := HX20.out.below bb HX20.out.lt
  have HW21 : Hid (Blk w20 nW [.int .i64 zv, .int .i64 zdh, .int .i64 zdr, .int .i64 zds, .string zdi, .int .i64 zmh, .int .i64 zmr, .int .i64 zms, .string zmi, .bool zp, .slice a1 zo.length c1] 29) := HW20.out.below bb HW20.out.lt
  have HP21 : Hid (Blk w20 nX [.int .i64 v, .int .i64 dh, .int .i64 dr, .int .i64 ds, .string di, .int .i64 mh, .int .i64 mr, .int .i64 ms, .string mi, .bool p, .slice u2 o.length o.length] 29) := HP20.out.below bb HP20.out.lt
  have HG21 : Hid (Blk w20 nG [.int .i64 zv, .int .i64 zdh, .int .i64 zdr, .int .i64 zds, .string zdi, .int .i64 zmh, .int .i64 zmr, .int .i64 zms, .string zmi, .bool zp, .slice a3 zo.length c3] 29) := HG20.out.below bb HG20.out.lt
  have HH21 : Hid (Blk w20 nH [.int .i64 zv, .int .i64 zdh, .int .i64 zdr, .int .i64 zds, .string zdi, .int .i64 zmh, .int .i64 zmr, .int .i64 zms, .string zmi, .bool zp, .slice a5 zo.length c5] 29) := HH20.out.below bb HH20.out.lt
  have HA21 : Hid (Rdd w20 w.heap.size nW zo a1) := HA20.out.below bb
  have HK21 : Hid (YO w20 a3 (marks 1 zo.length)) := HK20.out.below bb
  have HE21 : Hid (Rdd w20 0 nH zo a5) := HE20.out.below bb
  have HB21 : Hid (Below w.heap.size w w20) := HB20.out.trans (bb.mono HB20.out.size)
  clear HX20 HW20 HP20 HG20 HH20 HB20 HA20 HK20 HE20
  clear bb
  go_wp2
  go_ret
  exact ⟨rfl, HB21.out⟩
end Go.Proofs.Ytmjlpdmdpagggaa
