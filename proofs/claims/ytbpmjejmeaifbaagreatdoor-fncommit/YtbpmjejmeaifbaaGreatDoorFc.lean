/- FnCommit at every code of at most 2 to the 20 bytes: true; old memory stays. Conditions: the table lies where it should. -/
import Derived.Test.YtbpmjejmeaifbaaGreatDoorDc9
import Derived.Test.YtbpmjejmeaifbaaGreatDoorCok
import Derived.Deep.DeepCutAuto
import Derived.Deep.CutBlock
import Derived.BigQuiet
namespace Go.Proofs.YtbpmjejmeaifbaaGreatDoor
open Go.RowKit
open Num
set_option linter.unusedVariables false
set_option maxHeartbeats 400000 in
set_option maxRecDepth 100000 in
theorem big_any (a : Option Addr) (len cap : Nat) (w : World) (hm : len ≤ 9223372036854775807) :
    Calls Tryz.prog 5 #[.slice a len cap] w fun e w' => e = .returned (.bool (decide ((1048576 : Int) < (len : Int)))) ∧ w' = w := by
  go_enter Tryz.func5, Tryz.ntmps5
  go_wp2
  go_ret
  exact ⟨rfl, rfl⟩
set_option maxHeartbeats 1600000 in
set_option maxRecDepth 100000 in
theorem same_ints (a a' : Option Addr) (l : List Int) (cap cap' : Nat) (w : World) (hl : Nums w a l) (hl' : Nums w a' l) (h1 : l.length ≤ 1048576) :
    Calls Tryz.prog 9 #[.slice a l.length cap, .slice a' l.length cap'] w fun e w' => e = .returned (.bool true) ∧ Below w.heap.size w w' := by
  have HL : Hid (Nums w a l) := hl
  have HL' : Hid (Nums w a' l) := hl'
  clear hl hl'
  go_enter Tryz.func9, Tryz.ntmps9
  go_wp2
  go_loopw [5] (fun iv wr => ∃ k : Nat, k ≤ l.length ∧ iv = .int .i64 k ∧ Below w.heap.size w wr) (fun iv _ => l.length - (intOf iv).toNat)
  case atStart => exact ⟨0, Nat.zero_le _, rfl, Below.refl _ _⟩
  case round =>
    obtain ⟨k, hk, rfl, hb⟩ := hrel
    by_cases hlt : k < l.length
    · have hltz : (k : Int) < (l.length : Int) := by omega
      rcases HL.out with h0 | ⟨b, o, rfl, hv0⟩
      · omega
      rcases HL'.out with h0 | ⟨b', o', rfl, hv0'⟩
      · omega
      have hn := bel_some wr
      have q := (hv0.below hb) k hlt
      have q' := (hv0'.below hb) k hlt
      have c1 := fun p : Bel wr => p.cell q
      have c2 := fun p : Bel wr => p.cell q'
      generalize l[k] = y at *
      clear hv0 hv0' q q'
      go_wp2_with fail
      refine wp_region_below (by kernel_rfl) (by kernel_rfl) ?_
      repeat (go_big_quiet_step (fail))
      refine wpQuiet_nil ?_
      intro _ hw'
      obtain ⟨pq, hw''⟩ := hw'
      subst hw''
      have hb3 := hb.trans (pq.h.mono hb.size)
      clear c1 c2
      go_wp2
      go_roundw
      case rel => exact ⟨k + 1, by omega, by go_num, hb3⟩
      case measure => simp [intOf]; omega
    · have hltz : ¬ (k : Int) < (l.length : Int) := by omega
      go_wp2
      go_ret
      exact ⟨rfl, hb⟩
theorem com_en {l : List V} {y : H} {x : Ct} (h : comOk l y x = true) : enough l (cv x) = true ∧ x.i = headI y := by
  unfold comOk at h
  simp only [Bool.and_eq_true, decide_eq_true_eq] at h
  exact ⟨h.2.2.2.2.2, h.2.2.2.1⟩
theorem en_pos {l : List V} {ids : List Int} (h : enough l ids = true) : 0 < ids.length := by
  rcases Nat.eq_zero_or_pos ids.length with h0 | h0
  · have e : ids = [] := List.eq_nil_of_length_eq_zero h0
    subst e
    unfold enough at h
    simp only [Bool.and_eq_true, decide_eq_true_eq] at h
    have h1 := pw_bound l (fun v hv => mem_ok h.1 v hv)
    have h2 : among l [] = [] := by simp [among, hasI]
    rw [h2] at h
    have h3 : pw [] = 0 := rfl
    omega
  · exact h0
theorem cvN_double (h r : Int) (i : ByteArray) (l : List Sg) : ∀ n, cvN ⟨h, r, i, l ++ l⟩ n = cvN ⟨h, r, i, l⟩ n
  | 0 => rfl
  | n + 1 => by
    have e : sgd ⟨h, r, i, l ++ l⟩ ((n : Int) + 1) = sgd ⟨h, r, i, l⟩ ((n : Int) + 1) := by
      unfold sgd
      rw [List.any_append]
      exact Bool.or_self _
    unfold cvN
    rw [e, cvN_double h r i l n]
theorem com_double {l : List V} {y : H} {h r : Int} {i : ByteArray} {m : List Sg} (hm : m.length + m.length ≤ 12) : comOk l y ⟨h, r, i, m ++ m⟩ = comOk l y ⟨h, r, i, m⟩ := by
  have e : cv ⟨h, r, i, m ++ m⟩ = cv ⟨h, r, i, m⟩ := by
    rw [cv_few (by show (m ++ m).length ≤ 12; rw [List.length_append]; exact hm), cv_few (by show m.length ≤ 12; omega)]
    exact cvN_double h r i m 99
  unfold comOk
  rw [e]
theorem sat_news {w : World} {b o : Nat} {l : List Sg} (h : SAt w b o l) : ∀ j u, (sgs l)[j]? = some u → w.cell? ((⟨b, o, none⟩ : Addr).add j) = some u := by
  intro j u hj
  have hlt : j < l.length * 2 := by
    rw [← sgs_length l]
    exact (List.getElem?_eq_some_iff.1 hj).1
  have ha : (⟨b, o, none⟩ : Addr).add j = ⟨b, o + j, none⟩ := by
    unfold Addr.add
    by_cases h : j = 0 <;> simp [h]
  rw [ha]
  have hk : j / 2 < l.length := by omega
  obtain ⟨e1, e2⟩ := sgs_at l (j / 2) hk
  obtain ⟨h1, h2⟩ := h (j / 2) hk
  rcases Nat.mod_two_eq_zero_or_one j with hm | hm
  · have e : j / 2 * 2 = j := by omega
    rw [e] at e1 h1
    rw [h1, ← hj, e1]
  · have e : j / 2 * 2 + 1 = j := by omega
    rw [e] at e2
    rw [show o + j / 2 * 2 + 1 = o + j by omega] at h2
    rw [h2, ← hj, e2]
theorem so_news {w : World} {ad : Addr} {l : List Sg} (h : SO w (some ad) l) : ∀ j u, (sgs l)[j]? = some u → w.cell? (ad.add j) = some u := by
  rcases h with h | ⟨b, o, e, h⟩
  · have e : l = [] := List.eq_nil_of_length_eq_zero h
    subst e
    intro j u hj
    cases hj
  · injection e with e
    subst e
    exact sat_news h
set_option maxHeartbeats 6400000 in
set_option maxRecDepth 100000 in
theorem fn_commit (a : Option Addr) (L : List UInt8) (cap : Nat) (w : World) (hl : CodeAt w w.heap.size a L) (hT : Tab w) (hlen : L.length ≤ 1048576) :
    Calls Tryz.prog 3 #[.slice a L.length cap] w fun e w' => e = .returned (.bool true) ∧ Below w.heap.size w w' := by
  obtain ⟨i0, hinf, hz0, hz1, hz2⟩ := infoSf
  have HL0 : Hid (CodeAt w w.heap.size a L) := hl
  have HT0 : Hid (Tab w) := hT
  have HB0 : Hid (Below w.heap.size w w) := Below.refl _ _
  have kB := big_any a L.length cap w (by omega)
  rw [decide_eq_false (by omega)] at kB
  clear hl hT
  go_enter Tryz.func3, Tryz.ntmps3
  go_wp2_with fail
  refine kB.mono ?_
  clear kB
  rintro e w0 ⟨rfl, rfl⟩
  go_wp2_with fail
  refine (draw_co a L cap w0 HL0.out hlen).mono ?_
  rintro e w1 ⟨va, vc, l, ⟨yh, yt, ya, yv, yn, yd⟩, ⟨xh, xr, xi, xl⟩, xa, xc, rfl, HVl, HY, HX, HSX, HBa⟩
  have HT_1 : Hid (Tab w1) := HT0.out.below HBa.out HT0.out.pos
  have HB_1 : Hid (Below w0.heap.size w0 w1) := HB0.out.trans (HBa.out.mono HB0.out.size)
  clear HT0 HB0
  clear HBa HL0
  have HV : Hid (VO w1 va l) := HVl.out.1
  have hl8 : l.length ≤ 8 := HVl.out.2
  have hx13 : xl.length ≤ 13 := HX.out.2.1
  have ht0 : -1 ≤ yt := HY.out.2.2.1
  have ht1 : yt ≤ 1000001 := HY.out.2.2.2.1
  clear HVl HX HY
  have kVi := fun W (h : SO W xa xl) (hT : Tab W) => impl_cv ⟨xh, xr, xi, xl⟩ xa xc W h (by show xl.length ≤ _; omega) hT
  have kVs := fun W (h : SO W xa xl) => spec_cv ⟨xh, xr, xi, xl⟩ xa xc W h (by show xl.length ≤ _; omega)
  have kOi := fun W (hv : VO W va l) (h : SO W xa xl) (hT : Tab W) => impl_comok l va vc ⟨yh, yt, ya, yv, yn, yd⟩ ⟨xh, xr, xi, xl⟩ xa xc W hv (by omega) h (by show xl.length ≤ _; omega) hT
  have kOs := fun W (hv : VO W va l) (h : SO W xa xl) => spec_comok l va vc ⟨yh, yt, ya, yv, yn, yd⟩ ⟨xh, xr, xi, xl⟩ xa xc W hv (by omega) h (by show xl.length ≤ _; omega)
  have kOg := fun W (hv : VO W va l) (h : SO W xa xl) (hT : Tab W) => impl_comok l va vc ⟨yh, yt + 1, ya, yv, yn, yd⟩ ⟨xh, xr, xi, xl⟩ xa xc W hv (by omega) h (by show xl.length ≤ _; omega) hT
  have kOd := fun da dc W (hv : VO W va l) (h : SO W da (xl ++ xl)) (hT : Tab W) => impl_comok l va vc ⟨yh, yt, ya, yv, yn, yd⟩ ⟨xh, xr, xi, xl ++ xl⟩ da dc W hv (by omega) h (by show (xl ++ xl).length ≤ _; rw [List.length_append]; omega) hT
  have hD : Hid (xl.length + xl.length ≤ 12 → comOk l ⟨yh, yt, ya, yv, yn, yd⟩ ⟨xh, xr, xi, xl ++ xl⟩ = comOk l ⟨yh, yt, ya, yv, yn, yd⟩ ⟨xh, xr, xi, xl⟩) := fun h => com_double h
  have kIg := fun W => spec_headid ⟨yh, yt + 1, ya, yv, yn, yd⟩ W
  have kIh := fun W => spec_headid ⟨yh, yt, ya, yv, yn, yd⟩ W
  have kE := fun ia ic W (hv : VO W va l) (hn : Nums W ia (cv ⟨xh, xr, xi, xl⟩)) => spec_enough va l vc ia (cv ⟨xh, xr, xi, xl⟩) ic W hv hn (by omega) (by have := cv_len ⟨xh, xr, xi, xl⟩; omega)
  have hlc := cv_len ⟨xh, xr, xi, xl⟩
  have hen : Hid (comOk l ⟨yh, yt, ya, yv, yn, yd⟩ ⟨xh, xr, xi, xl⟩ = true → _ ∧ _) := com_en
  have heg : Hid (comOk l ⟨yh, yt + 1, ya, yv, yn, yd⟩ ⟨xh, xr, xi, xl⟩ = true → _ ∧ _) := com_en
  have hep : Hid (enough l (cv ⟨xh, xr, xi, xl⟩) = true → _) := en_pos
  generalize comOk l ⟨yh, yt, ya, yv, yn, yd⟩ ⟨xh, xr, xi, xl⟩ = is at *
  generalize comOk l ⟨yh, yt + 1, ya, yv, yn, yd⟩ ⟨xh, xr, xi, xl⟩ = ig at *
  generalize comOk l ⟨yh, yt, ya, yv, yn, yd⟩ ⟨xh, xr, xi, xl ++ xl⟩ = isd at *
  generalize headI ⟨yh, yt, ya, yv, yn, yd⟩ = I at *
  generalize headI ⟨yh, yt + 1, ya, yv, yn, yd⟩ = J at *
  generalize enough l (cv ⟨xh, xr, xi, xl⟩) = en at *
  generalize cv ⟨xh, xr, xi, xl⟩ = ids at *
  obtain ⟨dl, hdl⟩ : ∃ d, xl ++ xl = d := ⟨_, rfl⟩
  have hdn : xl.length + xl.length = dl.length := by rw [← hdl, List.length_append]
  have HDL : Hid (xl ++ xl = dl) := hdl
  rw [hdl] at kOd
  clear hdl
  unfold hV cV at *
  simp only at kVi kVs kOi kOs kOg kOd kIg kIh hen heg ⊢
  obtain ⟨w2, hw2⟩ : ∃ W, (w1.alloc (.cells [.int .i64 yh, .int .i64 yt, .string ya, .string yv, .string yn, .string yd].toArray 26)).alloc (.cells [.int .i64 xh, .int .i64 xr, .string xi, .slice xa xl.length xc].toArray 29) = W := ⟨_, rfl⟩
  have hb2 : Below w1.heap.size w1 w2 := by rw [← hw2]; exact below_two _ _ _
  have HT_2 : Hid (Tab w2) := HT_1.out.below hb2 HT_1.out.pos
  have HB_2 : Hid (Below w0.heap.size w0 w2) := HB_1.out.trans (hb2.mono HB_1.out.size)
  have HV_2 : Hid (VO w2 va l) := HV.out.below hb2
  have HSX_2 : Hid (SO w2 xa xl) := SO.below HSX.out hb2
  clear HT_1 HB_1 HV HSX
  clear hb2
  have K5 : Hid (Blk w2 (w1.heap.size + 1) [.int .i64 xh, .int .i64 xr, .string xi, .slice xa xl.length xc] 29) := by
    rw [← hw2]
    have h := blk_new (w1.alloc (.cells [.int .i64 yh, .int .i64 yt, .string ya, .string yv, .string yn, .string yd].toArray 26)) [.int .i64 xh, .int .i64 xr, .string xi, .slice xa xl.length xc] 29
    rw [show (w1.alloc (.cells [.int .i64 yh, .int .i64 yt, .string ya, .string yv, .string yn, .string yd].toArray 26)).heap.size = w1.heap.size + 1 by simp] at h; exact h
  have K4 : Hid (Blk w2 w1.heap.size [.int .i64 yh, .int .i64 yt, .string ya, .string yv, .string yn, .string yd] 26) := by rw [← hw2]; exact (blk_new w1 _ _).alloc _
  have pK50 := K5.out.cell 0 rfl
  have pK51 := K5.out.cell 1 rfl
  have pK52 := K5.out.cell 2 rfl
  have pK53 := K5.out.cell 3 rfl
  go_wp2_with fail
  clear hw2
  refine (kVi _ HSX_2.out HT_2.out).mono ?_
  rintro e w3 ⟨q, rfl, HOq, b3⟩
  have HT_3 : Hid (Tab w3) := HT_2.out.below b3 HT_2.out.pos
  have HB_3 : Hid (Below w0.heap.size w0 w3) := HB_2.out.trans (b3.mono HB_2.out.size)
  have HV_3 : Hid (VO w3 va l) := HV_2.out.below b3
  have HSX_3 : Hid (SO w3 xa xl) := SO.below HSX_2.out b3
  have K4_3 : Hid (Blk w3 (w1.heap.size) [.int .i64 yh, .int .i64 yt, .string ya, .string yv, .string yn, .string yd] 26) := K4.out.below b3 K4.out.lt
  have K5_3 : Hid (Blk w3 (w1.heap.size + 1) [.int .i64 xh, .int .i64 xr, .string xi, .slice xa xl.length xc] 29) := K5.out.below b3 K5.out.lt
  clear HT_2 HB_2 HV_2 HSX_2 K4 K5
  clear b3 kVi pK50 pK51 pK52 pK53
  obtain ⟨ia, ic, rfl, hNq⟩ := OwnI.sln HOq
  have HN : Hid (Nums w3 ia ids) := hNq
  clear HOq hNq
  have pK40 := K4_3.out.cell 0 rfl
  have pK41 := K4_3.out.cell 1 rfl
  have pK42 := K4_3.out.cell 2 rfl
  have pK43 := K4_3.out.cell 3 rfl
  have pK44 := K4_3.out.cell 4 rfl
  have pK45 := K4_3.out.cell 5 rfl
  have pK50 := K5_3.out.cell 0 rfl
  have pK51 := K5_3.out.cell 1 rfl
  have pK52 := K5_3.out.cell 2 rfl
  have pK53 := K5_3.out.cell 3 rfl
  go_wp2_with fail
  refine (kOi _ HV_3.out HSX_3.out HT_3.out).mono ?_
  rintro e w4 ⟨rfl, b4⟩
  have HT_4 : Hid (Tab w4) := HT_3.out.below b4 HT_3.out.pos
  have HB_4 : Hid (Below w0.heap.size w0 w4) := HB_3.out.trans (b4.mono HB_3.out.size)
  have HV_4 : Hid (VO w4 va l) := HV_3.out.below b4
  have HSX_4 : Hid (SO w4 xa xl) := SO.below HSX_3.out b4
  have K4_4 : Hid (Blk w4 (w1.heap.size) [.int .i64 yh, .int .i64 yt, .string ya, .string yv, .string yn, .string yd] 26) := K4_3.out.below b4 K4_3.out.lt
  have K5_4 : Hid (Blk w4 (w1.heap.size + 1) [.int .i64 xh, .int .i64 xr, .string xi, .slice xa xl.length xc] 29) := K5_3.out.below b4 K5_3.out.lt
  have HN_4 : Hid (Nums w4 ia ids) := HN.out.below b4
  clear HT_3 HB_3 HV_3 HSX_3 K4_3 K5_3 HN
  clear b4 kOi pK40 pK41 pK42 pK43 pK44 pK45 pK50 pK51 pK52 pK53
  go_upto_region 6 with fail
  go_cut [45] (fun s wx => s = .bool false ∧ Hid (Below w4.heap.size w4 wx))
  case first =>
    have pK50 := K5_4.out.cell 0 rfl
    have pK51 := K5_4.out.cell 1 rfl
    have pK52 := K5_4.out.cell 2 rfl
    have pK53 := K5_4.out.cell 3 rfl
    go_wp2_with fail
    refine (kVs _ HSX_4.out).mono ?_
    rintro e w5 ⟨q2, rfl, HO2, b5⟩
    have HV_5 : Hid (VO w5 va l) := HV_4.out.below b5
    have HSX_5 : Hid (SO w5 xa xl) := SO.below HSX_4.out b5
    have K4_5 : Hid (Blk w5 (w1.heap.size) [.int .i64 yh, .int .i64 yt, .string ya, .string yv, .string yn, .string yd] 26) := K4_4.out.below b5 K4_4.out.lt
    have K5_5 : Hid (Blk w5 (w1.heap.size + 1) [.int .i64 xh, .int .i64 xr, .string xi, .slice xa xl.length xc] 29) := K5_4.out.below b5 K5_4.out.lt
    have HN_5 : Hid (Nums w5 ia ids) := HN_4.out.below b5
    clear HV_4 HSX_4 K4_4 K5_4 HN_4
    clear pK50 pK51 pK52 pK53
    obtain ⟨ja, jc, rfl, hNj⟩ := OwnI.sln HO2
    have HNj : Hid (Nums w5 ja ids) := hNj
    clear HO2 hNj
    have pK40 := K4_5.out.cell 0 rfl
    have pK41 := K4_5.out.cell 1 rfl
    have pK42 := K4_5.out.cell 2 rfl
    have pK43 := K4_5.out.cell 3 rfl
    have pK44 := K4_5.out.cell 4 rfl
    have pK45 := K4_5.out.cell 5 rfl
    have pK50 := K5_5.out.cell 0 rfl
    have pK51 := K5_5.out.cell 1 rfl
    have pK52 := K5_5.out.cell 2 rfl
    have pK53 := K5_5.out.cell 3 rfl
    go_wp2_with fail
    refine (same_ints ia ja ids ic jc w5 HN_5.out HNj.out (by omega)).mono ?_
    rintro e w6 ⟨rfl, b6⟩
    have b56 := b5.trans (b6.mono b5.size)
    clear b5
    have HV_6 : Hid (VO w6 va l) := HV_5.out.below b6
    have HSX_6 : Hid (SO w6 xa xl) := SO.below HSX_5.out b6
    have K4_6 : Hid (Blk w6 (w1.heap.size) [.int .i64 yh, .int .i64 yt, .string ya, .string yv, .string yn, .string yd] 26) := K4_5.out.below b6 K4_5.out.lt
    have K5_6 : Hid (Blk w6 (w1.heap.size + 1) [.int .i64 xh, .int .i64 xr, .string xi, .slice xa xl.length xc] 29) := K5_5.out.below b6 K5_5.out.lt
    have HN_6 : Hid (Nums w6 ia ids) := HN_5.out.below b6
    clear HV_5 HSX_5 K4_5 K5_5 HN_5
    clear b6 HNj pK40 pK41 pK42 pK43 pK44 pK45 pK50 pK51 pK52 pK53
    have pK40 := K4_6.out.cell 0 rfl
    have pK41 := K4_6.out.cell 1 rfl
    have pK42 := K4_6.out.cell 2 rfl
    have pK43 := K4_6.out.cell 3 rfl
    have pK44 := K4_6.out.cell 4 rfl
    have pK45 := K4_6.out.cell 5 rfl
    have pK50 := K5_6.out.cell 0 rfl
    have pK51 := K5_6.out.cell 1 rfl
    have pK52 := K5_6.out.cell 2 rfl
    have pK53 := K5_6.out.cell 3 rfl
    go_wp2_with fail
    refine (kOs _ HV_6.out HSX_6.out).mono ?_
    rintro e w7 ⟨rfl, b7⟩
    have b57 : Hid (Below w4.heap.size w4 w7) := b56.trans (b7.mono b56.size)
    clear b56
    have HV_7 : Hid (VO w7 va l) := HV_6.out.below b7
    have HSX_7 : Hid (SO w7 xa xl) := SO.below HSX_6.out b7
    have K4_7 : Hid (Blk w7 (w1.heap.size) [.int .i64 yh, .int .i64 yt, .string ya, .string yv, .string yn, .string yd] 26) := K4_6.out.below b7 K4_6.out.lt
    have K5_7 : Hid (Blk w7 (w1.heap.size + 1) [.int .i64 xh, .int .i64 xr, .string xi, .slice xa xl.length xc] 29) := K5_6.out.below b7 K5_6.out.lt
    have HN_7 : Hid (Nums w7 ia ids) := HN_6.out.below b7
    clear HV_6 HSX_6 K4_6 K5_6 HN_6
    clear b7 pK40 pK41 pK42 pK43 pK44 pK45 pK50 pK51 pK52 pK53
    rcases is with _ | _
    · go_wp2_with fail
      go_meet
      exact ⟨rfl, b57⟩
    · have hen1 := (hen.out rfl).1
      subst hen1
      go_wp2_with fail
      refine (kE _ _ _ HV_7.out HN_7.out).mono ?_
      rintro e w8 ⟨rfl, b8⟩
      have b58 : Hid (Below w4.heap.size w4 w8) := b57.out.trans (b8.mono b57.out.size)
      clear b8 b57
      go_wp2_with fail
      go_meet
      exact ⟨rfl, b58⟩
  case rest =>
  rename World => w9
  obtain ⟨rfl, HBy⟩ := hcut
  have HT_8 : Hid (Tab w9) := HT_4.out.below HBy.out HT_4.out.pos
  have HB_8 : Hid (Below w0.heap.size w0 w9) := HB_4.out.trans (HBy.out.mono HB_4.out.size)
  have HV_8 : Hid (VO w9 va l) := HV_4.out.below HBy.out
  have HSX_8 : Hid (SO w9 xa xl) := SO.below HSX_4.out HBy.out
  have K4_8 : Hid (Blk w9 (w1.heap.size) [.int .i64 yh, .int .i64 yt, .string ya, .string yv, .string yn, .string yd] 26) := K4_4.out.below HBy.out K4_4.out.lt
  have K5_8 : Hid (Blk w9 (w1.heap.size + 1) [.int .i64 xh, .int .i64 xr, .string xi, .slice xa xl.length xc] 29) := K5_4.out.below HBy.out K5_4.out.lt
  have HN_8 : Hid (Nums w9 ia ids) := HN_4.out.below HBy.out
  clear HT_4 HB_4 HV_4 HSX_4 K4_4 K5_4 HN_4
  clear HBy kVs kOs kE
  obtain ⟨wa, hwa⟩ : ∃ W, w9.alloc (.cells [.int .i64 yh, .int .i64 yt, .string ya, .string yv, .string yn, .string yd].toArray 26) = W := ⟨_, rfl⟩
  have hba : Below w9.heap.size w9 wa := by rw [← hwa]; exact below_one _ _
  have K8a : Hid (Blk wa w9.heap.size [.int .i64 yh, .int .i64 yt, .string ya, .string yv, .string yn, .string yd] 26) := by rw [← hwa]; exact blk_new _ _ _
  have pK40 := K4_8.out.cell 0 rfl
  have pK41 := K4_8.out.cell 1 rfl
  have pK42 := K4_8.out.cell 2 rfl
  have pK43 := K4_8.out.cell 3 rfl
  have pK44 := K4_8.out.cell 4 rfl
  have pK45 := K4_8.out.cell 5 rfl
  have HT_9 : Hid (Tab wa) := HT_8.out.below hba HT_8.out.pos
  have HB_9 : Hid (Below w0.heap.size w0 wa) := HB_8.out.trans (hba.mono HB_8.out.size)
  have HV_9 : Hid (VO wa va l) := HV_8.out.below hba
  have HSX_9 : Hid (SO wa xa xl) := SO.below HSX_8.out hba
  have K4_9 : Hid (Blk wa (w1.heap.size) [.int .i64 yh, .int .i64 yt, .string ya, .string yv, .string yn, .string yd] 26) := K4_8.out.below hba K4_8.out.lt
  have K5_9 : Hid (Blk wa (w1.heap.size + 1) [.int .i64 xh, .int .i64 xr, .string xi, .slice xa xl.length xc] 29) := K5_8.out.below hba K5_8.out.lt
  have HN_9 : Hid (Nums wa ia ids) := HN_8.out.below hba
  have h4a : w1.heap.size + 1 < wa.heap.size := K5_9.out.lt
  have q1 := K4_9.out.cell 1 rfl
  have r0 := K8a.out.cell 1 rfl
  have r1 := K8a.out.frozen 1
  obtain ⟨ws, hws⟩ : ∃ W, wa.setCell ⟨w9.heap.size, 1, none⟩ (.int .i64 (yt + 1)) = W := ⟨_, rfl⟩
  have hbs : Below w9.heap.size wa ws := by rw [← hws]; exact (Below.refl w9.heap.size wa).setCell (p := ⟨w9.heap.size, 1, none⟩) (Nat.le_refl _) _
  have K8s : Hid (Blk ws w9.heap.size [.int .i64 yh, .int .i64 (yt + 1), .string ya, .string yv, .string yn, .string yd] 26) := by rw [← hws]; exact K8a.out.set 1 _
  have hss : ws.heap.size = wa.heap.size := by rw [← hws]; simp
  have hsa : wa.heap.size = w9.heap.size + 1 := by rw [← hwa]; simp
  have hb9s : Below w9.heap.size w9 ws := hba.trans hbs
  have HT_10 : Hid (Tab ws) := HT_8.out.below hb9s HT_8.out.pos
  have HB_10 : Hid (Below w0.heap.size w0 ws) := HB_8.out.trans (hb9s.mono HB_8.out.size)
  have HV_10 : Hid (VO ws va l) := HV_8.out.below hb9s
  have HSX_10 : Hid (SO ws xa xl) := SO.below HSX_8.out hb9s
  have K4_10 : Hid (Blk ws (w1.heap.size) [.int .i64 yh, .int .i64 yt, .string ya, .string yv, .string yn, .string yd] 26) := K4_8.out.below hb9s K4_8.out.lt
  have K5_10 : Hid (Blk ws (w1.heap.size + 1) [.int .i64 xh, .int .i64 xr, .string xi, .slice xa xl.length xc] 29) := K5_8.out.below hb9s K5_8.out.lt
  have HN_10 : Hid (Nums ws ia ids) := HN_8.out.below hb9s
  clear HT_9 HB_9 HV_9 HSX_9 K4_9 K5_9 HN_9
  clear HT_8 HB_8 HV_8 HSX_8 K4_8 K5_8 HN_8
  have pK50 := K5_10.out.cell 0 rfl
  have pK51 := K5_10.out.cell 1 rfl
  have pK52 := K5_10.out.cell 2 rfl
  have pK53 := K5_10.out.cell 3 rfl
  obtain ⟨w10, hw10⟩ : ∃ W, ws.alloc (.cells [.int .i64 xh, .int .i64 xr, .string xi, .slice xa xl.length xc].toArray 29) = W := ⟨_, rfl⟩
  have hb10 : Below ws.heap.size ws w10 := by rw [← hw10]; exact below_one _ _
  have e9 : ws.heap.size = w9.heap.size + 1 := by omega
  have K9 : Hid (Blk w10 (w9.heap.size + 1) [.int .i64 xh, .int .i64 xr, .string xi, .slice xa xl.length xc] 29) := by rw [← e9, ← hw10]; exact blk_new _ _ _
  have h5s : w1.heap.size + 1 < w9.heap.size + 1 := by have := K5_10.out.lt; omega
  have H9 : Hid (w9.heap.size + 1 < w10.heap.size) := K9.out.lt
  have HT_11 : Hid (Tab w10) := HT_10.out.below hb10 HT_10.out.pos
  have HB_11 : Hid (Below w0.heap.size w0 w10) := HB_10.out.trans (hb10.mono HB_10.out.size)
  have HV_11 : Hid (VO w10 va l) := HV_10.out.below hb10
  have HSX_11 : Hid (SO w10 xa xl) := SO.below HSX_10.out hb10
  have K4_11 : Hid (Blk w10 (w1.heap.size) [.int .i64 yh, .int .i64 yt, .string ya, .string yv, .string yn, .string yd] 26) := K4_10.out.below hb10 K4_10.out.lt
  have K5_11 : Hid (Blk w10 (w1.heap.size + 1) [.int .i64 xh, .int .i64 xr, .string xi, .slice xa xl.length xc] 29) := K5_10.out.below hb10 K5_10.out.lt
  have HN_11 : Hid (Nums w10 ia ids) := HN_10.out.below hb10
  have K8_11 : Hid (Blk w10 (w9.heap.size) [.int .i64 yh, .int .i64 (yt + 1), .string ya, .string yv, .string yn, .string yd] 26) := K8s.out.below hb10 K8s.out.lt
  go_upto_region 11 with fail
  clear hw10 hws hwa q1 r0 r1 K8a hba hbs hb9s hss hsa h4a pK40 pK41 pK42 pK43 pK44 pK45 pK50 pK51 pK52 pK53
  go_cut [] (fun wx => ∃ (da : Option Addr) (dc : Nat), Hid (Below (w9.heap.size + 1) w10 wx) ∧ Hid (Blk wx (w9.heap.size + 1) [.int .i64 xh, .int .i64 xr, .string xi, .slice da dl.length dc] 29) ∧ Hid (SO wx da dl))
  case first =>
    have p5 := K5_11.out.cell 3 rfl
    rcases xa with _ | ad
    · have hn0 : xl = ([] : List Sg) := by
        rcases HSX_11.out with h | ⟨b, o, e, _⟩
        · exact List.eq_nil_of_length_eq_zero h
        · cases e
      subst hn0
      have hd0 : dl = [] := HDL.out.symm
      subst hd0
      refine wp_region_held_drew (S := (fun W : World => W.cell? ⟨w1.heap.size + 1, 3, none⟩ = some (.slice none 0 xc))) (by kernel_rfl) ?_ (fun hHeld => ?_)
      · exact p5
      have hd9 : w9.heap.size + 1 < w10.drew.heap.size := H9.out
      have hbd : Hid (Below (w9.heap.size + 1) w10 w10.drew) := (Below.refl _ _).drew
      have K5d : Hid (Blk w10.drew (w1.heap.size + 1) [.int .i64 xh, .int .i64 xr, .string xi, .slice none 0 xc] 29) := K5_11.out
      have K9d : Hid (Blk w10.drew (w9.heap.size + 1) [.int .i64 xh, .int .i64 xr, .string xi, .slice none 0 xc] 29) := K9.out
      have HSd : Hid (SO w10.drew none []) := HSX_11.out
      generalize w10.drew = wd at *
      refine wpAnyH_take (i := 1) (oi := { dst := Option.some 53, op := Go.Op.fieldAddr 29 (Go.Operand.tmp 5) 3, type := 0, pos := "laws.go:475", after := #[], guard := Option.none }) (v := ?_) rfl (by kernel_rfl) (by kernel_rfl) (by kernel_rfl) (fun _ _ _ h => h) (Or.inl ⟨by rfl, ?_⟩) hHeld ?_
      rotate_left
      · intro w hSw
        try dsimp only at hSw
        go_simp
        try (with_reducible rfl)
      simp only [Act.put, List.setIfInBounds_toArray, List.set_cons_zero, List.set_cons_succ]
      refine wpAnyH_take (i := 2) (oi := { dst := Option.some 54, op := Go.Op.load 27 (Go.Operand.tmp 53), type := 27, pos := "laws.go:475", after := #[{ on := 1, ground := Go.Ground.data }], guard := Option.none }) (v := ?_) rfl (by kernel_rfl) (by kernel_rfl) (by kernel_rfl) (fun _ _ _ h => h) (Or.inl ⟨by rfl, ?_⟩) hHeld ?_
      rotate_left
      · intro w hSw
        try dsimp only at hSw
        go_simp
        try (with_reducible rfl)
      simp only [Act.put, List.setIfInBounds_toArray, List.set_cons_zero, List.set_cons_succ]
      refine wpAnyH_take (i := 4) (oi := { dst := Option.some 56, op := Go.Op.fieldAddr 29 (Go.Operand.tmp 5) 3, type := 0, pos := "laws.go:475", after := #[], guard := Option.none }) (v := ?_) rfl (by kernel_rfl) (by kernel_rfl) (by kernel_rfl) (fun _ _ _ h => h) (Or.inl ⟨by rfl, ?_⟩) hHeld ?_
      rotate_left
      · intro w hSw
        try dsimp only at hSw
        go_simp
        try (with_reducible rfl)
      simp only [Act.put, List.setIfInBounds_toArray, List.set_cons_zero, List.set_cons_succ]
      refine wpAnyH_take (i := 5) (oi := { dst := Option.some 57, op := Go.Op.load 27 (Go.Operand.tmp 56), type := 27, pos := "laws.go:475", after := #[{ on := 4, ground := Go.Ground.data }], guard := Option.none }) (v := ?_) rfl (by kernel_rfl) (by kernel_rfl) (by kernel_rfl) (fun _ _ _ h => h) (Or.inl ⟨by rfl, ?_⟩) hHeld ?_
      rotate_left
      · intro w hSw
        try dsimp only at hSw
        go_simp
        try (with_reducible rfl)
      simp only [Act.put, List.setIfInBounds_toArray, List.set_cons_zero, List.set_cons_succ]
      refine wpAnyH_ready (rs := [0]) (by kernel_rfl) (by decide) ?_
      refine AllReadyH.cons (o := { dst := Option.some 52, op := Go.Op.buildSlice 27 0 #[], type := 27, pos := "laws.go:475", after := #[], guard := Option.none }) rfl (fun K hK => ?_) AllReadyH.nil
      have HO0 : Hid (OwnS (wd.alloc (.cells #[] 62)) wd.heap.size (.slice (some ⟨wd.heap.size, 0, none⟩) 0 0) []) := World.ownsRow_made wd #[] 0 (Nat.le_refl _) (by decide) rfl
      have hb0 : Below wd.heap.size wd (wd.alloc (.cells #[] 62)) := below_one _ _
      have HSa : Hid (SO (wd.alloc (.cells #[] 62)) none []) := SO.below HSd.out hb0
      go_simp
      refine hK.out _ _ ((K5d.out.alloc _).cell 3 rfl) (fun hHeld => ?_)
      clear hK K
      try simp only [Act.put, List.setIfInBounds_toArray, List.set_cons_zero, List.set_cons_succ]
      refine wpAnyH_ready (rs := [3]) (by kernel_rfl) (by decide) ?_
      refine AllReadyH.cons (o := { dst := Option.some 55, op := Go.Op.call { callee := Go.Callee.builtin Go.Builtin.append, args := #[Go.Operand.tmp 52, Go.Operand.tmp 54], argTypes := #[27, 27] }, type := 27, pos := "laws.go:475", after := #[{ on := 0, ground := Go.Ground.data }, { on := 2, ground := Go.Ground.data }], guard := Option.none }) rfl (fun K hK => ?_) AllReadyH.nil
      go_simp
      refine hK.out _ _ ((K5d.out.alloc _).cell 3 rfl) (fun hHeld => ?_)
      clear hK K
      try simp only [Act.put, List.setIfInBounds_toArray, List.set_cons_zero, List.set_cons_succ]
      refine wpAnyH_ready (rs := [6]) (by kernel_rfl) (by decide) ?_
      refine AllReadyH.cons (o := { dst := Option.some 58, op := Go.Op.call { callee := Go.Callee.builtin Go.Builtin.append, args := #[Go.Operand.tmp 55, Go.Operand.tmp 57], argTypes := #[27, 27] }, type := 27, pos := "laws.go:475", after := #[{ on := 3, ground := Go.Ground.data }, { on := 5, ground := Go.Ground.data }, { on := 3, ground := Go.Ground.chain }], guard := Option.none }) rfl (fun K hK => ?_) AllReadyH.nil
      go_simp
      refine hK.out _ _ ((K5d.out.alloc _).cell 3 rfl) (fun hHeld => ?_)
      clear hK K
      try simp only [Act.put, List.setIfInBounds_toArray, List.set_cons_zero, List.set_cons_succ]
      refine wpAnyH_take (i := 7) (oi := { dst := Option.some 59, op := Go.Op.fieldAddr 29 (Go.Operand.tmp 9) 3, type := 0, pos := "laws.go:475", after := #[{ on := 0, ground := Go.Ground.phase }, { on := 1, ground := Go.Ground.phase }, { on := 2, ground := Go.Ground.phase }, { on := 3, ground := Go.Ground.phase }, { on := 4, ground := Go.Ground.phase }, { on := 5, ground := Go.Ground.phase }, { on := 6, ground := Go.Ground.phase }], guard := Option.none }) (v := ?_) rfl (by kernel_rfl) (by kernel_rfl) (by kernel_rfl) (fun _ _ _ h => h) (Or.inl ⟨by rfl, ?_⟩) hHeld ?_
      rotate_left
      · intro w hSw
        try dsimp only at hSw
        go_simp
        try (with_reducible rfl)
      simp only [Act.put, List.setIfInBounds_toArray, List.set_cons_zero, List.set_cons_succ]
      refine wpAnyH_ready (rs := [8]) (by kernel_rfl) (by decide) ?_
      refine AllReadyH.cons (o := { dst := Option.none, op := Go.Op.store 27 (Go.Operand.tmp 59) (Go.Operand.tmp 58), type := 0, pos := "laws.go:475", after := #[{ on := 7, ground := Go.Ground.data }, { on := 6, ground := Go.Ground.data }, { on := 6, ground := Go.Ground.chain }, { on := 0, ground := Go.Ground.phase }, { on := 1, ground := Go.Ground.phase }, { on := 2, ground := Go.Ground.phase }, { on := 3, ground := Go.Ground.phase }, { on := 4, ground := Go.Ground.phase }, { on := 5, ground := Go.Ground.phase }, { on := 6, ground := Go.Ground.phase }], guard := Option.none }) rfl (fun K hK => ?_) AllReadyH.nil
      have K9f : Hid (Blk (wd.alloc (.cells #[] 62)) (w9.heap.size + 1) [.int .i64 xh, .int .i64 xr, .string xi, .slice none 0 xc] 29) := K9d.out.alloc _
      have z3 := K9f.out.cell 3 rfl
      have g3 := K9f.out.frozen 3
      have K5g : Hid (Blk ((wd.setCell ⟨w9.heap.size + 1, 3, none⟩ (.slice (some ⟨wd.heap.size, 0, none⟩) 0 0)).alloc (.cells #[] 62)) (w1.heap.size + 1) [.int .i64 xh, .int .i64 xr, .string xi, .slice none 0 xc] 29) := (K5d.out.other 3 _ (by omega)).alloc _
      have HF9 : Hid (Blk ((wd.setCell ⟨w9.heap.size + 1, 3, none⟩ (.slice (some ⟨wd.heap.size, 0, none⟩) 0 0)).alloc (.cells #[] 62)) (w9.heap.size + 1) [.int .i64 xh, .int .i64 xr, .string xi, .slice (some ⟨wd.heap.size, 0, none⟩) 0 0] 29) := (K9d.out.set 3 _).alloc _
      have HFS : Hid (SO ((wd.setCell ⟨w9.heap.size + 1, 3, none⟩ (.slice (some ⟨wd.heap.size, 0, none⟩) 0 0)).alloc (.cells #[] 62)) (some ⟨wd.heap.size, 0, none⟩) []) := .inl rfl
      have HFB : Hid (Below (w9.heap.size + 1) w10 ((wd.setCell ⟨w9.heap.size + 1, 3, none⟩ (.slice (some ⟨wd.heap.size, 0, none⟩) 0 0)).alloc (.cells #[] 62))) := (hbd.out.setCell (p := ⟨w9.heap.size + 1, 3, none⟩) (Nat.le_refl _) _).alloc (by simp; omega) _
      go_simp
      refine hK.out _ _ (K5g.out.cell 3 rfl) (fun hHeld => ?_)
      clear hK K
      try simp only [Act.put, List.setIfInBounds_toArray, List.set_cons_zero, List.set_cons_succ]
      refine wpAnyH_done (by kernel_rfl) ?_ _
      go_wp2_with fail
      go_meet
      exact ⟨_, _, HFB, HF9, HFS⟩
    · have hap := trivial
      refine wp_region_held_drew (S := (fun W : World => W.cell? ⟨w1.heap.size + 1, 3, none⟩ = some (.slice (some ad) xl.length xc))) (by kernel_rfl) ?_ (fun hHeld => ?_)
      · exact p5
      have hd9 : w9.heap.size + 1 < w10.drew.heap.size := H9.out
      have hbd : Hid (Below (w9.heap.size + 1) w10 w10.drew) := (Below.refl _ _).drew
      have K5d : Hid (Blk w10.drew (w1.heap.size + 1) [.int .i64 xh, .int .i64 xr, .string xi, .slice (some ad) xl.length xc] 29) := K5_11.out
      have K9d : Hid (Blk w10.drew (w9.heap.size + 1) [.int .i64 xh, .int .i64 xr, .string xi, .slice (some ad) xl.length xc] 29) := K9.out
      have HSd : Hid (SO w10.drew (some ad) xl) := HSX_11.out
      generalize w10.drew = wd at *
      refine wpAnyH_take (i := 1) (oi := { dst := Option.some 53, op := Go.Op.fieldAddr 29 (Go.Operand.tmp 5) 3, type := 0, pos := "laws.go:475", after := #[], guard := Option.none }) (v := ?_) rfl (by kernel_rfl) (by kernel_rfl) (by kernel_rfl) (fun _ _ _ h => h) (Or.inl ⟨by rfl, ?_⟩) hHeld ?_
      rotate_left
      · intro w hSw
        try dsimp only at hSw
        go_simp
        try (with_reducible rfl)
      simp only [Act.put, List.setIfInBounds_toArray, List.set_cons_zero, List.set_cons_succ]
      refine wpAnyH_take (i := 2) (oi := { dst := Option.some 54, op := Go.Op.load 27 (Go.Operand.tmp 53), type := 27, pos := "laws.go:475", after := #[{ on := 1, ground := Go.Ground.data }], guard := Option.none }) (v := ?_) rfl (by kernel_rfl) (by kernel_rfl) (by kernel_rfl) (fun _ _ _ h => h) (Or.inl ⟨by rfl, ?_⟩) hHeld ?_
      rotate_left
      · intro w hSw
        try dsimp only at hSw
        go_simp
        try (with_reducible rfl)
      simp only [Act.put, List.setIfInBounds_toArray, List.set_cons_zero, List.set_cons_succ]
      refine wpAnyH_take (i := 4) (oi := { dst := Option.some 56, op := Go.Op.fieldAddr 29 (Go.Operand.tmp 5) 3, type := 0, pos := "laws.go:475", after := #[], guard := Option.none }) (v := ?_) rfl (by kernel_rfl) (by kernel_rfl) (by kernel_rfl) (fun _ _ _ h => h) (Or.inl ⟨by rfl, ?_⟩) hHeld ?_
      rotate_left
      · intro w hSw
        try dsimp only at hSw
        go_simp
        try (with_reducible rfl)
      simp only [Act.put, List.setIfInBounds_toArray, List.set_cons_zero, List.set_cons_succ]
      refine wpAnyH_take (i := 5) (oi := { dst := Option.some 57, op := Go.Op.load 27 (Go.Operand.tmp 56), type := 27, pos := "laws.go:475", after := #[{ on := 4, ground := Go.Ground.data }], guard := Option.none }) (v := ?_) rfl (by kernel_rfl) (by kernel_rfl) (by kernel_rfl) (fun _ _ _ h => h) (Or.inl ⟨by rfl, ?_⟩) hHeld ?_
      rotate_left
      · intro w hSw
        try dsimp only at hSw
        go_simp
        try (with_reducible rfl)
      simp only [Act.put, List.setIfInBounds_toArray, List.set_cons_zero, List.set_cons_succ]
      refine wpAnyH_ready (rs := [0]) (by kernel_rfl) (by decide) ?_
      refine AllReadyH.cons (o := { dst := Option.some 52, op := Go.Op.buildSlice 27 0 #[], type := 27, pos := "laws.go:475", after := #[], guard := Option.none }) rfl (fun K hK => ?_) AllReadyH.nil
      have HO0 : Hid (OwnS (wd.alloc (.cells #[] 62)) wd.heap.size (.slice (some ⟨wd.heap.size, 0, none⟩) 0 0) []) := World.ownsRow_made wd #[] 0 (Nat.le_refl _) (by decide) rfl
      have hb0 : Below wd.heap.size wd (wd.alloc (.cells #[] 62)) := below_one _ _
      have HSa : Hid (SO (wd.alloc (.cells #[] 62)) (some ad) xl) := SO.below HSd.out hb0
      go_simp
      refine hK.out _ _ ((K5d.out.alloc _).cell 3 rfl) (fun hHeld => ?_)
      clear hK K
      try simp only [Act.put, List.setIfInBounds_toArray, List.set_cons_zero, List.set_cons_succ]
      refine wpAnyH_ready (rs := [3]) (by kernel_rfl) (by decide) ?_
      refine AllReadyH.cons (o := { dst := Option.some 55, op := Go.Op.call { callee := Go.Callee.builtin Go.Builtin.append, args := #[Go.Operand.tmp 52, Go.Operand.tmp 54], argTypes := #[27, 27] }, type := 27, pos := "laws.go:475", after := #[{ on := 0, ground := Go.Ground.data }, { on := 2, ground := Go.Ground.data }], guard := Option.none }) rfl (fun K hK => ?_) AllReadyH.nil
      refine step_append_row (by rfl) _ _ 27 (by rfl) wd.heap.size 62 i0 (.agg #[.int .i64 0, .string ⟨#[]⟩]) 2 24 Tryz.underlying27 hinf hz0 hz1 hz2 rfl (by decide) _ _ _ (by rfl) HO0.out ad xl.length xc (sgs xl) (by rfl) (sgs_length xl) (so_news HSa.out) (sgs_one _) (by have e0 : ([] : List Sg).length = 0 := rfl; show _ ≤ maxLen; unfold maxLen; omega) (by have e0 : ([] : List Sg).length = 0 := rfl; show _ ≤ _; omega) (by simp) ?_
      intro v1 we hown1 hgrow1 _
      have hO1 : OwnS we wd.heap.size v1 xl := by
        have e : 0 + xl.length = xl.length := Nat.zero_add _
        have h : we.ownsRow wd.heap.size 62 2 v1 (0 + xl.length) (sgs xl) := hown1
        rw [e] at h; exact h
      have hbe : Below wd.heap.size wd we := hb0.grown hgrow1 (by simp) (fun j hj => (HO0.out.lt j hj).1)
      obtain ⟨a1, c1, rfl⟩ := own_shape hO1
      have K5e : Hid (Blk we (w1.heap.size + 1) [.int .i64 xh, .int .i64 xr, .string xi, .slice (some ad) xl.length xc] 29) := K5d.out.below hbe K5d.out.lt
      have HSe : Hid (SO we (some ad) xl) := SO.below HSd.out hbe
      have HO1 : Hid (OwnS we wd.heap.size (.slice a1 xl.length c1) xl) := hO1
      have hse : wd.heap.size ≤ we.heap.size := hbe.size
      clear hown1 hgrow1 hO1
      refine hK.out _ _ (K5e.out.cell 3 rfl) (fun hHeld => ?_)
      clear hK K
      try simp only [Act.put, List.setIfInBounds_toArray, List.set_cons_zero, List.set_cons_succ]
      refine wpAnyH_ready (rs := [6]) (by kernel_rfl) (by decide) ?_
      refine AllReadyH.cons (o := { dst := Option.some 58, op := Go.Op.call { callee := Go.Callee.builtin Go.Builtin.append, args := #[Go.Operand.tmp 55, Go.Operand.tmp 57], argTypes := #[27, 27] }, type := 27, pos := "laws.go:475", after := #[{ on := 3, ground := Go.Ground.data }, { on := 5, ground := Go.Ground.data }, { on := 3, ground := Go.Ground.chain }], guard := Option.none }) rfl (fun K hK => ?_) AllReadyH.nil
      refine step_append_row (by rfl) _ _ 27 (by rfl) wd.heap.size 62 i0 (.agg #[.int .i64 0, .string ⟨#[]⟩]) 2 24 Tryz.underlying27 hinf hz0 hz1 hz2 rfl (by decide) _ _ _ (by rfl) HO1.out ad xl.length xc (sgs xl) (by rfl) (sgs_length xl) (so_news HSe.out) (sgs_one _) (by have e0 : ([] : List Sg).length = 0 := rfl; show _ ≤ maxLen; unfold maxLen; omega) (by have e0 : ([] : List Sg).length = 0 := rfl; show _ ≤ _; omega) (hse) ?_
      intro v2 wf hown2 hgrow2 _
      have hO2 : OwnS wf wd.heap.size v2 dl := by
        unfold OwnS
        rw [← HDL.out, sgs_append, List.length_append]; exact hown2
      have hbf : Below wd.heap.size wd wf := hbe.grown hgrow2 hse (fun j hj => (HO1.out.lt j hj).1)
      rw [hdn] at hown2
      obtain ⟨a2, c2, rfl⟩ := own_shape hO2
      have K5f : Hid (Blk wf (w1.heap.size + 1) [.int .i64 xh, .int .i64 xr, .string xi, .slice (some ad) xl.length xc] 29) := K5d.out.below hbf K5d.out.lt
      have K9f : Hid (Blk wf (w9.heap.size + 1) [.int .i64 xh, .int .i64 xr, .string xi, .slice (some ad) xl.length xc] 29) := K9d.out.below hbf K9d.out.lt
      have HO2 : Hid (OwnS wf wd.heap.size (.slice a2 dl.length c2) dl) := hO2
      clear hown2 hgrow2 hO2
      refine hK.out _ _ (K5f.out.cell 3 rfl) (fun hHeld => ?_)
      clear hK K
      try simp only [Act.put, List.setIfInBounds_toArray, List.set_cons_zero, List.set_cons_succ]
      refine wpAnyH_take (i := 7) (oi := { dst := Option.some 59, op := Go.Op.fieldAddr 29 (Go.Operand.tmp 9) 3, type := 0, pos := "laws.go:475", after := #[{ on := 0, ground := Go.Ground.phase }, { on := 1, ground := Go.Ground.phase }, { on := 2, ground := Go.Ground.phase }, { on := 3, ground := Go.Ground.phase }, { on := 4, ground := Go.Ground.phase }, { on := 5, ground := Go.Ground.phase }, { on := 6, ground := Go.Ground.phase }], guard := Option.none }) (v := ?_) rfl (by kernel_rfl) (by kernel_rfl) (by kernel_rfl) (fun _ _ _ h => h) (Or.inl ⟨by rfl, ?_⟩) hHeld ?_
      rotate_left
      · intro w hSw
        try dsimp only at hSw
        go_simp
        try (with_reducible rfl)
      simp only [Act.put, List.setIfInBounds_toArray, List.set_cons_zero, List.set_cons_succ]
      refine wpAnyH_ready (rs := [8]) (by kernel_rfl) (by decide) ?_
      refine AllReadyH.cons (o := { dst := Option.none, op := Go.Op.store 27 (Go.Operand.tmp 59) (Go.Operand.tmp 58), type := 0, pos := "laws.go:475", after := #[{ on := 7, ground := Go.Ground.data }, { on := 6, ground := Go.Ground.data }, { on := 6, ground := Go.Ground.chain }, { on := 0, ground := Go.Ground.phase }, { on := 1, ground := Go.Ground.phase }, { on := 2, ground := Go.Ground.phase }, { on := 3, ground := Go.Ground.phase }, { on := 4, ground := Go.Ground.phase }, { on := 5, ground := Go.Ground.phase }, { on := 6, ground := Go.Ground.phase }], guard := Option.none }) rfl (fun K hK => ?_) AllReadyH.nil
      have z3 := K9f.out.cell 3 rfl
      have g3 := K9f.out.frozen 3
      have K5g : Hid (Blk (wf.setCell ⟨w9.heap.size + 1, 3, none⟩ (.slice a2 dl.length c2)) (w1.heap.size + 1) [.int .i64 xh, .int .i64 xr, .string xi, .slice (some ad) xl.length xc] 29) := K5f.out.other 3 _ (by omega)
      have HF9 : Hid (Blk (wf.setCell ⟨w9.heap.size + 1, 3, none⟩ (.slice a2 dl.length c2))  (w9.heap.size + 1) [.int .i64 xh, .int .i64 xr, .string xi, .slice a2 dl.length c2] 29) := K9f.out.set 3 _
      have HFS : Hid (SO (wf.setCell ⟨w9.heap.size + 1, 3, none⟩ (.slice a2 dl.length c2)) a2 dl) := (OwnS.sl (own_else HO2.out (gr_set wf (w9.heap.size + 1) 3 _) (fun j hj => by have := (HO2.out.lt j hj).1; omega))).1
      have HFB : Hid (Below (w9.heap.size + 1) w10 (wf.setCell ⟨w9.heap.size + 1, 3, none⟩ (.slice a2 dl.length c2))) := (hbd.out.trans (hbf.mono (by omega))).setCell (p := ⟨w9.heap.size + 1, 3, none⟩) (Nat.le_refl _) _
      go_simp
      refine hK.out _ _ (K5g.out.cell 3 rfl) (fun hHeld => ?_)
      clear hK K
      try simp only [Act.put, List.setIfInBounds_toArray, List.set_cons_zero, List.set_cons_succ]
      refine wpAnyH_done (by kernel_rfl) ?_ _
      go_wp2_with fail
      go_meet
      exact ⟨a2, c2, HFB, HF9, HFS⟩
  case rest =>
  rename World => w11
  obtain ⟨da, dc, HBz, K9z, HSDz⟩ := hcut
  have hbz : Below ws.heap.size ws w11 := hb10.trans (by rw [e9]; exact HBz.out)
  clear HBz H9 K9 hb10 HT_11 HB_11 HV_11 HSX_11 K4_11 K5_11 HN_11 K8_11
  have HT_12 : Hid (Tab w11) := HT_10.out.below hbz HT_10.out.pos
  have HB_12 : Hid (Below w0.heap.size w0 w11) := HB_10.out.trans (hbz.mono HB_10.out.size)
  have HV_12 : Hid (VO w11 va l) := HV_10.out.below hbz
  have HSX_12 : Hid (SO w11 xa xl) := SO.below HSX_10.out hbz
  have K4_12 : Hid (Blk w11 (w1.heap.size) [.int .i64 yh, .int .i64 yt, .string ya, .string yv, .string yn, .string yd] 26) := K4_10.out.below hbz K4_10.out.lt
  have K5_12 : Hid (Blk w11 (w1.heap.size + 1) [.int .i64 xh, .int .i64 xr, .string xi, .slice xa xl.length xc] 29) := K5_10.out.below hbz K5_10.out.lt
  have HN_12 : Hid (Nums w11 ia ids) := HN_10.out.below hbz
  have K8_12 : Hid (Blk w11 (w9.heap.size) [.int .i64 yh, .int .i64 (yt + 1), .string ya, .string yv, .string yn, .string yd] 26) := K8s.out.below hbz K8s.out.lt
  clear HT_10 HB_10 HV_10 HSX_10 K4_10 K5_10 HN_10 K8s
  clear hbz
  have hdr : Below w11.heap.size w11 w11.drew := (Below.refl _ _).drew
  have HT_13 : Hid (Tab w11.drew) := HT_12.out.below hdr HT_12.out.pos
  have HB_13 : Hid (Below w0.heap.size w0 w11.drew) := HB_12.out.trans (hdr.mono HB_12.out.size)
  have HV_13 : Hid (VO w11.drew va l) := HV_12.out.below hdr
  have HSX_13 : Hid (SO w11.drew xa xl) := SO.below HSX_12.out hdr
  have K4_13 : Hid (Blk w11.drew (w1.heap.size) [.int .i64 yh, .int .i64 yt, .string ya, .string yv, .string yn, .string yd] 26) := K4_12.out.below hdr K4_12.out.lt
  have K5_13 : Hid (Blk w11.drew (w1.heap.size + 1) [.int .i64 xh, .int .i64 xr, .string xi, .slice xa xl.length xc] 29) := K5_12.out.below hdr K5_12.out.lt
  have HN_13 : Hid (Nums w11.drew ia ids) := HN_12.out.below hdr
  have K8_13 : Hid (Blk w11.drew (w9.heap.size) [.int .i64 yh, .int .i64 (yt + 1), .string ya, .string yv, .string yn, .string yd] 26) := K8_12.out.below hdr K8_12.out.lt
  have K9_13 : Hid (Blk w11.drew (w9.heap.size + 1) [.int .i64 xh, .int .i64 xr, .string xi, .slice da dl.length dc] 29) := K9z.out.below hdr K9z.out.lt
  have HSD_13 : Hid (SO w11.drew da dl) := SO.below HSDz.out hdr
  clear HT_12 HB_12 HV_12 HSX_12 K4_12 K5_12 HN_12 K8_12 K9z HSDz
  clear hdr
  rcases is with _ | _
  · clear hD hen heg hep
    go_wp2_with fail
    refine wp_region_held_drew (S := (fun W : World => (W.cell? ⟨w9.heap.size, 0, none⟩ = some (.int .i64 yh) ∧ W.cell? ⟨w9.heap.size, 1, none⟩ = some (.int .i64 (yt + 1)) ∧ W.cell? ⟨w9.heap.size, 2, none⟩ = some (.string ya) ∧ W.cell? ⟨w9.heap.size, 3, none⟩ = some (.string yv) ∧ W.cell? ⟨w9.heap.size, 4, none⟩ = some (.string yn) ∧ W.cell? ⟨w9.heap.size, 5, none⟩ = some (.string yd)) ∧ (W.cell? ⟨w1.heap.size, 0, none⟩ = some (.int .i64 yh) ∧ W.cell? ⟨w1.heap.size, 1, none⟩ = some (.int .i64 yt) ∧ W.cell? ⟨w1.heap.size, 2, none⟩ = some (.string ya) ∧ W.cell? ⟨w1.heap.size, 3, none⟩ = some (.string yv) ∧ W.cell? ⟨w1.heap.size, 4, none⟩ = some (.string yn) ∧ W.cell? ⟨w1.heap.size, 5, none⟩ = some (.string yd)) ∧ (W.cell? ⟨w1.heap.size + 1, 0, none⟩ = some (.int .i64 xh) ∧ W.cell? ⟨w1.heap.size + 1, 1, none⟩ = some (.int .i64 xr) ∧ W.cell? ⟨w1.heap.size + 1, 2, none⟩ = some (.string xi) ∧ W.cell? ⟨w1.heap.size + 1, 3, none⟩ = some (.slice xa xl.length xc)) ∧ (W.cell? ⟨w9.heap.size + 1, 0, none⟩ = some (.int .i64 xh) ∧ W.cell? ⟨w9.heap.size + 1, 1, none⟩ = some (.int .i64 xr) ∧ W.cell? ⟨w9.heap.size + 1, 2, none⟩ = some (.string xi) ∧ W.cell? ⟨w9.heap.size + 1, 3, none⟩ = some (.slice da dl.length dc)))) (by kernel_rfl) ?_ (fun hHeld => ?_)
    · exact ⟨⟨(K8_13.out).cell 0 rfl, (K8_13.out).cell 1 rfl, (K8_13.out).cell 2 rfl, (K8_13.out).cell 3 rfl, (K8_13.out).cell 4 rfl, (K8_13.out).cell 5 rfl⟩, ⟨(K4_13.out).cell 0 rfl, (K4_13.out).cell 1 rfl, (K4_13.out).cell 2 rfl, (K4_13.out).cell 3 rfl, (K4_13.out).cell 4 rfl, (K4_13.out).cell 5 rfl⟩, ⟨(K5_13.out).cell 0 rfl, (K5_13.out).cell 1 rfl, (K5_13.out).cell 2 rfl, (K5_13.out).cell 3 rfl⟩, ⟨(K9_13.out).cell 0 rfl, (K9_13.out).cell 1 rfl, (K9_13.out).cell 2 rfl, (K9_13.out).cell 3 rfl⟩⟩
    generalize w11.drew = wd at *
    refine wpAnyH_take (i := 0) (oi := { dst := Option.some 60, op := Go.Op.move (Go.Operand.tmp 7), type := 4, pos := "laws.go:476", after := #[], guard := Option.none }) (v := ?_) rfl (by kernel_rfl) (by kernel_rfl) (by kernel_rfl) (fun _ _ _ h => h) (Or.inl ⟨by rfl, ?_⟩) hHeld ?_
    rotate_left
    · intro w hSw
      try dsimp only at hSw
      go_simp
      try (with_reducible rfl)
    simp only [Act.put, List.setIfInBounds_toArray, List.set_cons_zero, List.set_cons_succ]
    refine wpAnyH_take (i := 1) (oi := { dst := Option.some 61, op := Go.Op.unOp Go.UnOp.not 4 (Go.Operand.tmp 60), type := 4, pos := "laws.go:476", after := #[{ on := 0, ground := Go.Ground.data }], guard := Option.none }) (v := ?_) rfl (by kernel_rfl) (by kernel_rfl) (by kernel_rfl) (fun _ _ _ h => h) (Or.inl ⟨by rfl, ?_⟩) hHeld ?_
    rotate_left
    · intro w hSw
      try dsimp only at hSw
      go_simp
      try (with_reducible rfl)
    simp only [Act.put, List.setIfInBounds_toArray, List.set_cons_zero, List.set_cons_succ]
    refine wpAnyH_take (i := 2) (oi := { dst := Option.some 62, op := Go.Op.move (Go.Operand.tmp 61), type := 4, pos := "laws.go:476", after := #[{ on := 1, ground := Go.Ground.data }], guard := Option.none }) (v := ?_) rfl (by kernel_rfl) (by kernel_rfl) (by kernel_rfl) (fun _ _ _ h => h) (Or.inl ⟨by rfl, ?_⟩) hHeld ?_
    rotate_left
    · intro w hSw
      try dsimp only at hSw
      go_simp
      try (with_reducible rfl)
    simp only [Act.put, List.setIfInBounds_toArray, List.set_cons_zero, List.set_cons_succ]
    refine wpAnyH_take (i := 3) (oi := { dst := Option.some 63, op := Go.Op.move (Go.Operand.tmp 3), type := 24, pos := "laws.go:476", after := #[{ on := 2, ground := Go.Ground.guard }], guard := Option.some (2, Bool.false) }) (v := undef) rfl (by kernel_rfl) (by kernel_rfl) (by kernel_rfl) (fun _ _ _ h => h) (Or.inr ⟨by rfl, rfl⟩) hHeld ?_
    simp only [Act.put, List.setIfInBounds_toArray, List.set_cons_zero, List.set_cons_succ]
    refine wpAnyH_take (i := 4) (oi := { dst := Option.some 64, op := Go.Op.load 26 (Go.Operand.tmp 8), type := 26, pos := "laws.go:476", after := #[{ on := 2, ground := Go.Ground.guard }], guard := Option.some (2, Bool.false) }) (v := undef) rfl (by kernel_rfl) (by kernel_rfl) (by kernel_rfl) (fun _ _ _ h => h) (Or.inr ⟨by rfl, rfl⟩) hHeld ?_
    simp only [Act.put, List.setIfInBounds_toArray, List.set_cons_zero, List.set_cons_succ]
    refine wpAnyH_take (i := 5) (oi := { dst := Option.some 65, op := Go.Op.load 29 (Go.Operand.tmp 5), type := 29, pos := "laws.go:476", after := #[{ on := 2, ground := Go.Ground.guard }], guard := Option.some (2, Bool.false) }) (v := undef) rfl (by kernel_rfl) (by kernel_rfl) (by kernel_rfl) (fun _ _ _ h => h) (Or.inr ⟨by rfl, rfl⟩) hHeld ?_
    simp only [Act.put, List.setIfInBounds_toArray, List.set_cons_zero, List.set_cons_succ]
    refine wpAnyH_take (i := 6) (oi := { dst := Option.some 66, op := Go.Op.call { callee := Go.Callee.value (Go.Operand.func 8), args := #[Go.Operand.tmp 63, Go.Operand.tmp 64, Go.Operand.tmp 65], argTypes := #[24, 26, 29] }, type := 4, pos := "laws.go:476", after := #[{ on := 3, ground := Go.Ground.data }, { on := 4, ground := Go.Ground.data }, { on := 5, ground := Go.Ground.data }, { on := 2, ground := Go.Ground.chain }, { on := 2, ground := Go.Ground.guard }], guard := Option.some (2, Bool.false) }) (v := undef) rfl (by kernel_rfl) (by kernel_rfl) (by kernel_rfl) (fun _ _ _ h => h) (Or.inr ⟨by rfl, rfl⟩) hHeld ?_
    simp only [Act.put, List.setIfInBounds_toArray, List.set_cons_zero, List.set_cons_succ]
    refine wpAnyH_take (i := 7) (oi := { dst := Option.some 67, op := Go.Op.unOp Go.UnOp.not 4 (Go.Operand.tmp 66), type := 4, pos := "laws.go:476", after := #[{ on := 6, ground := Go.Ground.data }, { on := 2, ground := Go.Ground.guard }], guard := Option.some (2, Bool.false) }) (v := undef) rfl (by kernel_rfl) (by kernel_rfl) (by kernel_rfl) (fun _ _ _ h => h) (Or.inr ⟨by rfl, rfl⟩) hHeld ?_
    simp only [Act.put, List.setIfInBounds_toArray, List.set_cons_zero, List.set_cons_succ]
    refine wpAnyH_take (i := 8) (oi := { dst := Option.some 68, op := Go.Op.move (Go.Operand.tmp 67), type := 4, pos := "laws.go:476", after := #[{ on := 7, ground := Go.Ground.data }, { on := 6, ground := Go.Ground.chain }, { on := 2, ground := Go.Ground.guard }], guard := Option.some (2, Bool.false) }) (v := undef) rfl (by kernel_rfl) (by kernel_rfl) (by kernel_rfl) (fun _ _ _ h => h) (Or.inr ⟨by rfl, rfl⟩) hHeld ?_
    simp only [Act.put, List.setIfInBounds_toArray, List.set_cons_zero, List.set_cons_succ]
    refine wpAnyH_take (i := 9) (oi := { dst := Option.some 69, op := Go.Op.load 26 (Go.Operand.tmp 8), type := 26, pos := "laws.go:476", after := #[{ on := 8, ground := Go.Ground.guard }], guard := Option.some (8, Bool.false) }) (v := undef) rfl (by kernel_rfl) (by kernel_rfl) (by kernel_rfl) (fun _ _ _ h => h) (Or.inr ⟨by rfl, rfl⟩) hHeld ?_
    simp only [Act.put, List.setIfInBounds_toArray, List.set_cons_zero, List.set_cons_succ]
    refine wpAnyH_take (i := 10) (oi := { dst := Option.some 70, op := Go.Op.call { callee := Go.Callee.value (Go.Operand.func 13), args := #[Go.Operand.tmp 69], argTypes := #[26] }, type := 9, pos := "laws.go:476", after := #[{ on := 9, ground := Go.Ground.data }, { on := 8, ground := Go.Ground.chain }, { on := 8, ground := Go.Ground.guard }], guard := Option.some (8, Bool.false) }) (v := undef) rfl (by kernel_rfl) (by kernel_rfl) (by kernel_rfl) (fun _ _ _ h => h) (Or.inr ⟨by rfl, rfl⟩) hHeld ?_
    simp only [Act.put, List.setIfInBounds_toArray, List.set_cons_zero, List.set_cons_succ]
    refine wpAnyH_take (i := 11) (oi := { dst := Option.some 71, op := Go.Op.load 26 (Go.Operand.tmp 4), type := 26, pos := "laws.go:476", after := #[{ on := 8, ground := Go.Ground.guard }], guard := Option.some (8, Bool.false) }) (v := undef) rfl (by kernel_rfl) (by kernel_rfl) (by kernel_rfl) (fun _ _ _ h => h) (Or.inr ⟨by rfl, rfl⟩) hHeld ?_
    simp only [Act.put, List.setIfInBounds_toArray, List.set_cons_zero, List.set_cons_succ]
    refine wpAnyH_take (i := 12) (oi := { dst := Option.some 72, op := Go.Op.call { callee := Go.Callee.value (Go.Operand.func 13), args := #[Go.Operand.tmp 71], argTypes := #[26] }, type := 9, pos := "laws.go:476", after := #[{ on := 11, ground := Go.Ground.data }, { on := 10, ground := Go.Ground.chain }, { on := 8, ground := Go.Ground.guard }], guard := Option.some (8, Bool.false) }) (v := undef) rfl (by kernel_rfl) (by kernel_rfl) (by kernel_rfl) (fun _ _ _ h => h) (Or.inr ⟨by rfl, rfl⟩) hHeld ?_
    simp only [Act.put, List.setIfInBounds_toArray, List.set_cons_zero, List.set_cons_succ]
    refine wpAnyH_take (i := 13) (oi := { dst := Option.some 73, op := Go.Op.binOp Go.BinOp.eql 9 (Go.Operand.tmp 70) (Go.Operand.tmp 72) 9, type := 4, pos := "laws.go:476", after := #[{ on := 10, ground := Go.Ground.data }, { on := 12, ground := Go.Ground.data }, { on := 8, ground := Go.Ground.guard }], guard := Option.some (8, Bool.false) }) (v := undef) rfl (by kernel_rfl) (by kernel_rfl) (by kernel_rfl) (fun _ _ _ h => h) (Or.inr ⟨by rfl, rfl⟩) hHeld ?_
    simp only [Act.put, List.setIfInBounds_toArray, List.set_cons_zero, List.set_cons_succ]
    refine wpAnyH_take (i := 14) (oi := { dst := Option.some 74, op := Go.Op.pick (Go.Operand.tmp 68) (Go.Operand.const (Go.Value.bool Bool.true)) (Go.Operand.tmp 73), type := 4, pos := "laws.go:476", after := #[{ on := 8, ground := Go.Ground.data }, { on := 13, ground := Go.Ground.data }, { on := 2, ground := Go.Ground.guard }], guard := Option.some (2, Bool.false) }) (v := undef) rfl (by kernel_rfl) (by kernel_rfl) (by kernel_rfl) (fun _ _ _ h => h) (Or.inr ⟨by rfl, rfl⟩) hHeld ?_
    simp only [Act.put, List.setIfInBounds_toArray, List.set_cons_zero, List.set_cons_succ]
    refine wpAnyH_take (i := 15) (oi := { dst := Option.some 75, op := Go.Op.move (Go.Operand.tmp 74), type := 4, pos := "laws.go:476", after := #[{ on := 14, ground := Go.Ground.data }, { on := 12, ground := Go.Ground.chain }, { on := 2, ground := Go.Ground.guard }], guard := Option.some (2, Bool.false) }) (v := undef) rfl (by kernel_rfl) (by kernel_rfl) (by kernel_rfl) (fun _ _ _ h => h) (Or.inr ⟨by rfl, rfl⟩) hHeld ?_
    simp only [Act.put, List.setIfInBounds_toArray, List.set_cons_zero, List.set_cons_succ]
    refine wpAnyH_take (i := 16) (oi := { dst := Option.some 76, op := Go.Op.fieldAddr 29 (Go.Operand.tmp 9) 3, type := 0, pos := "laws.go:476", after := #[{ on := 15, ground := Go.Ground.guard }], guard := Option.some (15, Bool.true) }) (v := undef) rfl (by kernel_rfl) (by kernel_rfl) (by kernel_rfl) (fun _ _ _ h => h) (Or.inr ⟨by rfl, rfl⟩) hHeld ?_
    simp only [Act.put, List.setIfInBounds_toArray, List.set_cons_zero, List.set_cons_succ]
    refine wpAnyH_take (i := 17) (oi := { dst := Option.some 77, op := Go.Op.load 27 (Go.Operand.tmp 76), type := 27, pos := "laws.go:476", after := #[{ on := 16, ground := Go.Ground.data }, { on := 15, ground := Go.Ground.guard }], guard := Option.some (15, Bool.true) }) (v := undef) rfl (by kernel_rfl) (by kernel_rfl) (by kernel_rfl) (fun _ _ _ h => h) (Or.inr ⟨by rfl, rfl⟩) hHeld ?_
    simp only [Act.put, List.setIfInBounds_toArray, List.set_cons_zero, List.set_cons_succ]
    refine wpAnyH_take (i := 18) (oi := { dst := Option.some 78, op := Go.Op.call { callee := Go.Callee.builtin Go.Builtin.len, args := #[Go.Operand.tmp 77], argTypes := #[27] }, type := 3, pos := "laws.go:476", after := #[{ on := 17, ground := Go.Ground.data }, { on := 15, ground := Go.Ground.guard }], guard := Option.some (15, Bool.true) }) (v := undef) rfl (by kernel_rfl) (by kernel_rfl) (by kernel_rfl) (fun _ _ _ h => h) (Or.inr ⟨by rfl, rfl⟩) hHeld ?_
    simp only [Act.put, List.setIfInBounds_toArray, List.set_cons_zero, List.set_cons_succ]
    refine wpAnyH_take (i := 19) (oi := { dst := Option.some 79, op := Go.Op.binOp Go.BinOp.gtr 3 (Go.Operand.tmp 78) (Go.Operand.const (Go.Value.int Go.IntKind.i64 12)) 3, type := 4, pos := "laws.go:476", after := #[{ on := 18, ground := Go.Ground.data }, { on := 15, ground := Go.Ground.guard }], guard := Option.some (15, Bool.true) }) (v := undef) rfl (by kernel_rfl) (by kernel_rfl) (by kernel_rfl) (fun _ _ _ h => h) (Or.inr ⟨by rfl, rfl⟩) hHeld ?_
    simp only [Act.put, List.setIfInBounds_toArray, List.set_cons_zero, List.set_cons_succ]
    refine wpAnyH_take (i := 20) (oi := { dst := Option.some 80, op := Go.Op.move (Go.Operand.tmp 79), type := 4, pos := "laws.go:476", after := #[{ on := 19, ground := Go.Ground.data }, { on := 15, ground := Go.Ground.chain }, { on := 15, ground := Go.Ground.guard }], guard := Option.some (15, Bool.true) }) (v := undef) rfl (by kernel_rfl) (by kernel_rfl) (by kernel_rfl) (fun _ _ _ h => h) (Or.inr ⟨by rfl, rfl⟩) hHeld ?_
    simp only [Act.put, List.setIfInBounds_toArray, List.set_cons_zero, List.set_cons_succ]
    refine wpAnyH_take (i := 21) (oi := { dst := Option.some 81, op := Go.Op.move (Go.Operand.tmp 3), type := 24, pos := "laws.go:476", after := #[{ on := 20, ground := Go.Ground.guard }], guard := Option.some (20, Bool.false) }) (v := undef) rfl (by kernel_rfl) (by kernel_rfl) (by kernel_rfl) (fun _ _ _ h => h) (Or.inr ⟨by rfl, rfl⟩) hHeld ?_
    simp only [Act.put, List.setIfInBounds_toArray, List.set_cons_zero, List.set_cons_succ]
    refine wpAnyH_take (i := 22) (oi := { dst := Option.some 82, op := Go.Op.load 26 (Go.Operand.tmp 4), type := 26, pos := "laws.go:476", after := #[{ on := 20, ground := Go.Ground.guard }], guard := Option.some (20, Bool.false) }) (v := undef) rfl (by kernel_rfl) (by kernel_rfl) (by kernel_rfl) (fun _ _ _ h => h) (Or.inr ⟨by rfl, rfl⟩) hHeld ?_
    simp only [Act.put, List.setIfInBounds_toArray, List.set_cons_zero, List.set_cons_succ]
    refine wpAnyH_take (i := 23) (oi := { dst := Option.some 83, op := Go.Op.load 29 (Go.Operand.tmp 9), type := 29, pos := "laws.go:476", after := #[{ on := 20, ground := Go.Ground.guard }], guard := Option.some (20, Bool.false) }) (v := undef) rfl (by kernel_rfl) (by kernel_rfl) (by kernel_rfl) (fun _ _ _ h => h) (Or.inr ⟨by rfl, rfl⟩) hHeld ?_
    simp only [Act.put, List.setIfInBounds_toArray, List.set_cons_zero, List.set_cons_succ]
    refine wpAnyH_take (i := 24) (oi := { dst := Option.some 84, op := Go.Op.call { callee := Go.Callee.value (Go.Operand.func 8), args := #[Go.Operand.tmp 81, Go.Operand.tmp 82, Go.Operand.tmp 83], argTypes := #[24, 26, 29] }, type := 4, pos := "laws.go:476", after := #[{ on := 21, ground := Go.Ground.data }, { on := 22, ground := Go.Ground.data }, { on := 23, ground := Go.Ground.data }, { on := 20, ground := Go.Ground.chain }, { on := 20, ground := Go.Ground.guard }], guard := Option.some (20, Bool.false) }) (v := undef) rfl (by kernel_rfl) (by kernel_rfl) (by kernel_rfl) (fun _ _ _ h => h) (Or.inr ⟨by rfl, rfl⟩) hHeld ?_
    simp only [Act.put, List.setIfInBounds_toArray, List.set_cons_zero, List.set_cons_succ]
    refine wpAnyH_take (i := 25) (oi := { dst := Option.some 85, op := Go.Op.pick (Go.Operand.tmp 80) (Go.Operand.const (Go.Value.bool Bool.true)) (Go.Operand.tmp 84), type := 4, pos := "laws.go:476", after := #[{ on := 20, ground := Go.Ground.data }, { on := 24, ground := Go.Ground.data }, { on := 15, ground := Go.Ground.guard }], guard := Option.some (15, Bool.true) }) (v := undef) rfl (by kernel_rfl) (by kernel_rfl) (by kernel_rfl) (fun _ _ _ h => h) (Or.inr ⟨by rfl, rfl⟩) hHeld ?_
    simp only [Act.put, List.setIfInBounds_toArray, List.set_cons_zero, List.set_cons_succ]
    refine wpAnyH_take (i := 26) (oi := { dst := Option.some 86, op := Go.Op.pick (Go.Operand.tmp 75) (Go.Operand.tmp 85) (Go.Operand.const (Go.Value.bool Bool.false)), type := 4, pos := "laws.go:476", after := #[{ on := 15, ground := Go.Ground.data }, { on := 25, ground := Go.Ground.data }, { on := 2, ground := Go.Ground.guard }], guard := Option.some (2, Bool.false) }) (v := undef) rfl (by kernel_rfl) (by kernel_rfl) (by kernel_rfl) (fun _ _ _ h => h) (Or.inr ⟨by rfl, rfl⟩) hHeld ?_
    simp only [Act.put, List.setIfInBounds_toArray, List.set_cons_zero, List.set_cons_succ]
    refine wpAnyH_take (i := 27) (oi := { dst := Option.some 87, op := Go.Op.move (Go.Operand.tmp 86), type := 4, pos := "laws.go:476", after := #[{ on := 26, ground := Go.Ground.data }, { on := 24, ground := Go.Ground.chain }, { on := 2, ground := Go.Ground.guard }], guard := Option.some (2, Bool.false) }) (v := undef) rfl (by kernel_rfl) (by kernel_rfl) (by kernel_rfl) (fun _ _ _ h => h) (Or.inr ⟨by rfl, rfl⟩) hHeld ?_
    simp only [Act.put, List.setIfInBounds_toArray, List.set_cons_zero, List.set_cons_succ]
    refine wpAnyH_take (i := 28) (oi := { dst := Option.some 88, op := Go.Op.move (Go.Operand.tmp 6), type := 32, pos := "laws.go:476", after := #[{ on := 27, ground := Go.Ground.guard }], guard := Option.some (27, Bool.true) }) (v := undef) rfl (by kernel_rfl) (by kernel_rfl) (by kernel_rfl) (fun _ _ _ h => h) (Or.inr ⟨by rfl, rfl⟩) hHeld ?_
    simp only [Act.put, List.setIfInBounds_toArray, List.set_cons_zero, List.set_cons_succ]
    refine wpAnyH_take (i := 29) (oi := { dst := Option.some 89, op := Go.Op.call { callee := Go.Callee.builtin Go.Builtin.len, args := #[Go.Operand.tmp 88], argTypes := #[32] }, type := 3, pos := "laws.go:476", after := #[{ on := 28, ground := Go.Ground.data }, { on := 27, ground := Go.Ground.guard }], guard := Option.some (27, Bool.true) }) (v := undef) rfl (by kernel_rfl) (by kernel_rfl) (by kernel_rfl) (fun _ _ _ h => h) (Or.inr ⟨by rfl, rfl⟩) hHeld ?_
    simp only [Act.put, List.setIfInBounds_toArray, List.set_cons_zero, List.set_cons_succ]
    refine wpAnyH_take (i := 30) (oi := { dst := Option.some 90, op := Go.Op.binOp Go.BinOp.gtr 3 (Go.Operand.tmp 89) (Go.Operand.const (Go.Value.int Go.IntKind.i64 0)) 3, type := 4, pos := "laws.go:476", after := #[{ on := 29, ground := Go.Ground.data }, { on := 27, ground := Go.Ground.guard }], guard := Option.some (27, Bool.true) }) (v := undef) rfl (by kernel_rfl) (by kernel_rfl) (by kernel_rfl) (fun _ _ _ h => h) (Or.inr ⟨by rfl, rfl⟩) hHeld ?_
    simp only [Act.put, List.setIfInBounds_toArray, List.set_cons_zero, List.set_cons_succ]
    refine wpAnyH_take (i := 31) (oi := { dst := Option.some 91, op := Go.Op.pick (Go.Operand.tmp 87) (Go.Operand.tmp 90) (Go.Operand.const (Go.Value.bool Bool.false)), type := 4, pos := "laws.go:476", after := #[{ on := 27, ground := Go.Ground.data }, { on := 30, ground := Go.Ground.data }, { on := 2, ground := Go.Ground.guard }], guard := Option.some (2, Bool.false) }) (v := undef) rfl (by kernel_rfl) (by kernel_rfl) (by kernel_rfl) (fun _ _ _ h => h) (Or.inr ⟨by rfl, rfl⟩) hHeld ?_
    simp only [Act.put, List.setIfInBounds_toArray, List.set_cons_zero, List.set_cons_succ]
    refine wpAnyH_take (i := 32) (oi := { dst := Option.some 92, op := Go.Op.pick (Go.Operand.tmp 62) (Go.Operand.const (Go.Value.bool Bool.true)) (Go.Operand.tmp 91), type := 4, pos := "laws.go:476", after := #[{ on := 2, ground := Go.Ground.data }, { on := 31, ground := Go.Ground.data }], guard := Option.none }) (v := ?_) rfl (by kernel_rfl) (by kernel_rfl) (by kernel_rfl) (fun _ _ _ h => h) (Or.inl ⟨by rfl, ?_⟩) hHeld ?_
    rotate_left
    · intro w hSw
      try dsimp only at hSw
      go_simp
      try (with_reducible rfl)
    simp only [Act.put, List.setIfInBounds_toArray, List.set_cons_zero, List.set_cons_succ]
    refine wpAnyH_take (i := 33) (oi := { dst := Option.some 2, op := Go.Op.assign (Go.Operand.tmp 92), type := 4, pos := "laws.go:476", after := #[{ on := 32, ground := Go.Ground.data }, { on := 27, ground := Go.Ground.chain }, { on := 0, ground := Go.Ground.phase }, { on := 1, ground := Go.Ground.phase }, { on := 2, ground := Go.Ground.phase }, { on := 3, ground := Go.Ground.phase }, { on := 4, ground := Go.Ground.phase }, { on := 5, ground := Go.Ground.phase }, { on := 6, ground := Go.Ground.phase }, { on := 7, ground := Go.Ground.phase }, { on := 8, ground := Go.Ground.phase }, { on := 9, ground := Go.Ground.phase }, { on := 10, ground := Go.Ground.phase }, { on := 11, ground := Go.Ground.phase }, { on := 12, ground := Go.Ground.phase }, { on := 13, ground := Go.Ground.phase }, { on := 14, ground := Go.Ground.phase }, { on := 15, ground := Go.Ground.phase }, { on := 16, ground := Go.Ground.phase }, { on := 17, ground := Go.Ground.phase }, { on := 18, ground := Go.Ground.phase }, { on := 19, ground := Go.Ground.phase }, { on := 20, ground := Go.Ground.phase }, { on := 21, ground := Go.Ground.phase }, { on := 22, ground := Go.Ground.phase }, { on := 23, ground := Go.Ground.phase }, { on := 24, ground := Go.Ground.phase }, { on := 25, ground := Go.Ground.phase }, { on := 26, ground := Go.Ground.phase }, { on := 27, ground := Go.Ground.phase }, { on := 28, ground := Go.Ground.phase }, { on := 29, ground := Go.Ground.phase }, { on := 30, ground := Go.Ground.phase }, { on := 31, ground := Go.Ground.phase }, { on := 32, ground := Go.Ground.phase }], guard := Option.none }) (v := ?_) rfl (by kernel_rfl) (by kernel_rfl) (by kernel_rfl) (fun _ _ _ h => h) (Or.inl ⟨by rfl, ?_⟩) hHeld ?_
    rotate_left
    · intro w hSw
      try dsimp only at hSw
      go_simp
      try (with_reducible rfl)
    simp only [Act.put, List.setIfInBounds_toArray, List.set_cons_zero, List.set_cons_succ]
    refine wpAnyH_done (by kernel_rfl) ?_ _
    go_wp2
    go_ret
    first | exact ⟨rfl, HB_13.out⟩ | exact ⟨congrArg (fun b => Ending.returned (Value.bool b)) hpn.out, HB_13.out⟩
  · obtain ⟨hen1, hen2⟩ := hen.out rfl
    subst hen2
    have hpn : Hid (decide (0 < ids.length) = true) := decide_eq_true (hep.out hen1)
    have hps : decide ((0 : Int) < (ids.length : Int)) = true := decide_eq_true (by have := hep.out hen1; omega)
    clear hen hep
    by_cases hm : dl.length ≤ 12
    · have h12 : decide ((12 : Int) < (dl.length : Int)) = false := decide_eq_false (by omega)
      have hisd := hD.out (by omega)
      subst hisd
      clear hD hm
      rcases ig with _ | _
      · have htr := trivial
        clear heg
        go_wp2_with fail
        refine wp_region_held_drew (S := (fun W : World => (W.cell? ⟨w9.heap.size, 0, none⟩ = some (.int .i64 yh) ∧ W.cell? ⟨w9.heap.size, 1, none⟩ = some (.int .i64 (yt + 1)) ∧ W.cell? ⟨w9.heap.size, 2, none⟩ = some (.string ya) ∧ W.cell? ⟨w9.heap.size, 3, none⟩ = some (.string yv) ∧ W.cell? ⟨w9.heap.size, 4, none⟩ = some (.string yn) ∧ W.cell? ⟨w9.heap.size, 5, none⟩ = some (.string yd)) ∧ (W.cell? ⟨w1.heap.size, 0, none⟩ = some (.int .i64 yh) ∧ W.cell? ⟨w1.heap.size, 1, none⟩ = some (.int .i64 yt) ∧ W.cell? ⟨w1.heap.size, 2, none⟩ = some (.string ya) ∧ W.cell? ⟨w1.heap.size, 3, none⟩ = some (.string yv) ∧ W.cell? ⟨w1.heap.size, 4, none⟩ = some (.string yn) ∧ W.cell? ⟨w1.heap.size, 5, none⟩ = some (.string yd)) ∧ (W.cell? ⟨w1.heap.size + 1, 0, none⟩ = some (.int .i64 xh) ∧ W.cell? ⟨w1.heap.size + 1, 1, none⟩ = some (.int .i64 xr) ∧ W.cell? ⟨w1.heap.size + 1, 2, none⟩ = some (.string xi) ∧ W.cell? ⟨w1.heap.size + 1, 3, none⟩ = some (.slice xa xl.length xc)) ∧ (W.cell? ⟨w9.heap.size + 1, 0, none⟩ = some (.int .i64 xh) ∧ W.cell? ⟨w9.heap.size + 1, 1, none⟩ = some (.int .i64 xr) ∧ W.cell? ⟨w9.heap.size + 1, 2, none⟩ = some (.string xi) ∧ W.cell? ⟨w9.heap.size + 1, 3, none⟩ = some (.slice da dl.length dc)))) (by kernel_rfl) ?_ (fun hHeld => ?_)
        · exact ⟨⟨(K8_13.out).cell 0 rfl, (K8_13.out).cell 1 rfl, (K8_13.out).cell 2 rfl, (K8_13.out).cell 3 rfl, (K8_13.out).cell 4 rfl, (K8_13.out).cell 5 rfl⟩, ⟨(K4_13.out).cell 0 rfl, (K4_13.out).cell 1 rfl, (K4_13.out).cell 2 rfl, (K4_13.out).cell 3 rfl, (K4_13.out).cell 4 rfl, (K4_13.out).cell 5 rfl⟩, ⟨(K5_13.out).cell 0 rfl, (K5_13.out).cell 1 rfl, (K5_13.out).cell 2 rfl, (K5_13.out).cell 3 rfl⟩, ⟨(K9_13.out).cell 0 rfl, (K9_13.out).cell 1 rfl, (K9_13.out).cell 2 rfl, (K9_13.out).cell 3 rfl⟩⟩
        generalize w11.drew = wd at *
        refine wpAnyH_take (i := 0) (oi := { dst := Option.some 60, op := Go.Op.move (Go.Operand.tmp 7), type := 4, pos := "laws.go:476", after := #[], guard := Option.none }) (v := ?_) rfl (by kernel_rfl) (by kernel_rfl) (by kernel_rfl) (fun _ _ _ h => h) (Or.inl ⟨by rfl, ?_⟩) hHeld ?_
        rotate_left
        · intro w hSw
          try dsimp only at hSw
          go_simp
          try (with_reducible rfl)
        simp only [Act.put, List.setIfInBounds_toArray, List.set_cons_zero, List.set_cons_succ]
        refine wpAnyH_take (i := 1) (oi := { dst := Option.some 61, op := Go.Op.unOp Go.UnOp.not 4 (Go.Operand.tmp 60), type := 4, pos := "laws.go:476", after := #[{ on := 0, ground := Go.Ground.data }], guard := Option.none }) (v := ?_) rfl (by kernel_rfl) (by kernel_rfl) (by kernel_rfl) (fun _ _ _ h => h) (Or.inl ⟨by rfl, ?_⟩) hHeld ?_
        rotate_left
        · intro w hSw
          try dsimp only at hSw
          go_simp
          try (with_reducible rfl)
        simp only [Act.put, List.setIfInBounds_toArray, List.set_cons_zero, List.set_cons_succ]
        refine wpAnyH_take (i := 2) (oi := { dst := Option.some 62, op := Go.Op.move (Go.Operand.tmp 61), type := 4, pos := "laws.go:476", after := #[{ on := 1, ground := Go.Ground.data }], guard := Option.none }) (v := ?_) rfl (by kernel_rfl) (by kernel_rfl) (by kernel_rfl) (fun _ _ _ h => h) (Or.inl ⟨by rfl, ?_⟩) hHeld ?_
        rotate_left
        · intro w hSw
          try dsimp only at hSw
          go_simp
          try (with_reducible rfl)
        simp only [Act.put, List.setIfInBounds_toArray, List.set_cons_zero, List.set_cons_succ]
        refine wpAnyH_take (i := 3) (oi := { dst := Option.some 63, op := Go.Op.move (Go.Operand.tmp 3), type := 24, pos := "laws.go:476", after := #[{ on := 2, ground := Go.Ground.guard }], guard := Option.some (2, Bool.false) }) (v := ?_) rfl (by kernel_rfl) (by kernel_rfl) (by kernel_rfl) (fun _ _ _ h => h) (Or.inl ⟨by rfl, ?_⟩) hHeld ?_
        rotate_left
        · intro w hSw
          try dsimp only at hSw
          go_simp
          try (with_reducible rfl)
        simp only [Act.put, List.setIfInBounds_toArray, List.set_cons_zero, List.set_cons_succ]
        refine wpAnyH_take (i := 4) (oi := { dst := Option.some 64, op := Go.Op.load 26 (Go.Operand.tmp 8), type := 26, pos := "laws.go:476", after := #[{ on := 2, ground := Go.Ground.guard }], guard := Option.some (2, Bool.false) }) (v := ?_) rfl (by kernel_rfl) (by kernel_rfl) (by kernel_rfl) (fun _ _ _ h => h) (Or.inl ⟨by rfl, ?_⟩) hHeld ?_
        rotate_left
        · intro w hSw
          try dsimp only at hSw
          go_simp
          try (with_reducible rfl)
        simp only [Act.put, List.setIfInBounds_toArray, List.set_cons_zero, List.set_cons_succ]
        refine wpAnyH_take (i := 5) (oi := { dst := Option.some 65, op := Go.Op.load 29 (Go.Operand.tmp 5), type := 29, pos := "laws.go:476", after := #[{ on := 2, ground := Go.Ground.guard }], guard := Option.some (2, Bool.false) }) (v := ?_) rfl (by kernel_rfl) (by kernel_rfl) (by kernel_rfl) (fun _ _ _ h => h) (Or.inl ⟨by rfl, ?_⟩) hHeld ?_
        rotate_left
        · intro w hSw
          try dsimp only at hSw
          go_simp
          try (with_reducible rfl)
        simp only [Act.put, List.setIfInBounds_toArray, List.set_cons_zero, List.set_cons_succ]
        refine wpAnyH_ready (rs := [6]) (by kernel_rfl) (by decide) ?_
        refine AllReadyH.cons (o := { dst := Option.some 66, op := Go.Op.call { callee := Go.Callee.value (Go.Operand.func 8), args := #[Go.Operand.tmp 63, Go.Operand.tmp 64, Go.Operand.tmp 65], argTypes := #[24, 26, 29] }, type := 4, pos := "laws.go:476", after := #[{ on := 3, ground := Go.Ground.data }, { on := 4, ground := Go.Ground.data }, { on := 5, ground := Go.Ground.data }, { on := 2, ground := Go.Ground.chain }, { on := 2, ground := Go.Ground.guard }], guard := Option.some (2, Bool.false) }) rfl (fun K hK => ?_) AllReadyH.nil
        go_simp
        go_at_call 8
        refine (kOg _ HV_13.out HSX_13.out HT_13.out).mono ?_
        rintro e v1 ⟨rfl, b1⟩
        have HT_14 : Hid (Tab v1) := HT_13.out.below b1 HT_13.out.pos
        have HB_14 : Hid (Below w0.heap.size w0 v1) := HB_13.out.trans (b1.mono HB_13.out.size)
        have HV_14 : Hid (VO v1 va l) := HV_13.out.below b1
        have HSX_14 : Hid (SO v1 xa xl) := SO.below HSX_13.out b1
        have K4_14 : Hid (Blk v1 (w1.heap.size) [.int .i64 yh, .int .i64 yt, .string ya, .string yv, .string yn, .string yd] 26) := K4_13.out.below b1 K4_13.out.lt
        have K5_14 : Hid (Blk v1 (w1.heap.size + 1) [.int .i64 xh, .int .i64 xr, .string xi, .slice xa xl.length xc] 29) := K5_13.out.below b1 K5_13.out.lt
        have HN_14 : Hid (Nums v1 ia ids) := HN_13.out.below b1
        have K8_14 : Hid (Blk v1 (w9.heap.size) [.int .i64 yh, .int .i64 (yt + 1), .string ya, .string yv, .string yn, .string yd] 26) := K8_13.out.below b1 K8_13.out.lt
        have K9_14 : Hid (Blk v1 (w9.heap.size + 1) [.int .i64 xh, .int .i64 xr, .string xi, .slice da dl.length dc] 29) := K9_13.out.below b1 K9_13.out.lt
        have HSD_14 : Hid (SO v1 da dl) := SO.below HSD_13.out b1
        clear b1
        refine hK.out _ _ (⟨⟨(K8_14.out).cell 0 rfl, (K8_14.out).cell 1 rfl, (K8_14.out).cell 2 rfl, (K8_14.out).cell 3 rfl, (K8_14.out).cell 4 rfl, (K8_14.out).cell 5 rfl⟩, ⟨(K4_14.out).cell 0 rfl, (K4_14.out).cell 1 rfl, (K4_14.out).cell 2 rfl, (K4_14.out).cell 3 rfl, (K4_14.out).cell 4 rfl, (K4_14.out).cell 5 rfl⟩, ⟨(K5_14.out).cell 0 rfl, (K5_14.out).cell 1 rfl, (K5_14.out).cell 2 rfl, (K5_14.out).cell 3 rfl⟩, ⟨(K9_14.out).cell 0 rfl, (K9_14.out).cell 1 rfl, (K9_14.out).cell 2 rfl, (K9_14.out).cell 3 rfl⟩⟩) (fun hHeld => ?_)
        clear hK K
        try simp only [Act.put, List.setIfInBounds_toArray, List.set_cons_zero, List.set_cons_succ]
        refine wpAnyH_take (i := 7) (oi := { dst := Option.some 67, op := Go.Op.unOp Go.UnOp.not 4 (Go.Operand.tmp 66), type := 4, pos := "laws.go:476", after := #[{ on := 6, ground := Go.Ground.data }, { on := 2, ground := Go.Ground.guard }], guard := Option.some (2, Bool.false) }) (v := ?_) rfl (by kernel_rfl) (by kernel_rfl) (by kernel_rfl) (fun _ _ _ h => h) (Or.inl ⟨by rfl, ?_⟩) hHeld ?_
        rotate_left
        · intro w hSw
          try dsimp only at hSw
          go_simp
          try (with_reducible rfl)
        simp only [Act.put, List.setIfInBounds_toArray, List.set_cons_zero, List.set_cons_succ]
        refine wpAnyH_take (i := 8) (oi := { dst := Option.some 68, op := Go.Op.move (Go.Operand.tmp 67), type := 4, pos := "laws.go:476", after := #[{ on := 7, ground := Go.Ground.data }, { on := 6, ground := Go.Ground.chain }, { on := 2, ground := Go.Ground.guard }], guard := Option.some (2, Bool.false) }) (v := ?_) rfl (by kernel_rfl) (by kernel_rfl) (by kernel_rfl) (fun _ _ _ h => h) (Or.inl ⟨by rfl, ?_⟩) hHeld ?_
        rotate_left
        · intro w hSw
          try dsimp only at hSw
          go_simp
          try (with_reducible rfl)
        simp only [Act.put, List.setIfInBounds_toArray, List.set_cons_zero, List.set_cons_succ]
        refine wpAnyH_take (i := 9) (oi := { dst := Option.some 69, op := Go.Op.load 26 (Go.Operand.tmp 8), type := 26, pos := "laws.go:476", after := #[{ on := 8, ground := Go.Ground.guard }], guard := Option.some (8, Bool.false) }) (v := undef) rfl (by kernel_rfl) (by kernel_rfl) (by kernel_rfl) (fun _ _ _ h => h) (Or.inr ⟨by rfl, rfl⟩) hHeld ?_
        simp only [Act.put, List.setIfInBounds_toArray, List.set_cons_zero, List.set_cons_succ]
        refine wpAnyH_take (i := 10) (oi := { dst := Option.some 70, op := Go.Op.call { callee := Go.Callee.value (Go.Operand.func 13), args := #[Go.Operand.tmp 69], argTypes := #[26] }, type := 9, pos := "laws.go:476", after := #[{ on := 9, ground := Go.Ground.data }, { on := 8, ground := Go.Ground.chain }, { on := 8, ground := Go.Ground.guard }], guard := Option.some (8, Bool.false) }) (v := undef) rfl (by kernel_rfl) (by kernel_rfl) (by kernel_rfl) (fun _ _ _ h => h) (Or.inr ⟨by rfl, rfl⟩) hHeld ?_
        simp only [Act.put, List.setIfInBounds_toArray, List.set_cons_zero, List.set_cons_succ]
        refine wpAnyH_take (i := 11) (oi := { dst := Option.some 71, op := Go.Op.load 26 (Go.Operand.tmp 4), type := 26, pos := "laws.go:476", after := #[{ on := 8, ground := Go.Ground.guard }], guard := Option.some (8, Bool.false) }) (v := undef) rfl (by kernel_rfl) (by kernel_rfl) (by kernel_rfl) (fun _ _ _ h => h) (Or.inr ⟨by rfl, rfl⟩) hHeld ?_
        simp only [Act.put, List.setIfInBounds_toArray, List.set_cons_zero, List.set_cons_succ]
        refine wpAnyH_take (i := 12) (oi := { dst := Option.some 72, op := Go.Op.call { callee := Go.Callee.value (Go.Operand.func 13), args := #[Go.Operand.tmp 71], argTypes := #[26] }, type := 9, pos := "laws.go:476", after := #[{ on := 11, ground := Go.Ground.data }, { on := 10, ground := Go.Ground.chain }, { on := 8, ground := Go.Ground.guard }], guard := Option.some (8, Bool.false) }) (v := undef) rfl (by kernel_rfl) (by kernel_rfl) (by kernel_rfl) (fun _ _ _ h => h) (Or.inr ⟨by rfl, rfl⟩) hHeld ?_
        simp only [Act.put, List.setIfInBounds_toArray, List.set_cons_zero, List.set_cons_succ]
        refine wpAnyH_take (i := 13) (oi := { dst := Option.some 73, op := Go.Op.binOp Go.BinOp.eql 9 (Go.Operand.tmp 70) (Go.Operand.tmp 72) 9, type := 4, pos := "laws.go:476", after := #[{ on := 10, ground := Go.Ground.data }, { on := 12, ground := Go.Ground.data }, { on := 8, ground := Go.Ground.guard }], guard := Option.some (8, Bool.false) }) (v := undef) rfl (by kernel_rfl) (by kernel_rfl) (by kernel_rfl) (fun _ _ _ h => h) (Or.inr ⟨by rfl, rfl⟩) hHeld ?_
        simp only [Act.put, List.setIfInBounds_toArray, List.set_cons_zero, List.set_cons_succ]
        refine wpAnyH_take (i := 14) (oi := { dst := Option.some 74, op := Go.Op.pick (Go.Operand.tmp 68) (Go.Operand.const (Go.Value.bool Bool.true)) (Go.Operand.tmp 73), type := 4, pos := "laws.go:476", after := #[{ on := 8, ground := Go.Ground.data }, { on := 13, ground := Go.Ground.data }, { on := 2, ground := Go.Ground.guard }], guard := Option.some (2, Bool.false) }) (v := ?_) rfl (by kernel_rfl) (by kernel_rfl) (by kernel_rfl) (fun _ _ _ h => h) (Or.inl ⟨by rfl, ?_⟩) hHeld ?_
        rotate_left
        · intro w hSw
          try dsimp only at hSw
          go_simp
          try (with_reducible rfl)
        simp only [Act.put, List.setIfInBounds_toArray, List.set_cons_zero, List.set_cons_succ]
        refine wpAnyH_take (i := 15) (oi := { dst := Option.some 75, op := Go.Op.move (Go.Operand.tmp 74), type := 4, pos := "laws.go:476", after := #[{ on := 14, ground := Go.Ground.data }, { on := 12, ground := Go.Ground.chain }, { on := 2, ground := Go.Ground.guard }], guard := Option.some (2, Bool.false) }) (v := ?_) rfl (by kernel_rfl) (by kernel_rfl) (by kernel_rfl) (fun _ _ _ h => h) (Or.inl ⟨by rfl, ?_⟩) hHeld ?_
        rotate_left
        · intro w hSw
          try dsimp only at hSw
          go_simp
          try (with_reducible rfl)
        simp only [Act.put, List.setIfInBounds_toArray, List.set_cons_zero, List.set_cons_succ]
        refine wpAnyH_take (i := 16) (oi := { dst := Option.some 76, op := Go.Op.fieldAddr 29 (Go.Operand.tmp 9) 3, type := 0, pos := "laws.go:476", after := #[{ on := 15, ground := Go.Ground.guard }], guard := Option.some (15, Bool.true) }) (v := ?_) rfl (by kernel_rfl) (by kernel_rfl) (by kernel_rfl) (fun _ _ _ h => h) (Or.inl ⟨by rfl, ?_⟩) hHeld ?_
        rotate_left
        · intro w hSw
          try dsimp only at hSw
          go_simp
          try (with_reducible rfl)
        simp only [Act.put, List.setIfInBounds_toArray, List.set_cons_zero, List.set_cons_succ]
        refine wpAnyH_take (i := 17) (oi := { dst := Option.some 77, op := Go.Op.load 27 (Go.Operand.tmp 76), type := 27, pos := "laws.go:476", after := #[{ on := 16, ground := Go.Ground.data }, { on := 15, ground := Go.Ground.guard }], guard := Option.some (15, Bool.true) }) (v := ?_) rfl (by kernel_rfl) (by kernel_rfl) (by kernel_rfl) (fun _ _ _ h => h) (Or.inl ⟨by rfl, ?_⟩) hHeld ?_
        rotate_left
        · intro w hSw
          try dsimp only at hSw
          go_simp
          try (with_reducible rfl)
        simp only [Act.put, List.setIfInBounds_toArray, List.set_cons_zero, List.set_cons_succ]
        refine wpAnyH_take (i := 18) (oi := { dst := Option.some 78, op := Go.Op.call { callee := Go.Callee.builtin Go.Builtin.len, args := #[Go.Operand.tmp 77], argTypes := #[27] }, type := 3, pos := "laws.go:476", after := #[{ on := 17, ground := Go.Ground.data }, { on := 15, ground := Go.Ground.guard }], guard := Option.some (15, Bool.true) }) (v := ?_) rfl (by kernel_rfl) (by kernel_rfl) (by kernel_rfl) (fun _ _ _ h => h) (Or.inl ⟨by rfl, ?_⟩) hHeld ?_
        rotate_left
        · intro w hSw
          try dsimp only at hSw
          go_simp
          try (with_reducible rfl)
        simp only [Act.put, List.setIfInBounds_toArray, List.set_cons_zero, List.set_cons_succ]
        refine wpAnyH_take (i := 19) (oi := { dst := Option.some 79, op := Go.Op.binOp Go.BinOp.gtr 3 (Go.Operand.tmp 78) (Go.Operand.const (Go.Value.int Go.IntKind.i64 12)) 3, type := 4, pos := "laws.go:476", after := #[{ on := 18, ground := Go.Ground.data }, { on := 15, ground := Go.Ground.guard }], guard := Option.some (15, Bool.true) }) (v := ?_) rfl (by kernel_rfl) (by kernel_rfl) (by kernel_rfl) (fun _ _ _ h => h) (Or.inl ⟨by rfl, ?_⟩) hHeld ?_
        rotate_left
        · intro w hSw
          try dsimp only at hSw
          go_simp
          try (with_reducible rfl)
        simp only [Act.put, List.setIfInBounds_toArray, List.set_cons_zero, List.set_cons_succ]
        refine wpAnyH_take (i := 20) (oi := { dst := Option.some 80, op := Go.Op.move (Go.Operand.tmp 79), type := 4, pos := "laws.go:476", after := #[{ on := 19, ground := Go.Ground.data }, { on := 15, ground := Go.Ground.chain }, { on := 15, ground := Go.Ground.guard }], guard := Option.some (15, Bool.true) }) (v := ?_) rfl (by kernel_rfl) (by kernel_rfl) (by kernel_rfl) (fun _ _ _ h => h) (Or.inl ⟨by rfl, ?_⟩) hHeld ?_
        rotate_left
        · intro w hSw
          try dsimp only at hSw
          go_simp
          try (with_reducible rfl)
        simp only [Act.put, List.setIfInBounds_toArray, List.set_cons_zero, List.set_cons_succ]
        refine wpAnyH_take (i := 21) (oi := { dst := Option.some 81, op := Go.Op.move (Go.Operand.tmp 3), type := 24, pos := "laws.go:476", after := #[{ on := 20, ground := Go.Ground.guard }], guard := Option.some (20, Bool.false) }) (v := ?_) rfl (by kernel_rfl) (by kernel_rfl) (by kernel_rfl) (fun _ _ _ h => h) (Or.inl ⟨by rfl, ?_⟩) hHeld ?_
        rotate_left
        · intro w hSw
          try dsimp only at hSw
          go_simp
          try (with_reducible rfl)
        simp only [Act.put, List.setIfInBounds_toArray, List.set_cons_zero, List.set_cons_succ]
        refine wpAnyH_take (i := 22) (oi := { dst := Option.some 82, op := Go.Op.load 26 (Go.Operand.tmp 4), type := 26, pos := "laws.go:476", after := #[{ on := 20, ground := Go.Ground.guard }], guard := Option.some (20, Bool.false) }) (v := ?_) rfl (by kernel_rfl) (by kernel_rfl) (by kernel_rfl) (fun _ _ _ h => h) (Or.inl ⟨by rfl, ?_⟩) hHeld ?_
        rotate_left
        · intro w hSw
          try dsimp only at hSw
          go_simp
          try (with_reducible rfl)
        simp only [Act.put, List.setIfInBounds_toArray, List.set_cons_zero, List.set_cons_succ]
        refine wpAnyH_take (i := 23) (oi := { dst := Option.some 83, op := Go.Op.load 29 (Go.Operand.tmp 9), type := 29, pos := "laws.go:476", after := #[{ on := 20, ground := Go.Ground.guard }], guard := Option.some (20, Bool.false) }) (v := ?_) rfl (by kernel_rfl) (by kernel_rfl) (by kernel_rfl) (fun _ _ _ h => h) (Or.inl ⟨by rfl, ?_⟩) hHeld ?_
        rotate_left
        · intro w hSw
          try dsimp only at hSw
          go_simp
          try (with_reducible rfl)
        simp only [Act.put, List.setIfInBounds_toArray, List.set_cons_zero, List.set_cons_succ]
        refine wpAnyH_ready (rs := [24]) (by kernel_rfl) (by decide) ?_
        refine AllReadyH.cons (o := { dst := Option.some 84, op := Go.Op.call { callee := Go.Callee.value (Go.Operand.func 8), args := #[Go.Operand.tmp 81, Go.Operand.tmp 82, Go.Operand.tmp 83], argTypes := #[24, 26, 29] }, type := 4, pos := "laws.go:476", after := #[{ on := 21, ground := Go.Ground.data }, { on := 22, ground := Go.Ground.data }, { on := 23, ground := Go.Ground.data }, { on := 20, ground := Go.Ground.chain }, { on := 20, ground := Go.Ground.guard }], guard := Option.some (20, Bool.false) }) rfl (fun K hK => ?_) AllReadyH.nil
        go_simp
        go_at_call 8
        refine (kOd da dc _ HV_14.out HSD_14.out HT_14.out).mono ?_
        rintro e v2 ⟨rfl, b2⟩
        have HT_15 : Hid (Tab v2) := HT_14.out.below b2 HT_14.out.pos
        have HB_15 : Hid (Below w0.heap.size w0 v2) := HB_14.out.trans (b2.mono HB_14.out.size)
        have HV_15 : Hid (VO v2 va l) := HV_14.out.below b2
        have HSX_15 : Hid (SO v2 xa xl) := SO.below HSX_14.out b2
        have K4_15 : Hid (Blk v2 (w1.heap.size) [.int .i64 yh, .int .i64 yt, .string ya, .string yv, .string yn, .string yd] 26) := K4_14.out.below b2 K4_14.out.lt
        have K5_15 : Hid (Blk v2 (w1.heap.size + 1) [.int .i64 xh, .int .i64 xr, .string xi, .slice xa xl.length xc] 29) := K5_14.out.below b2 K5_14.out.lt
        have HN_15 : Hid (Nums v2 ia ids) := HN_14.out.below b2
        have K8_15 : Hid (Blk v2 (w9.heap.size) [.int .i64 yh, .int .i64 (yt + 1), .string ya, .string yv, .string yn, .string yd] 26) := K8_14.out.below b2 K8_14.out.lt
        have K9_15 : Hid (Blk v2 (w9.heap.size + 1) [.int .i64 xh, .int .i64 xr, .string xi, .slice da dl.length dc] 29) := K9_14.out.below b2 K9_14.out.lt
        have HSD_15 : Hid (SO v2 da dl) := SO.below HSD_14.out b2
        clear b2
        refine hK.out _ _ (⟨⟨(K8_15.out).cell 0 rfl, (K8_15.out).cell 1 rfl, (K8_15.out).cell 2 rfl, (K8_15.out).cell 3 rfl, (K8_15.out).cell 4 rfl, (K8_15.out).cell 5 rfl⟩, ⟨(K4_15.out).cell 0 rfl, (K4_15.out).cell 1 rfl, (K4_15.out).cell 2 rfl, (K4_15.out).cell 3 rfl, (K4_15.out).cell 4 rfl, (K4_15.out).cell 5 rfl⟩, ⟨(K5_15.out).cell 0 rfl, (K5_15.out).cell 1 rfl, (K5_15.out).cell 2 rfl, (K5_15.out).cell 3 rfl⟩, ⟨(K9_15.out).cell 0 rfl, (K9_15.out).cell 1 rfl, (K9_15.out).cell 2 rfl, (K9_15.out).cell 3 rfl⟩⟩) (fun hHeld => ?_)
        clear hK K
        try simp only [Act.put, List.setIfInBounds_toArray, List.set_cons_zero, List.set_cons_succ]
        refine wpAnyH_take (i := 25) (oi := { dst := Option.some 85, op := Go.Op.pick (Go.Operand.tmp 80) (Go.Operand.const (Go.Value.bool Bool.true)) (Go.Operand.tmp 84), type := 4, pos := "laws.go:476", after := #[{ on := 20, ground := Go.Ground.data }, { on := 24, ground := Go.Ground.data }, { on := 15, ground := Go.Ground.guard }], guard := Option.some (15, Bool.true) }) (v := ?_) rfl (by kernel_rfl) (by kernel_rfl) (by kernel_rfl) (fun _ _ _ h => h) (Or.inl ⟨by rfl, ?_⟩) hHeld ?_
        rotate_left
        · intro w hSw
          try dsimp only at hSw
          go_simp
          try (with_reducible rfl)
        simp only [Act.put, List.setIfInBounds_toArray, List.set_cons_zero, List.set_cons_succ]
        refine wpAnyH_take (i := 26) (oi := { dst := Option.some 86, op := Go.Op.pick (Go.Operand.tmp 75) (Go.Operand.tmp 85) (Go.Operand.const (Go.Value.bool Bool.false)), type := 4, pos := "laws.go:476", after := #[{ on := 15, ground := Go.Ground.data }, { on := 25, ground := Go.Ground.data }, { on := 2, ground := Go.Ground.guard }], guard := Option.some (2, Bool.false) }) (v := ?_) rfl (by kernel_rfl) (by kernel_rfl) (by kernel_rfl) (fun _ _ _ h => h) (Or.inl ⟨by rfl, ?_⟩) hHeld ?_
        rotate_left
        · intro w hSw
          try dsimp only at hSw
          go_simp
          try (with_reducible rfl)
        simp only [Act.put, List.setIfInBounds_toArray, List.set_cons_zero, List.set_cons_succ]
        refine wpAnyH_take (i := 27) (oi := { dst := Option.some 87, op := Go.Op.move (Go.Operand.tmp 86), type := 4, pos := "laws.go:476", after := #[{ on := 26, ground := Go.Ground.data }, { on := 24, ground := Go.Ground.chain }, { on := 2, ground := Go.Ground.guard }], guard := Option.some (2, Bool.false) }) (v := ?_) rfl (by kernel_rfl) (by kernel_rfl) (by kernel_rfl) (fun _ _ _ h => h) (Or.inl ⟨by rfl, ?_⟩) hHeld ?_
        rotate_left
        · intro w hSw
          try dsimp only at hSw
          go_simp
          try (with_reducible rfl)
        simp only [Act.put, List.setIfInBounds_toArray, List.set_cons_zero, List.set_cons_succ]
        refine wpAnyH_take (i := 28) (oi := { dst := Option.some 88, op := Go.Op.move (Go.Operand.tmp 6), type := 32, pos := "laws.go:476", after := #[{ on := 27, ground := Go.Ground.guard }], guard := Option.some (27, Bool.true) }) (v := ?_) rfl (by kernel_rfl) (by kernel_rfl) (by kernel_rfl) (fun _ _ _ h => h) (Or.inl ⟨by rfl, ?_⟩) hHeld ?_
        rotate_left
        · intro w hSw
          try dsimp only at hSw
          go_simp
          try (with_reducible rfl)
        simp only [Act.put, List.setIfInBounds_toArray, List.set_cons_zero, List.set_cons_succ]
        refine wpAnyH_take (i := 29) (oi := { dst := Option.some 89, op := Go.Op.call { callee := Go.Callee.builtin Go.Builtin.len, args := #[Go.Operand.tmp 88], argTypes := #[32] }, type := 3, pos := "laws.go:476", after := #[{ on := 28, ground := Go.Ground.data }, { on := 27, ground := Go.Ground.guard }], guard := Option.some (27, Bool.true) }) (v := ?_) rfl (by kernel_rfl) (by kernel_rfl) (by kernel_rfl) (fun _ _ _ h => h) (Or.inl ⟨by rfl, ?_⟩) hHeld ?_
        rotate_left
        · intro w hSw
          try dsimp only at hSw
          go_simp
          try (with_reducible rfl)
        simp only [Act.put, List.setIfInBounds_toArray, List.set_cons_zero, List.set_cons_succ]
        refine wpAnyH_take (i := 30) (oi := { dst := Option.some 90, op := Go.Op.binOp Go.BinOp.gtr 3 (Go.Operand.tmp 89) (Go.Operand.const (Go.Value.int Go.IntKind.i64 0)) 3, type := 4, pos := "laws.go:476", after := #[{ on := 29, ground := Go.Ground.data }, { on := 27, ground := Go.Ground.guard }], guard := Option.some (27, Bool.true) }) (v := ?_) rfl (by kernel_rfl) (by kernel_rfl) (by kernel_rfl) (fun _ _ _ h => h) (Or.inl ⟨by rfl, ?_⟩) hHeld ?_
        rotate_left
        · intro w hSw
          try dsimp only at hSw
          go_simp
          try (with_reducible rfl)
        simp only [Act.put, List.setIfInBounds_toArray, List.set_cons_zero, List.set_cons_succ]
        refine wpAnyH_take (i := 31) (oi := { dst := Option.some 91, op := Go.Op.pick (Go.Operand.tmp 87) (Go.Operand.tmp 90) (Go.Operand.const (Go.Value.bool Bool.false)), type := 4, pos := "laws.go:476", after := #[{ on := 27, ground := Go.Ground.data }, { on := 30, ground := Go.Ground.data }, { on := 2, ground := Go.Ground.guard }], guard := Option.some (2, Bool.false) }) (v := ?_) rfl (by kernel_rfl) (by kernel_rfl) (by kernel_rfl) (fun _ _ _ h => h) (Or.inl ⟨by rfl, ?_⟩) hHeld ?_
        rotate_left
        · intro w hSw
          try dsimp only at hSw
          go_simp
          try (with_reducible rfl)
        simp only [Act.put, List.setIfInBounds_toArray, List.set_cons_zero, List.set_cons_succ]
        refine wpAnyH_take (i := 32) (oi := { dst := Option.some 92, op := Go.Op.pick (Go.Operand.tmp 62) (Go.Operand.const (Go.Value.bool Bool.true)) (Go.Operand.tmp 91), type := 4, pos := "laws.go:476", after := #[{ on := 2, ground := Go.Ground.data }, { on := 31, ground := Go.Ground.data }], guard := Option.none }) (v := ?_) rfl (by kernel_rfl) (by kernel_rfl) (by kernel_rfl) (fun _ _ _ h => h) (Or.inl ⟨by rfl, ?_⟩) hHeld ?_
        rotate_left
        · intro w hSw
          try dsimp only at hSw
          go_simp
          try (with_reducible rfl)
        simp only [Act.put, List.setIfInBounds_toArray, List.set_cons_zero, List.set_cons_succ]
        refine wpAnyH_take (i := 33) (oi := { dst := Option.some 2, op := Go.Op.assign (Go.Operand.tmp 92), type := 4, pos := "laws.go:476", after := #[{ on := 32, ground := Go.Ground.data }, { on := 27, ground := Go.Ground.chain }, { on := 0, ground := Go.Ground.phase }, { on := 1, ground := Go.Ground.phase }, { on := 2, ground := Go.Ground.phase }, { on := 3, ground := Go.Ground.phase }, { on := 4, ground := Go.Ground.phase }, { on := 5, ground := Go.Ground.phase }, { on := 6, ground := Go.Ground.phase }, { on := 7, ground := Go.Ground.phase }, { on := 8, ground := Go.Ground.phase }, { on := 9, ground := Go.Ground.phase }, { on := 10, ground := Go.Ground.phase }, { on := 11, ground := Go.Ground.phase }, { on := 12, ground := Go.Ground.phase }, { on := 13, ground := Go.Ground.phase }, { on := 14, ground := Go.Ground.phase }, { on := 15, ground := Go.Ground.phase }, { on := 16, ground := Go.Ground.phase }, { on := 17, ground := Go.Ground.phase }, { on := 18, ground := Go.Ground.phase }, { on := 19, ground := Go.Ground.phase }, { on := 20, ground := Go.Ground.phase }, { on := 21, ground := Go.Ground.phase }, { on := 22, ground := Go.Ground.phase }, { on := 23, ground := Go.Ground.phase }, { on := 24, ground := Go.Ground.phase }, { on := 25, ground := Go.Ground.phase }, { on := 26, ground := Go.Ground.phase }, { on := 27, ground := Go.Ground.phase }, { on := 28, ground := Go.Ground.phase }, { on := 29, ground := Go.Ground.phase }, { on := 30, ground := Go.Ground.phase }, { on := 31, ground := Go.Ground.phase }, { on := 32, ground := Go.Ground.phase }], guard := Option.none }) (v := ?_) rfl (by kernel_rfl) (by kernel_rfl) (by kernel_rfl) (fun _ _ _ h => h) (Or.inl ⟨by rfl, ?_⟩) hHeld ?_
        rotate_left
        · intro w hSw
          try dsimp only at hSw
          go_simp
          try (with_reducible rfl)
        simp only [Act.put, List.setIfInBounds_toArray, List.set_cons_zero, List.set_cons_succ]
        refine wpAnyH_done (by kernel_rfl) ?_ _
        go_wp2
        go_ret
        first | exact ⟨rfl, HB_15.out⟩ | exact ⟨congrArg (fun b => Ending.returned (Value.bool b)) hpn.out, HB_15.out⟩
      · have htr := trivial
        have hj := (heg.out rfl).2
        subst hj
        clear heg
        go_wp2_with fail
        refine wp_region_held_drew (S := (fun W : World => (W.cell? ⟨w9.heap.size, 0, none⟩ = some (.int .i64 yh) ∧ W.cell? ⟨w9.heap.size, 1, none⟩ = some (.int .i64 (yt + 1)) ∧ W.cell? ⟨w9.heap.size, 2, none⟩ = some (.string ya) ∧ W.cell? ⟨w9.heap.size, 3, none⟩ = some (.string yv) ∧ W.cell? ⟨w9.heap.size, 4, none⟩ = some (.string yn) ∧ W.cell? ⟨w9.heap.size, 5, none⟩ = some (.string yd)) ∧ (W.cell? ⟨w1.heap.size, 0, none⟩ = some (.int .i64 yh) ∧ W.cell? ⟨w1.heap.size, 1, none⟩ = some (.int .i64 yt) ∧ W.cell? ⟨w1.heap.size, 2, none⟩ = some (.string ya) ∧ W.cell? ⟨w1.heap.size, 3, none⟩ = some (.string yv) ∧ W.cell? ⟨w1.heap.size, 4, none⟩ = some (.string yn) ∧ W.cell? ⟨w1.heap.size, 5, none⟩ = some (.string yd)) ∧ (W.cell? ⟨w1.heap.size + 1, 0, none⟩ = some (.int .i64 xh) ∧ W.cell? ⟨w1.heap.size + 1, 1, none⟩ = some (.int .i64 xr) ∧ W.cell? ⟨w1.heap.size + 1, 2, none⟩ = some (.string xi) ∧ W.cell? ⟨w1.heap.size + 1, 3, none⟩ = some (.slice xa xl.length xc)) ∧ (W.cell? ⟨w9.heap.size + 1, 0, none⟩ = some (.int .i64 xh) ∧ W.cell? ⟨w9.heap.size + 1, 1, none⟩ = some (.int .i64 xr) ∧ W.cell? ⟨w9.heap.size + 1, 2, none⟩ = some (.string xi) ∧ W.cell? ⟨w9.heap.size + 1, 3, none⟩ = some (.slice da dl.length dc)))) (by kernel_rfl) ?_ (fun hHeld => ?_)
        · exact ⟨⟨(K8_13.out).cell 0 rfl, (K8_13.out).cell 1 rfl, (K8_13.out).cell 2 rfl, (K8_13.out).cell 3 rfl, (K8_13.out).cell 4 rfl, (K8_13.out).cell 5 rfl⟩, ⟨(K4_13.out).cell 0 rfl, (K4_13.out).cell 1 rfl, (K4_13.out).cell 2 rfl, (K4_13.out).cell 3 rfl, (K4_13.out).cell 4 rfl, (K4_13.out).cell 5 rfl⟩, ⟨(K5_13.out).cell 0 rfl, (K5_13.out).cell 1 rfl, (K5_13.out).cell 2 rfl, (K5_13.out).cell 3 rfl⟩, ⟨(K9_13.out).cell 0 rfl, (K9_13.out).cell 1 rfl, (K9_13.out).cell 2 rfl, (K9_13.out).cell 3 rfl⟩⟩
        generalize w11.drew = wd at *
        refine wpAnyH_take (i := 0) (oi := { dst := Option.some 60, op := Go.Op.move (Go.Operand.tmp 7), type := 4, pos := "laws.go:476", after := #[], guard := Option.none }) (v := ?_) rfl (by kernel_rfl) (by kernel_rfl) (by kernel_rfl) (fun _ _ _ h => h) (Or.inl ⟨by rfl, ?_⟩) hHeld ?_
        rotate_left
        · intro w hSw
          try dsimp only at hSw
          go_simp
          try (with_reducible rfl)
        simp only [Act.put, List.setIfInBounds_toArray, List.set_cons_zero, List.set_cons_succ]
        refine wpAnyH_take (i := 1) (oi := { dst := Option.some 61, op := Go.Op.unOp Go.UnOp.not 4 (Go.Operand.tmp 60), type := 4, pos := "laws.go:476", after := #[{ on := 0, ground := Go.Ground.data }], guard := Option.none }) (v := ?_) rfl (by kernel_rfl) (by kernel_rfl) (by kernel_rfl) (fun _ _ _ h => h) (Or.inl ⟨by rfl, ?_⟩) hHeld ?_
        rotate_left
        · intro w hSw
          try dsimp only at hSw
          go_simp
          try (with_reducible rfl)
        simp only [Act.put, List.setIfInBounds_toArray, List.set_cons_zero, List.set_cons_succ]
        refine wpAnyH_take (i := 2) (oi := { dst := Option.some 62, op := Go.Op.move (Go.Operand.tmp 61), type := 4, pos := "laws.go:476", after := #[{ on := 1, ground := Go.Ground.data }], guard := Option.none }) (v := ?_) rfl (by kernel_rfl) (by kernel_rfl) (by kernel_rfl) (fun _ _ _ h => h) (Or.inl ⟨by rfl, ?_⟩) hHeld ?_
        rotate_left
        · intro w hSw
          try dsimp only at hSw
          go_simp
          try (with_reducible rfl)
        simp only [Act.put, List.setIfInBounds_toArray, List.set_cons_zero, List.set_cons_succ]
        refine wpAnyH_take (i := 3) (oi := { dst := Option.some 63, op := Go.Op.move (Go.Operand.tmp 3), type := 24, pos := "laws.go:476", after := #[{ on := 2, ground := Go.Ground.guard }], guard := Option.some (2, Bool.false) }) (v := ?_) rfl (by kernel_rfl) (by kernel_rfl) (by kernel_rfl) (fun _ _ _ h => h) (Or.inl ⟨by rfl, ?_⟩) hHeld ?_
        rotate_left
        · intro w hSw
          try dsimp only at hSw
          go_simp
          try (with_reducible rfl)
        simp only [Act.put, List.setIfInBounds_toArray, List.set_cons_zero, List.set_cons_succ]
        refine wpAnyH_take (i := 4) (oi := { dst := Option.some 64, op := Go.Op.load 26 (Go.Operand.tmp 8), type := 26, pos := "laws.go:476", after := #[{ on := 2, ground := Go.Ground.guard }], guard := Option.some (2, Bool.false) }) (v := ?_) rfl (by kernel_rfl) (by kernel_rfl) (by kernel_rfl) (fun _ _ _ h => h) (Or.inl ⟨by rfl, ?_⟩) hHeld ?_
        rotate_left
        · intro w hSw
          try dsimp only at hSw
          go_simp
          try (with_reducible rfl)
        simp only [Act.put, List.setIfInBounds_toArray, List.set_cons_zero, List.set_cons_succ]
        refine wpAnyH_take (i := 5) (oi := { dst := Option.some 65, op := Go.Op.load 29 (Go.Operand.tmp 5), type := 29, pos := "laws.go:476", after := #[{ on := 2, ground := Go.Ground.guard }], guard := Option.some (2, Bool.false) }) (v := ?_) rfl (by kernel_rfl) (by kernel_rfl) (by kernel_rfl) (fun _ _ _ h => h) (Or.inl ⟨by rfl, ?_⟩) hHeld ?_
        rotate_left
        · intro w hSw
          try dsimp only at hSw
          go_simp
          try (with_reducible rfl)
        simp only [Act.put, List.setIfInBounds_toArray, List.set_cons_zero, List.set_cons_succ]
        refine wpAnyH_ready (rs := [6]) (by kernel_rfl) (by decide) ?_
        refine AllReadyH.cons (o := { dst := Option.some 66, op := Go.Op.call { callee := Go.Callee.value (Go.Operand.func 8), args := #[Go.Operand.tmp 63, Go.Operand.tmp 64, Go.Operand.tmp 65], argTypes := #[24, 26, 29] }, type := 4, pos := "laws.go:476", after := #[{ on := 3, ground := Go.Ground.data }, { on := 4, ground := Go.Ground.data }, { on := 5, ground := Go.Ground.data }, { on := 2, ground := Go.Ground.chain }, { on := 2, ground := Go.Ground.guard }], guard := Option.some (2, Bool.false) }) rfl (fun K hK => ?_) AllReadyH.nil
        go_simp
        go_at_call 8
        refine (kOg _ HV_13.out HSX_13.out HT_13.out).mono ?_
        rintro e v3 ⟨rfl, b3⟩
        have HT_16 : Hid (Tab v3) := HT_13.out.below b3 HT_13.out.pos
        have HB_16 : Hid (Below w0.heap.size w0 v3) := HB_13.out.trans (b3.mono HB_13.out.size)
        have HV_16 : Hid (VO v3 va l) := HV_13.out.below b3
        have HSX_16 : Hid (SO v3 xa xl) := SO.below HSX_13.out b3
        have K4_16 : Hid (Blk v3 (w1.heap.size) [.int .i64 yh, .int .i64 yt, .string ya, .string yv, .string yn, .string yd] 26) := K4_13.out.below b3 K4_13.out.lt
        have K5_16 : Hid (Blk v3 (w1.heap.size + 1) [.int .i64 xh, .int .i64 xr, .string xi, .slice xa xl.length xc] 29) := K5_13.out.below b3 K5_13.out.lt
        have HN_16 : Hid (Nums v3 ia ids) := HN_13.out.below b3
        have K8_16 : Hid (Blk v3 (w9.heap.size) [.int .i64 yh, .int .i64 (yt + 1), .string ya, .string yv, .string yn, .string yd] 26) := K8_13.out.below b3 K8_13.out.lt
        have K9_16 : Hid (Blk v3 (w9.heap.size + 1) [.int .i64 xh, .int .i64 xr, .string xi, .slice da dl.length dc] 29) := K9_13.out.below b3 K9_13.out.lt
        have HSD_16 : Hid (SO v3 da dl) := SO.below HSD_13.out b3
        clear b3
        refine hK.out _ _ (⟨⟨(K8_16.out).cell 0 rfl, (K8_16.out).cell 1 rfl, (K8_16.out).cell 2 rfl, (K8_16.out).cell 3 rfl, (K8_16.out).cell 4 rfl, (K8_16.out).cell 5 rfl⟩, ⟨(K4_16.out).cell 0 rfl, (K4_16.out).cell 1 rfl, (K4_16.out).cell 2 rfl, (K4_16.out).cell 3 rfl, (K4_16.out).cell 4 rfl, (K4_16.out).cell 5 rfl⟩, ⟨(K5_16.out).cell 0 rfl, (K5_16.out).cell 1 rfl, (K5_16.out).cell 2 rfl, (K5_16.out).cell 3 rfl⟩, ⟨(K9_16.out).cell 0 rfl, (K9_16.out).cell 1 rfl, (K9_16.out).cell 2 rfl, (K9_16.out).cell 3 rfl⟩⟩) (fun hHeld => ?_)
        clear hK K
        try simp only [Act.put, List.setIfInBounds_toArray, List.set_cons_zero, List.set_cons_succ]
        refine wpAnyH_take (i := 7) (oi := { dst := Option.some 67, op := Go.Op.unOp Go.UnOp.not 4 (Go.Operand.tmp 66), type := 4, pos := "laws.go:476", after := #[{ on := 6, ground := Go.Ground.data }, { on := 2, ground := Go.Ground.guard }], guard := Option.some (2, Bool.false) }) (v := ?_) rfl (by kernel_rfl) (by kernel_rfl) (by kernel_rfl) (fun _ _ _ h => h) (Or.inl ⟨by rfl, ?_⟩) hHeld ?_
        rotate_left
        · intro w hSw
          try dsimp only at hSw
          go_simp
          try (with_reducible rfl)
        simp only [Act.put, List.setIfInBounds_toArray, List.set_cons_zero, List.set_cons_succ]
        refine wpAnyH_take (i := 8) (oi := { dst := Option.some 68, op := Go.Op.move (Go.Operand.tmp 67), type := 4, pos := "laws.go:476", after := #[{ on := 7, ground := Go.Ground.data }, { on := 6, ground := Go.Ground.chain }, { on := 2, ground := Go.Ground.guard }], guard := Option.some (2, Bool.false) }) (v := ?_) rfl (by kernel_rfl) (by kernel_rfl) (by kernel_rfl) (fun _ _ _ h => h) (Or.inl ⟨by rfl, ?_⟩) hHeld ?_
        rotate_left
        · intro w hSw
          try dsimp only at hSw
          go_simp
          try (with_reducible rfl)
        simp only [Act.put, List.setIfInBounds_toArray, List.set_cons_zero, List.set_cons_succ]
        refine wpAnyH_take (i := 9) (oi := { dst := Option.some 69, op := Go.Op.load 26 (Go.Operand.tmp 8), type := 26, pos := "laws.go:476", after := #[{ on := 8, ground := Go.Ground.guard }], guard := Option.some (8, Bool.false) }) (v := ?_) rfl (by kernel_rfl) (by kernel_rfl) (by kernel_rfl) (fun _ _ _ h => h) (Or.inl ⟨by rfl, ?_⟩) hHeld ?_
        rotate_left
        · intro w hSw
          try dsimp only at hSw
          go_simp
          try (with_reducible rfl)
        simp only [Act.put, List.setIfInBounds_toArray, List.set_cons_zero, List.set_cons_succ]
        refine wpAnyH_take (i := 11) (oi := { dst := Option.some 71, op := Go.Op.load 26 (Go.Operand.tmp 4), type := 26, pos := "laws.go:476", after := #[{ on := 8, ground := Go.Ground.guard }], guard := Option.some (8, Bool.false) }) (v := ?_) rfl (by kernel_rfl) (by kernel_rfl) (by kernel_rfl) (fun _ _ _ h => h) (Or.inl ⟨by rfl, ?_⟩) hHeld ?_
        rotate_left
        · intro w hSw
          try dsimp only at hSw
          go_simp
          try (with_reducible rfl)
        simp only [Act.put, List.setIfInBounds_toArray, List.set_cons_zero, List.set_cons_succ]
        refine wpAnyH_ready (rs := [10]) (by kernel_rfl) (by decide) ?_
        refine AllReadyH.cons (o := { dst := Option.some 70, op := Go.Op.call { callee := Go.Callee.value (Go.Operand.func 13), args := #[Go.Operand.tmp 69], argTypes := #[26] }, type := 9, pos := "laws.go:476", after := #[{ on := 9, ground := Go.Ground.data }, { on := 8, ground := Go.Ground.chain }, { on := 8, ground := Go.Ground.guard }], guard := Option.some (8, Bool.false) }) rfl (fun K hK => ?_) AllReadyH.nil
        go_simp
        go_at_call 13
        refine (kIg _).mono ?_
        rintro e v4 ⟨rfl, b4⟩
        have HT_17 : Hid (Tab v4) := HT_16.out.below b4 HT_16.out.pos
        have HB_17 : Hid (Below w0.heap.size w0 v4) := HB_16.out.trans (b4.mono HB_16.out.size)
        have HV_17 : Hid (VO v4 va l) := HV_16.out.below b4
        have HSX_17 : Hid (SO v4 xa xl) := SO.below HSX_16.out b4
        have K4_17 : Hid (Blk v4 (w1.heap.size) [.int .i64 yh, .int .i64 yt, .string ya, .string yv, .string yn, .string yd] 26) := K4_16.out.below b4 K4_16.out.lt
        have K5_17 : Hid (Blk v4 (w1.heap.size + 1) [.int .i64 xh, .int .i64 xr, .string xi, .slice xa xl.length xc] 29) := K5_16.out.below b4 K5_16.out.lt
        have HN_17 : Hid (Nums v4 ia ids) := HN_16.out.below b4
        have K8_17 : Hid (Blk v4 (w9.heap.size) [.int .i64 yh, .int .i64 (yt + 1), .string ya, .string yv, .string yn, .string yd] 26) := K8_16.out.below b4 K8_16.out.lt
        have K9_17 : Hid (Blk v4 (w9.heap.size + 1) [.int .i64 xh, .int .i64 xr, .string xi, .slice da dl.length dc] 29) := K9_16.out.below b4 K9_16.out.lt
        have HSD_17 : Hid (SO v4 da dl) := SO.below HSD_16.out b4
        clear b4
        refine hK.out _ _ (⟨⟨(K8_17.out).cell 0 rfl, (K8_17.out).cell 1 rfl, (K8_17.out).cell 2 rfl, (K8_17.out).cell 3 rfl, (K8_17.out).cell 4 rfl, (K8_17.out).cell 5 rfl⟩, ⟨(K4_17.out).cell 0 rfl, (K4_17.out).cell 1 rfl, (K4_17.out).cell 2 rfl, (K4_17.out).cell 3 rfl, (K4_17.out).cell 4 rfl, (K4_17.out).cell 5 rfl⟩, ⟨(K5_17.out).cell 0 rfl, (K5_17.out).cell 1 rfl, (K5_17.out).cell 2 rfl, (K5_17.out).cell 3 rfl⟩, ⟨(K9_17.out).cell 0 rfl, (K9_17.out).cell 1 rfl, (K9_17.out).cell 2 rfl, (K9_17.out).cell 3 rfl⟩⟩) (fun hHeld => ?_)
        clear hK K
        try simp only [Act.put, List.setIfInBounds_toArray, List.set_cons_zero, List.set_cons_succ]
        refine wpAnyH_ready (rs := [12]) (by kernel_rfl) (by decide) ?_
        refine AllReadyH.cons (o := { dst := Option.some 72, op := Go.Op.call { callee := Go.Callee.value (Go.Operand.func 13), args := #[Go.Operand.tmp 71], argTypes := #[26] }, type := 9, pos := "laws.go:476", after := #[{ on := 11, ground := Go.Ground.data }, { on := 10, ground := Go.Ground.chain }, { on := 8, ground := Go.Ground.guard }], guard := Option.some (8, Bool.false) }) rfl (fun K hK => ?_) AllReadyH.nil
        go_simp
        go_at_call 13
        refine (kIh _).mono ?_
        rintro e v5 ⟨rfl, b5⟩
        have HT_18 : Hid (Tab v5) := HT_17.out.below b5 HT_17.out.pos
        have HB_18 : Hid (Below w0.heap.size w0 v5) := HB_17.out.trans (b5.mono HB_17.out.size)
        have HV_18 : Hid (VO v5 va l) := HV_17.out.below b5
        have HSX_18 : Hid (SO v5 xa xl) := SO.below HSX_17.out b5
        have K4_18 : Hid (Blk v5 (w1.heap.size) [.int .i64 yh, .int .i64 yt, .string ya, .string yv, .string yn, .string yd] 26) := K4_17.out.below b5 K4_17.out.lt
        have K5_18 : Hid (Blk v5 (w1.heap.size + 1) [.int .i64 xh, .int .i64 xr, .string xi, .slice xa xl.length xc] 29) := K5_17.out.below b5 K5_17.out.lt
        have HN_18 : Hid (Nums v5 ia ids) := HN_17.out.below b5
        have K8_18 : Hid (Blk v5 (w9.heap.size) [.int .i64 yh, .int .i64 (yt + 1), .string ya, .string yv, .string yn, .string yd] 26) := K8_17.out.below b5 K8_17.out.lt
        have K9_18 : Hid (Blk v5 (w9.heap.size + 1) [.int .i64 xh, .int .i64 xr, .string xi, .slice da dl.length dc] 29) := K9_17.out.below b5 K9_17.out.lt
        have HSD_18 : Hid (SO v5 da dl) := SO.below HSD_17.out b5
        clear b5
        refine hK.out _ _ (⟨⟨(K8_18.out).cell 0 rfl, (K8_18.out).cell 1 rfl, (K8_18.out).cell 2 rfl, (K8_18.out).cell 3 rfl, (K8_18.out).cell 4 rfl, (K8_18.out).cell 5 rfl⟩, ⟨(K4_18.out).cell 0 rfl, (K4_18.out).cell 1 rfl, (K4_18.out).cell 2 rfl, (K4_18.out).cell 3 rfl, (K4_18.out).cell 4 rfl, (K4_18.out).cell 5 rfl⟩, ⟨(K5_18.out).cell 0 rfl, (K5_18.out).cell 1 rfl, (K5_18.out).cell 2 rfl, (K5_18.out).cell 3 rfl⟩, ⟨(K9_18.out).cell 0 rfl, (K9_18.out).cell 1 rfl, (K9_18.out).cell 2 rfl, (K9_18.out).cell 3 rfl⟩⟩) (fun hHeld => ?_)
        clear hK K
        try simp only [Act.put, List.setIfInBounds_toArray, List.set_cons_zero, List.set_cons_succ]
        refine wpAnyH_take (i := 13) (oi := { dst := Option.some 73, op := Go.Op.binOp Go.BinOp.eql 9 (Go.Operand.tmp 70) (Go.Operand.tmp 72) 9, type := 4, pos := "laws.go:476", after := #[{ on := 10, ground := Go.Ground.data }, { on := 12, ground := Go.Ground.data }, { on := 8, ground := Go.Ground.guard }], guard := Option.some (8, Bool.false) }) (v := ?_) rfl (by kernel_rfl) (by kernel_rfl) (by kernel_rfl) (fun _ _ _ h => h) (Or.inl ⟨by rfl, ?_⟩) hHeld ?_
        rotate_left
        · intro w hSw
          try dsimp only at hSw
          go_simp
          try (with_reducible rfl)
        simp only [Act.put, List.setIfInBounds_toArray, List.set_cons_zero, List.set_cons_succ]
        refine wpAnyH_take (i := 14) (oi := { dst := Option.some 74, op := Go.Op.pick (Go.Operand.tmp 68) (Go.Operand.const (Go.Value.bool Bool.true)) (Go.Operand.tmp 73), type := 4, pos := "laws.go:476", after := #[{ on := 8, ground := Go.Ground.data }, { on := 13, ground := Go.Ground.data }, { on := 2, ground := Go.Ground.guard }], guard := Option.some (2, Bool.false) }) (v := ?_) rfl (by kernel_rfl) (by kernel_rfl) (by kernel_rfl) (fun _ _ _ h => h) (Or.inl ⟨by rfl, ?_⟩) hHeld ?_
        rotate_left
        · intro w hSw
          try dsimp only at hSw
          go_simp
          try (with_reducible rfl)
        simp only [Act.put, List.setIfInBounds_toArray, List.set_cons_zero, List.set_cons_succ]
        refine wpAnyH_take (i := 15) (oi := { dst := Option.some 75, op := Go.Op.move (Go.Operand.tmp 74), type := 4, pos := "laws.go:476", after := #[{ on := 14, ground := Go.Ground.data }, { on := 12, ground := Go.Ground.chain }, { on := 2, ground := Go.Ground.guard }], guard := Option.some (2, Bool.false) }) (v := ?_) rfl (by kernel_rfl) (by kernel_rfl) (by kernel_rfl) (fun _ _ _ h => h) (Or.inl ⟨by rfl, ?_⟩) hHeld ?_
        rotate_left
        · intro w hSw
          try dsimp only at hSw
          go_simp
          try (with_reducible rfl)
        simp only [Act.put, List.setIfInBounds_toArray, List.set_cons_zero, List.set_cons_succ]
        refine wpAnyH_take (i := 16) (oi := { dst := Option.some 76, op := Go.Op.fieldAddr 29 (Go.Operand.tmp 9) 3, type := 0, pos := "laws.go:476", after := #[{ on := 15, ground := Go.Ground.guard }], guard := Option.some (15, Bool.true) }) (v := ?_) rfl (by kernel_rfl) (by kernel_rfl) (by kernel_rfl) (fun _ _ _ h => h) (Or.inl ⟨by rfl, ?_⟩) hHeld ?_
        rotate_left
        · intro w hSw
          try dsimp only at hSw
          go_simp
          try (with_reducible rfl)
        simp only [Act.put, List.setIfInBounds_toArray, List.set_cons_zero, List.set_cons_succ]
        refine wpAnyH_take (i := 17) (oi := { dst := Option.some 77, op := Go.Op.load 27 (Go.Operand.tmp 76), type := 27, pos := "laws.go:476", after := #[{ on := 16, ground := Go.Ground.data }, { on := 15, ground := Go.Ground.guard }], guard := Option.some (15, Bool.true) }) (v := ?_) rfl (by kernel_rfl) (by kernel_rfl) (by kernel_rfl) (fun _ _ _ h => h) (Or.inl ⟨by rfl, ?_⟩) hHeld ?_
        rotate_left
        · intro w hSw
          try dsimp only at hSw
          go_simp
          try (with_reducible rfl)
        simp only [Act.put, List.setIfInBounds_toArray, List.set_cons_zero, List.set_cons_succ]
        refine wpAnyH_take (i := 18) (oi := { dst := Option.some 78, op := Go.Op.call { callee := Go.Callee.builtin Go.Builtin.len, args := #[Go.Operand.tmp 77], argTypes := #[27] }, type := 3, pos := "laws.go:476", after := #[{ on := 17, ground := Go.Ground.data }, { on := 15, ground := Go.Ground.guard }], guard := Option.some (15, Bool.true) }) (v := ?_) rfl (by kernel_rfl) (by kernel_rfl) (by kernel_rfl) (fun _ _ _ h => h) (Or.inl ⟨by rfl, ?_⟩) hHeld ?_
        rotate_left
        · intro w hSw
          try dsimp only at hSw
          go_simp
          try (with_reducible rfl)
        simp only [Act.put, List.setIfInBounds_toArray, List.set_cons_zero, List.set_cons_succ]
        refine wpAnyH_take (i := 19) (oi := { dst := Option.some 79, op := Go.Op.binOp Go.BinOp.gtr 3 (Go.Operand.tmp 78) (Go.Operand.const (Go.Value.int Go.IntKind.i64 12)) 3, type := 4, pos := "laws.go:476", after := #[{ on := 18, ground := Go.Ground.data }, { on := 15, ground := Go.Ground.guard }], guard := Option.some (15, Bool.true) }) (v := ?_) rfl (by kernel_rfl) (by kernel_rfl) (by kernel_rfl) (fun _ _ _ h => h) (Or.inl ⟨by rfl, ?_⟩) hHeld ?_
        rotate_left
        · intro w hSw
          try dsimp only at hSw
          go_simp
          try (with_reducible rfl)
        simp only [Act.put, List.setIfInBounds_toArray, List.set_cons_zero, List.set_cons_succ]
        refine wpAnyH_take (i := 20) (oi := { dst := Option.some 80, op := Go.Op.move (Go.Operand.tmp 79), type := 4, pos := "laws.go:476", after := #[{ on := 19, ground := Go.Ground.data }, { on := 15, ground := Go.Ground.chain }, { on := 15, ground := Go.Ground.guard }], guard := Option.some (15, Bool.true) }) (v := ?_) rfl (by kernel_rfl) (by kernel_rfl) (by kernel_rfl) (fun _ _ _ h => h) (Or.inl ⟨by rfl, ?_⟩) hHeld ?_
        rotate_left
        · intro w hSw
          try dsimp only at hSw
          go_simp
          try (with_reducible rfl)
        simp only [Act.put, List.setIfInBounds_toArray, List.set_cons_zero, List.set_cons_succ]
        refine wpAnyH_take (i := 21) (oi := { dst := Option.some 81, op := Go.Op.move (Go.Operand.tmp 3), type := 24, pos := "laws.go:476", after := #[{ on := 20, ground := Go.Ground.guard }], guard := Option.some (20, Bool.false) }) (v := ?_) rfl (by kernel_rfl) (by kernel_rfl) (by kernel_rfl) (fun _ _ _ h => h) (Or.inl ⟨by rfl, ?_⟩) hHeld ?_
        rotate_left
        · intro w hSw
          try dsimp only at hSw
          go_simp
          try (with_reducible rfl)
        simp only [Act.put, List.setIfInBounds_toArray, List.set_cons_zero, List.set_cons_succ]
        refine wpAnyH_take (i := 22) (oi := { dst := Option.some 82, op := Go.Op.load 26 (Go.Operand.tmp 4), type := 26, pos := "laws.go:476", after := #[{ on := 20, ground := Go.Ground.guard }], guard := Option.some (20, Bool.false) }) (v := ?_) rfl (by kernel_rfl) (by kernel_rfl) (by kernel_rfl) (fun _ _ _ h => h) (Or.inl ⟨by rfl, ?_⟩) hHeld ?_
        rotate_left
        · intro w hSw
          try dsimp only at hSw
          go_simp
          try (with_reducible rfl)
        simp only [Act.put, List.setIfInBounds_toArray, List.set_cons_zero, List.set_cons_succ]
        refine wpAnyH_take (i := 23) (oi := { dst := Option.some 83, op := Go.Op.load 29 (Go.Operand.tmp 9), type := 29, pos := "laws.go:476", after := #[{ on := 20, ground := Go.Ground.guard }], guard := Option.some (20, Bool.false) }) (v := ?_) rfl (by kernel_rfl) (by kernel_rfl) (by kernel_rfl) (fun _ _ _ h => h) (Or.inl ⟨by rfl, ?_⟩) hHeld ?_
        rotate_left
        · intro w hSw
          try dsimp only at hSw
          go_simp
          try (with_reducible rfl)
        simp only [Act.put, List.setIfInBounds_toArray, List.set_cons_zero, List.set_cons_succ]
        refine wpAnyH_ready (rs := [24]) (by kernel_rfl) (by decide) ?_
        refine AllReadyH.cons (o := { dst := Option.some 84, op := Go.Op.call { callee := Go.Callee.value (Go.Operand.func 8), args := #[Go.Operand.tmp 81, Go.Operand.tmp 82, Go.Operand.tmp 83], argTypes := #[24, 26, 29] }, type := 4, pos := "laws.go:476", after := #[{ on := 21, ground := Go.Ground.data }, { on := 22, ground := Go.Ground.data }, { on := 23, ground := Go.Ground.data }, { on := 20, ground := Go.Ground.chain }, { on := 20, ground := Go.Ground.guard }], guard := Option.some (20, Bool.false) }) rfl (fun K hK => ?_) AllReadyH.nil
        go_simp
        go_at_call 8
        refine (kOd da dc _ HV_18.out HSD_18.out HT_18.out).mono ?_
        rintro e v6 ⟨rfl, b6⟩
        have HT_19 : Hid (Tab v6) := HT_18.out.below b6 HT_18.out.pos
        have HB_19 : Hid (Below w0.heap.size w0 v6) := HB_18.out.trans (b6.mono HB_18.out.size)
        have HV_19 : Hid (VO v6 va l) := HV_18.out.below b6
        have HSX_19 : Hid (SO v6 xa xl) := SO.below HSX_18.out b6
        have K4_19 : Hid (Blk v6 (w1.heap.size) [.int .i64 yh, .int .i64 yt, .string ya, .string yv, .string yn, .string yd] 26) := K4_18.out.below b6 K4_18.out.lt
        have K5_19 : Hid (Blk v6 (w1.heap.size + 1) [.int .i64 xh, .int .i64 xr, .string xi, .slice xa xl.length xc] 29) := K5_18.out.below b6 K5_18.out.lt
        have HN_19 : Hid (Nums v6 ia ids) := HN_18.out.below b6
        have K8_19 : Hid (Blk v6 (w9.heap.size) [.int .i64 yh, .int .i64 (yt + 1), .string ya, .string yv, .string yn, .string yd] 26) := K8_18.out.below b6 K8_18.out.lt
        have K9_19 : Hid (Blk v6 (w9.heap.size + 1) [.int .i64 xh, .int .i64 xr, .string xi, .slice da dl.length dc] 29) := K9_18.out.below b6 K9_18.out.lt
        have HSD_19 : Hid (SO v6 da dl) := SO.below HSD_18.out b6
        clear b6
        refine hK.out _ _ (⟨⟨(K8_19.out).cell 0 rfl, (K8_19.out).cell 1 rfl, (K8_19.out).cell 2 rfl, (K8_19.out).cell 3 rfl, (K8_19.out).cell 4 rfl, (K8_19.out).cell 5 rfl⟩, ⟨(K4_19.out).cell 0 rfl, (K4_19.out).cell 1 rfl, (K4_19.out).cell 2 rfl, (K4_19.out).cell 3 rfl, (K4_19.out).cell 4 rfl, (K4_19.out).cell 5 rfl⟩, ⟨(K5_19.out).cell 0 rfl, (K5_19.out).cell 1 rfl, (K5_19.out).cell 2 rfl, (K5_19.out).cell 3 rfl⟩, ⟨(K9_19.out).cell 0 rfl, (K9_19.out).cell 1 rfl, (K9_19.out).cell 2 rfl, (K9_19.out).cell 3 rfl⟩⟩) (fun hHeld => ?_)
        clear hK K
        try simp only [Act.put, List.setIfInBounds_toArray, List.set_cons_zero, List.set_cons_succ]
        refine wpAnyH_take (i := 25) (oi := { dst := Option.some 85, op := Go.Op.pick (Go.Operand.tmp 80) (Go.Operand.const (Go.Value.bool Bool.true)) (Go.Operand.tmp 84), type := 4, pos := "laws.go:476", after := #[{ on := 20, ground := Go.Ground.data }, { on := 24, ground := Go.Ground.data }, { on := 15, ground := Go.Ground.guard }], guard := Option.some (15, Bool.true) }) (v := ?_) rfl (by kernel_rfl) (by kernel_rfl) (by kernel_rfl) (fun _ _ _ h => h) (Or.inl ⟨by rfl, ?_⟩) hHeld ?_
        rotate_left
        · intro w hSw
          try dsimp only at hSw
          go_simp
          try (with_reducible rfl)
        simp only [Act.put, List.setIfInBounds_toArray, List.set_cons_zero, List.set_cons_succ]
        refine wpAnyH_take (i := 26) (oi := { dst := Option.some 86, op := Go.Op.pick (Go.Operand.tmp 75) (Go.Operand.tmp 85) (Go.Operand.const (Go.Value.bool Bool.false)), type := 4, pos := "laws.go:476", after := #[{ on := 15, ground := Go.Ground.data }, { on := 25, ground := Go.Ground.data }, { on := 2, ground := Go.Ground.guard }], guard := Option.some (2, Bool.false) }) (v := ?_) rfl (by kernel_rfl) (by kernel_rfl) (by kernel_rfl) (fun _ _ _ h => h) (Or.inl ⟨by rfl, ?_⟩) hHeld ?_
        rotate_left
        · intro w hSw
          try dsimp only at hSw
          go_simp
          try (with_reducible rfl)
        simp only [Act.put, List.setIfInBounds_toArray, List.set_cons_zero, List.set_cons_succ]
        refine wpAnyH_take (i := 27) (oi := { dst := Option.some 87, op := Go.Op.move (Go.Operand.tmp 86), type := 4, pos := "laws.go:476", after := #[{ on := 26, ground := Go.Ground.data }, { on := 24, ground := Go.Ground.chain }, { on := 2, ground := Go.Ground.guard }], guard := Option.some (2, Bool.false) }) (v := ?_) rfl (by kernel_rfl) (by kernel_rfl) (by kernel_rfl) (fun _ _ _ h => h) (Or.inl ⟨by rfl, ?_⟩) hHeld ?_
        rotate_left
        · intro w hSw
          try dsimp only at hSw
          go_simp
          try (with_reducible rfl)
        simp only [Act.put, List.setIfInBounds_toArray, List.set_cons_zero, List.set_cons_succ]
        refine wpAnyH_take (i := 28) (oi := { dst := Option.some 88, op := Go.Op.move (Go.Operand.tmp 6), type := 32, pos := "laws.go:476", after := #[{ on := 27, ground := Go.Ground.guard }], guard := Option.some (27, Bool.true) }) (v := ?_) rfl (by kernel_rfl) (by kernel_rfl) (by kernel_rfl) (fun _ _ _ h => h) (Or.inl ⟨by rfl, ?_⟩) hHeld ?_
        rotate_left
        · intro w hSw
          try dsimp only at hSw
          go_simp
          try (with_reducible rfl)
        simp only [Act.put, List.setIfInBounds_toArray, List.set_cons_zero, List.set_cons_succ]
        refine wpAnyH_take (i := 29) (oi := { dst := Option.some 89, op := Go.Op.call { callee := Go.Callee.builtin Go.Builtin.len, args := #[Go.Operand.tmp 88], argTypes := #[32] }, type := 3, pos := "laws.go:476", after := #[{ on := 28, ground := Go.Ground.data }, { on := 27, ground := Go.Ground.guard }], guard := Option.some (27, Bool.true) }) (v := ?_) rfl (by kernel_rfl) (by kernel_rfl) (by kernel_rfl) (fun _ _ _ h => h) (Or.inl ⟨by rfl, ?_⟩) hHeld ?_
        rotate_left
        · intro w hSw
          try dsimp only at hSw
          go_simp
          try (with_reducible rfl)
        simp only [Act.put, List.setIfInBounds_toArray, List.set_cons_zero, List.set_cons_succ]
        refine wpAnyH_take (i := 30) (oi := { dst := Option.some 90, op := Go.Op.binOp Go.BinOp.gtr 3 (Go.Operand.tmp 89) (Go.Operand.const (Go.Value.int Go.IntKind.i64 0)) 3, type := 4, pos := "laws.go:476", after := #[{ on := 29, ground := Go.Ground.data }, { on := 27, ground := Go.Ground.guard }], guard := Option.some (27, Bool.true) }) (v := ?_) rfl (by kernel_rfl) (by kernel_rfl) (by kernel_rfl) (fun _ _ _ h => h) (Or.inl ⟨by rfl, ?_⟩) hHeld ?_
        rotate_left
        · intro w hSw
          try dsimp only at hSw
          go_simp
          try (with_reducible rfl)
        simp only [Act.put, List.setIfInBounds_toArray, List.set_cons_zero, List.set_cons_succ]
        refine wpAnyH_take (i := 31) (oi := { dst := Option.some 91, op := Go.Op.pick (Go.Operand.tmp 87) (Go.Operand.tmp 90) (Go.Operand.const (Go.Value.bool Bool.false)), type := 4, pos := "laws.go:476", after := #[{ on := 27, ground := Go.Ground.data }, { on := 30, ground := Go.Ground.data }, { on := 2, ground := Go.Ground.guard }], guard := Option.some (2, Bool.false) }) (v := ?_) rfl (by kernel_rfl) (by kernel_rfl) (by kernel_rfl) (fun _ _ _ h => h) (Or.inl ⟨by rfl, ?_⟩) hHeld ?_
        rotate_left
        · intro w hSw
          try dsimp only at hSw
          go_simp
          try (with_reducible rfl)
        simp only [Act.put, List.setIfInBounds_toArray, List.set_cons_zero, List.set_cons_succ]
        refine wpAnyH_take (i := 32) (oi := { dst := Option.some 92, op := Go.Op.pick (Go.Operand.tmp 62) (Go.Operand.const (Go.Value.bool Bool.true)) (Go.Operand.tmp 91), type := 4, pos := "laws.go:476", after := #[{ on := 2, ground := Go.Ground.data }, { on := 31, ground := Go.Ground.data }], guard := Option.none }) (v := ?_) rfl (by kernel_rfl) (by kernel_rfl) (by kernel_rfl) (fun _ _ _ h => h) (Or.inl ⟨by rfl, ?_⟩) hHeld ?_
        rotate_left
        · intro w hSw
          try dsimp only at hSw
          go_simp
          try (with_reducible rfl)
        simp only [Act.put, List.setIfInBounds_toArray, List.set_cons_zero, List.set_cons_succ]
        refine wpAnyH_take (i := 33) (oi := { dst := Option.some 2, op := Go.Op.assign (Go.Operand.tmp 92), type := 4, pos := "laws.go:476", after := #[{ on := 32, ground := Go.Ground.data }, { on := 27, ground := Go.Ground.chain }, { on := 0, ground := Go.Ground.phase }, { on := 1, ground := Go.Ground.phase }, { on := 2, ground := Go.Ground.phase }, { on := 3, ground := Go.Ground.phase }, { on := 4, ground := Go.Ground.phase }, { on := 5, ground := Go.Ground.phase }, { on := 6, ground := Go.Ground.phase }, { on := 7, ground := Go.Ground.phase }, { on := 8, ground := Go.Ground.phase }, { on := 9, ground := Go.Ground.phase }, { on := 10, ground := Go.Ground.phase }, { on := 11, ground := Go.Ground.phase }, { on := 12, ground := Go.Ground.phase }, { on := 13, ground := Go.Ground.phase }, { on := 14, ground := Go.Ground.phase }, { on := 15, ground := Go.Ground.phase }, { on := 16, ground := Go.Ground.phase }, { on := 17, ground := Go.Ground.phase }, { on := 18, ground := Go.Ground.phase }, { on := 19, ground := Go.Ground.phase }, { on := 20, ground := Go.Ground.phase }, { on := 21, ground := Go.Ground.phase }, { on := 22, ground := Go.Ground.phase }, { on := 23, ground := Go.Ground.phase }, { on := 24, ground := Go.Ground.phase }, { on := 25, ground := Go.Ground.phase }, { on := 26, ground := Go.Ground.phase }, { on := 27, ground := Go.Ground.phase }, { on := 28, ground := Go.Ground.phase }, { on := 29, ground := Go.Ground.phase }, { on := 30, ground := Go.Ground.phase }, { on := 31, ground := Go.Ground.phase }, { on := 32, ground := Go.Ground.phase }], guard := Option.none }) (v := ?_) rfl (by kernel_rfl) (by kernel_rfl) (by kernel_rfl) (fun _ _ _ h => h) (Or.inl ⟨by rfl, ?_⟩) hHeld ?_
        rotate_left
        · intro w hSw
          try dsimp only at hSw
          go_simp
          try (with_reducible rfl)
        simp only [Act.put, List.setIfInBounds_toArray, List.set_cons_zero, List.set_cons_succ]
        refine wpAnyH_done (by kernel_rfl) ?_ _
        go_wp2
        go_ret
        first | exact ⟨rfl, HB_19.out⟩ | exact ⟨congrArg (fun b => Ending.returned (Value.bool b)) hpn.out, HB_19.out⟩
    · have h12 : decide ((12 : Int) < (dl.length : Int)) = true := decide_eq_true (by omega)
      clear hD hm
      rcases ig with _ | _
      · have htr := trivial
        clear heg
        go_wp2_with fail
        refine wp_region_held_drew (S := (fun W : World => (W.cell? ⟨w9.heap.size, 0, none⟩ = some (.int .i64 yh) ∧ W.cell? ⟨w9.heap.size, 1, none⟩ = some (.int .i64 (yt + 1)) ∧ W.cell? ⟨w9.heap.size, 2, none⟩ = some (.string ya) ∧ W.cell? ⟨w9.heap.size, 3, none⟩ = some (.string yv) ∧ W.cell? ⟨w9.heap.size, 4, none⟩ = some (.string yn) ∧ W.cell? ⟨w9.heap.size, 5, none⟩ = some (.string yd)) ∧ (W.cell? ⟨w1.heap.size, 0, none⟩ = some (.int .i64 yh) ∧ W.cell? ⟨w1.heap.size, 1, none⟩ = some (.int .i64 yt) ∧ W.cell? ⟨w1.heap.size, 2, none⟩ = some (.string ya) ∧ W.cell? ⟨w1.heap.size, 3, none⟩ = some (.string yv) ∧ W.cell? ⟨w1.heap.size, 4, none⟩ = some (.string yn) ∧ W.cell? ⟨w1.heap.size, 5, none⟩ = some (.string yd)) ∧ (W.cell? ⟨w1.heap.size + 1, 0, none⟩ = some (.int .i64 xh) ∧ W.cell? ⟨w1.heap.size + 1, 1, none⟩ = some (.int .i64 xr) ∧ W.cell? ⟨w1.heap.size + 1, 2, none⟩ = some (.string xi) ∧ W.cell? ⟨w1.heap.size + 1, 3, none⟩ = some (.slice xa xl.length xc)) ∧ (W.cell? ⟨w9.heap.size + 1, 0, none⟩ = some (.int .i64 xh) ∧ W.cell? ⟨w9.heap.size + 1, 1, none⟩ = some (.int .i64 xr) ∧ W.cell? ⟨w9.heap.size + 1, 2, none⟩ = some (.string xi) ∧ W.cell? ⟨w9.heap.size + 1, 3, none⟩ = some (.slice da dl.length dc)))) (by kernel_rfl) ?_ (fun hHeld => ?_)
        · exact ⟨⟨(K8_13.out).cell 0 rfl, (K8_13.out).cell 1 rfl, (K8_13.out).cell 2 rfl, (K8_13.out).cell 3 rfl, (K8_13.out).cell 4 rfl, (K8_13.out).cell 5 rfl⟩, ⟨(K4_13.out).cell 0 rfl, (K4_13.out).cell 1 rfl, (K4_13.out).cell 2 rfl, (K4_13.out).cell 3 rfl, (K4_13.out).cell 4 rfl, (K4_13.out).cell 5 rfl⟩, ⟨(K5_13.out).cell 0 rfl, (K5_13.out).cell 1 rfl, (K5_13.out).cell 2 rfl, (K5_13.out).cell 3 rfl⟩, ⟨(K9_13.out).cell 0 rfl, (K9_13.out).cell 1 rfl, (K9_13.out).cell 2 rfl, (K9_13.out).cell 3 rfl⟩⟩
        generalize w11.drew = wd at *
        refine wpAnyH_take (i := 0) (oi := { dst := Option.some 60, op := Go.Op.move (Go.Operand.tmp 7), type := 4, pos := "laws.go:476", after := #[], guard := Option.none }) (v := ?_) rfl (by kernel_rfl) (by kernel_rfl) (by kernel_rfl) (fun _ _ _ h => h) (Or.inl ⟨by rfl, ?_⟩) hHeld ?_
        rotate_left
        · intro w hSw
          try dsimp only at hSw
          go_simp
          try (with_reducible rfl)
        simp only [Act.put, List.setIfInBounds_toArray, List.set_cons_zero, List.set_cons_succ]
        refine wpAnyH_take (i := 1) (oi := { dst := Option.some 61, op := Go.Op.unOp Go.UnOp.not 4 (Go.Operand.tmp 60), type := 4, pos := "laws.go:476", after := #[{ on := 0, ground := Go.Ground.data }], guard := Option.none }) (v := ?_) rfl (by kernel_rfl) (by kernel_rfl) (by kernel_rfl) (fun _ _ _ h => h) (Or.inl ⟨by rfl, ?_⟩) hHeld ?_
        rotate_left
        · intro w hSw
          try dsimp only at hSw
          go_simp
          try (with_reducible rfl)
        simp only [Act.put, List.setIfInBounds_toArray, List.set_cons_zero, List.set_cons_succ]
        refine wpAnyH_take (i := 2) (oi := { dst := Option.some 62, op := Go.Op.move (Go.Operand.tmp 61), type := 4, pos := "laws.go:476", after := #[{ on := 1, ground := Go.Ground.data }], guard := Option.none }) (v := ?_) rfl (by kernel_rfl) (by kernel_rfl) (by kernel_rfl) (fun _ _ _ h => h) (Or.inl ⟨by rfl, ?_⟩) hHeld ?_
        rotate_left
        · intro w hSw
          try dsimp only at hSw
          go_simp
          try (with_reducible rfl)
        simp only [Act.put, List.setIfInBounds_toArray, List.set_cons_zero, List.set_cons_succ]
        refine wpAnyH_take (i := 3) (oi := { dst := Option.some 63, op := Go.Op.move (Go.Operand.tmp 3), type := 24, pos := "laws.go:476", after := #[{ on := 2, ground := Go.Ground.guard }], guard := Option.some (2, Bool.false) }) (v := ?_) rfl (by kernel_rfl) (by kernel_rfl) (by kernel_rfl) (fun _ _ _ h => h) (Or.inl ⟨by rfl, ?_⟩) hHeld ?_
        rotate_left
        · intro w hSw
          try dsimp only at hSw
          go_simp
          try (with_reducible rfl)
        simp only [Act.put, List.setIfInBounds_toArray, List.set_cons_zero, List.set_cons_succ]
        refine wpAnyH_take (i := 4) (oi := { dst := Option.some 64, op := Go.Op.load 26 (Go.Operand.tmp 8), type := 26, pos := "laws.go:476", after := #[{ on := 2, ground := Go.Ground.guard }], guard := Option.some (2, Bool.false) }) (v := ?_) rfl (by kernel_rfl) (by kernel_rfl) (by kernel_rfl) (fun _ _ _ h => h) (Or.inl ⟨by rfl, ?_⟩) hHeld ?_
        rotate_left
        · intro w hSw
          try dsimp only at hSw
          go_simp
          try (with_reducible rfl)
        simp only [Act.put, List.setIfInBounds_toArray, List.set_cons_zero, List.set_cons_succ]
        refine wpAnyH_take (i := 5) (oi := { dst := Option.some 65, op := Go.Op.load 29 (Go.Operand.tmp 5), type := 29, pos := "laws.go:476", after := #[{ on := 2, ground := Go.Ground.guard }], guard := Option.some (2, Bool.false) }) (v := ?_) rfl (by kernel_rfl) (by kernel_rfl) (by kernel_rfl) (fun _ _ _ h => h) (Or.inl ⟨by rfl, ?_⟩) hHeld ?_
        rotate_left
        · intro w hSw
          try dsimp only at hSw
          go_simp
          try (with_reducible rfl)
        simp only [Act.put, List.setIfInBounds_toArray, List.set_cons_zero, List.set_cons_succ]
        refine wpAnyH_ready (rs := [6]) (by kernel_rfl) (by decide) ?_
        refine AllReadyH.cons (o := { dst := Option.some 66, op := Go.Op.call { callee := Go.Callee.value (Go.Operand.func 8), args := #[Go.Operand.tmp 63, Go.Operand.tmp 64, Go.Operand.tmp 65], argTypes := #[24, 26, 29] }, type := 4, pos := "laws.go:476", after := #[{ on := 3, ground := Go.Ground.data }, { on := 4, ground := Go.Ground.data }, { on := 5, ground := Go.Ground.data }, { on := 2, ground := Go.Ground.chain }, { on := 2, ground := Go.Ground.guard }], guard := Option.some (2, Bool.false) }) rfl (fun K hK => ?_) AllReadyH.nil
        go_simp
        go_at_call 8
        refine (kOg _ HV_13.out HSX_13.out HT_13.out).mono ?_
        rintro e v7 ⟨rfl, b7⟩
        have HT_20 : Hid (Tab v7) := HT_13.out.below b7 HT_13.out.pos
        have HB_20 : Hid (Below w0.heap.size w0 v7) := HB_13.out.trans (b7.mono HB_13.out.size)
        have HV_20 : Hid (VO v7 va l) := HV_13.out.below b7
        have HSX_20 : Hid (SO v7 xa xl) := SO.below HSX_13.out b7
        have K4_20 : Hid (Blk v7 (w1.heap.size) [.int .i64 yh, .int .i64 yt, .string ya, .string yv, .string yn, .string yd] 26) := K4_13.out.below b7 K4_13.out.lt
        have K5_20 : Hid (Blk v7 (w1.heap.size + 1) [.int .i64 xh, .int .i64 xr, .string xi, .slice xa xl.length xc] 29) := K5_13.out.below b7 K5_13.out.lt
        have HN_20 : Hid (Nums v7 ia ids) := HN_13.out.below b7
        have K8_20 : Hid (Blk v7 (w9.heap.size) [.int .i64 yh, .int .i64 (yt + 1), .string ya, .string yv, .string yn, .string yd] 26) := K8_13.out.below b7 K8_13.out.lt
        have K9_20 : Hid (Blk v7 (w9.heap.size + 1) [.int .i64 xh, .int .i64 xr, .string xi, .slice da dl.length dc] 29) := K9_13.out.below b7 K9_13.out.lt
        have HSD_20 : Hid (SO v7 da dl) := SO.below HSD_13.out b7
        clear b7
        refine hK.out _ _ (⟨⟨(K8_20.out).cell 0 rfl, (K8_20.out).cell 1 rfl, (K8_20.out).cell 2 rfl, (K8_20.out).cell 3 rfl, (K8_20.out).cell 4 rfl, (K8_20.out).cell 5 rfl⟩, ⟨(K4_20.out).cell 0 rfl, (K4_20.out).cell 1 rfl, (K4_20.out).cell 2 rfl, (K4_20.out).cell 3 rfl, (K4_20.out).cell 4 rfl, (K4_20.out).cell 5 rfl⟩, ⟨(K5_20.out).cell 0 rfl, (K5_20.out).cell 1 rfl, (K5_20.out).cell 2 rfl, (K5_20.out).cell 3 rfl⟩, ⟨(K9_20.out).cell 0 rfl, (K9_20.out).cell 1 rfl, (K9_20.out).cell 2 rfl, (K9_20.out).cell 3 rfl⟩⟩) (fun hHeld => ?_)
        clear hK K
        try simp only [Act.put, List.setIfInBounds_toArray, List.set_cons_zero, List.set_cons_succ]
        refine wpAnyH_take (i := 7) (oi := { dst := Option.some 67, op := Go.Op.unOp Go.UnOp.not 4 (Go.Operand.tmp 66), type := 4, pos := "laws.go:476", after := #[{ on := 6, ground := Go.Ground.data }, { on := 2, ground := Go.Ground.guard }], guard := Option.some (2, Bool.false) }) (v := ?_) rfl (by kernel_rfl) (by kernel_rfl) (by kernel_rfl) (fun _ _ _ h => h) (Or.inl ⟨by rfl, ?_⟩) hHeld ?_
        rotate_left
        · intro w hSw
          try dsimp only at hSw
          go_simp
          try (with_reducible rfl)
        simp only [Act.put, List.setIfInBounds_toArray, List.set_cons_zero, List.set_cons_succ]
        refine wpAnyH_take (i := 8) (oi := { dst := Option.some 68, op := Go.Op.move (Go.Operand.tmp 67), type := 4, pos := "laws.go:476", after := #[{ on := 7, ground := Go.Ground.data }, { on := 6, ground := Go.Ground.chain }, { on := 2, ground := Go.Ground.guard }], guard := Option.some (2, Bool.false) }) (v := ?_) rfl (by kernel_rfl) (by kernel_rfl) (by kernel_rfl) (fun _ _ _ h => h) (Or.inl ⟨by rfl, ?_⟩) hHeld ?_
        rotate_left
        · intro w hSw
          try dsimp only at hSw
          go_simp
          try (with_reducible rfl)
        simp only [Act.put, List.setIfInBounds_toArray, List.set_cons_zero, List.set_cons_succ]
        refine wpAnyH_take (i := 9) (oi := { dst := Option.some 69, op := Go.Op.load 26 (Go.Operand.tmp 8), type := 26, pos := "laws.go:476", after := #[{ on := 8, ground := Go.Ground.guard }], guard := Option.some (8, Bool.false) }) (v := undef) rfl (by kernel_rfl) (by kernel_rfl) (by kernel_rfl) (fun _ _ _ h => h) (Or.inr ⟨by rfl, rfl⟩) hHeld ?_
        simp only [Act.put, List.setIfInBounds_toArray, List.set_cons_zero, List.set_cons_succ]
        refine wpAnyH_take (i := 10) (oi := { dst := Option.some 70, op := Go.Op.call { callee := Go.Callee.value (Go.Operand.func 13), args := #[Go.Operand.tmp 69], argTypes := #[26] }, type := 9, pos := "laws.go:476", after := #[{ on := 9, ground := Go.Ground.data }, { on := 8, ground := Go.Ground.chain }, { on := 8, ground := Go.Ground.guard }], guard := Option.some (8, Bool.false) }) (v := undef) rfl (by kernel_rfl) (by kernel_rfl) (by kernel_rfl) (fun _ _ _ h => h) (Or.inr ⟨by rfl, rfl⟩) hHeld ?_
        simp only [Act.put, List.setIfInBounds_toArray, List.set_cons_zero, List.set_cons_succ]
        refine wpAnyH_take (i := 11) (oi := { dst := Option.some 71, op := Go.Op.load 26 (Go.Operand.tmp 4), type := 26, pos := "laws.go:476", after := #[{ on := 8, ground := Go.Ground.guard }], guard := Option.some (8, Bool.false) }) (v := undef) rfl (by kernel_rfl) (by kernel_rfl) (by kernel_rfl) (fun _ _ _ h => h) (Or.inr ⟨by rfl, rfl⟩) hHeld ?_
        simp only [Act.put, List.setIfInBounds_toArray, List.set_cons_zero, List.set_cons_succ]
        refine wpAnyH_take (i := 12) (oi := { dst := Option.some 72, op := Go.Op.call { callee := Go.Callee.value (Go.Operand.func 13), args := #[Go.Operand.tmp 71], argTypes := #[26] }, type := 9, pos := "laws.go:476", after := #[{ on := 11, ground := Go.Ground.data }, { on := 10, ground := Go.Ground.chain }, { on := 8, ground := Go.Ground.guard }], guard := Option.some (8, Bool.false) }) (v := undef) rfl (by kernel_rfl) (by kernel_rfl) (by kernel_rfl) (fun _ _ _ h => h) (Or.inr ⟨by rfl, rfl⟩) hHeld ?_
        simp only [Act.put, List.setIfInBounds_toArray, List.set_cons_zero, List.set_cons_succ]
        refine wpAnyH_take (i := 13) (oi := { dst := Option.some 73, op := Go.Op.binOp Go.BinOp.eql 9 (Go.Operand.tmp 70) (Go.Operand.tmp 72) 9, type := 4, pos := "laws.go:476", after := #[{ on := 10, ground := Go.Ground.data }, { on := 12, ground := Go.Ground.data }, { on := 8, ground := Go.Ground.guard }], guard := Option.some (8, Bool.false) }) (v := undef) rfl (by kernel_rfl) (by kernel_rfl) (by kernel_rfl) (fun _ _ _ h => h) (Or.inr ⟨by rfl, rfl⟩) hHeld ?_
        simp only [Act.put, List.setIfInBounds_toArray, List.set_cons_zero, List.set_cons_succ]
        refine wpAnyH_take (i := 14) (oi := { dst := Option.some 74, op := Go.Op.pick (Go.Operand.tmp 68) (Go.Operand.const (Go.Value.bool Bool.true)) (Go.Operand.tmp 73), type := 4, pos := "laws.go:476", after := #[{ on := 8, ground := Go.Ground.data }, { on := 13, ground := Go.Ground.data }, { on := 2, ground := Go.Ground.guard }], guard := Option.some (2, Bool.false) }) (v := ?_) rfl (by kernel_rfl) (by kernel_rfl) (by kernel_rfl) (fun _ _ _ h => h) (Or.inl ⟨by rfl, ?_⟩) hHeld ?_
        rotate_left
        · intro w hSw
          try dsimp only at hSw
          go_simp
          try (with_reducible rfl)
        simp only [Act.put, List.setIfInBounds_toArray, List.set_cons_zero, List.set_cons_succ]
        refine wpAnyH_take (i := 15) (oi := { dst := Option.some 75, op := Go.Op.move (Go.Operand.tmp 74), type := 4, pos := "laws.go:476", after := #[{ on := 14, ground := Go.Ground.data }, { on := 12, ground := Go.Ground.chain }, { on := 2, ground := Go.Ground.guard }], guard := Option.some (2, Bool.false) }) (v := ?_) rfl (by kernel_rfl) (by kernel_rfl) (by kernel_rfl) (fun _ _ _ h => h) (Or.inl ⟨by rfl, ?_⟩) hHeld ?_
        rotate_left
        · intro w hSw
          try dsimp only at hSw
          go_simp
          try (with_reducible rfl)
        simp only [Act.put, List.setIfInBounds_toArray, List.set_cons_zero, List.set_cons_succ]
        refine wpAnyH_take (i := 16) (oi := { dst := Option.some 76, op := Go.Op.fieldAddr 29 (Go.Operand.tmp 9) 3, type := 0, pos := "laws.go:476", after := #[{ on := 15, ground := Go.Ground.guard }], guard := Option.some (15, Bool.true) }) (v := ?_) rfl (by kernel_rfl) (by kernel_rfl) (by kernel_rfl) (fun _ _ _ h => h) (Or.inl ⟨by rfl, ?_⟩) hHeld ?_
        rotate_left
        · intro w hSw
          try dsimp only at hSw
          go_simp
          try (with_reducible rfl)
        simp only [Act.put, List.setIfInBounds_toArray, List.set_cons_zero, List.set_cons_succ]
        refine wpAnyH_take (i := 17) (oi := { dst := Option.some 77, op := Go.Op.load 27 (Go.Operand.tmp 76), type := 27, pos := "laws.go:476", after := #[{ on := 16, ground := Go.Ground.data }, { on := 15, ground := Go.Ground.guard }], guard := Option.some (15, Bool.true) }) (v := ?_) rfl (by kernel_rfl) (by kernel_rfl) (by kernel_rfl) (fun _ _ _ h => h) (Or.inl ⟨by rfl, ?_⟩) hHeld ?_
        rotate_left
        · intro w hSw
          try dsimp only at hSw
          go_simp
          try (with_reducible rfl)
        simp only [Act.put, List.setIfInBounds_toArray, List.set_cons_zero, List.set_cons_succ]
        refine wpAnyH_take (i := 18) (oi := { dst := Option.some 78, op := Go.Op.call { callee := Go.Callee.builtin Go.Builtin.len, args := #[Go.Operand.tmp 77], argTypes := #[27] }, type := 3, pos := "laws.go:476", after := #[{ on := 17, ground := Go.Ground.data }, { on := 15, ground := Go.Ground.guard }], guard := Option.some (15, Bool.true) }) (v := ?_) rfl (by kernel_rfl) (by kernel_rfl) (by kernel_rfl) (fun _ _ _ h => h) (Or.inl ⟨by rfl, ?_⟩) hHeld ?_
        rotate_left
        · intro w hSw
          try dsimp only at hSw
          go_simp
          try (with_reducible rfl)
        simp only [Act.put, List.setIfInBounds_toArray, List.set_cons_zero, List.set_cons_succ]
        refine wpAnyH_take (i := 19) (oi := { dst := Option.some 79, op := Go.Op.binOp Go.BinOp.gtr 3 (Go.Operand.tmp 78) (Go.Operand.const (Go.Value.int Go.IntKind.i64 12)) 3, type := 4, pos := "laws.go:476", after := #[{ on := 18, ground := Go.Ground.data }, { on := 15, ground := Go.Ground.guard }], guard := Option.some (15, Bool.true) }) (v := ?_) rfl (by kernel_rfl) (by kernel_rfl) (by kernel_rfl) (fun _ _ _ h => h) (Or.inl ⟨by rfl, ?_⟩) hHeld ?_
        rotate_left
        · intro w hSw
          try dsimp only at hSw
          go_simp
          try (with_reducible rfl)
        simp only [Act.put, List.setIfInBounds_toArray, List.set_cons_zero, List.set_cons_succ]
        refine wpAnyH_take (i := 20) (oi := { dst := Option.some 80, op := Go.Op.move (Go.Operand.tmp 79), type := 4, pos := "laws.go:476", after := #[{ on := 19, ground := Go.Ground.data }, { on := 15, ground := Go.Ground.chain }, { on := 15, ground := Go.Ground.guard }], guard := Option.some (15, Bool.true) }) (v := ?_) rfl (by kernel_rfl) (by kernel_rfl) (by kernel_rfl) (fun _ _ _ h => h) (Or.inl ⟨by rfl, ?_⟩) hHeld ?_
        rotate_left
        · intro w hSw
          try dsimp only at hSw
          go_simp
          try (with_reducible rfl)
        simp only [Act.put, List.setIfInBounds_toArray, List.set_cons_zero, List.set_cons_succ]
        refine wpAnyH_take (i := 21) (oi := { dst := Option.some 81, op := Go.Op.move (Go.Operand.tmp 3), type := 24, pos := "laws.go:476", after := #[{ on := 20, ground := Go.Ground.guard }], guard := Option.some (20, Bool.false) }) (v := undef) rfl (by kernel_rfl) (by kernel_rfl) (by kernel_rfl) (fun _ _ _ h => h) (Or.inr ⟨by rfl, rfl⟩) hHeld ?_
        simp only [Act.put, List.setIfInBounds_toArray, List.set_cons_zero, List.set_cons_succ]
        refine wpAnyH_take (i := 22) (oi := { dst := Option.some 82, op := Go.Op.load 26 (Go.Operand.tmp 4), type := 26, pos := "laws.go:476", after := #[{ on := 20, ground := Go.Ground.guard }], guard := Option.some (20, Bool.false) }) (v := undef) rfl (by kernel_rfl) (by kernel_rfl) (by kernel_rfl) (fun _ _ _ h => h) (Or.inr ⟨by rfl, rfl⟩) hHeld ?_
        simp only [Act.put, List.setIfInBounds_toArray, List.set_cons_zero, List.set_cons_succ]
        refine wpAnyH_take (i := 23) (oi := { dst := Option.some 83, op := Go.Op.load 29 (Go.Operand.tmp 9), type := 29, pos := "laws.go:476", after := #[{ on := 20, ground := Go.Ground.guard }], guard := Option.some (20, Bool.false) }) (v := undef) rfl (by kernel_rfl) (by kernel_rfl) (by kernel_rfl) (fun _ _ _ h => h) (Or.inr ⟨by rfl, rfl⟩) hHeld ?_
        simp only [Act.put, List.setIfInBounds_toArray, List.set_cons_zero, List.set_cons_succ]
        refine wpAnyH_take (i := 24) (oi := { dst := Option.some 84, op := Go.Op.call { callee := Go.Callee.value (Go.Operand.func 8), args := #[Go.Operand.tmp 81, Go.Operand.tmp 82, Go.Operand.tmp 83], argTypes := #[24, 26, 29] }, type := 4, pos := "laws.go:476", after := #[{ on := 21, ground := Go.Ground.data }, { on := 22, ground := Go.Ground.data }, { on := 23, ground := Go.Ground.data }, { on := 20, ground := Go.Ground.chain }, { on := 20, ground := Go.Ground.guard }], guard := Option.some (20, Bool.false) }) (v := undef) rfl (by kernel_rfl) (by kernel_rfl) (by kernel_rfl) (fun _ _ _ h => h) (Or.inr ⟨by rfl, rfl⟩) hHeld ?_
        simp only [Act.put, List.setIfInBounds_toArray, List.set_cons_zero, List.set_cons_succ]
        refine wpAnyH_take (i := 25) (oi := { dst := Option.some 85, op := Go.Op.pick (Go.Operand.tmp 80) (Go.Operand.const (Go.Value.bool Bool.true)) (Go.Operand.tmp 84), type := 4, pos := "laws.go:476", after := #[{ on := 20, ground := Go.Ground.data }, { on := 24, ground := Go.Ground.data }, { on := 15, ground := Go.Ground.guard }], guard := Option.some (15, Bool.true) }) (v := ?_) rfl (by kernel_rfl) (by kernel_rfl) (by kernel_rfl) (fun _ _ _ h => h) (Or.inl ⟨by rfl, ?_⟩) hHeld ?_
        rotate_left
        · intro w hSw
          try dsimp only at hSw
          go_simp
          try (with_reducible rfl)
        simp only [Act.put, List.setIfInBounds_toArray, List.set_cons_zero, List.set_cons_succ]
        refine wpAnyH_take (i := 26) (oi := { dst := Option.some 86, op := Go.Op.pick (Go.Operand.tmp 75) (Go.Operand.tmp 85) (Go.Operand.const (Go.Value.bool Bool.false)), type := 4, pos := "laws.go:476", after := #[{ on := 15, ground := Go.Ground.data }, { on := 25, ground := Go.Ground.data }, { on := 2, ground := Go.Ground.guard }], guard := Option.some (2, Bool.false) }) (v := ?_) rfl (by kernel_rfl) (by kernel_rfl) (by kernel_rfl) (fun _ _ _ h => h) (Or.inl ⟨by rfl, ?_⟩) hHeld ?_
        rotate_left
        · intro w hSw
          try dsimp only at hSw
          go_simp
          try (with_reducible rfl)
        simp only [Act.put, List.setIfInBounds_toArray, List.set_cons_zero, List.set_cons_succ]
        refine wpAnyH_take (i := 27) (oi := { dst := Option.some 87, op := Go.Op.move (Go.Operand.tmp 86), type := 4, pos := "laws.go:476", after := #[{ on := 26, ground := Go.Ground.data }, { on := 24, ground := Go.Ground.chain }, { on := 2, ground := Go.Ground.guard }], guard := Option.some (2, Bool.false) }) (v := ?_) rfl (by kernel_rfl) (by kernel_rfl) (by kernel_rfl) (fun _ _ _ h => h) (Or.inl ⟨by rfl, ?_⟩) hHeld ?_
        rotate_left
        · intro w hSw
          try dsimp only at hSw
          go_simp
          try (with_reducible rfl)
        simp only [Act.put, List.setIfInBounds_toArray, List.set_cons_zero, List.set_cons_succ]
        refine wpAnyH_take (i := 28) (oi := { dst := Option.some 88, op := Go.Op.move (Go.Operand.tmp 6), type := 32, pos := "laws.go:476", after := #[{ on := 27, ground := Go.Ground.guard }], guard := Option.some (27, Bool.true) }) (v := ?_) rfl (by kernel_rfl) (by kernel_rfl) (by kernel_rfl) (fun _ _ _ h => h) (Or.inl ⟨by rfl, ?_⟩) hHeld ?_
        rotate_left
        · intro w hSw
          try dsimp only at hSw
          go_simp
          try (with_reducible rfl)
        simp only [Act.put, List.setIfInBounds_toArray, List.set_cons_zero, List.set_cons_succ]
        refine wpAnyH_take (i := 29) (oi := { dst := Option.some 89, op := Go.Op.call { callee := Go.Callee.builtin Go.Builtin.len, args := #[Go.Operand.tmp 88], argTypes := #[32] }, type := 3, pos := "laws.go:476", after := #[{ on := 28, ground := Go.Ground.data }, { on := 27, ground := Go.Ground.guard }], guard := Option.some (27, Bool.true) }) (v := ?_) rfl (by kernel_rfl) (by kernel_rfl) (by kernel_rfl) (fun _ _ _ h => h) (Or.inl ⟨by rfl, ?_⟩) hHeld ?_
        rotate_left
        · intro w hSw
          try dsimp only at hSw
          go_simp
          try (with_reducible rfl)
        simp only [Act.put, List.setIfInBounds_toArray, List.set_cons_zero, List.set_cons_succ]
        refine wpAnyH_take (i := 30) (oi := { dst := Option.some 90, op := Go.Op.binOp Go.BinOp.gtr 3 (Go.Operand.tmp 89) (Go.Operand.const (Go.Value.int Go.IntKind.i64 0)) 3, type := 4, pos := "laws.go:476", after := #[{ on := 29, ground := Go.Ground.data }, { on := 27, ground := Go.Ground.guard }], guard := Option.some (27, Bool.true) }) (v := ?_) rfl (by kernel_rfl) (by kernel_rfl) (by kernel_rfl) (fun _ _ _ h => h) (Or.inl ⟨by rfl, ?_⟩) hHeld ?_
        rotate_left
        · intro w hSw
          try dsimp only at hSw
          go_simp
          try (with_reducible rfl)
        simp only [Act.put, List.setIfInBounds_toArray, List.set_cons_zero, List.set_cons_succ]
        refine wpAnyH_take (i := 31) (oi := { dst := Option.some 91, op := Go.Op.pick (Go.Operand.tmp 87) (Go.Operand.tmp 90) (Go.Operand.const (Go.Value.bool Bool.false)), type := 4, pos := "laws.go:476", after := #[{ on := 27, ground := Go.Ground.data }, { on := 30, ground := Go.Ground.data }, { on := 2, ground := Go.Ground.guard }], guard := Option.some (2, Bool.false) }) (v := ?_) rfl (by kernel_rfl) (by kernel_rfl) (by kernel_rfl) (fun _ _ _ h => h) (Or.inl ⟨by rfl, ?_⟩) hHeld ?_
        rotate_left
        · intro w hSw
          try dsimp only at hSw
          go_simp
          try (with_reducible rfl)
        simp only [Act.put, List.setIfInBounds_toArray, List.set_cons_zero, List.set_cons_succ]
        refine wpAnyH_take (i := 32) (oi := { dst := Option.some 92, op := Go.Op.pick (Go.Operand.tmp 62) (Go.Operand.const (Go.Value.bool Bool.true)) (Go.Operand.tmp 91), type := 4, pos := "laws.go:476", after := #[{ on := 2, ground := Go.Ground.data }, { on := 31, ground := Go.Ground.data }], guard := Option.none }) (v := ?_) rfl (by kernel_rfl) (by kernel_rfl) (by kernel_rfl) (fun _ _ _ h => h) (Or.inl ⟨by rfl, ?_⟩) hHeld ?_
        rotate_left
        · intro w hSw
          try dsimp only at hSw
          go_simp
          try (with_reducible rfl)
        simp only [Act.put, List.setIfInBounds_toArray, List.set_cons_zero, List.set_cons_succ]
        refine wpAnyH_take (i := 33) (oi := { dst := Option.some 2, op := Go.Op.assign (Go.Operand.tmp 92), type := 4, pos := "laws.go:476", after := #[{ on := 32, ground := Go.Ground.data }, { on := 27, ground := Go.Ground.chain }, { on := 0, ground := Go.Ground.phase }, { on := 1, ground := Go.Ground.phase }, { on := 2, ground := Go.Ground.phase }, { on := 3, ground := Go.Ground.phase }, { on := 4, ground := Go.Ground.phase }, { on := 5, ground := Go.Ground.phase }, { on := 6, ground := Go.Ground.phase }, { on := 7, ground := Go.Ground.phase }, { on := 8, ground := Go.Ground.phase }, { on := 9, ground := Go.Ground.phase }, { on := 10, ground := Go.Ground.phase }, { on := 11, ground := Go.Ground.phase }, { on := 12, ground := Go.Ground.phase }, { on := 13, ground := Go.Ground.phase }, { on := 14, ground := Go.Ground.phase }, { on := 15, ground := Go.Ground.phase }, { on := 16, ground := Go.Ground.phase }, { on := 17, ground := Go.Ground.phase }, { on := 18, ground := Go.Ground.phase }, { on := 19, ground := Go.Ground.phase }, { on := 20, ground := Go.Ground.phase }, { on := 21, ground := Go.Ground.phase }, { on := 22, ground := Go.Ground.phase }, { on := 23, ground := Go.Ground.phase }, { on := 24, ground := Go.Ground.phase }, { on := 25, ground := Go.Ground.phase }, { on := 26, ground := Go.Ground.phase }, { on := 27, ground := Go.Ground.phase }, { on := 28, ground := Go.Ground.phase }, { on := 29, ground := Go.Ground.phase }, { on := 30, ground := Go.Ground.phase }, { on := 31, ground := Go.Ground.phase }, { on := 32, ground := Go.Ground.phase }], guard := Option.none }) (v := ?_) rfl (by kernel_rfl) (by kernel_rfl) (by kernel_rfl) (fun _ _ _ h => h) (Or.inl ⟨by rfl, ?_⟩) hHeld ?_
        rotate_left
        · intro w hSw
          try dsimp only at hSw
          go_simp
          try (with_reducible rfl)
        simp only [Act.put, List.setIfInBounds_toArray, List.set_cons_zero, List.set_cons_succ]
        refine wpAnyH_done (by kernel_rfl) ?_ _
        go_wp2
        go_ret
        first | exact ⟨rfl, HB_20.out⟩ | exact ⟨congrArg (fun b => Ending.returned (Value.bool b)) hpn.out, HB_20.out⟩
      · have htr := trivial
        have hj := (heg.out rfl).2
        subst hj
        clear heg
        go_wp2_with fail
        refine wp_region_held_drew (S := (fun W : World => (W.cell? ⟨w9.heap.size, 0, none⟩ = some (.int .i64 yh) ∧ W.cell? ⟨w9.heap.size, 1, none⟩ = some (.int .i64 (yt + 1)) ∧ W.cell? ⟨w9.heap.size, 2, none⟩ = some (.string ya) ∧ W.cell? ⟨w9.heap.size, 3, none⟩ = some (.string yv) ∧ W.cell? ⟨w9.heap.size, 4, none⟩ = some (.string yn) ∧ W.cell? ⟨w9.heap.size, 5, none⟩ = some (.string yd)) ∧ (W.cell? ⟨w1.heap.size, 0, none⟩ = some (.int .i64 yh) ∧ W.cell? ⟨w1.heap.size, 1, none⟩ = some (.int .i64 yt) ∧ W.cell? ⟨w1.heap.size, 2, none⟩ = some (.string ya) ∧ W.cell? ⟨w1.heap.size, 3, none⟩ = some (.string yv) ∧ W.cell? ⟨w1.heap.size, 4, none⟩ = some (.string yn) ∧ W.cell? ⟨w1.heap.size, 5, none⟩ = some (.string yd)) ∧ (W.cell? ⟨w1.heap.size + 1, 0, none⟩ = some (.int .i64 xh) ∧ W.cell? ⟨w1.heap.size + 1, 1, none⟩ = some (.int .i64 xr) ∧ W.cell? ⟨w1.heap.size + 1, 2, none⟩ = some (.string xi) ∧ W.cell? ⟨w1.heap.size + 1, 3, none⟩ = some (.slice xa xl.length xc)) ∧ (W.cell? ⟨w9.heap.size + 1, 0, none⟩ = some (.int .i64 xh) ∧ W.cell? ⟨w9.heap.size + 1, 1, none⟩ = some (.int .i64 xr) ∧ W.cell? ⟨w9.heap.size + 1, 2, none⟩ = some (.string xi) ∧ W.cell? ⟨w9.heap.size + 1, 3, none⟩ = some (.slice da dl.length dc)))) (by kernel_rfl) ?_ (fun hHeld => ?_)
        · exact ⟨⟨(K8_13.out).cell 0 rfl, (K8_13.out).cell 1 rfl, (K8_13.out).cell 2 rfl, (K8_13.out).cell 3 rfl, (K8_13.out).cell 4 rfl, (K8_13.out).cell 5 rfl⟩, ⟨(K4_13.out).cell 0 rfl, (K4_13.out).cell 1 rfl, (K4_13.out).cell 2 rfl, (K4_13.out).cell 3 rfl, (K4_13.out).cell 4 rfl, (K4_13.out).cell 5 rfl⟩, ⟨(K5_13.out).cell 0 rfl, (K5_13.out).cell 1 rfl, (K5_13.out).cell 2 rfl, (K5_13.out).cell 3 rfl⟩, ⟨(K9_13.out).cell 0 rfl, (K9_13.out).cell 1 rfl, (K9_13.out).cell 2 rfl, (K9_13.out).cell 3 rfl⟩⟩
        generalize w11.drew = wd at *
        refine wpAnyH_take (i := 0) (oi := { dst := Option.some 60, op := Go.Op.move (Go.Operand.tmp 7), type := 4, pos := "laws.go:476", after := #[], guard := Option.none }) (v := ?_) rfl (by kernel_rfl) (by kernel_rfl) (by kernel_rfl) (fun _ _ _ h => h) (Or.inl ⟨by rfl, ?_⟩) hHeld ?_
        rotate_left
        · intro w hSw
          try dsimp only at hSw
          go_simp
          try (with_reducible rfl)
        simp only [Act.put, List.setIfInBounds_toArray, List.set_cons_zero, List.set_cons_succ]
        refine wpAnyH_take (i := 1) (oi := { dst := Option.some 61, op := Go.Op.unOp Go.UnOp.not 4 (Go.Operand.tmp 60), type := 4, pos := "laws.go:476", after := #[{ on := 0, ground := Go.Ground.data }], guard := Option.none }) (v := ?_) rfl (by kernel_rfl) (by kernel_rfl) (by kernel_rfl) (fun _ _ _ h => h) (Or.inl ⟨by rfl, ?_⟩) hHeld ?_
        rotate_left
        · intro w hSw
          try dsimp only at hSw
          go_simp
          try (with_reducible rfl)
        simp only [Act.put, List.setIfInBounds_toArray, List.set_cons_zero, List.set_cons_succ]
        refine wpAnyH_take (i := 2) (oi := { dst := Option.some 62, op := Go.Op.move (Go.Operand.tmp 61), type := 4, pos := "laws.go:476", after := #[{ on := 1, ground := Go.Ground.data }], guard := Option.none }) (v := ?_) rfl (by kernel_rfl) (by kernel_rfl) (by kernel_rfl) (fun _ _ _ h => h) (Or.inl ⟨by rfl, ?_⟩) hHeld ?_
        rotate_left
        · intro w hSw
          try dsimp only at hSw
          go_simp
          try (with_reducible rfl)
        simp only [Act.put, List.setIfInBounds_toArray, List.set_cons_zero, List.set_cons_succ]
        refine wpAnyH_take (i := 3) (oi := { dst := Option.some 63, op := Go.Op.move (Go.Operand.tmp 3), type := 24, pos := "laws.go:476", after := #[{ on := 2, ground := Go.Ground.guard }], guard := Option.some (2, Bool.false) }) (v := ?_) rfl (by kernel_rfl) (by kernel_rfl) (by kernel_rfl) (fun _ _ _ h => h) (Or.inl ⟨by rfl, ?_⟩) hHeld ?_
        rotate_left
        · intro w hSw
          try dsimp only at hSw
          go_simp
          try (with_reducible rfl)
        simp only [Act.put, List.setIfInBounds_toArray, List.set_cons_zero, List.set_cons_succ]
        refine wpAnyH_take (i := 4) (oi := { dst := Option.some 64, op := Go.Op.load 26 (Go.Operand.tmp 8), type := 26, pos := "laws.go:476", after := #[{ on := 2, ground := Go.Ground.guard }], guard := Option.some (2, Bool.false) }) (v := ?_) rfl (by kernel_rfl) (by kernel_rfl) (by kernel_rfl) (fun _ _ _ h => h) (Or.inl ⟨by rfl, ?_⟩) hHeld ?_
        rotate_left
        · intro w hSw
          try dsimp only at hSw
          go_simp
          try (with_reducible rfl)
        simp only [Act.put, List.setIfInBounds_toArray, List.set_cons_zero, List.set_cons_succ]
        refine wpAnyH_take (i := 5) (oi := { dst := Option.some 65, op := Go.Op.load 29 (Go.Operand.tmp 5), type := 29, pos := "laws.go:476", after := #[{ on := 2, ground := Go.Ground.guard }], guard := Option.some (2, Bool.false) }) (v := ?_) rfl (by kernel_rfl) (by kernel_rfl) (by kernel_rfl) (fun _ _ _ h => h) (Or.inl ⟨by rfl, ?_⟩) hHeld ?_
        rotate_left
        · intro w hSw
          try dsimp only at hSw
          go_simp
          try (with_reducible rfl)
        simp only [Act.put, List.setIfInBounds_toArray, List.set_cons_zero, List.set_cons_succ]
        refine wpAnyH_ready (rs := [6]) (by kernel_rfl) (by decide) ?_
        refine AllReadyH.cons (o := { dst := Option.some 66, op := Go.Op.call { callee := Go.Callee.value (Go.Operand.func 8), args := #[Go.Operand.tmp 63, Go.Operand.tmp 64, Go.Operand.tmp 65], argTypes := #[24, 26, 29] }, type := 4, pos := "laws.go:476", after := #[{ on := 3, ground := Go.Ground.data }, { on := 4, ground := Go.Ground.data }, { on := 5, ground := Go.Ground.data }, { on := 2, ground := Go.Ground.chain }, { on := 2, ground := Go.Ground.guard }], guard := Option.some (2, Bool.false) }) rfl (fun K hK => ?_) AllReadyH.nil
        go_simp
        go_at_call 8
        refine (kOg _ HV_13.out HSX_13.out HT_13.out).mono ?_
        rintro e v8 ⟨rfl, b8⟩
        have HT_21 : Hid (Tab v8) := HT_13.out.below b8 HT_13.out.pos
        have HB_21 : Hid (Below w0.heap.size w0 v8) := HB_13.out.trans (b8.mono HB_13.out.size)
        have HV_21 : Hid (VO v8 va l) := HV_13.out.below b8
        have HSX_21 : Hid (SO v8 xa xl) := SO.below HSX_13.out b8
        have K4_21 : Hid (Blk v8 (w1.heap.size) [.int .i64 yh, .int .i64 yt, .string ya, .string yv, .string yn, .string yd] 26) := K4_13.out.below b8 K4_13.out.lt
        have K5_21 : Hid (Blk v8 (w1.heap.size + 1) [.int .i64 xh, .int .i64 xr, .string xi, .slice xa xl.length xc] 29) := K5_13.out.below b8 K5_13.out.lt
        have HN_21 : Hid (Nums v8 ia ids) := HN_13.out.below b8
        have K8_21 : Hid (Blk v8 (w9.heap.size) [.int .i64 yh, .int .i64 (yt + 1), .string ya, .string yv, .string yn, .string yd] 26) := K8_13.out.below b8 K8_13.out.lt
        have K9_21 : Hid (Blk v8 (w9.heap.size + 1) [.int .i64 xh, .int .i64 xr, .string xi, .slice da dl.length dc] 29) := K9_13.out.below b8 K9_13.out.lt
        have HSD_21 : Hid (SO v8 da dl) := SO.below HSD_13.out b8
        clear b8
        refine hK.out _ _ (⟨⟨(K8_21.out).cell 0 rfl, (K8_21.out).cell 1 rfl, (K8_21.out).cell 2 rfl, (K8_21.out).cell 3 rfl, (K8_21.out).cell 4 rfl, (K8_21.out).cell 5 rfl⟩, ⟨(K4_21.out).cell 0 rfl, (K4_21.out).cell 1 rfl, (K4_21.out).cell 2 rfl, (K4_21.out).cell 3 rfl, (K4_21.out).cell 4 rfl, (K4_21.out).cell 5 rfl⟩, ⟨(K5_21.out).cell 0 rfl, (K5_21.out).cell 1 rfl, (K5_21.out).cell 2 rfl, (K5_21.out).cell 3 rfl⟩, ⟨(K9_21.out).cell 0 rfl, (K9_21.out).cell 1 rfl, (K9_21.out).cell 2 rfl, (K9_21.out).cell 3 rfl⟩⟩) (fun hHeld => ?_)
        clear hK K
        try simp only [Act.put, List.setIfInBounds_toArray, List.set_cons_zero, List.set_cons_succ]
        refine wpAnyH_take (i := 7) (oi := { dst := Option.some 67, op := Go.Op.unOp Go.UnOp.not 4 (Go.Operand.tmp 66), type := 4, pos := "laws.go:476", after := #[{ on := 6, ground := Go.Ground.data }, { on := 2, ground := Go.Ground.guard }], guard := Option.some (2, Bool.false) }) (v := ?_) rfl (by kernel_rfl) (by kernel_rfl) (by kernel_rfl) (fun _ _ _ h => h) (Or.inl ⟨by rfl, ?_⟩) hHeld ?_
        rotate_left
        · intro w hSw
          try dsimp only at hSw
          go_simp
          try (with_reducible rfl)
        simp only [Act.put, List.setIfInBounds_toArray, List.set_cons_zero, List.set_cons_succ]
        refine wpAnyH_take (i := 8) (oi := { dst := Option.some 68, op := Go.Op.move (Go.Operand.tmp 67), type := 4, pos := "laws.go:476", after := #[{ on := 7, ground := Go.Ground.data }, { on := 6, ground := Go.Ground.chain }, { on := 2, ground := Go.Ground.guard }], guard := Option.some (2, Bool.false) }) (v := ?_) rfl (by kernel_rfl) (by kernel_rfl) (by kernel_rfl) (fun _ _ _ h => h) (Or.inl ⟨by rfl, ?_⟩) hHeld ?_
        rotate_left
        · intro w hSw
          try dsimp only at hSw
          go_simp
          try (with_reducible rfl)
        simp only [Act.put, List.setIfInBounds_toArray, List.set_cons_zero, List.set_cons_succ]
        refine wpAnyH_take (i := 9) (oi := { dst := Option.some 69, op := Go.Op.load 26 (Go.Operand.tmp 8), type := 26, pos := "laws.go:476", after := #[{ on := 8, ground := Go.Ground.guard }], guard := Option.some (8, Bool.false) }) (v := ?_) rfl (by kernel_rfl) (by kernel_rfl) (by kernel_rfl) (fun _ _ _ h => h) (Or.inl ⟨by rfl, ?_⟩) hHeld ?_
        rotate_left
        · intro w hSw
          try dsimp only at hSw
          go_simp
          try (with_reducible rfl)
        simp only [Act.put, List.setIfInBounds_toArray, List.set_cons_zero, List.set_cons_succ]
        refine wpAnyH_take (i := 11) (oi := { dst := Option.some 71, op := Go.Op.load 26 (Go.Operand.tmp 4), type := 26, pos := "laws.go:476", after := #[{ on := 8, ground := Go.Ground.guard }], guard := Option.some (8, Bool.false) }) (v := ?_) rfl (by kernel_rfl) (by kernel_rfl) (by kernel_rfl) (fun _ _ _ h => h) (Or.inl ⟨by rfl, ?_⟩) hHeld ?_
        rotate_left
        · intro w hSw
          try dsimp only at hSw
          go_simp
          try (with_reducible rfl)
        simp only [Act.put, List.setIfInBounds_toArray, List.set_cons_zero, List.set_cons_succ]
        refine wpAnyH_ready (rs := [10]) (by kernel_rfl) (by decide) ?_
        refine AllReadyH.cons (o := { dst := Option.some 70, op := Go.Op.call { callee := Go.Callee.value (Go.Operand.func 13), args := #[Go.Operand.tmp 69], argTypes := #[26] }, type := 9, pos := "laws.go:476", after := #[{ on := 9, ground := Go.Ground.data }, { on := 8, ground := Go.Ground.chain }, { on := 8, ground := Go.Ground.guard }], guard := Option.some (8, Bool.false) }) rfl (fun K hK => ?_) AllReadyH.nil
        go_simp
        go_at_call 13
        refine (kIg _).mono ?_
        rintro e v9 ⟨rfl, b9⟩
        have HT_22 : Hid (Tab v9) := HT_21.out.below b9 HT_21.out.pos
        have HB_22 : Hid (Below w0.heap.size w0 v9) := HB_21.out.trans (b9.mono HB_21.out.size)
        have HV_22 : Hid (VO v9 va l) := HV_21.out.below b9
        have HSX_22 : Hid (SO v9 xa xl) := SO.below HSX_21.out b9
        have K4_22 : Hid (Blk v9 (w1.heap.size) [.int .i64 yh, .int .i64 yt, .string ya, .string yv, .string yn, .string yd] 26) := K4_21.out.below b9 K4_21.out.lt
        have K5_22 : Hid (Blk v9 (w1.heap.size + 1) [.int .i64 xh, .int .i64 xr, .string xi, .slice xa xl.length xc] 29) := K5_21.out.below b9 K5_21.out.lt
        have HN_22 : Hid (Nums v9 ia ids) := HN_21.out.below b9
        have K8_22 : Hid (Blk v9 (w9.heap.size) [.int .i64 yh, .int .i64 (yt + 1), .string ya, .string yv, .string yn, .string yd] 26) := K8_21.out.below b9 K8_21.out.lt
        have K9_22 : Hid (Blk v9 (w9.heap.size + 1) [.int .i64 xh, .int .i64 xr, .string xi, .slice da dl.length dc] 29) := K9_21.out.below b9 K9_21.out.lt
        have HSD_22 : Hid (SO v9 da dl) := SO.below HSD_21.out b9
        clear b9
        refine hK.out _ _ (⟨⟨(K8_22.out).cell 0 rfl, (K8_22.out).cell 1 rfl, (K8_22.out).cell 2 rfl, (K8_22.out).cell 3 rfl, (K8_22.out).cell 4 rfl, (K8_22.out).cell 5 rfl⟩, ⟨(K4_22.out).cell 0 rfl, (K4_22.out).cell 1 rfl, (K4_22.out).cell 2 rfl, (K4_22.out).cell 3 rfl, (K4_22.out).cell 4 rfl, (K4_22.out).cell 5 rfl⟩, ⟨(K5_22.out).cell 0 rfl, (K5_22.out).cell 1 rfl, (K5_22.out).cell 2 rfl, (K5_22.out).cell 3 rfl⟩, ⟨(K9_22.out).cell 0 rfl, (K9_22.out).cell 1 rfl, (K9_22.out).cell 2 rfl, (K9_22.out).cell 3 rfl⟩⟩) (fun hHeld => ?_)
        clear hK K
        try simp only [Act.put, List.setIfInBounds_toArray, List.set_cons_zero, List.set_cons_succ]
        refine wpAnyH_ready (rs := [12]) (by kernel_rfl) (by decide) ?_
        refine AllReadyH.cons (o := { dst := Option.some 72, op := Go.Op.call { callee := Go.Callee.value (Go.Operand.func 13), args := #[Go.Operand.tmp 71], argTypes := #[26] }, type := 9, pos := "laws.go:476", after := #[{ on := 11, ground := Go.Ground.data }, { on := 10, ground := Go.Ground.chain }, { on := 8, ground := Go.Ground.guard }], guard := Option.some (8, Bool.false) }) rfl (fun K hK => ?_) AllReadyH.nil
        go_simp
        go_at_call 13
        refine (kIh _).mono ?_
        rintro e v10 ⟨rfl, b10⟩
        have HT_23 : Hid (Tab v10) := HT_22.out.below b10 HT_22.out.pos
        have HB_23 : Hid (Below w0.heap.size w0 v10) := HB_22.out.trans (b10.mono HB_22.out.size)
        have HV_23 : Hid (VO v10 va l) := HV_22.out.below b10
        have HSX_23 : Hid (SO v10 xa xl) := SO.below HSX_22.out b10
        have K4_23 : Hid (Blk v10 (w1.heap.size) [.int .i64 yh, .int .i64 yt, .string ya, .string yv, .string yn, .string yd] 26) := K4_22.out.below b10 K4_22.out.lt
        have K5_23 : Hid (Blk v10 (w1.heap.size + 1) [.int .i64 xh, .int .i64 xr, .string xi, .slice xa xl.length xc] 29) := K5_22.out.below b10 K5_22.out.lt
        have HN_23 : Hid (Nums v10 ia ids) := HN_22.out.below b10
        have K8_23 : Hid (Blk v10 (w9.heap.size) [.int .i64 yh, .int .i64 (yt + 1), .string ya, .string yv, .string yn, .string yd] 26) := K8_22.out.below b10 K8_22.out.lt
        have K9_23 : Hid (Blk v10 (w9.heap.size + 1) [.int .i64 xh, .int .i64 xr, .string xi, .slice da dl.length dc] 29) := K9_22.out.below b10 K9_22.out.lt
        have HSD_23 : Hid (SO v10 da dl) := SO.below HSD_22.out b10
        clear b10
        refine hK.out _ _ (⟨⟨(K8_23.out).cell 0 rfl, (K8_23.out).cell 1 rfl, (K8_23.out).cell 2 rfl, (K8_23.out).cell 3 rfl, (K8_23.out).cell 4 rfl, (K8_23.out).cell 5 rfl⟩, ⟨(K4_23.out).cell 0 rfl, (K4_23.out).cell 1 rfl, (K4_23.out).cell 2 rfl, (K4_23.out).cell 3 rfl, (K4_23.out).cell 4 rfl, (K4_23.out).cell 5 rfl⟩, ⟨(K5_23.out).cell 0 rfl, (K5_23.out).cell 1 rfl, (K5_23.out).cell 2 rfl, (K5_23.out).cell 3 rfl⟩, ⟨(K9_23.out).cell 0 rfl, (K9_23.out).cell 1 rfl, (K9_23.out).cell 2 rfl, (K9_23.out).cell 3 rfl⟩⟩) (fun hHeld => ?_)
        clear hK K
        try simp only [Act.put, List.setIfInBounds_toArray, List.set_cons_zero, List.set_cons_succ]
        refine wpAnyH_take (i := 13) (oi := { dst := Option.some 73, op := Go.Op.binOp Go.BinOp.eql 9 (Go.Operand.tmp 70) (Go.Operand.tmp 72) 9, type := 4, pos := "laws.go:476", after := #[{ on := 10, ground := Go.Ground.data }, { on := 12, ground := Go.Ground.data }, { on := 8, ground := Go.Ground.guard }], guard := Option.some (8, Bool.false) }) (v := ?_) rfl (by kernel_rfl) (by kernel_rfl) (by kernel_rfl) (fun _ _ _ h => h) (Or.inl ⟨by rfl, ?_⟩) hHeld ?_
        rotate_left
        · intro w hSw
          try dsimp only at hSw
          go_simp
          try (with_reducible rfl)
        simp only [Act.put, List.setIfInBounds_toArray, List.set_cons_zero, List.set_cons_succ]
        refine wpAnyH_take (i := 14) (oi := { dst := Option.some 74, op := Go.Op.pick (Go.Operand.tmp 68) (Go.Operand.const (Go.Value.bool Bool.true)) (Go.Operand.tmp 73), type := 4, pos := "laws.go:476", after := #[{ on := 8, ground := Go.Ground.data }, { on := 13, ground := Go.Ground.data }, { on := 2, ground := Go.Ground.guard }], guard := Option.some (2, Bool.false) }) (v := ?_) rfl (by kernel_rfl) (by kernel_rfl) (by kernel_rfl) (fun _ _ _ h => h) (Or.inl ⟨by rfl, ?_⟩) hHeld ?_
        rotate_left
        · intro w hSw
          try dsimp only at hSw
          go_simp
          try (with_reducible rfl)
        simp only [Act.put, List.setIfInBounds_toArray, List.set_cons_zero, List.set_cons_succ]
        refine wpAnyH_take (i := 15) (oi := { dst := Option.some 75, op := Go.Op.move (Go.Operand.tmp 74), type := 4, pos := "laws.go:476", after := #[{ on := 14, ground := Go.Ground.data }, { on := 12, ground := Go.Ground.chain }, { on := 2, ground := Go.Ground.guard }], guard := Option.some (2, Bool.false) }) (v := ?_) rfl (by kernel_rfl) (by kernel_rfl) (by kernel_rfl) (fun _ _ _ h => h) (Or.inl ⟨by rfl, ?_⟩) hHeld ?_
        rotate_left
        · intro w hSw
          try dsimp only at hSw
          go_simp
          try (with_reducible rfl)
        simp only [Act.put, List.setIfInBounds_toArray, List.set_cons_zero, List.set_cons_succ]
        refine wpAnyH_take (i := 16) (oi := { dst := Option.some 76, op := Go.Op.fieldAddr 29 (Go.Operand.tmp 9) 3, type := 0, pos := "laws.go:476", after := #[{ on := 15, ground := Go.Ground.guard }], guard := Option.some (15, Bool.true) }) (v := ?_) rfl (by kernel_rfl) (by kernel_rfl) (by kernel_rfl) (fun _ _ _ h => h) (Or.inl ⟨by rfl, ?_⟩) hHeld ?_
        rotate_left
        · intro w hSw
          try dsimp only at hSw
          go_simp
          try (with_reducible rfl)
        simp only [Act.put, List.setIfInBounds_toArray, List.set_cons_zero, List.set_cons_succ]
        refine wpAnyH_take (i := 17) (oi := { dst := Option.some 77, op := Go.Op.load 27 (Go.Operand.tmp 76), type := 27, pos := "laws.go:476", after := #[{ on := 16, ground := Go.Ground.data }, { on := 15, ground := Go.Ground.guard }], guard := Option.some (15, Bool.true) }) (v := ?_) rfl (by kernel_rfl) (by kernel_rfl) (by kernel_rfl) (fun _ _ _ h => h) (Or.inl ⟨by rfl, ?_⟩) hHeld ?_
        rotate_left
        · intro w hSw
          try dsimp only at hSw
          go_simp
          try (with_reducible rfl)
        simp only [Act.put, List.setIfInBounds_toArray, List.set_cons_zero, List.set_cons_succ]
        refine wpAnyH_take (i := 18) (oi := { dst := Option.some 78, op := Go.Op.call { callee := Go.Callee.builtin Go.Builtin.len, args := #[Go.Operand.tmp 77], argTypes := #[27] }, type := 3, pos := "laws.go:476", after := #[{ on := 17, ground := Go.Ground.data }, { on := 15, ground := Go.Ground.guard }], guard := Option.some (15, Bool.true) }) (v := ?_) rfl (by kernel_rfl) (by kernel_rfl) (by kernel_rfl) (fun _ _ _ h => h) (Or.inl ⟨by rfl, ?_⟩) hHeld ?_
        rotate_left
        · intro w hSw
          try dsimp only at hSw
          go_simp
          try (with_reducible rfl)
        simp only [Act.put, List.setIfInBounds_toArray, List.set_cons_zero, List.set_cons_succ]
        refine wpAnyH_take (i := 19) (oi := { dst := Option.some 79, op := Go.Op.binOp Go.BinOp.gtr 3 (Go.Operand.tmp 78) (Go.Operand.const (Go.Value.int Go.IntKind.i64 12)) 3, type := 4, pos := "laws.go:476", after := #[{ on := 18, ground := Go.Ground.data }, { on := 15, ground := Go.Ground.guard }], guard := Option.some (15, Bool.true) }) (v := ?_) rfl (by kernel_rfl) (by kernel_rfl) (by kernel_rfl) (fun _ _ _ h => h) (Or.inl ⟨by rfl, ?_⟩) hHeld ?_
        rotate_left
        · intro w hSw
          try dsimp only at hSw
          go_simp
          try (with_reducible rfl)
        simp only [Act.put, List.setIfInBounds_toArray, List.set_cons_zero, List.set_cons_succ]
        refine wpAnyH_take (i := 20) (oi := { dst := Option.some 80, op := Go.Op.move (Go.Operand.tmp 79), type := 4, pos := "laws.go:476", after := #[{ on := 19, ground := Go.Ground.data }, { on := 15, ground := Go.Ground.chain }, { on := 15, ground := Go.Ground.guard }], guard := Option.some (15, Bool.true) }) (v := ?_) rfl (by kernel_rfl) (by kernel_rfl) (by kernel_rfl) (fun _ _ _ h => h) (Or.inl ⟨by rfl, ?_⟩) hHeld ?_
        rotate_left
        · intro w hSw
          try dsimp only at hSw
          go_simp
          try (with_reducible rfl)
        simp only [Act.put, List.setIfInBounds_toArray, List.set_cons_zero, List.set_cons_succ]
        refine wpAnyH_take (i := 21) (oi := { dst := Option.some 81, op := Go.Op.move (Go.Operand.tmp 3), type := 24, pos := "laws.go:476", after := #[{ on := 20, ground := Go.Ground.guard }], guard := Option.some (20, Bool.false) }) (v := undef) rfl (by kernel_rfl) (by kernel_rfl) (by kernel_rfl) (fun _ _ _ h => h) (Or.inr ⟨by rfl, rfl⟩) hHeld ?_
        simp only [Act.put, List.setIfInBounds_toArray, List.set_cons_zero, List.set_cons_succ]
        refine wpAnyH_take (i := 22) (oi := { dst := Option.some 82, op := Go.Op.load 26 (Go.Operand.tmp 4), type := 26, pos := "laws.go:476", after := #[{ on := 20, ground := Go.Ground.guard }], guard := Option.some (20, Bool.false) }) (v := undef) rfl (by kernel_rfl) (by kernel_rfl) (by kernel_rfl) (fun _ _ _ h => h) (Or.inr ⟨by rfl, rfl⟩) hHeld ?_
        simp only [Act.put, List.setIfInBounds_toArray, List.set_cons_zero, List.set_cons_succ]
        refine wpAnyH_take (i := 23) (oi := { dst := Option.some 83, op := Go.Op.load 29 (Go.Operand.tmp 9), type := 29, pos := "laws.go:476", after := #[{ on := 20, ground := Go.Ground.guard }], guard := Option.some (20, Bool.false) }) (v := undef) rfl (by kernel_rfl) (by kernel_rfl) (by kernel_rfl) (fun _ _ _ h => h) (Or.inr ⟨by rfl, rfl⟩) hHeld ?_
        simp only [Act.put, List.setIfInBounds_toArray, List.set_cons_zero, List.set_cons_succ]
        refine wpAnyH_take (i := 24) (oi := { dst := Option.some 84, op := Go.Op.call { callee := Go.Callee.value (Go.Operand.func 8), args := #[Go.Operand.tmp 81, Go.Operand.tmp 82, Go.Operand.tmp 83], argTypes := #[24, 26, 29] }, type := 4, pos := "laws.go:476", after := #[{ on := 21, ground := Go.Ground.data }, { on := 22, ground := Go.Ground.data }, { on := 23, ground := Go.Ground.data }, { on := 20, ground := Go.Ground.chain }, { on := 20, ground := Go.Ground.guard }], guard := Option.some (20, Bool.false) }) (v := undef) rfl (by kernel_rfl) (by kernel_rfl) (by kernel_rfl) (fun _ _ _ h => h) (Or.inr ⟨by rfl, rfl⟩) hHeld ?_
        simp only [Act.put, List.setIfInBounds_toArray, List.set_cons_zero, List.set_cons_succ]
        refine wpAnyH_take (i := 25) (oi := { dst := Option.some 85, op := Go.Op.pick (Go.Operand.tmp 80) (Go.Operand.const (Go.Value.bool Bool.true)) (Go.Operand.tmp 84), type := 4, pos := "laws.go:476", after := #[{ on := 20, ground := Go.Ground.data }, { on := 24, ground := Go.Ground.data }, { on := 15, ground := Go.Ground.guard }], guard := Option.some (15, Bool.true) }) (v := ?_) rfl (by kernel_rfl) (by kernel_rfl) (by kernel_rfl) (fun _ _ _ h => h) (Or.inl ⟨by rfl, ?_⟩) hHeld ?_
        rotate_left
        · intro w hSw
          try dsimp only at hSw
          go_simp
          try (with_reducible rfl)
        simp only [Act.put, List.setIfInBounds_toArray, List.set_cons_zero, List.set_cons_succ]
        refine wpAnyH_take (i := 26) (oi := { dst := Option.some 86, op := Go.Op.pick (Go.Operand.tmp 75) (Go.Operand.tmp 85) (Go.Operand.const (Go.Value.bool Bool.false)), type := 4, pos := "laws.go:476", after := #[{ on := 15, ground := Go.Ground.data }, { on := 25, ground := Go.Ground.data }, { on := 2, ground := Go.Ground.guard }], guard := Option.some (2, Bool.false) }) (v := ?_) rfl (by kernel_rfl) (by kernel_rfl) (by kernel_rfl) (fun _ _ _ h => h) (Or.inl ⟨by rfl, ?_⟩) hHeld ?_
        rotate_left
        · intro w hSw
          try dsimp only at hSw
          go_simp
          try (with_reducible rfl)
        simp only [Act.put, List.setIfInBounds_toArray, List.set_cons_zero, List.set_cons_succ]
        refine wpAnyH_take (i := 27) (oi := { dst := Option.some 87, op := Go.Op.move (Go.Operand.tmp 86), type := 4, pos := "laws.go:476", after := #[{ on := 26, ground := Go.Ground.data }, { on := 24, ground := Go.Ground.chain }, { on := 2, ground := Go.Ground.guard }], guard := Option.some (2, Bool.false) }) (v := ?_) rfl (by kernel_rfl) (by kernel_rfl) (by kernel_rfl) (fun _ _ _ h => h) (Or.inl ⟨by rfl, ?_⟩) hHeld ?_
        rotate_left
        · intro w hSw
          try dsimp only at hSw
          go_simp
          try (with_reducible rfl)
        simp only [Act.put, List.setIfInBounds_toArray, List.set_cons_zero, List.set_cons_succ]
        refine wpAnyH_take (i := 28) (oi := { dst := Option.some 88, op := Go.Op.move (Go.Operand.tmp 6), type := 32, pos := "laws.go:476", after := #[{ on := 27, ground := Go.Ground.guard }], guard := Option.some (27, Bool.true) }) (v := ?_) rfl (by kernel_rfl) (by kernel_rfl) (by kernel_rfl) (fun _ _ _ h => h) (Or.inl ⟨by rfl, ?_⟩) hHeld ?_
        rotate_left
        · intro w hSw
          try dsimp only at hSw
          go_simp
          try (with_reducible rfl)
        simp only [Act.put, List.setIfInBounds_toArray, List.set_cons_zero, List.set_cons_succ]
        refine wpAnyH_take (i := 29) (oi := { dst := Option.some 89, op := Go.Op.call { callee := Go.Callee.builtin Go.Builtin.len, args := #[Go.Operand.tmp 88], argTypes := #[32] }, type := 3, pos := "laws.go:476", after := #[{ on := 28, ground := Go.Ground.data }, { on := 27, ground := Go.Ground.guard }], guard := Option.some (27, Bool.true) }) (v := ?_) rfl (by kernel_rfl) (by kernel_rfl) (by kernel_rfl) (fun _ _ _ h => h) (Or.inl ⟨by rfl, ?_⟩) hHeld ?_
        rotate_left
        · intro w hSw
          try dsimp only at hSw
          go_simp
          try (with_reducible rfl)
        simp only [Act.put, List.setIfInBounds_toArray, List.set_cons_zero, List.set_cons_succ]
        refine wpAnyH_take (i := 30) (oi := { dst := Option.some 90, op := Go.Op.binOp Go.BinOp.gtr 3 (Go.Operand.tmp 89) (Go.Operand.const (Go.Value.int Go.IntKind.i64 0)) 3, type := 4, pos := "laws.go:476", after := #[{ on := 29, ground := Go.Ground.data }, { on := 27, ground := Go.Ground.guard }], guard := Option.some (27, Bool.true) }) (v := ?_) rfl (by kernel_rfl) (by kernel_rfl) (by kernel_rfl) (fun _ _ _ h => h) (Or.inl ⟨by rfl, ?_⟩) hHeld ?_
        rotate_left
        · intro w hSw
          try dsimp only at hSw
          go_simp
          try (with_reducible rfl)
        simp only [Act.put, List.setIfInBounds_toArray, List.set_cons_zero, List.set_cons_succ]
        refine wpAnyH_take (i := 31) (oi := { dst := Option.some 91, op := Go.Op.pick (Go.Operand.tmp 87) (Go.Operand.tmp 90) (Go.Operand.const (Go.Value.bool Bool.false)), type := 4, pos := "laws.go:476", after := #[{ on := 27, ground := Go.Ground.data }, { on := 30, ground := Go.Ground.data }, { on := 2, ground := Go.Ground.guard }], guard := Option.some (2, Bool.false) }) (v := ?_) rfl (by kernel_rfl) (by kernel_rfl) (by kernel_rfl) (fun _ _ _ h => h) (Or.inl ⟨by rfl, ?_⟩) hHeld ?_
        rotate_left
        · intro w hSw
          try dsimp only at hSw
          go_simp
          try (with_reducible rfl)
        simp only [Act.put, List.setIfInBounds_toArray, List.set_cons_zero, List.set_cons_succ]
        refine wpAnyH_take (i := 32) (oi := { dst := Option.some 92, op := Go.Op.pick (Go.Operand.tmp 62) (Go.Operand.const (Go.Value.bool Bool.true)) (Go.Operand.tmp 91), type := 4, pos := "laws.go:476", after := #[{ on := 2, ground := Go.Ground.data }, { on := 31, ground := Go.Ground.data }], guard := Option.none }) (v := ?_) rfl (by kernel_rfl) (by kernel_rfl) (by kernel_rfl) (fun _ _ _ h => h) (Or.inl ⟨by rfl, ?_⟩) hHeld ?_
        rotate_left
        · intro w hSw
          try dsimp only at hSw
          go_simp
          try (with_reducible rfl)
        simp only [Act.put, List.setIfInBounds_toArray, List.set_cons_zero, List.set_cons_succ]
        refine wpAnyH_take (i := 33) (oi := { dst := Option.some 2, op := Go.Op.assign (Go.Operand.tmp 92), type := 4, pos := "laws.go:476", after := #[{ on := 32, ground := Go.Ground.data }, { on := 27, ground := Go.Ground.chain }, { on := 0, ground := Go.Ground.phase }, { on := 1, ground := Go.Ground.phase }, { on := 2, ground := Go.Ground.phase }, { on := 3, ground := Go.Ground.phase }, { on := 4, ground := Go.Ground.phase }, { on := 5, ground := Go.Ground.phase }, { on := 6, ground := Go.Ground.phase }, { on := 7, ground := Go.Ground.phase }, { on := 8, ground := Go.Ground.phase }, { on := 9, ground := Go.Ground.phase }, { on := 10, ground := Go.Ground.phase }, { on := 11, ground := Go.Ground.phase }, { on := 12, ground := Go.Ground.phase }, { on := 13, ground := Go.Ground.phase }, { on := 14, ground := Go.Ground.phase }, { on := 15, ground := Go.Ground.phase }, { on := 16, ground := Go.Ground.phase }, { on := 17, ground := Go.Ground.phase }, { on := 18, ground := Go.Ground.phase }, { on := 19, ground := Go.Ground.phase }, { on := 20, ground := Go.Ground.phase }, { on := 21, ground := Go.Ground.phase }, { on := 22, ground := Go.Ground.phase }, { on := 23, ground := Go.Ground.phase }, { on := 24, ground := Go.Ground.phase }, { on := 25, ground := Go.Ground.phase }, { on := 26, ground := Go.Ground.phase }, { on := 27, ground := Go.Ground.phase }, { on := 28, ground := Go.Ground.phase }, { on := 29, ground := Go.Ground.phase }, { on := 30, ground := Go.Ground.phase }, { on := 31, ground := Go.Ground.phase }, { on := 32, ground := Go.Ground.phase }], guard := Option.none }) (v := ?_) rfl (by kernel_rfl) (by kernel_rfl) (by kernel_rfl) (fun _ _ _ h => h) (Or.inl ⟨by rfl, ?_⟩) hHeld ?_
        rotate_left
        · intro w hSw
          try dsimp only at hSw
          go_simp
          try (with_reducible rfl)
        simp only [Act.put, List.setIfInBounds_toArray, List.set_cons_zero, List.set_cons_succ]
        refine wpAnyH_done (by kernel_rfl) ?_ _
        go_wp2
        go_ret
        first | exact ⟨rfl, HB_23.out⟩ | exact ⟨congrArg (fun b => Ending.returned (Value.bool b)) hpn.out, HB_23.out⟩
end Go.Proofs.YtbpmjejmeaifbaaGreatDoor
