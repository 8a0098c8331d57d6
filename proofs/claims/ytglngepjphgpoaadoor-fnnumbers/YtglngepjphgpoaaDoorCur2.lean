/- What spec.l1PickInt, l1Num, l1Text and l1New answer, as functions of the code's bytes and the cursor's state. -/
import Derived.Test.YtglngepjphgpoaaDoorCur
import Derived.Deep.RegionHeld3
import Derived.Outline
namespace Go.Proofs.YtglngepjphgpoaaDoor
open Go.RowKit
open Num
set_option linter.unusedVariables false
set_option maxHeartbeats 400000 in
theorem pick_any (g gl : Nat) (a : Option Addr) (L : List UInt8) (cap : Nat) (s : St) (zs : List Int) (w : World) (hc : CurAt w g a L.length cap s) (hl : CodeAt w g a L) (hlen : L.length ≤ 1048576)
    (hz : w.heap[gl]? = some (.cells (zs.map (Value.int .i64)).toArray 3 (0, 0))) (hne : gl ≠ g) (h0 : 0 < zs.length) (h1 : zs.length ≤ 256) :
    Calls Tryd.prog 32 #[.pointer (some ⟨g, 0, none⟩), .slice (some ⟨gl, 0, none⟩) zs.length zs.length] w fun e w' => e = .returned (.int .i64 (zs.getD (belowV L s zs.length).toNat 0)) ∧ CurAt w' g a L.length cap (belowN L s zs.length) ∧ w.grownBy w' (some g) := by
  have HC : Hid (_) := hc
  have HL : Hid (_) := hl
  have HZ : Hid (_) := hz
  clear hc hl hz
  have hb := belowV_bound L s zs.length (by omega)
  obtain ⟨k, hk⟩ : ∃ k : Nat, belowV L s zs.length = (k : Int) := ⟨(belowV L s zs.length).toNat, by omega⟩
  have HK : Hid (_ = _) := hk
  have hkl : (k : Int) < (zs.length : Int) := by omega
  have hkl' : k < zs.length := by omega
  rw [hk]
  clear hk hb
  go_enter Tryd.func32, Tryd.ntmps32
  go_wp2_with fail
  refine (below_any g a L cap s _ _ HC.out HL.out hlen).mono ?_
  rintro e w1 ⟨rfl, hc1, hg1⟩
  rw [HK.out]
  have HC1 : Hid (CurAt w1 g a L.length cap (belowN L s zs.length)) := hc1
  have hcell : w1.cell? ⟨gl, k, none⟩ = some (.int .i64 (zs[k])) := by
    refine hg1.cell ?_ (by simpa using hne)
    rw [cell_of_row w gl k _ 3 (0, 0) HZ.out]
    simp [hkl']
  clear hc1
  go_wp2
  go_ret
  exact ⟨ret_i64 (by simp [hkl']), HC1.out, hg1⟩
def nums : List Int := [-1, 0, 127, 128, 255, 256, 16383, 16384, 65535, 65536, 562949953421311, 562949953421312, 999999999, 1000000000, -999999999, 9223372036854775807, -9223372036854775808]
/-- What l1Num tells, and the state behind it. -/
def numV (L : List UInt8) (s : St) : Int :=
  if belowV L s 8 = 0 then nums.getD (belowV L (belowN L s 8) 17).toNat 0
  else if belowV L s 8 = 1 then belowV L (belowN L s 8) 1000000000 * belowV L (belowN L (belowN L s 8) 1000000000) 1000000000
  else if belowV L s 8 = 2 then -belowV L (belowN L s 8) 100000
  else belowV L (belowN L s 8) 70000
def numN (L : List UInt8) (s : St) : St :=
  if belowV L s 8 = 0 then belowN L (belowN L s 8) 17
  else if belowV L s 8 = 1 then belowN L (belowN L (belowN L s 8) 1000000000) 1000000000
  else if belowV L s 8 = 2 then belowN L (belowN L s 8) 100000
  else belowN L (belowN L s 8) 70000
set_option maxHeartbeats 800000 in
theorem num_any (g : Nat) (a : Option Addr) (L : List UInt8) (cap : Nat) (s : St) (w : World) (hc : CurAt w g a L.length cap s) (hl : CodeAt w g a L) (hlen : L.length ≤ 1048576) :
    Calls Tryd.prog 21 #[.pointer (some ⟨g, 0, none⟩)] w fun e w' => e = .returned (.int .i64 (numV L s)) ∧ CurAt w' g a L.length cap (numN L s) ∧ w.grownBy w' (some g) := by
  have HC : Hid (_) := hc
  have HL : Hid (_) := hl
  have hsz : g < w.heap.size := (Array.getElem?_eq_some_iff.1 hc).1
  clear hc hl
  by_cases h0 : belowV L s 8 = 0
  · have hv : numV L s = nums.getD (belowV L (belowN L s 8) 17).toNat 0 := by unfold numV; rw [if_pos h0]
    have hn : numN L s = belowN L (belowN L s 8) 17 := by unfold numN; rw [if_pos h0]
    rw [hv, hn]
    have hq0 : (belowV L s 8 == 0) = true := by rw [h0]; rfl
    clear hv hn h0
    go_enter Tryd.func21, Tryd.ntmps21
    go_wp2_with fail
    refine (below_any g a L cap s 8 _ HC.out HL.out hlen).mono ?_
    rintro e w1 ⟨rfl, hc1, hg1⟩
    have HC1 : Hid (_) := hc1
    have HL1 : Hid (_) := CodeAt.kept HL.out hg1
    clear hc1
    go_wp2_with fail
    have hzz : (w1.alloc (.cells #[.int .i64 (-1), .int .i64 0, .int .i64 127, .int .i64 128, .int .i64 255, .int .i64 256, .int .i64 16383, .int .i64 16384, .int .i64 65535, .int .i64 65536, .int .i64 562949953421311, .int .i64 562949953421312, .int .i64 999999999, .int .i64 1000000000, .int .i64 (-999999999), .int .i64 9223372036854775807, .int .i64 (-9223372036854775808)] 3)).heap[w1.heap.size]? = some (.cells (nums.map (Value.int .i64)).toArray 3 (0, 0)) := heap_alloc_new w1 _
    have hgs : g < w1.heap.size := Nat.lt_of_lt_of_le hsz hg1.size
    refine (pick_any g w1.heap.size a L cap (belowN L s 8) nums _ ?_ ?_ hlen hzz (by omega) (by decide) (by decide)).mono ?_
    · show (w1.alloc _).heap[g]? = _
      rw [Below.heap_alloc _ _ _ hgs]; exact HC1.out
    · exact CodeAt.kept HL1.out (grown_alloc (grown_refl _ _) _)
    · rintro e w2 ⟨rfl, hc2, hg2⟩
      have HC2 : Hid (CurAt w2 g a L.length cap (belowN L (belowN L s 8) 17)) := hc2
      clear hc2
      go_wp2
      go_ret
      exact ⟨rfl, HC2.out, grown_trans hg1 (grown_trans (grown_alloc (grown_refl _ _) _) hg2)⟩
  · by_cases h1 : belowV L s 8 = 1
    · have hv : numV L s = belowV L (belowN L s 8) 1000000000 * belowV L (belowN L (belowN L s 8) 1000000000) 1000000000 := by unfold numV; rw [if_neg h0, if_pos h1]
      have hn : numN L s = belowN L (belowN L (belowN L s 8) 1000000000) 1000000000 := by unfold numN; rw [if_neg h0, if_pos h1]
      have HV : Hid (_ = _) := hv
      rw [hn]
      have hq0 : (belowV L s 8 == 0) = false := by rw [h1]; rfl
      have hq1 : (belowV L s 8 == 1) = true := by rw [h1]; rfl
      have hb1 := belowV_bound L (belowN L s 8) 1000000000 (by omega)
      have hb2 := belowV_bound L (belowN L (belowN L s 8) 1000000000) 1000000000 (by omega)
      obtain ⟨x, hx⟩ : ∃ x, belowV L (belowN L s 8) 1000000000 = x := ⟨_, rfl⟩
      obtain ⟨y, hy⟩ : ∃ y, belowV L (belowN L (belowN L s 8) 1000000000) 1000000000 = y := ⟨_, rfl⟩
      rw [hx] at hb1
      rw [hy] at hb2
      have HX : Hid (_ = _) := hx
      have HY : Hid (_ = _) := hy
      have hxy0 : 0 ≤ x * y := Int.mul_nonneg hb1.1 hb2.1
      have hxy1 : x * y ≤ 1000000000000000000 := by
        have := Int.mul_le_mul (show x ≤ 1000000000 by omega) (show y ≤ 1000000000 by omega) hb2.1 (by omega)
        omega
      have HW : Hid (wrap64 (x * y) = x * y) := show wrap64 (x * y) = x * y by unfold wrap64; omega
      clear hv hn h0 h1 hx hy
      go_enter Tryd.func21, Tryd.ntmps21
      go_wp2_with fail
      refine (below_any g a L cap s 8 _ HC.out HL.out hlen).mono ?_
      rintro e w1 ⟨rfl, hc1, hg1⟩
      have HC1 : Hid (CurAt w1 g a L.length cap (belowN L s 8)) := hc1
      have HL1 : Hid (CodeAt w1 g a L) := CodeAt.kept HL.out hg1
      clear hc1
      go_wp2_with fail
      refine (below_any g a L cap _ 1000000000 _ HC1.out HL1.out hlen).mono ?_
      rintro e w2 ⟨rfl, hc2, hg2⟩
      rw [HX.out]
      have HC2 : Hid (CurAt w2 g a L.length cap (belowN L (belowN L s 8) 1000000000)) := hc2
      have HL2 : Hid (CodeAt w2 g a L) := CodeAt.kept HL1.out hg2
      clear hc2
      go_wp2_with fail
      refine (below_any g a L cap _ 1000000000 _ HC2.out HL2.out hlen).mono ?_
      rintro e w3 ⟨rfl, hc3, hg3⟩
      rw [HY.out]
      have HC3 : Hid (CurAt w3 g a L.length cap (belowN L (belowN L (belowN L s 8) 1000000000) 1000000000)) := hc3
      clear hc3
      go_wp2
      go_ret
      exact ⟨ret_i64 (by rw [HV.out, HX.out, HY.out]), HC3.out, grown_trans hg1 (grown_trans hg2 hg3)⟩
    · by_cases h2 : belowV L s 8 = 2
      · have hv : numV L s = -belowV L (belowN L s 8) 100000 := by unfold numV; rw [if_neg h0, if_neg h1, if_pos h2]
        have hn : numN L s = belowN L (belowN L s 8) 100000 := by unfold numN; rw [if_neg h0, if_neg h1, if_pos h2]
        rw [hv, hn]
        have hq0 : (belowV L s 8 == 0) = false := by rw [h2]; rfl
        have hq1 : (belowV L s 8 == 1) = false := by rw [h2]; rfl
        have hq2 : (belowV L s 8 == 2) = true := by rw [h2]; rfl
        have hb1 := belowV_bound L (belowN L s 8) 100000 (by omega)
        clear hv hn h0 h1 h2
        go_enter Tryd.func21, Tryd.ntmps21
        go_wp2_with fail
        refine (below_any g a L cap s 8 _ HC.out HL.out hlen).mono ?_
        rintro e w1 ⟨rfl, hc1, hg1⟩
        have HC1 : Hid (CurAt w1 g a L.length cap (belowN L s 8)) := hc1
        have HL1 : Hid (CodeAt w1 g a L) := CodeAt.kept HL.out hg1
        clear hc1
        go_wp2_with fail
        refine (below_any g a L cap _ 100000 _ HC1.out HL1.out hlen).mono ?_
        rintro e w2 ⟨rfl, hc2, hg2⟩
        have HC2 : Hid (CurAt w2 g a L.length cap (belowN L (belowN L s 8) 100000)) := hc2
        clear hc2
        go_wp2
        go_ret
        exact ⟨rfl, HC2.out, grown_trans hg1 hg2⟩
      · have hv : numV L s = belowV L (belowN L s 8) 70000 := by unfold numV; rw [if_neg h0, if_neg h1, if_neg h2]
        have hn : numN L s = belowN L (belowN L s 8) 70000 := by unfold numN; rw [if_neg h0, if_neg h1, if_neg h2]
        rw [hv, hn]
        have hq0 : (belowV L s 8 == 0) = false := by simpa using h0
        have hq1 : (belowV L s 8 == 1) = false := by simpa using h1
        have hq2 : (belowV L s 8 == 2) = false := by simpa using h2
        clear hv hn h0 h1 h2
        go_enter Tryd.func21, Tryd.ntmps21
        go_wp2_with fail
        refine (below_any g a L cap s 8 _ HC.out HL.out hlen).mono ?_
        rintro e w1 ⟨rfl, hc1, hg1⟩
        have HC1 : Hid (CurAt w1 g a L.length cap (belowN L s 8)) := hc1
        have HL1 : Hid (CodeAt w1 g a L) := CodeAt.kept HL.out hg1
        clear hc1
        go_wp2_with fail
        refine (below_any g a L cap _ 70000 _ HC1.out HL1.out hlen).mono ?_
        rintro e w2 ⟨rfl, hc2, hg2⟩
        have HC2 : Hid (CurAt w2 g a L.length cap (belowN L (belowN L s 8) 70000)) := hc2
        clear hc2
        go_wp2
        go_ret
        exact ⟨rfl, HC2.out, grown_trans hg1 hg2⟩
theorem nums_bound : ∀ k : Nat, -9223372036854775808 ≤ nums.getD k 0 ∧ nums.getD k 0 ≤ 9223372036854775807 := by
  intro k
  by_cases h : k < 17
  · have : ∀ j : Fin 17, -9223372036854775808 ≤ nums.getD j.val 0 ∧ nums.getD j.val 0 ≤ 9223372036854775807 := by decide
    exact this ⟨k, h⟩
  · have : nums.getD k 0 = 0 := by
      rw [List.getD_eq_getElem?_getD, List.getElem?_eq_none (by show 17 ≤ k; omega)]; rfl
    rw [this]; omega
theorem numV_bound (L : List UInt8) (s : St) : -9223372036854775808 ≤ numV L s ∧ numV L s ≤ 9223372036854775807 := by
  unfold numV
  split
  · exact nums_bound _
  · split
    · have h1 := belowV_bound L (belowN L s 8) 1000000000 (by omega)
      have h2 := belowV_bound L (belowN L (belowN L s 8) 1000000000) 1000000000 (by omega)
      have h3 := Int.mul_nonneg h1.1 h2.1
      have h4 := Int.mul_le_mul (show belowV L (belowN L s 8) 1000000000 ≤ 1000000000 by omega) (show belowV L (belowN L (belowN L s 8) 1000000000) 1000000000 ≤ 1000000000 by omega) h2.1 (by omega)
      omega
    · split
      · have h1 := belowV_bound L (belowN L s 8) 100000 (by omega)
        omega
      · have h1 := belowV_bound L (belowN L s 8) 70000 (by omega)
        omega
end Go.Proofs.YtglngepjphgpoaaDoor
