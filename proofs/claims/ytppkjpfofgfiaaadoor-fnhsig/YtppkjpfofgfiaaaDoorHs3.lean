/- What spec.l5Digits answers: the eleven digits, in a row that the call owns; old memory stays. Conditions: texts of at most 2 to the 40 bytes. -/
import Derived.Test.YtppkjpfofgfiaaaDoorHs2
import Derived.Test.YtppkjpfofgfiaaaDoorMk4
namespace Go.Proofs.YtppkjpfofgfiaaaDoor
open Go.RowKit
open Num
set_option linter.unusedVariables false
theorem pairOf_at (m : ByteArray) (i : Nat) (x : UInt8) (h : (shal m.data.toList).getD (i / 4) 0 = x) : pairOf m i = x.toNat / 2 ^ (6 - 2 * (i % 4)) % 4 := by
  unfold pairOf; rw [h]
theorem one_int (W : World) (x : Int) : ∀ j u, ([Value.int .i64 x])[j]? = some u → (W.alloc (.cells #[.int .i64 x] 3)).cell? ((⟨W.heap.size, 0, none⟩ : Addr).add j) = some u := by
  intro j u hj
  rw [add_at, cell_of_row _ _ j _ 3 (0, 0) (by rw [heap_alloc_new])]
  simpa using hj
theorem three_int (W : World) (x y z : Int) : ∀ j u, ([Value.int .i64 x, .int .i64 y, .int .i64 z])[j]? = some u → (W.alloc (.cells #[.int .i64 x, .int .i64 y, .int .i64 z] 3)).cell? ((⟨W.heap.size, 0, none⟩ : Addr).add j) = some u := by
  intro j u hj
  rw [add_at, cell_of_row _ _ j _ 3 (0, 0) (by rw [heap_alloc_new])]
  simpa using hj
theorem one_one (x : Int) : ∀ u ∈ [Value.int .i64 x], u.oneCell' = true := by
  intro u hu
  rw [List.mem_singleton.1 hu]; rfl
theorem three_one (x y z : Int) : ∀ u ∈ [Value.int .i64 x, .int .i64 y, .int .i64 z], u.oneCell' = true := by
  intro u hu
  simp only [List.mem_cons, List.not_mem_nil, or_false] at hu
  rcases hu with rfl | rfl | rfl <;> rfl
theorem wrap_byte (c : UInt8) : wrap64 (c.toNat : Int) = (c.toNat : Int) := by
  have := c.toNat_lt
  unfold wrap64; omega
theorem dig_bits (m : ByteArray) (i : Nat) (c : UInt8) (h : (shal m.data.toList).getD (i / 4) 0 = c) : bits .and .i64 ((c.toNat : Int) / ((2 ^ (6 - 2 * (i % 4)) : Nat) : Int)) 3 = (pairOf m i : Nat) := by
  have hc := c.toNat_lt
  have hle : c.toNat / 2 ^ (6 - 2 * (i % 4)) ≤ c.toNat := Nat.div_le_self _ _
  rw [pairOf_at m i c h, ← Int.natCast_ediv]
  rw [show (3 : Int) = ((3 : Nat) : Int) from rfl, i64_and _ _ (by omega) (by omega), Nat.and_two_pow_sub_one_eq_mod _ 2]
/-- The first k digits. -/
def dfirst (m : ByteArray) (k : Nat) : List Nat := (List.range k).map (pairOf m)
theorem dfirst_succ (m : ByteArray) (k : Nat) : dfirst m (k + 1) = dfirst m k ++ [pairOf m k] := by
  unfold dfirst; rw [List.range_succ, List.map_append]; rfl
theorem own_dig {w : World} {B n k : Nat} {v : Value} {m : ByteArray} {x : Int} (h : w.ownsRow B 3 1 v n ((dfirst m k).map iv ++ [Value.int .i64 x])) (hx : x = (pairOf m k : Nat)) : w.ownsRow B 3 1 v n ((dfirst m (k + 1)).map iv) := by
  rw [dfirst_succ, List.map_append]; subst hx; exact h
theorem own_last {w : World} {B n : Nat} {v : Value} {m : ByteArray} {x y z : Int} (h : w.ownsRow B 3 1 v n ((dfirst m 8).map iv ++ [Value.int .i64 x, .int .i64 y, .int .i64 z])) (hx : x = (leftB m 8 / 16 : Nat)) (hy : y = (leftB m 8 / 4 % 4 : Nat)) (hz : z = (leftB m 8 % 4 : Nat)) : w.ownsRow B 3 1 v n ((digs m).map iv) := by
  unfold digs; rw [List.map_append]; subst hx hy hz; exact h
set_option maxHeartbeats 1600000 in
set_option maxRecDepth 100000 in
theorem spec_digits (m : ByteArray) (w : World) (hm : m.size ≤ 1099511627776) :
    Calls Tryd.prog 36 #[.string m] w fun e w' => ∃ g c, e = .returned (.slice (some ⟨g, 0, none⟩) 11 c) ∧ w'.ownsRow w.heap.size 3 1 (.slice (some ⟨g, 0, none⟩) 11 c) 11 ((digs m).map iv) ∧ Below w.heap.size w w' := by
  obtain ⟨i0, hi, hz0, hz1, hz2⟩ := info3f
  obtain ⟨S, hS⟩ : ∃ S : ByteArray, S = ⟨(shal m.data.toList).toArray⟩ := ⟨_, rfl⟩
  have h32 : S.size = 32 := by rw [hS]; show (shal m.data.toList).toArray.size = 32; rw [List.size_toArray, length_shal]
  have hS0 : 0 < S.size := by omega
  have hS1 : 1 < S.size := by omega
  have HB0 : Hid ((shal m.data.toList).getD 0 0 = S[0]) := by show _ = _; subst hS; simp [ByteArray.getElem_eq_getElem_data, length_shal]
  have HB1 : Hid ((shal m.data.toList).getD 1 0 = S[1]) := by show _ = _; subst hS; simp [ByteArray.getElem_eq_getElem_data, length_shal]
  have HS : Hid (S = ⟨(shal m.data.toList).toArray⟩) := hS
  have hS0' : (0 : Int) < (S.size : Int) := by omega
  have hS1' : (1 : Int) < (S.size : Int) := by omega
  clear hS
  go_enter Tryd.func36, Tryd.ntmps36
  go_wp2_with fail
  refine (spec_sha m w hm).mono ?_
  rintro e w1 ⟨rfl, hb1⟩
  rw [← HS.out]
  have hsz1 := hb1.size
  have HE : Hid ((w1.alloc (.cells #[] 3)).ownsRow w.heap.size 3 1 (.slice (some ⟨w1.heap.size, 0, none⟩) 0 0) 0 ((dfirst m 0).map iv)) := World.ownsRow_made w1 #[] 0 hsz1 (by decide) rfl
  go_wp2
  go_loopw [4, 5, 6] (fun ov sv kv wr => ∃ (k : Nat) (left : Int), k ≤ 8 ∧ kv = .int .i64 k ∧ sv = .int .i64 left ∧ 0 ≤ left ∧ left ≤ 24 ∧ Hid (left = (leftB m k : Nat)) ∧ wr.ownsRow w.heap.size 3 1 ov k ((dfirst m k).map iv) ∧ Below w.heap.size w wr) (fun _ _ kv _ => 8 - (intOf kv).toNat)
  case atStart => exact ⟨0, 24, by omega, rfl, rfl, by omega, by omega, rfl, HE.out, hb1.alloc hsz1 _⟩
  case round =>
    clear HE
    obtain ⟨k, left, hk, rfl, rfl, hl0, hl1, HL, hown, hb⟩ := hrel
    have hsz := hb.size
    by_cases hlt : k < 8
    · obtain ⟨x, hx⟩ : ∃ x : Int, x = (pairOf m k : Nat) := ⟨_, rfl⟩
      have HX : Hid (x = (pairOf m k : Nat)) := hx
      have hx0 : 0 ≤ x := by omega
      have hx3 : x ≤ 3 := by have := pairOf_le m k; omega
      clear hx
      have hx' : ∀ (c : UInt8) (n : Nat), (shal m.data.toList).getD (k / 4) 0 = c → 2 ^ (6 - 2 * (k % 4)) = n → bits .and .i64 ((c.toNat : Int) / (n : Int)) 3 = x := fun c n h1 h2 => by
        rw [HX.out, ← h2, dig_bits m k c h1]
      have h8 : k = 0 ∨ k = 1 ∨ k = 2 ∨ k = 3 ∨ k = 4 ∨ k = 5 ∨ k = 6 ∨ k = 7 := by omega
      have HO : Hid (wr.ownsRow w.heap.size 3 1 u4 k ((dfirst m k).map iv)) := hown
      have hlt9 := hown.lt
      obtain ⟨y, hy⟩ : ∃ y : Int, y = left - x := ⟨_, rfl⟩
      have hy' : left - x = y := hy.symm
      have HY : Hid (y = (leftB m (k + 1) : Nat)) := by
        show _ = _
        have h1 := HL.out
        have h2 := HX.out
        have h3 := leftB_ge m k (by omega)
        have h4 := pairOf_le m k
        show y = ((leftB m k - pairOf m k : Nat) : Int)
        omega
      have hy0 : 0 ≤ y := by have := HY.out; omega
      have hy1 : y ≤ 24 := by omega
      clear hown hy
      have hw0 : wrap64 (S[0].toNat : Int) = (S[0].toNat : Int) := wrap_byte _
      have hw1 : wrap64 (S[1].toNat : Int) = (S[1].toNat : Int) := wrap_byte _
      rcases h8 with rfl | rfl | rfl | rfl | rfl | rfl | rfl | rfl
      · have hv : bits .and .i64 ((S[0].toNat : Int) / 64) 3 = x := hx' S[0] 64 HB0.out rfl
        clear hx'
        go_wp2_with (at_builtin; refine wpList_append_own _ rfl _ _ 49 rfl w.heap.size 3 i0 (.int .i64 0) 1 8 Tryd.underlying49 hi hz0 hz1 hz2 rfl (by decide) _ _ _ rfl (HO.out.alloc _) ⟨wr.heap.size, 0, none⟩ 1 1 [Value.int .i64 x] rfl rfl (one_int wr x) (one_one x) (by unfold maxLen; omega) (by omega) (by simp; omega) ?_)
        intro v' w4 hown' hgrow hnn
        have HO4 : Hid (w4.ownsRow w.heap.size 3 1 v' 1 ((dfirst m 1).map iv)) := own_dig (k := 0) hown' HX.out
        have hb4 : Below w.heap.size w w4 := (hb.alloc hsz _).grown hgrow (by simp; omega) (fun j hj => (hlt9 j hj).1)
        clear hgrow hown' hnn hb hlt9
        go_wp2
        go_roundw
        case rel =>
          have R : ∃ (k : Nat) (left : Int), k ≤ 8 ∧ Value.int .i64 1 = .int .i64 k ∧ Value.int .i64 y = .int .i64 left ∧ 0 ≤ left ∧ left ≤ 24 ∧ Hid (left = (leftB m k : Nat)) ∧ w4.ownsRow w.heap.size 3 1 v' k ((dfirst m k).map iv) ∧ Below w.heap.size w w4 :=
            ⟨1, y, by omega, rfl, rfl, hy0, hy1, HY, HO4.out, hb4⟩
          first | exact R | ((repeat apply Exists.intro); exact ⟨R, rfl⟩)
        case measure => simp [intOf]
      · have hv : bits .and .i64 ((S[0].toNat : Int) / 16) 3 = x := hx' S[0] 16 HB0.out rfl
        clear hx'
        go_wp2_with (at_builtin; refine wpList_append_own _ rfl _ _ 49 rfl w.heap.size 3 i0 (.int .i64 0) 1 8 Tryd.underlying49 hi hz0 hz1 hz2 rfl (by decide) _ _ _ rfl (HO.out.alloc _) ⟨wr.heap.size, 0, none⟩ 1 1 [Value.int .i64 x] rfl rfl (one_int wr x) (one_one x) (by unfold maxLen; omega) (by omega) (by simp; omega) ?_)
        intro v' w4 hown' hgrow hnn
        have HO4 : Hid (w4.ownsRow w.heap.size 3 1 v' 2 ((dfirst m 2).map iv)) := own_dig (k := 1) hown' HX.out
        have hb4 : Below w.heap.size w w4 := (hb.alloc hsz _).grown hgrow (by simp; omega) (fun j hj => (hlt9 j hj).1)
        clear hgrow hown' hnn hb hlt9
        go_wp2
        go_roundw
        case rel =>
          have R : ∃ (k : Nat) (left : Int), k ≤ 8 ∧ Value.int .i64 2 = .int .i64 k ∧ Value.int .i64 y = .int .i64 left ∧ 0 ≤ left ∧ left ≤ 24 ∧ Hid (left = (leftB m k : Nat)) ∧ w4.ownsRow w.heap.size 3 1 v' k ((dfirst m k).map iv) ∧ Below w.heap.size w w4 :=
            ⟨2, y, by omega, rfl, rfl, hy0, hy1, HY, HO4.out, hb4⟩
          first | exact R | ((repeat apply Exists.intro); exact ⟨R, rfl⟩)
        case measure => simp [intOf]
      · have hv : bits .and .i64 ((S[0].toNat : Int) / 4) 3 = x := hx' S[0] 4 HB0.out rfl
        clear hx'
        go_wp2_with (at_builtin; refine wpList_append_own _ rfl _ _ 49 rfl w.heap.size 3 i0 (.int .i64 0) 1 8 Tryd.underlying49 hi hz0 hz1 hz2 rfl (by decide) _ _ _ rfl (HO.out.alloc _) ⟨wr.heap.size, 0, none⟩ 1 1 [Value.int .i64 x] rfl rfl (one_int wr x) (one_one x) (by unfold maxLen; omega) (by omega) (by simp; omega) ?_)
        intro v' w4 hown' hgrow hnn
        have HO4 : Hid (w4.ownsRow w.heap.size 3 1 v' 3 ((dfirst m 3).map iv)) := own_dig (k := 2) hown' HX.out
        have hb4 : Below w.heap.size w w4 := (hb.alloc hsz _).grown hgrow (by simp; omega) (fun j hj => (hlt9 j hj).1)
        clear hgrow hown' hnn hb hlt9
        go_wp2
        go_roundw
        case rel =>
          have R : ∃ (k : Nat) (left : Int), k ≤ 8 ∧ Value.int .i64 3 = .int .i64 k ∧ Value.int .i64 y = .int .i64 left ∧ 0 ≤ left ∧ left ≤ 24 ∧ Hid (left = (leftB m k : Nat)) ∧ w4.ownsRow w.heap.size 3 1 v' k ((dfirst m k).map iv) ∧ Below w.heap.size w w4 :=
            ⟨3, y, by omega, rfl, rfl, hy0, hy1, HY, HO4.out, hb4⟩
          first | exact R | ((repeat apply Exists.intro); exact ⟨R, rfl⟩)
        case measure => simp [intOf]
      · have hv : bits .and .i64 (S[0].toNat : Int) 3 = x := by have := hx' S[0] 1 HB0.out rfl; simpa using this
        clear hx'
        go_wp2_with (at_builtin; refine wpList_append_own _ rfl _ _ 49 rfl w.heap.size 3 i0 (.int .i64 0) 1 8 Tryd.underlying49 hi hz0 hz1 hz2 rfl (by decide) _ _ _ rfl (HO.out.alloc _) ⟨wr.heap.size, 0, none⟩ 1 1 [Value.int .i64 x] rfl rfl (one_int wr x) (one_one x) (by unfold maxLen; omega) (by omega) (by simp; omega) ?_)
        intro v' w4 hown' hgrow hnn
        have HO4 : Hid (w4.ownsRow w.heap.size 3 1 v' 4 ((dfirst m 4).map iv)) := own_dig (k := 3) hown' HX.out
        have hb4 : Below w.heap.size w w4 := (hb.alloc hsz _).grown hgrow (by simp; omega) (fun j hj => (hlt9 j hj).1)
        clear hgrow hown' hnn hb hlt9
        go_wp2
        go_roundw
        case rel =>
          have R : ∃ (k : Nat) (left : Int), k ≤ 8 ∧ Value.int .i64 4 = .int .i64 k ∧ Value.int .i64 y = .int .i64 left ∧ 0 ≤ left ∧ left ≤ 24 ∧ Hid (left = (leftB m k : Nat)) ∧ w4.ownsRow w.heap.size 3 1 v' k ((dfirst m k).map iv) ∧ Below w.heap.size w w4 :=
            ⟨4, y, by omega, rfl, rfl, hy0, hy1, HY, HO4.out, hb4⟩
          first | exact R | ((repeat apply Exists.intro); exact ⟨R, rfl⟩)
        case measure => simp [intOf]
      · have hv : bits .and .i64 ((S[1].toNat : Int) / 64) 3 = x := hx' S[1] 64 HB1.out rfl
        clear hx'
        go_wp2_with (at_builtin; refine wpList_append_own _ rfl _ _ 49 rfl w.heap.size 3 i0 (.int .i64 0) 1 8 Tryd.underlying49 hi hz0 hz1 hz2 rfl (by decide) _ _ _ rfl (HO.out.alloc _) ⟨wr.heap.size, 0, none⟩ 1 1 [Value.int .i64 x] rfl rfl (one_int wr x) (one_one x) (by unfold maxLen; omega) (by omega) (by simp; omega) ?_)
        intro v' w4 hown' hgrow hnn
        have HO4 : Hid (w4.ownsRow w.heap.size 3 1 v' 5 ((dfirst m 5).map iv)) := own_dig (k := 4) hown' HX.out
        have hb4 : Below w.heap.size w w4 := (hb.alloc hsz _).grown hgrow (by simp; omega) (fun j hj => (hlt9 j hj).1)
        clear hgrow hown' hnn hb hlt9
        go_wp2
        go_roundw
        case rel =>
          have R : ∃ (k : Nat) (left : Int), k ≤ 8 ∧ Value.int .i64 5 = .int .i64 k ∧ Value.int .i64 y = .int .i64 left ∧ 0 ≤ left ∧ left ≤ 24 ∧ Hid (left = (leftB m k : Nat)) ∧ w4.ownsRow w.heap.size 3 1 v' k ((dfirst m k).map iv) ∧ Below w.heap.size w w4 :=
            ⟨5, y, by omega, rfl, rfl, hy0, hy1, HY, HO4.out, hb4⟩
          first | exact R | ((repeat apply Exists.intro); exact ⟨R, rfl⟩)
        case measure => simp [intOf]
      · have hv : bits .and .i64 ((S[1].toNat : Int) / 16) 3 = x := hx' S[1] 16 HB1.out rfl
        clear hx'
        go_wp2_with (at_builtin; refine wpList_append_own _ rfl _ _ 49 rfl w.heap.size 3 i0 (.int .i64 0) 1 8 Tryd.underlying49 hi hz0 hz1 hz2 rfl (by decide) _ _ _ rfl (HO.out.alloc _) ⟨wr.heap.size, 0, none⟩ 1 1 [Value.int .i64 x] rfl rfl (one_int wr x) (one_one x) (by unfold maxLen; omega) (by omega) (by simp; omega) ?_)
        intro v' w4 hown' hgrow hnn
        have HO4 : Hid (w4.ownsRow w.heap.size 3 1 v' 6 ((dfirst m 6).map iv)) := own_dig (k := 5) hown' HX.out
        have hb4 : Below w.heap.size w w4 := (hb.alloc hsz _).grown hgrow (by simp; omega) (fun j hj => (hlt9 j hj).1)
        clear hgrow hown' hnn hb hlt9
        go_wp2
        go_roundw
        case rel =>
          have R : ∃ (k : Nat) (left : Int), k ≤ 8 ∧ Value.int .i64 6 = .int .i64 k ∧ Value.int .i64 y = .int .i64 left ∧ 0 ≤ left ∧ left ≤ 24 ∧ Hid (left = (leftB m k : Nat)) ∧ w4.ownsRow w.heap.size 3 1 v' k ((dfirst m k).map iv) ∧ Below w.heap.size w w4 :=
            ⟨6, y, by omega, rfl, rfl, hy0, hy1, HY, HO4.out, hb4⟩
          first | exact R | ((repeat apply Exists.intro); exact ⟨R, rfl⟩)
        case measure => simp [intOf]
      · have hv : bits .and .i64 ((S[1].toNat : Int) / 4) 3 = x := hx' S[1] 4 HB1.out rfl
        clear hx'
        go_wp2_with (at_builtin; refine wpList_append_own _ rfl _ _ 49 rfl w.heap.size 3 i0 (.int .i64 0) 1 8 Tryd.underlying49 hi hz0 hz1 hz2 rfl (by decide) _ _ _ rfl (HO.out.alloc _) ⟨wr.heap.size, 0, none⟩ 1 1 [Value.int .i64 x] rfl rfl (one_int wr x) (one_one x) (by unfold maxLen; omega) (by omega) (by simp; omega) ?_)
        intro v' w4 hown' hgrow hnn
        have HO4 : Hid (w4.ownsRow w.heap.size 3 1 v' 7 ((dfirst m 7).map iv)) := own_dig (k := 6) hown' HX.out
        have hb4 : Below w.heap.size w w4 := (hb.alloc hsz _).grown hgrow (by simp; omega) (fun j hj => (hlt9 j hj).1)
        clear hgrow hown' hnn hb hlt9
        go_wp2
        go_roundw
        case rel =>
          have R : ∃ (k : Nat) (left : Int), k ≤ 8 ∧ Value.int .i64 7 = .int .i64 k ∧ Value.int .i64 y = .int .i64 left ∧ 0 ≤ left ∧ left ≤ 24 ∧ Hid (left = (leftB m k : Nat)) ∧ w4.ownsRow w.heap.size 3 1 v' k ((dfirst m k).map iv) ∧ Below w.heap.size w w4 :=
            ⟨7, y, by omega, rfl, rfl, hy0, hy1, HY, HO4.out, hb4⟩
          first | exact R | ((repeat apply Exists.intro); exact ⟨R, rfl⟩)
        case measure => simp [intOf]
      · have hv : bits .and .i64 (S[1].toNat : Int) 3 = x := by have := hx' S[1] 1 HB1.out rfl; simpa using this
        clear hx'
        go_wp2_with (at_builtin; refine wpList_append_own _ rfl _ _ 49 rfl w.heap.size 3 i0 (.int .i64 0) 1 8 Tryd.underlying49 hi hz0 hz1 hz2 rfl (by decide) _ _ _ rfl (HO.out.alloc _) ⟨wr.heap.size, 0, none⟩ 1 1 [Value.int .i64 x] rfl rfl (one_int wr x) (one_one x) (by unfold maxLen; omega) (by omega) (by simp; omega) ?_)
        intro v' w4 hown' hgrow hnn
        have HO4 : Hid (w4.ownsRow w.heap.size 3 1 v' 8 ((dfirst m 8).map iv)) := own_dig (k := 7) hown' HX.out
        have hb4 : Below w.heap.size w w4 := (hb.alloc hsz _).grown hgrow (by simp; omega) (fun j hj => (hlt9 j hj).1)
        clear hgrow hown' hnn hb hlt9
        go_wp2
        go_roundw
        case rel =>
          have R : ∃ (k : Nat) (left : Int), k ≤ 8 ∧ Value.int .i64 8 = .int .i64 k ∧ Value.int .i64 y = .int .i64 left ∧ 0 ≤ left ∧ left ≤ 24 ∧ Hid (left = (leftB m k : Nat)) ∧ w4.ownsRow w.heap.size 3 1 v' k ((dfirst m k).map iv) ∧ Below w.heap.size w w4 :=
            ⟨8, y, by omega, rfl, rfl, hy0, hy1, HY, HO4.out, hb4⟩
          first | exact R | ((repeat apply Exists.intro); exact ⟨R, rfl⟩)
        case measure => simp [intOf]
    · obtain rfl : k = 8 := by omega
      obtain ⟨a, ha⟩ : ∃ a : Int, a = left / 16 := ⟨_, rfl⟩
      obtain ⟨b, hb0⟩ : ∃ b : Int, b = left / 4 % 4 := ⟨_, rfl⟩
      obtain ⟨c, hc⟩ : ∃ c : Int, c = left % 4 := ⟨_, rfl⟩
      have HA : Hid (a = (leftB m 8 / 16 : Nat)) := by show _ = _; have := HL.out; omega
      have HB : Hid (b = (leftB m 8 / 4 % 4 : Nat)) := by show _ = _; have := HL.out; omega
      have HC : Hid (c = (leftB m 8 % 4 : Nat)) := by show _ = _; have := HL.out; omega
      have ha' := ha.symm
      have hb0' := hb0.symm
      have hc' := hc.symm
      have HO : Hid (wr.ownsRow w.heap.size 3 1 u4 8 ((dfirst m 8).map iv)) := hown
      have hlt9 := hown.lt
      clear hown ha hb0 hc
      go_wp2_with (at_builtin; refine wpList_append_own _ rfl _ _ 49 rfl w.heap.size 3 i0 (.int .i64 0) 1 8 Tryd.underlying49 hi hz0 hz1 hz2 rfl (by decide) _ _ _ rfl (HO.out.alloc _) ⟨wr.heap.size, 0, none⟩ 3 3 [Value.int .i64 a, Value.int .i64 b, Value.int .i64 c] rfl rfl (three_int wr a b c) (three_one a b c) (by unfold maxLen; omega) (by omega) (by simp; omega) ?_)
      intro v' w4 hown' hgrow hnn
      have hb4 : Below w.heap.size w w4 := (hb.alloc hsz _).grown hgrow (by simp; omega) (fun j hj => (hlt9 j hj).1)
      have HO4 : Hid (w4.ownsRow w.heap.size 3 1 v' 11 ((digs m).map iv)) := own_last hown' HA.out HB.out HC.out
      clear hgrow hown' hnn hb hlt9
      go_wp2
      go_ret
      obtain ⟨g, c, hg⟩ := row_form HO4.out
      subst hg
      exact ⟨g, c, rfl, HO4.out, hb4⟩
end Go.Proofs.YtppkjpfofgfiaaaDoor
